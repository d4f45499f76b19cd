/- A buffer of bytes that a conversion of a string began (its block is marked behind its cells): append of one byte; the text with what stands behind it, by a contract. -/
import Derived.Test.YtkkcakblphebjaaDoorShaG
import Derived.Lib.SlicesS
import Derived.Deep.CutBlock
import Derived.StillTailTactics
import Derived.Deep.AppendSrc
namespace Go.Proofs.YtkkcakblphebjaaDoor
set_option linter.unusedVariables false
set_option linter.unusedSimpArgs false
open Go.RowKit Go.Lib

def lenV : Value → Nat
  | .slice _ n _ => n
  | _ => 0
theorem pad_count (n : Nat) : (n + 1 + (119 - n % 64) % 64) % 64 = 56 := by omega
theorem pad_not (n k : Nat) (h : k < (119 - n % 64) % 64) : (n + 1 + k) % 64 ≠ 56 := by omega
theorem sPad_split (n : Nat) : sPad n = [128] ++ List.replicate ((119 - n % 64) % 64) 0 ++ be8 (8 * (n : Int)) := rfl
theorem be8_next (n : Int) (i : Nat) (h : i < 8) : (be8 n).take (i + 1) = (be8 n).take i ++ [byt (n / 2 ^ (8 * (7 - i)))] := by
  match i, h with
  | 0, _ => rfl
  | 1, _ => rfl
  | 2, _ => rfl
  | 3, _ => rfl
  | 4, _ => rfl
  | 5, _ => rfl
  | 6, _ => rfl
  | 7, _ => simp [be8]
attribute [local irreducible] str

set_option maxRecDepth 100000 in
set_option maxHeartbeats 2000000 in
theorem refPadded_any (l : List UInt8) (w : World) (hl : l.length ≤ 900000000) :
    Calls Tryd.prog 84 #[.string (str l)] w fun e w' => ∃ g cap, e = .returned (.slice (some ⟨g, 0, none⟩) (l ++ sPad l.length).length cap) ∧ (l ++ sPad l.length).length ≤ cap ∧ RowAt w' (some ⟨g, 0, none⟩) (Lib.byteCells (l ++ sPad l.length)) ∧ Below w.heap.size w w' := by
  have hs := str_size l
  have hcv := Go.Lib.run_convert_string_bytes (P := Tryd.prog) w 9 107 5 (str l) Tryd.underlying9 Tryd.underlying107 Tryd.underlying5
  rw [hs] at hcv
  have hb0 := bg_start w l
  have HB := Kept.mk hb0; clear hb0
  generalize bytesWorld w 5 (str l) = W0 at *
  generalize grownCap w l.length 0 5 = cap0 at *
  have HCV := Kept.mk hcv; clear hcv
  go_enter Tryd.func84, Tryd.ntmps84
  go_wp2_with fail
  rw [HCV.out]
  clear HCV
  go_wp2_with (at_builtin; refine bg_append rfl (.tmp 8) (.tmp 9) rfl (w := w) rfl HB.out (d := 128) rfl rfl ?_ ?_; omega; intro v' w' ho)
  clear HB
  obtain ⟨z, hz⟩ : ∃ z, (119 - l.length % 64) % 64 = z := ⟨_, rfl⟩
  have hpc := pad_count l.length
  have hpn := pad_not l.length
  rw [hz] at hpc hpn
  have hsp := sPad_split l.length
  rw [hz] at hsp
  have hz64 : z < 64 := by omega
  have HO := Kept.mk ho
  have HN := Kept.mk hpn
  have HC := Kept.mk hpc
  have HS := Kept.mk hsp
  clear ho hpn hpc hsp hz
  go_loopw [3] (fun s3 wr => ∃ k : Nat, k ≤ z ∧ BG w wr s3 (l ++ [128] ++ List.replicate k 0)) (fun s3 _ => l.length + 1 + z - lenV s3)
  case atStart => exact ⟨0, by omega, HO.out.is (by simp)⟩
  case round =>
    clear HO
    obtain ⟨k, hk, hb⟩ := hrel
    by_cases hlt : k < z
    · have hL : (l ++ [128] ++ List.replicate k 0).length = l.length + 1 + k := by simp; omega
      have HR := Kept.mk (show l ++ [128] ++ List.replicate k 0 ++ [0] = l ++ [128] ++ List.replicate (k + 1) 0 by rw [List.append_assoc, ← List.replicate_succ'])
      generalize l ++ [128] ++ List.replicate k 0 = L at *
      have hne := HN.out k hlt
      have hne2 : ¬ ((L.length : Int) % 64 = 56) := by omega
      obtain ⟨g, cap, rfl, hg, hc, hrow⟩ := hb.row
      have HBG := Kept.mk hb
      clear hb hrow hne
      go_wp2_with (at_builtin; refine bg_append rfl (.tmp 15) (.tmp 16) rfl (w := w) rfl HBG.out (d := 0) rfl rfl ?_ ?_; omega; intro v' w' ho)
      obtain ⟨g2, cap2, rfl, hg2, hc2, hrow2⟩ := ho.row
      refine ⟨⟨k + 1, by omega, ho.is HR.out⟩, ?_⟩
      simp only [lenV, List.length_append, List.length_singleton]
      omega
    · have hkz : k = z := by omega
      subst hkz
      have hL : (l ++ [128] ++ List.replicate k 0).length = l.length + 1 + k := by simp; omega
      have HR := Kept.mk (show l ++ sPad l.length = l ++ [128] ++ List.replicate k 0 ++ be8 (8 * (l.length : Int)) by rw [HS.out]; simp only [List.append_assoc])
      generalize l ++ [128] ++ List.replicate k 0 = L at *
      have hne := HC.out
      have hne2 : (L.length : Int) % 64 = 56 := by omega
      obtain ⟨g, cap, rfl, hg, hc, hrow⟩ := hb.row
      have HBG := Kept.mk hb
      have HNE := Kept.mk hne2
      have hLL : L.length ≤ 900000100 := by omega
      clear hb hrow hne HN HC HS hlt
      go_wp2_with fail
      rw [show (((l.length : Int) + 1 + (k : Int)) % 64 != 56) = false by simp; omega]
      clear hne2 hL
      go_loopw [3, 5] (fun s3 s5 wr => ∃ j : Nat, j ≤ 8 ∧ s5 = .int .i64 (7 - (j : Int)) ∧ BG w wr s3 (L ++ (be8 (8 * (l.length : Int))).take j)) (fun _ s5 _ => (RowKit.intOf s5 + 1).toNat)
      case atStart => exact ⟨0, by omega, rfl, HBG.out.is (by simp)⟩
      case round =>
        clear HBG
        obtain ⟨j, hj, rfl, hb⟩ := hrel
        have hcs : j = 0 ∨ j = 1 ∨ j = 2 ∨ j = 3 ∨ j = 4 ∨ j = 5 ∨ j = 6 ∨ j = 7 ∨ j = 8 := by omega
        have hlen : (L ++ (be8 (8 * (l.length : Int))).take j).length ≤ 900000200 := by
          rw [List.length_append, List.length_take]; omega
        rcases hcs with rfl | rfl | rfl | rfl | rfl | rfl | rfl | rfl | rfl
        · have HR2 := Kept.mk (show L ++ (be8 (8 * (l.length : Int))).take 0 ++ [byt (8 * (l.length : Int) / 72057594037927936)] = L ++ (be8 (8 * (l.length : Int))).take (0 + 1) by rw [List.append_assoc]; rfl)
          have h255 := and_255 (8 * (l.length : Int) / 72057594037927936)
          have hby := byt_toNat (8 * (l.length : Int) / 72057594037927936)
          have HY := Kept.mk hby; clear hby
          generalize L ++ (be8 (8 * (l.length : Int))).take 0 = M at *
          obtain ⟨g, cap, rfl, hg, hc, hrow⟩ := hb.row
          have HBG := Kept.mk hb
          clear hb hrow
          go_wp2_with (at_builtin; refine bg_append rfl (.tmp 25) (.tmp 32) rfl (w := w) rfl HBG.out (d := byt (8 * (l.length : Int) / 72057594037927936)) rfl HY.out.symm ?_ ?_; omega; intro v' w' ho)
          exact ⟨⟨0 + 1, by omega, rfl, ho.is HR2.out⟩, by decide⟩
        · have HR2 := Kept.mk (show L ++ (be8 (8 * (l.length : Int))).take 1 ++ [byt (8 * (l.length : Int) / 281474976710656)] = L ++ (be8 (8 * (l.length : Int))).take (1 + 1) by rw [List.append_assoc]; rfl)
          have h255 := and_255 (8 * (l.length : Int) / 281474976710656)
          have hby := byt_toNat (8 * (l.length : Int) / 281474976710656)
          have HY := Kept.mk hby; clear hby
          generalize L ++ (be8 (8 * (l.length : Int))).take 1 = M at *
          obtain ⟨g, cap, rfl, hg, hc, hrow⟩ := hb.row
          have HBG := Kept.mk hb
          clear hb hrow
          go_wp2_with (at_builtin; refine bg_append rfl (.tmp 25) (.tmp 32) rfl (w := w) rfl HBG.out (d := byt (8 * (l.length : Int) / 281474976710656)) rfl HY.out.symm ?_ ?_; omega; intro v' w' ho)
          exact ⟨⟨1 + 1, by omega, rfl, ho.is HR2.out⟩, by decide⟩
        · have HR2 := Kept.mk (show L ++ (be8 (8 * (l.length : Int))).take 2 ++ [byt (8 * (l.length : Int) / 1099511627776)] = L ++ (be8 (8 * (l.length : Int))).take (2 + 1) by rw [List.append_assoc]; rfl)
          have h255 := and_255 (8 * (l.length : Int) / 1099511627776)
          have hby := byt_toNat (8 * (l.length : Int) / 1099511627776)
          have HY := Kept.mk hby; clear hby
          generalize L ++ (be8 (8 * (l.length : Int))).take 2 = M at *
          obtain ⟨g, cap, rfl, hg, hc, hrow⟩ := hb.row
          have HBG := Kept.mk hb
          clear hb hrow
          go_wp2_with (at_builtin; refine bg_append rfl (.tmp 25) (.tmp 32) rfl (w := w) rfl HBG.out (d := byt (8 * (l.length : Int) / 1099511627776)) rfl HY.out.symm ?_ ?_; omega; intro v' w' ho)
          exact ⟨⟨2 + 1, by omega, rfl, ho.is HR2.out⟩, by decide⟩
        · have HR2 := Kept.mk (show L ++ (be8 (8 * (l.length : Int))).take 3 ++ [byt (8 * (l.length : Int) / 4294967296)] = L ++ (be8 (8 * (l.length : Int))).take (3 + 1) by rw [List.append_assoc]; rfl)
          have h255 := and_255 (8 * (l.length : Int) / 4294967296)
          have hby := byt_toNat (8 * (l.length : Int) / 4294967296)
          have HY := Kept.mk hby; clear hby
          generalize L ++ (be8 (8 * (l.length : Int))).take 3 = M at *
          obtain ⟨g, cap, rfl, hg, hc, hrow⟩ := hb.row
          have HBG := Kept.mk hb
          clear hb hrow
          go_wp2_with (at_builtin; refine bg_append rfl (.tmp 25) (.tmp 32) rfl (w := w) rfl HBG.out (d := byt (8 * (l.length : Int) / 4294967296)) rfl HY.out.symm ?_ ?_; omega; intro v' w' ho)
          exact ⟨⟨3 + 1, by omega, rfl, ho.is HR2.out⟩, by decide⟩
        · have HR2 := Kept.mk (show L ++ (be8 (8 * (l.length : Int))).take 4 ++ [byt (8 * (l.length : Int) / 16777216)] = L ++ (be8 (8 * (l.length : Int))).take (4 + 1) by rw [List.append_assoc]; rfl)
          have h255 := and_255 (8 * (l.length : Int) / 16777216)
          have hby := byt_toNat (8 * (l.length : Int) / 16777216)
          have HY := Kept.mk hby; clear hby
          generalize L ++ (be8 (8 * (l.length : Int))).take 4 = M at *
          obtain ⟨g, cap, rfl, hg, hc, hrow⟩ := hb.row
          have HBG := Kept.mk hb
          clear hb hrow
          go_wp2_with (at_builtin; refine bg_append rfl (.tmp 25) (.tmp 32) rfl (w := w) rfl HBG.out (d := byt (8 * (l.length : Int) / 16777216)) rfl HY.out.symm ?_ ?_; omega; intro v' w' ho)
          exact ⟨⟨4 + 1, by omega, rfl, ho.is HR2.out⟩, by decide⟩
        · have HR2 := Kept.mk (show L ++ (be8 (8 * (l.length : Int))).take 5 ++ [byt (8 * (l.length : Int) / 65536)] = L ++ (be8 (8 * (l.length : Int))).take (5 + 1) by rw [List.append_assoc]; rfl)
          have h255 := and_255 (8 * (l.length : Int) / 65536)
          have hby := byt_toNat (8 * (l.length : Int) / 65536)
          have HY := Kept.mk hby; clear hby
          generalize L ++ (be8 (8 * (l.length : Int))).take 5 = M at *
          obtain ⟨g, cap, rfl, hg, hc, hrow⟩ := hb.row
          have HBG := Kept.mk hb
          clear hb hrow
          go_wp2_with (at_builtin; refine bg_append rfl (.tmp 25) (.tmp 32) rfl (w := w) rfl HBG.out (d := byt (8 * (l.length : Int) / 65536)) rfl HY.out.symm ?_ ?_; omega; intro v' w' ho)
          exact ⟨⟨5 + 1, by omega, rfl, ho.is HR2.out⟩, by decide⟩
        · have HR2 := Kept.mk (show L ++ (be8 (8 * (l.length : Int))).take 6 ++ [byt (8 * (l.length : Int) / 256)] = L ++ (be8 (8 * (l.length : Int))).take (6 + 1) by rw [List.append_assoc]; rfl)
          have h255 := and_255 (8 * (l.length : Int) / 256)
          have hby := byt_toNat (8 * (l.length : Int) / 256)
          have HY := Kept.mk hby; clear hby
          generalize L ++ (be8 (8 * (l.length : Int))).take 6 = M at *
          obtain ⟨g, cap, rfl, hg, hc, hrow⟩ := hb.row
          have HBG := Kept.mk hb
          clear hb hrow
          go_wp2_with (at_builtin; refine bg_append rfl (.tmp 25) (.tmp 32) rfl (w := w) rfl HBG.out (d := byt (8 * (l.length : Int) / 256)) rfl HY.out.symm ?_ ?_; omega; intro v' w' ho)
          exact ⟨⟨6 + 1, by omega, rfl, ho.is HR2.out⟩, by decide⟩
        · have HR2 := Kept.mk (show L ++ (be8 (8 * (l.length : Int))).take 7 ++ [byt (8 * (l.length : Int))] = L ++ (be8 (8 * (l.length : Int))).take (7 + 1) by rw [List.append_assoc]; rfl)
          have h255 := and_255 (8 * (l.length : Int))
          have hby := byt_toNat (8 * (l.length : Int))
          have HY := Kept.mk hby; clear hby
          generalize L ++ (be8 (8 * (l.length : Int))).take 7 = M at *
          obtain ⟨g, cap, rfl, hg, hc, hrow⟩ := hb.row
          have HBG := Kept.mk hb
          clear hb hrow
          go_wp2_with (at_builtin; refine bg_append rfl (.tmp 25) (.tmp 32) rfl (w := w) rfl HBG.out (d := byt (8 * (l.length : Int))) rfl HY.out.symm ?_ ?_; omega; intro v' w' ho)
          exact ⟨⟨7 + 1, by omega, rfl, ho.is HR2.out⟩, by decide⟩
        · have HR2 := Kept.mk (show l ++ sPad l.length = L ++ (be8 (8 * (l.length : Int))).take 8 by rw [HR.out]; rfl)
          generalize L ++ (be8 (8 * (l.length : Int))).take 8 = M at *
          have HBL := Kept.mk hb.1
          obtain ⟨g, cap, rfl, hg, hc, hrow⟩ := hb.row
          have HRW := Kept.mk hrow
          clear hb hrow
          go_wp2_with fail
          go_ret
          rw [HR2.out]
          exact ⟨g, cap, rfl, hc, HRW.out, HBL.out⟩
end Go.Proofs.YtkkcakblphebjaaDoor
