/- SHA-256: what stands behind a text, by a contract. -/
import Derived.Test.YtkkcakblphebjaaDoorShaE
import Derived.Test.YtkkcakblphebjaaDoorBuf
import Derived.Laws.MakeOwn
namespace Go.Proofs.YtkkcakblphebjaaDoor
set_option linter.unusedSimpArgs false
set_option linter.unusedVariables false
set_option linter.unusedVariables false
open Go.RowKit Go.Lib

def zeros (k : Nat) : Array Value := madeCells #[.int .u8 0] k
theorem zeros_get (k i : Nat) (h : i < k) : (zeros k)[i]? = some (.int .u8 0) := by
  unfold zeros madeCells
  simp [Array.getElem?_map, h, Nat.mod_one]
theorem zeros_size (k : Nat) : (zeros k).size = k := size_madeCells _ _
theorem make_bytes (W : World) (l c : Nat) (hlc : l ≤ c) (hc : c ≤ 1000000000) :
    (Instr.makeSlice 107 (.int .i64 (l : Int)) (.int .i64 (c : Int))).run Tryd.prog W = .ok (.slice (some ⟨W.heap.size, 0, none⟩) l c) (W.alloc (.cells (zeros c) 5)) := by
  obtain ⟨i0, hi, hz0, hz1, hz2⟩ := info_parts infoByte
  have h := run_make (P := Tryd.prog) W 107 5 i0 (.int .u8 0) Tryd.underlying107 hi hz0 .i64 .i64 (l : Int) (c : Int) (by omega) (by omega) (by rw [hz2]; omega) (by omega)
  rw [hz1] at h
  simp only [Int.toNat_natCast, Nat.mul_one] at h
  exact h
theorem pad_start (w : World) (z : Nat) (hz : z < 64) : Buf w (w.alloc (.cells ((zeros (1 + z + 8)).setIfInBounds 0 (.int .u8 128)) 5)) (.slice (some ⟨w.heap.size, 0, none⟩) (1 + z) (1 + z + 8)) (128 :: List.replicate z 0) := by
  unfold Buf
  have hl : (128 :: List.replicate z (0 : UInt8)).length = 1 + z := by simp; omega
  rw [hl]
  refine ⟨World.ownsRowF_of ⟨by rw [Lib.byteCells_length, hl]; omega, .inr ⟨w.heap.size, 1 + z + 8, _, rfl, Nat.le_refl _, heap_new _ _ _ rfl, by omega, by unfold maxLen; omega, by rw [Array.size_setIfInBounds, zeros_size]; omega, ?_⟩⟩, (Below.refl _ _).alloc (Nat.le_refl _) _, by simp⟩
  apply List.ext_getElem?
  intro i
  rw [Array.toList_setIfInBounds, List.getElem?_take]
  by_cases hi : i < (1 + z) * 1
  · rw [if_pos hi, List.getElem?_set]
    have hs : (zeros (1 + z + 8)).toList.length = 1 + z + 8 := by rw [Array.length_toList, zeros_size]
    by_cases h0 : 0 = i
    · subst h0
      rw [if_pos rfl, if_pos (by omega)]
      rfl
    · rw [if_neg h0]
      obtain ⟨j, rfl⟩ : ∃ j, i = j + 1 := ⟨i - 1, by omega⟩
      have hg := zeros_get (1 + z + 8) (j + 1) (by omega)
      rw [Array.getElem?_toList, hg]
      simp [Lib.byteCells, show j < z by omega]
  · rw [if_neg hi, List.getElem?_eq_none (by rw [Lib.byteCells_length, hl]; omega)]
theorem sPad_parts (n : Nat) : sPad n = 128 :: List.replicate ((119 - n % 64) % 64) 0 ++ be8 (8 * (n : Int)) := rfl
theorem be8_length (n : Int) : (be8 n).length = 8 := rfl
attribute [local irreducible] zeros str

set_option maxRecDepth 100000 in
set_option maxHeartbeats 4000000 in
theorem padding_any (n : Nat) (w : World) (hn : n ≤ 1000000000) :
    Calls Tryd.prog 101 #[.int .i64 (n : Int)] w fun e w' => e = .returned (.string (str (sPad n))) ∧ Below w.heap.size w w' := by
  obtain ⟨i0, hi, hz0, hz1, hz2⟩ := info_parts infoByte
  obtain ⟨z, hz⟩ : ∃ z : Nat, (119 - n % 64) % 64 = z := ⟨_, rfl⟩
  have hz1' : z < 64 := by omega
  have hzi : (119 - (n : Int) % 64) % 64 = (z : Int) := by omega
  have hmk : ∀ W : World, (Instr.makeSlice 107 (.int .i64 (1 + (z : Int))) (.int .i64 (1 + (z : Int) + 8))).run Tryd.prog W = .ok (.slice (some ⟨W.heap.size, 0, none⟩) (1 + z) (1 + z + 8)) (W.alloc (.cells (zeros (1 + z + 8)) 5)) := fun W => make_bytes W (1 + z) (1 + z + 8) (by omega) (by omega)
  have hc0 := zeros_get (1 + z + 8) 0 (by omega)
  have HS := Kept.mk (pad_start w z hz1')
  have HP := Kept.mk (show sPad n = 128 :: List.replicate z 0 ++ be8 (8 * (n : Int)) by rw [sPad_parts, hz])
  have hl : (128 :: List.replicate z (0 : UInt8)).length ≤ 65 := by simp; omega
  have HL := Kept.mk hl
  have h0 : 0 ≤ (119 - (n : Int) % 64) := by omega
  clear hz hl
  go_enter Tryd.func101, Tryd.ntmps101
  go_wp2_with fail
  rw [hzi]
  clear hmk hc0 hzi h0
  generalize w.alloc (.cells ((zeros (1 + z + 8)).setIfInBounds 0 (.int .u8 128)) 5) = X at *
  go_loopw [4, 5] (fun v s wr => ∃ k : Nat, k ≤ 8 ∧ s = .int .i64 (56 - 8 * (k : Int)) ∧ Buf w wr v (128 :: List.replicate z 0 ++ (be8 (8 * (n : Int))).take k)) (fun _ s _ => (RowKit.intOf s + 8).toNat)
  case atStart => exact ⟨0, by omega, rfl, HS.out.is (by simp)⟩
  case round =>
    clear HS X
    obtain ⟨k, hk, rfl, hb⟩ := hrel
    have hc : k = 0 ∨ k = 1 ∨ k = 2 ∨ k = 3 ∨ k = 4 ∨ k = 5 ∨ k = 6 ∨ k = 7 ∨ k = 8 := by omega
    have hlen : (128 :: List.replicate z 0 ++ (be8 (8 * (n : Int))).take k).length ≤ 100 := by
      have := HL.out
      rw [List.length_append, List.length_take]
      omega
    rcases hc with rfl | rfl | rfl | rfl | rfl | rfl | rfl | rfl | rfl
    · have hb : OwnBuf w.heap.size 5 _ (128 :: List.replicate z 0 ++ (be8 (8 * (n : Int))).take 0).length (Lib.byteCells (128 :: List.replicate z 0 ++ (be8 (8 * (n : Int))).take 0)) w wr := hb
      have HN := Kept.mk (show (128 :: List.replicate z 0 ++ (be8 (8 * (n : Int))).take 0) ++ [byt (8 * (n : Int) / 2 ^ 56)] = 128 :: List.replicate z 0 ++ (be8 (8 * (n : Int))).take (0 + 1) from by rw [List.append_assoc]; rfl)
      generalize 128 :: List.replicate z 0 ++ (be8 (8 * (n : Int))).take 0 = L at *
      go_wp2_with (at_builtin; refine Lib.wpList_append_byte rfl (.tmp 22) (.tmp 28) 107 rfl w.heap.size 5 i0 Tryd.underlying107 hi hz0 hz1 hz2 _ _ _ rfl w _ _ hb rfl ?_ ?_; omega; intro v' w' ho)
      refine ⟨⟨0 + 1, by omega, rfl, ?_⟩, by decide⟩
      refine Buf.is (Buf.byte (d := byt (8 * (n : Int) / 2 ^ 56)) ho ?_) HN.out
      rw [byt_toNat]; first | rfl | omega | (simp only [Int.reducePow]; omega)
    · have hb : OwnBuf w.heap.size 5 _ (128 :: List.replicate z 0 ++ (be8 (8 * (n : Int))).take 1).length (Lib.byteCells (128 :: List.replicate z 0 ++ (be8 (8 * (n : Int))).take 1)) w wr := hb
      have HN := Kept.mk (show (128 :: List.replicate z 0 ++ (be8 (8 * (n : Int))).take 1) ++ [byt (8 * (n : Int) / 2 ^ 48)] = 128 :: List.replicate z 0 ++ (be8 (8 * (n : Int))).take (1 + 1) from by rw [List.append_assoc]; rfl)
      generalize 128 :: List.replicate z 0 ++ (be8 (8 * (n : Int))).take 1 = L at *
      go_wp2_with (at_builtin; refine Lib.wpList_append_byte rfl (.tmp 22) (.tmp 28) 107 rfl w.heap.size 5 i0 Tryd.underlying107 hi hz0 hz1 hz2 _ _ _ rfl w _ _ hb rfl ?_ ?_; omega; intro v' w' ho)
      refine ⟨⟨1 + 1, by omega, rfl, ?_⟩, by decide⟩
      refine Buf.is (Buf.byte (d := byt (8 * (n : Int) / 2 ^ 48)) ho ?_) HN.out
      rw [byt_toNat]; first | rfl | omega | (simp only [Int.reducePow]; omega)
    · have hb : OwnBuf w.heap.size 5 _ (128 :: List.replicate z 0 ++ (be8 (8 * (n : Int))).take 2).length (Lib.byteCells (128 :: List.replicate z 0 ++ (be8 (8 * (n : Int))).take 2)) w wr := hb
      have HN := Kept.mk (show (128 :: List.replicate z 0 ++ (be8 (8 * (n : Int))).take 2) ++ [byt (8 * (n : Int) / 2 ^ 40)] = 128 :: List.replicate z 0 ++ (be8 (8 * (n : Int))).take (2 + 1) from by rw [List.append_assoc]; rfl)
      generalize 128 :: List.replicate z 0 ++ (be8 (8 * (n : Int))).take 2 = L at *
      go_wp2_with (at_builtin; refine Lib.wpList_append_byte rfl (.tmp 22) (.tmp 28) 107 rfl w.heap.size 5 i0 Tryd.underlying107 hi hz0 hz1 hz2 _ _ _ rfl w _ _ hb rfl ?_ ?_; omega; intro v' w' ho)
      refine ⟨⟨2 + 1, by omega, rfl, ?_⟩, by decide⟩
      refine Buf.is (Buf.byte (d := byt (8 * (n : Int) / 2 ^ 40)) ho ?_) HN.out
      rw [byt_toNat]; first | rfl | omega | (simp only [Int.reducePow]; omega)
    · have hb : OwnBuf w.heap.size 5 _ (128 :: List.replicate z 0 ++ (be8 (8 * (n : Int))).take 3).length (Lib.byteCells (128 :: List.replicate z 0 ++ (be8 (8 * (n : Int))).take 3)) w wr := hb
      have HN := Kept.mk (show (128 :: List.replicate z 0 ++ (be8 (8 * (n : Int))).take 3) ++ [byt (8 * (n : Int) / 2 ^ 32)] = 128 :: List.replicate z 0 ++ (be8 (8 * (n : Int))).take (3 + 1) from by rw [List.append_assoc]; rfl)
      generalize 128 :: List.replicate z 0 ++ (be8 (8 * (n : Int))).take 3 = L at *
      go_wp2_with (at_builtin; refine Lib.wpList_append_byte rfl (.tmp 22) (.tmp 28) 107 rfl w.heap.size 5 i0 Tryd.underlying107 hi hz0 hz1 hz2 _ _ _ rfl w _ _ hb rfl ?_ ?_; omega; intro v' w' ho)
      refine ⟨⟨3 + 1, by omega, rfl, ?_⟩, by decide⟩
      refine Buf.is (Buf.byte (d := byt (8 * (n : Int) / 2 ^ 32)) ho ?_) HN.out
      rw [byt_toNat]; first | rfl | omega | (simp only [Int.reducePow]; omega)
    · have hb : OwnBuf w.heap.size 5 _ (128 :: List.replicate z 0 ++ (be8 (8 * (n : Int))).take 4).length (Lib.byteCells (128 :: List.replicate z 0 ++ (be8 (8 * (n : Int))).take 4)) w wr := hb
      have HN := Kept.mk (show (128 :: List.replicate z 0 ++ (be8 (8 * (n : Int))).take 4) ++ [byt (8 * (n : Int) / 2 ^ 24)] = 128 :: List.replicate z 0 ++ (be8 (8 * (n : Int))).take (4 + 1) from by rw [List.append_assoc]; rfl)
      generalize 128 :: List.replicate z 0 ++ (be8 (8 * (n : Int))).take 4 = L at *
      go_wp2_with (at_builtin; refine Lib.wpList_append_byte rfl (.tmp 22) (.tmp 28) 107 rfl w.heap.size 5 i0 Tryd.underlying107 hi hz0 hz1 hz2 _ _ _ rfl w _ _ hb rfl ?_ ?_; omega; intro v' w' ho)
      refine ⟨⟨4 + 1, by omega, rfl, ?_⟩, by decide⟩
      refine Buf.is (Buf.byte (d := byt (8 * (n : Int) / 2 ^ 24)) ho ?_) HN.out
      rw [byt_toNat]; first | rfl | omega | (simp only [Int.reducePow]; omega)
    · have hb : OwnBuf w.heap.size 5 _ (128 :: List.replicate z 0 ++ (be8 (8 * (n : Int))).take 5).length (Lib.byteCells (128 :: List.replicate z 0 ++ (be8 (8 * (n : Int))).take 5)) w wr := hb
      have HN := Kept.mk (show (128 :: List.replicate z 0 ++ (be8 (8 * (n : Int))).take 5) ++ [byt (8 * (n : Int) / 2 ^ 16)] = 128 :: List.replicate z 0 ++ (be8 (8 * (n : Int))).take (5 + 1) from by rw [List.append_assoc]; rfl)
      generalize 128 :: List.replicate z 0 ++ (be8 (8 * (n : Int))).take 5 = L at *
      go_wp2_with (at_builtin; refine Lib.wpList_append_byte rfl (.tmp 22) (.tmp 28) 107 rfl w.heap.size 5 i0 Tryd.underlying107 hi hz0 hz1 hz2 _ _ _ rfl w _ _ hb rfl ?_ ?_; omega; intro v' w' ho)
      refine ⟨⟨5 + 1, by omega, rfl, ?_⟩, by decide⟩
      refine Buf.is (Buf.byte (d := byt (8 * (n : Int) / 2 ^ 16)) ho ?_) HN.out
      rw [byt_toNat]; first | rfl | omega | (simp only [Int.reducePow]; omega)
    · have hb : OwnBuf w.heap.size 5 _ (128 :: List.replicate z 0 ++ (be8 (8 * (n : Int))).take 6).length (Lib.byteCells (128 :: List.replicate z 0 ++ (be8 (8 * (n : Int))).take 6)) w wr := hb
      have HN := Kept.mk (show (128 :: List.replicate z 0 ++ (be8 (8 * (n : Int))).take 6) ++ [byt (8 * (n : Int) / 2 ^ 8)] = 128 :: List.replicate z 0 ++ (be8 (8 * (n : Int))).take (6 + 1) from by rw [List.append_assoc]; rfl)
      generalize 128 :: List.replicate z 0 ++ (be8 (8 * (n : Int))).take 6 = L at *
      go_wp2_with (at_builtin; refine Lib.wpList_append_byte rfl (.tmp 22) (.tmp 28) 107 rfl w.heap.size 5 i0 Tryd.underlying107 hi hz0 hz1 hz2 _ _ _ rfl w _ _ hb rfl ?_ ?_; omega; intro v' w' ho)
      refine ⟨⟨6 + 1, by omega, rfl, ?_⟩, by decide⟩
      refine Buf.is (Buf.byte (d := byt (8 * (n : Int) / 2 ^ 8)) ho ?_) HN.out
      rw [byt_toNat]; first | rfl | omega | (simp only [Int.reducePow]; omega)
    · have hb : OwnBuf w.heap.size 5 _ (128 :: List.replicate z 0 ++ (be8 (8 * (n : Int))).take 7).length (Lib.byteCells (128 :: List.replicate z 0 ++ (be8 (8 * (n : Int))).take 7)) w wr := hb
      have HN := Kept.mk (show (128 :: List.replicate z 0 ++ (be8 (8 * (n : Int))).take 7) ++ [byt (8 * (n : Int))] = 128 :: List.replicate z 0 ++ (be8 (8 * (n : Int))).take (7 + 1) from by rw [List.append_assoc]; rfl)
      generalize 128 :: List.replicate z 0 ++ (be8 (8 * (n : Int))).take 7 = L at *
      go_wp2_with (at_builtin; refine Lib.wpList_append_byte rfl (.tmp 22) (.tmp 28) 107 rfl w.heap.size 5 i0 Tryd.underlying107 hi hz0 hz1 hz2 _ _ _ rfl w _ _ hb rfl ?_ ?_; omega; intro v' w' ho)
      refine ⟨⟨7 + 1, by omega, rfl, ?_⟩, by decide⟩
      refine Buf.is (Buf.byte (d := byt (8 * (n : Int))) ho ?_) HN.out
      rw [byt_toNat]; first | rfl | omega | (simp only [Int.reducePow]; omega)
    · have hcv := Buf.string hb
      have HR := Kept.mk (show 128 :: List.replicate z 0 ++ (be8 (8 * (n : Int))).take 8 = sPad n from by rw [HP.out]; rfl)
      have HB := Kept.mk hb.2.1
      go_wp2_with fail
      go_ret
      exact ⟨by rw [← HR.out]; rfl, HB.out⟩
end Go.Proofs.YtkkcakblphebjaaDoor
