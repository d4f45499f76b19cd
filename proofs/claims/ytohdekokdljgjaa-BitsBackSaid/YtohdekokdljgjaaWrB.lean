/- bits: a writer, whatever it holds: each call by a contract. -/
import Derived.Test.YtohdekokdljgjaaWrA
import Derived.BigQuiet
import Derived.Deep.QuietTactic
import Derived.Deep.LoopGhost
import Derived.Test.YtohdekokdljgjaaBitB
namespace Go.Proofs.Ytohdekokdljgjaa
set_option linter.unusedVariables false
set_option linter.unusedSimpArgs false
open Go.RowKit Go.Lib
/-- how many bits are meant -/
def ct (n : Int) : Nat := if n < 0 then 0 else if 62 < n then 62 else n.toNat
theorem ct_le (n : Int) : ct n ≤ 62 := by
  unfold ct
  repeat' split
  all_goals omega
theorem and_low (x : Int) (i : Nat) : bits .and .i64 (x / 2 ^ i) 1 = ((vb1 x i : Nat) : Int) := by
  rw [and_mask (x / 2 ^ i) 1 (by omega) 1 rfl, vb1_int]; rfl
theorem WA.lt {w W : World} {g : Nat} {v : Value} {L : List Nat} (h : WA w W g v L) : g < W.heap.size := block_lt h.box
theorem WA.drew {w W : World} {g : Nat} {v : Value} {L : List Nat} (h : WA w W g v L) : WA w W.drew g v L := ⟨h.ge, h.box, h.vb.drew, h.ap⟩
theorem limited_gen (n : Int) (w : World) : Calls Try.prog 56 #[.int .i64 n] w fun e w' => e = .returned (.int .i64 ((ct n : Nat) : Int)) ∧ w = w' := by
  by_cases h0 : n < 0
  · have HC := Kept.mk (show ((ct n : Nat) : Int) = 0 from by unfold ct; rw [if_pos h0]; rfl)
    go_enter Try.func56, Try.ntmps56
    go_wp2_with fail
    go_ret
    exact ⟨by rw [HC.out]; first | rfl | (simp; omega), rfl⟩
  · by_cases h1 : 62 < n
    · have HC := Kept.mk (show ((ct n : Nat) : Int) = 62 from by unfold ct; rw [if_neg h0, if_pos h1]; rfl)
      have h2 : ¬ n ≤ 62 := by omega
      go_enter Try.func56, Try.ntmps56
      go_wp2_with fail
      go_ret
      exact ⟨by rw [HC.out]; first | rfl | (simp; omega), rfl⟩
    · have HC := Kept.mk (show ((ct n : Nat) : Int) = n from by unfold ct; rw [if_neg h0, if_neg h1]; omega)
      have h2 : n ≤ 62 := by omega
      have h3 : 0 ≤ n := by omega
      go_enter Try.func56, Try.ntmps56
      go_wp2_with fail
      go_ret
      exact ⟨by rw [HC.out]; first | rfl | (simp; omega), rfl⟩
attribute [local irreducible] pk lowB highB vb1 alg
theorem two_vb1 (x : Int) (i : Nat) : vb1 x i < 2 := vb1_lt x i
set_option maxRecDepth 100000 in
theorem put_any (w W : World) (g : Nat) (v : Value) (L : List Nat) (x n : Int) (hs : WA w W g v L) (hL : L.length ≤ 900000) :
    Calls Try.prog 41 #[.pointer (some ⟨g, 0, none⟩), .int .i64 x, .int .i64 n] W fun e W' => e = .returned (.tuple #[]) ∧ ∃ v', WA w W' g v' (L ++ lowB x (ct n)) ∧ Tn g v W v' W' := by
  have HS := Kept.mk hs
  clear hs
  go_enter Try.func41, Try.ntmps41
  go_wp2_with fail
  with_reducible refine (limited_gen n W).mono ?_
  rintro e w1 ⟨rfl, rfl⟩
  have hc := ct_le n
  generalize hce : ct n = m at *
  have HCE := Kept.mk hce
  clear hce
  go_wp2_with fail
  go_loopw [11] (fun s wr => ∃ (i : Nat) (v' : Value), i ≤ m ∧ s = .int .i64 i ∧ WA w wr g v' (L ++ lowB x i) ∧ Tn g v W v' wr) (fun s _ => m - (RowKit.intOf s).toNat)
  case atStart => exact ⟨0, v, by omega, rfl, by rw [lowB_zero, List.append_nil]; exact HS.out, Tn.refl _ _ _⟩
  case round =>
    clear HS
    obtain ⟨i, v', hi, rfl, hs, ht⟩ := hrel
    have HS := Kept.mk hs
    have HT := Kept.mk ht
    clear hs ht
    by_cases hlt : i < m
    · have hii : (i : Int) < (m : Int) := by omega
      have hal := and_low x i
      have HN := Kept.mk (show L ++ lowB x i ++ [vb1 x i] = L ++ lowB x (i + 1) from by rw [List.append_assoc, lowB_snoc])
      go_wp2_with fail
      with_reducible refine (bit_any w wr g v' (L ++ lowB x i) (vb1 x i) HS.out (two_vb1 x i) (by rw [List.length_append, lowB_length]; omega)).mono ?_
      rintro e w2 ⟨rfl, v2, hs2, ht2⟩
      have HS2 := Kept.mk hs2
      have HT2 := Kept.mk (HT.out.trans ht2)
      clear hs2 ht2 HS HT
      rw [HN.out] at HS2
      go_wp2_with fail
      exact ⟨⟨i + 1, v2, by omega, by push_cast; rfl, HS2.out, HT2.out⟩, by show m - ((i : Int) + 1).toNat < m - ((i : Nat) : Int).toNat; omega⟩
    · have hii : ¬ (i : Int) < (m : Int) := by omega
      obtain rfl : i = m := by omega
      go_wp2_with fail
      go_returns
      exact ⟨rfl, v', by rw [HCE.out]; exact HS.out, HT.out⟩
set_option maxRecDepth 100000 in
theorem code_any (w W : World) (g : Nat) (v : Value) (L : List Nat) (x n : Int) (hs : WA w W g v L) (hL : L.length ≤ 900000) :
    Calls Try.prog 42 #[.pointer (some ⟨g, 0, none⟩), .int .i64 x, .int .i64 n] W fun e W' => e = .returned (.tuple #[]) ∧ ∃ v', WA w W' g v' (L ++ highB x (ct n)) ∧ Tn g v W v' W' := by
  have HS := Kept.mk hs
  clear hs
  go_enter Try.func42, Try.ntmps42
  go_wp2_with fail
  with_reducible refine (limited_gen n W).mono ?_
  rintro e w1 ⟨rfl, rfl⟩
  have hc := ct_le n
  generalize hce : ct n = m at *
  have HCE := Kept.mk hce
  clear hce
  go_wp2_with fail
  have HH := Kept.mk (highB_length x m)
  have HTA := Kept.mk (highB_take_all x m)
  have HTN := Kept.mk (fun i => highB_take x m i)
  go_loopw [12] (fun s wr => ∃ (i : Nat) (v' : Value), i ≤ m ∧ s = .int .i64 i ∧ WA w wr g v' (L ++ (highB x m).take i) ∧ Tn g v W v' wr) (fun s _ => m - (RowKit.intOf s).toNat)
  case atStart => exact ⟨0, v, by omega, rfl, by rw [List.take_zero, List.append_nil]; exact HS.out, Tn.refl _ _ _⟩
  case round =>
    clear HS
    obtain ⟨i, v', hi, rfl, hs, ht⟩ := hrel
    have HS := Kept.mk hs
    have HT := Kept.mk ht
    clear hs ht
    by_cases hlt : i < m
    · have hii : (i : Int) < (m : Int) := by omega
      obtain ⟨j, hj⟩ : ∃ j, m - 1 - i = j := ⟨_, rfl⟩
      have hji : ((m : Int) - 1 - (i : Int)) = (j : Int) := by omega
      have wm := wrap_i64_small ((m : Int) - 1) (by omega) (by omega)
      have wj := wrap_i64_small (j : Int) (by omega) (by omega)
      have j0 : (0 : Int) ≤ (j : Int) := by omega
      have jn : ((j : Int)).toNat = j := by omega
      have hal := and_low x j
      have HN := Kept.mk (show L ++ (highB x m).take i ++ [vb1 x j] = L ++ (highB x m).take (i + 1) from by rw [List.append_assoc, ← HTN.out i hlt, hj])
      clear hj
      go_wp2_with fail
      with_reducible refine (bit_any w wr g v' (L ++ (highB x m).take i) (vb1 x j) HS.out (two_vb1 x j) (by rw [List.length_append, List.length_take, HH.out]; omega)).mono ?_
      rintro e w2 ⟨rfl, v2, hs2, ht2⟩
      have HS2 := Kept.mk hs2
      have HT2 := Kept.mk (HT.out.trans ht2)
      clear hs2 ht2 HS HT
      rw [HN.out] at HS2
      go_wp2_with fail
      exact ⟨⟨i + 1, v2, by omega, by push_cast; rfl, HS2.out, HT2.out⟩, by show m - ((i : Int) + 1).toNat < m - ((i : Nat) : Int).toNat; omega⟩
    · have hii : ¬ (i : Int) < (m : Int) := by omega
      obtain rfl : i = m := by omega
      rw [HTA.out] at HS
      go_wp2_with fail
      go_returns
      exact ⟨rfl, v', by rw [HCE.out]; exact HS.out, HT.out⟩
theorem aligned_gen (u : Nat) (w : World) (hu : u ≤ 1000000) :
    Calls Try.prog 49 #[.int .i64 (u : Int)] w fun e w' => e = .returned (.int .i64 ((upTo u : Nat) : Int)) ∧ w = w' := by
  have h2 : (u : Int) ≤ 1000000 := by omega
  have HE := Kept.mk (show (((u : Int) + 8 - 1) / 8 * 8) = ((upTo u : Nat) : Int) from by unfold upTo; omega)
  go_enter Try.func49, Try.ntmps49
  go_wp2_with fail
  go_ret
  refine ⟨?_, rfl⟩
  rw [← HE.out]
  rfl
attribute [local irreducible] upTo txB
set_option maxRecDepth 100000 in
theorem align_any (w W : World) (g : Nat) (v : Value) (L : List Nat) (hs : WA w W g v L) (hL : L.length ≤ 900000) :
    Calls Try.prog 43 #[.pointer (some ⟨g, 0, none⟩)] W fun e W' => e = .returned (.tuple #[]) ∧ WA w W' g v (alg L) ∧ Tn g v W v W' := by
  have c1 := Joins.cell_of_block hs.box 1
  have nf := fun j => Joins.unfrozen_of_block hs.box j
  have HS := Kept.mk hs
  clear hs
  go_enter Try.func43, Try.ntmps43
  go_wp2_with fail
  with_reducible refine (aligned_gen L.length W (by omega)).mono ?_
  rintro e w1 ⟨rfl, rfl⟩
  have HU := Kept.mk (alg_length L)
  generalize upTo L.length = u at *
  go_wp2_with fail
  go_returns
  refine ⟨rfl, ⟨HS.out.ge, ?_, ?_, HS.out.ap⟩, tn_box _ _ _ _ _⟩
  · rw [Joins.block_setCell (i := 1) HS.out.box, HU.out]; rfl
  · rw [pk_alg]; exact HS.out.vb.off HS.out.ge HS.out.ap 1 _
set_option maxRecDepth 100000 in
theorem len_any (w W : World) (g : Nat) (v : Value) (L : List Nat) (hs : WA w W g v L) :
    Calls Try.prog 14 #[.pointer (some ⟨g, 0, none⟩)] W fun e W' => e = .returned (.int .i64 (L.length : Int)) ∧ W = W' := by
  have c1 := Joins.cell_of_block hs.box 1
  clear hs
  go_enter Try.func14, Try.ntmps14
  go_wp2_with fail
  go_ret
  exact ⟨rfl, rfl⟩
set_option maxRecDepth 100000 in
theorem bytes_any (w W : World) (g : Nat) (v : Value) (L : List Nat) (hs : WA w W g v L) :
    Calls Try.prog 15 #[.pointer (some ⟨g, 0, none⟩)] W fun e W' => e = .returned (.string (str (pk L))) ∧ W = W' := by
  obtain ⟨A, cap, rfl, hcap⟩ := hs.vb.len
  have c0 := Joins.cell_of_block hs.box 0
  have HB := Kept.mk hs.vb.string
  clear hs
  go_enter Try.func15, Try.ntmps15
  go_wp2_with (rw [HB.out])
  go_ret
  exact ⟨rfl, rfl⟩
end Go.Proofs.Ytohdekokdljgjaa
