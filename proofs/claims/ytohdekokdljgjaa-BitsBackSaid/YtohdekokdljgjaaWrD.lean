/- bits: the document's writer: Put, Code, Text, Bytes, each by a contract. -/
import Derived.Test.YtohdekokdljgjaaWrC
import Derived.Deep.RegionLaw
namespace Go.Proofs.Ytohdekokdljgjaa
set_option linter.unusedVariables false
set_option linter.unusedSimpArgs false
open Go.RowKit Go.Lib
attribute [local irreducible] pk lowB highB vb1 alg upTo txB str
set_option maxRecDepth 100000 in
set_option maxHeartbeats 2000000 in
theorem refWPut_any (w W : World) (g : Nat) (v : Value) (L : List Nat) (x n : Int) (hs : WR w W g v L) (hL : L.length ≤ 900000) :
    Calls Try.prog 45 #[.pointer (some ⟨g, 0, none⟩), .int .i64 x, .int .i64 n] W fun e W' => e = .returned (.tuple #[]) ∧ ∃ v', WR w W' g v' (L ++ lowB x (ct n)) ∧ Tn g v W v' W' := by
  have HS := Kept.mk hs
  clear hs
  have HC := Kept.mk (fun w => refCut_any n w)
  have hc := ct_le n
  generalize hce : ct n = m at *
  have HCE := Kept.mk hce
  clear hce
  go_enter Try.func45, Try.ntmps45
  go_wp2_with fail
  go_loopw [6] (fun s wr => ∃ (i : Nat) (v' : Value), i ≤ m ∧ s = .int .i64 i ∧ WR w wr g v' (L ++ lowB x i) ∧ Tn g v W v' wr) (fun s _ => m - (RowKit.intOf s).toNat)
  case atStart => exact ⟨0, v, by omega, rfl, by rw [lowB_zero, List.append_nil]; exact HS.out, Tn.refl _ _ _⟩
  case round =>
    clear HS
    obtain ⟨i, v', hi, rfl, hs, ht⟩ := hrel
    have hml : (L ++ lowB x i).length ≤ 900062 := by rw [List.length_append, lowB_length]; omega
    have HN := Kept.mk (show L ++ lowB x i ++ [vb1 x i] = L ++ lowB x (i + 1) from by rw [List.append_assoc, lowB_snoc])
    by_cases hlt : i < m
    · have hii : (i : Int) < (m : Int) := by omega
      have hal := and_low x i
      have hb2 := two_vb1 x i
      obtain ⟨A, cap, rfl, hcap⟩ := hs.vb.len
      have c0 := Joins.cell_of_block hs.box 0
      have nf := fun j => Joins.unfrozen_of_block hs.box j
      have hgl := hs.lt
      have HS := Kept.mk hs
      have HT := Kept.mk ht
      clear hs ht hlt
      rw [ivs_length] at *
      generalize L ++ lowB x i = M at *
      generalize vb1 x i = d at *
      have HGL := Kept.mk (show ∀ o, g < ((wr.alloc o).drew).heap.size from fun o => Nat.lt_of_lt_of_le hgl (by simp))
      have HOLD := Kept.mk (show ∀ o, ((wr.alloc o).drew).heap[g]? = wr.heap[g]? from fun o => Below.heap_alloc wr o g hgl)
      have HALL := Kept.mk (show ∀ o k, k < wr.heap.size → ((wr.alloc o).drew).heap[k]? = wr.heap[k]? from fun o k hk => Below.heap_alloc wr o k hk)
      go_upto_region 3 with (with_reducible refine (HC.out wr).mono ?_; rintro e w1 ⟨rfl, rfl⟩)
      go_region_law (refine int_step2 (by rfl) _ _ (by rfl) (w := w) (L := M) (by rfl) ((HS.out.vb.alloc _).drew) (b := wr.heap.size) (d := d) (by rfl) (by exact cell_of_cells (j := 0) (heap_new wr _ _ rfl)) (by omega) ?_; intro v1 w2 hv1 hz1 hk1; obtain ⟨A1, cap1, rfl, hcap1⟩ := hv1.len; rw [ivs_length, List.length_append, List.length_singleton] at hv1 hcap1 hk1 ⊢; have k4 := hk1 g (HGL.out _) HS.out.ap; rw [HOLD.out] at k4; have hbx := k4.1.trans HS.out.box; have d0 := Joins.cell_of_block hbx 0; have ng := fun j => Joins.unfrozen_of_block hbx j)
      all_goals (go_wp2_with fail)
      all_goals (
        rw [HN.out] at hv1
        exact ⟨⟨i + 1, _, by omega, by push_cast; rfl, ⟨HS.out.ge, (Joins.block_setCell (i := 0) hbx _).trans rfl, hv1.off HS.out.ge k4.2 0 _, k4.2⟩, (HT.out.trans ⟨Nat.le_trans (by simp) hz1, fun k hk hne ha => ⟨((hk1 k (Nat.lt_of_lt_of_le hk (by simp)) ha).1).trans (HALL.out _ k hk), (hk1 k (Nat.lt_of_lt_of_le hk (by simp)) ha).2⟩⟩).trans (tn_box g 0 _ _ w2)⟩, by show m - ((i : Int) + 1).toNat < m - ((i : Nat) : Int).toNat; omega⟩)
    · have hii : ¬ (i : Int) < (m : Int) := by omega
      obtain rfl : i = m := by omega
      have HS := Kept.mk hs
      have HT := Kept.mk ht
      clear hs ht
      go_wp2_with (with_reducible refine (HC.out wr).mono ?_; rintro e w1 ⟨rfl, rfl⟩)
      go_returns
      exact ⟨rfl, v', HS.out, HT.out⟩
set_option maxRecDepth 100000 in
set_option maxHeartbeats 2000000 in
theorem refWCode_any (w W : World) (g : Nat) (v : Value) (L : List Nat) (x n : Int) (hs : WR w W g v L) (hL : L.length ≤ 900000) :
    Calls Try.prog 46 #[.pointer (some ⟨g, 0, none⟩), .int .i64 x, .int .i64 n] W fun e W' => e = .returned (.tuple #[]) ∧ ∃ v', WR w W' g v' (L ++ highB x (ct n)) ∧ Tn g v W v' W' := by
  have HS := Kept.mk hs
  clear hs
  have HC := Kept.mk (refCut_any n W)
  have hc := ct_le n
  generalize ct n = m at *
  have HH := Kept.mk (highB_length x m)
  have HTA := Kept.mk (highB_take_all x m)
  have HTN := Kept.mk (fun i => highB_take x m i)
  have wm := wrap_i64_small ((m : Int) - 1) (by omega) (by omega)
  go_enter Try.func46, Try.ntmps46
  go_wp2_with fail
  with_reducible refine (HC.out).mono ?_
  rintro e w1 ⟨rfl, rfl⟩
  go_wp2_with fail
  go_loopw [6] (fun s wr => ∃ (i : Nat) (v' : Value), i ≤ m ∧ s = .int .i64 ((m : Int) - 1 - i) ∧ WR w wr g v' (L ++ (highB x m).take i) ∧ Tn g v W v' wr) (fun s _ => ((RowKit.intOf s) + 1).toNat)
  case atStart => exact ⟨0, v, by omega, by simp, by rw [List.take_zero, List.append_nil]; exact HS.out, Tn.refl _ _ _⟩
  case round =>
    clear HS HC
    obtain ⟨i, v', hi, rfl, hs, ht⟩ := hrel
    have hml : (L ++ (highB x m).take i).length ≤ 900062 := by rw [List.length_append, List.length_take, HH.out]; omega
    by_cases hlt : i < m
    · obtain ⟨j, hj⟩ : ∃ j, m - 1 - i = j := ⟨_, rfl⟩
      have hji : ((m : Int) - 1 - (i : Int)) = (j : Int) := by omega
      have hji2 : ((m : Int) - 1 - ((i + 1 : Nat) : Int)) = (j : Int) - 1 := by omega
      have j0 : (0 : Int) ≤ (j : Int) := by omega
      have j62 : (j : Int) ≤ 62 := by omega
      have jn : ((j : Int)).toNat = j := by omega
      rw [hji]
      have hal := and_low x j
      have hb2 := two_vb1 x j
      have HN := Kept.mk (show L ++ (highB x m).take i ++ [vb1 x j] = L ++ (highB x m).take (i + 1) from by rw [List.append_assoc, ← HTN.out i hlt, hj])
      obtain ⟨A, cap, rfl, hcap⟩ := hs.vb.len
      have c0 := Joins.cell_of_block hs.box 0
      have nf := fun j => Joins.unfrozen_of_block hs.box j
      have hgl := hs.lt
      have HS := Kept.mk hs
      have HT := Kept.mk ht
      have HI := Kept.mk (show i + 1 ≤ m from hlt)
      have HJ2 := Kept.mk hji2
      clear hs ht hlt hj hji hji2
      rw [ivs_length] at *
      generalize L ++ (highB x m).take i = M at *
      generalize vb1 x j = d at *
      have HGL := Kept.mk (show ∀ o, g < ((wr.alloc o).drew).heap.size from fun o => Nat.lt_of_lt_of_le hgl (by simp))
      have HOLD := Kept.mk (show ∀ o, ((wr.alloc o).drew).heap[g]? = wr.heap[g]? from fun o => Below.heap_alloc wr o g hgl)
      have HALL := Kept.mk (show ∀ o k, k < wr.heap.size → ((wr.alloc o).drew).heap[k]? = wr.heap[k]? from fun o k hk => Below.heap_alloc wr o k hk)
      go_upto_region 3 with fail
      go_region_law (refine int_step2 (by rfl) _ _ (by rfl) (w := w) (L := M) (by rfl) ((HS.out.vb.alloc _).drew) (b := wr.heap.size) (d := d) (by rfl) (by exact cell_of_cells (j := 0) (heap_new wr _ _ rfl)) (by omega) ?_; intro v1 w2 hv1 hz1 hk1; obtain ⟨A1, cap1, rfl, hcap1⟩ := hv1.len; rw [ivs_length, List.length_append, List.length_singleton] at hv1 hcap1 hk1 ⊢; have k4 := hk1 g (HGL.out _) HS.out.ap; rw [HOLD.out] at k4; have hbx := k4.1.trans HS.out.box; have d0 := Joins.cell_of_block hbx 0; have ng := fun j => Joins.unfrozen_of_block hbx j)
      all_goals (go_wp2_with fail)
      all_goals (
        rw [HN.out] at hv1
        exact ⟨⟨i + 1, _, HI.out, by rw [HJ2.out], ⟨HS.out.ge, (Joins.block_setCell (i := 0) hbx _).trans rfl, hv1.off HS.out.ge k4.2 0 _, k4.2⟩, (HT.out.trans ⟨Nat.le_trans (by simp) hz1, fun k hk hne ha => ⟨((hk1 k (Nat.lt_of_lt_of_le hk (by simp)) ha).1).trans (HALL.out _ k hk), (hk1 k (Nat.lt_of_lt_of_le hk (by simp)) ha).2⟩⟩).trans (tn_box g 0 _ _ w2)⟩, by show (((j : Int) - 1) + 1).toNat < (((j : Nat) : Int) + 1).toNat; omega⟩)
    · have him : i = m := by omega
      have HIM := Kept.mk (show L ++ (highB x m).take i = L ++ highB x m from by rw [him, HTA.out])
      have hneg : ((m : Int) - 1 - (i : Int)) = -1 := by omega
      rw [hneg]
      have HS := Kept.mk hs
      have HT := Kept.mk ht
      rw [HIM.out] at HS
      clear hs ht him hlt
      go_wp2_with fail
      go_returns
      exact ⟨rfl, v', HS.out, HT.out⟩
end Go.Proofs.Ytohdekokdljgjaa
