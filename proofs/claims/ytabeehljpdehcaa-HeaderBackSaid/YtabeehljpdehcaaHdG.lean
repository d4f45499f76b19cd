/- header.Take: its closures, each by a contract. -/
import Derived.Test.YtabeehljpdehcaaHt
import Derived.Test.YtabeehljpdehcaaHdB
import Derived.Laws.EntriesVeiled
namespace Go.Proofs.Ytabeehljpdehcaa
set_option linter.unusedVariables false
set_option linter.unusedSimpArgs false
open Go.RowKit Go.Lib
def textF (b4 : Nat) : Value := .func (.func 18) #[] #[.pointer (some ⟨b4, 0, none⟩)]
/-- what is left to read, and the function that reads it -/
structure RS (w0 W : World) (b4 b5 : Nat) (l : List UInt8) : Prop where
  below : Below w0.heap.size w0 W
  lo4 : w0.heap.size ≤ b4
  lo5 : w0.heap.size ≤ b5
  ne : b4 ≠ b5
  h4 : W.heap[b4]? = some (.cells #[.string (str l)] 9 (0, 0))
  h5 : W.heap[b5]? = some (.cells #[textF b4] 38 (0, 0))
theorem RS.cell {w0 W : World} {b4 b5 : Nat} {l : List UInt8} (h : RS w0 W b4 b5 l) : W.cell? ⟨b4, 0, none⟩ = some (.string (str l)) ∧ W.frozen? ⟨b4, 0, none⟩ = false :=
  ⟨Joins.cell_of_block h.h4 0, Joins.unfrozen_of_block h.h4 0⟩
theorem RS.fn {w0 W : World} {b4 b5 : Nat} {l : List UInt8} (h : RS w0 W b4 b5 l) : W.cell? ⟨b5, 0, none⟩ = some (.func (.func 18) #[] #[.pointer (some ⟨b4, 0, none⟩)]) := Joins.cell_of_block h.h5 0
theorem RS.drew {w0 W : World} {b4 b5 : Nat} {l : List UInt8} (h : RS w0 W b4 b5 l) : RS w0 W.drew b4 b5 l := ⟨h.below.drew, h.lo4, h.lo5, h.ne, h.h4, h.h5⟩
theorem RS.drewN {w0 W : World} {b4 b5 : Nat} {l : List UInt8} (h : RS w0 W b4 b5 l) (n : Nat) : RS w0 (W.drewN n) b4 b5 l := ⟨below_drewN h.below n, h.lo4, h.lo5, h.ne, h.h4, h.h5⟩
theorem RS.alloc {w0 W : World} {b4 b5 : Nat} {l : List UInt8} (h : RS w0 W b4 b5 l) (o : Obj) : RS w0 (W.alloc o) b4 b5 l :=
  ⟨h.below.alloc h.below.size o, h.lo4, h.lo5, h.ne, hkept h.h4 (bnew _ _), hkept h.h5 (bnew _ _)⟩
theorem set_other (W : World) (g g2 j : Nat) (v : Value) (h : g ≠ g2) : (W.setCell ⟨g, j, none⟩ v).heap[g2]? = W.heap[g2]? := by
  exact heap_setCell_other W { block := g, off := j } g2 v (id (Ne.symm h))
/-- nothing but the block g is another -/
structure Same (g : Nat) (W W' : World) : Prop where
  size : W'.heap.size = W.heap.size
  block : ∀ k, k ≠ g → W'.heap[k]? = W.heap[k]?
theorem Same.drewN {g : Nat} {W W' : World} (h : Same g W W') (n : Nat) : Same g W (W'.drewN n) := ⟨h.size, h.block⟩
theorem same_set (W : World) (g j : Nat) (v : Value) : Same g W (W.setCell ⟨g, j, none⟩ v) := ⟨by simp, fun k hk => set_other W g k j v (Ne.symm hk)⟩
theorem RS.lt {w0 W : World} {b4 b5 : Nat} {l : List UInt8} (h : RS w0 W b4 b5 l) : b4 < W.heap.size := (Array.getElem?_eq_some_iff.1 h.h4).1
theorem RS.lt5 {w0 W : World} {b4 b5 : Nat} {l : List UInt8} (h : RS w0 W b4 b5 l) : b5 < W.heap.size := (Array.getElem?_eq_some_iff.1 h.h5).1
/-- a block that is there, is none of these two, and came behind w0 -/
structure Has (w0 : World) (b4 b5 : Nat) (W : World) (k : Nat) (o : Obj) : Prop where
  at_ : W.heap[k]? = some o
  ne : k ≠ b4
  ne5 : k ≠ b5
  lo : w0.heap.size ≤ k
theorem Same.new {w0 X W' : World} {b4 b5 : Nat} {l : List UInt8} {o : Obj} (h : Same b4 (X.alloc o) W') (hr : RS w0 X b4 b5 l) : Has w0 b4 b5 W' X.heap.size o := by
  have := hr.lt
  have := hr.lt5
  exact ⟨by rw [h.block _ (by omega)]; exact hnew X o, by omega, by omega, hr.below.size⟩
theorem Same.old {w0 X W' : World} {b4 b5 g : Nat} {o : Obj} (h : Same b4 X W') (hg : Has w0 b4 b5 X g o) : Has w0 b4 b5 W' g o := ⟨by rw [h.block _ hg.ne]; exact hg.at_, hg.ne, hg.ne5, hg.lo⟩
theorem RS.set {w0 W : World} {b4 b5 : Nat} {l : List UInt8} (h : RS w0 W b4 b5 l) (m : List UInt8) : RS w0 (W.setCell ⟨b4, 0, none⟩ (.string (str m))) b4 b5 m :=
  ⟨h.below.setCell h.lo4 _, h.lo4, h.lo5, h.ne, Joins.block_setCell (i := 0) h.h4 _, (set_other W b4 b5 0 _ h.ne).trans h.h5⟩
theorem str_cut (l : List UInt8) (n : Nat) : (str l).extract 0 n = str (l.take n) := by rw [str_extract, List.drop_zero, Nat.sub_zero]
theorem str_rest (l : List UInt8) (n : Nat) : (str l).extract n l.length = str (l.drop n) := by
  rw [str_extract, List.take_of_length_le (by rw [List.length_drop]; exact Nat.le_refl _)]
attribute [local irreducible] str beL hF hMark

set_option maxRecDepth 100000 in
theorem text_any (n : Nat) (l : List UInt8) (b4 b5 : Nat) (w0 W : World) (h : RS w0 W b4 b5 l) (hn : n ≤ l.length) (hl : l.length ≤ 1000) :
    Calls Try.prog 18 #[.int .i64 (n : Int), .pointer (some ⟨b4, 0, none⟩)] W fun e w' => e = .returned (.string (str (l.take n))) ∧ RS w0 w' b4 b5 (l.drop n) ∧ Same b4 W w' := by
  obtain ⟨c1, c2⟩ := h.cell
  have sl := str_size l
  have e1 := str_cut l n
  have e2 := str_rest l n
  have hn1 : (n : Int) ≤ (l.length : Int) := by omega
  have hn0 : (0 : Int) ≤ (n : Int) := by omega
  have HR := Kept.mk (h.set (l.drop n))
  have HM := Kept.mk (same_set W b4 0 (.string (str (l.drop n))))
  clear h
  go_enter Try.func18, Try.ntmps18
  go_wp2_with fail

  go_ret
  exact ⟨rfl, HR.out, HM.out⟩
theorem bev_of_take (l : List UInt8) (k : Nat) (h1 : 1 ≤ k) (h8 : k ≤ 8) (hl : k ≤ l.length) : tkFix (str (l.take k)) k = (bev (l.take k), str [], 0) := by
  have hk : (l.take k).length = k := by rw [List.length_take]; omega
  rw [tkFix_list _ k h1 h8 (by omega), List.take_of_length_le (by omega), List.drop_of_length_le (by omega)]
set_option maxRecDepth 100000 in
theorem num_any (k : Nat) (l : List UInt8) (b4 b5 : Nat) (w0 W : World) (h : RS w0 W b4 b5 l) (h1 : 1 ≤ k) (h8 : k ≤ 8) (hn : k ≤ l.length) (hl : l.length ≤ 1000) :
    Calls Try.prog 19 #[.int .i64 (k : Int), .pointer (some ⟨b5, 0, none⟩)] W fun e w' => e = .returned (.int .i64 (bev (l.take k))) ∧ RS w0 w' b4 b5 (l.drop k) ∧ Same b4 W w' := by
  have hf := h.fn
  have HT := Kept.mk (bev_of_take l k h1 h8 hn)
  have HC := Kept.mk (text_any k l b4 b5 w0 W h hn hl)
  have HK := Kept.mk (fun w' => take_any (str (l.take k)) k w' (by rw [str_size, List.length_take]; unfold maxLen; omega))
  clear h
  go_enter Try.func19, Try.ntmps19
  go_wp2_with fail
  with_reducible refine HC.out.mono ?_
  rintro e w1 ⟨rfl, h, hm⟩
  have HR := Kept.mk h
  have HM := Kept.mk hm
  clear h hf hm
  go_wp2_with fail
  with_reducible refine (HK.out _).mono ?_
  rintro e w2 ⟨rfl, m, rfl⟩
  rw [HT.out]
  go_wp2_with fail
  go_ret
  exact ⟨rfl, HR.out.drewN m, HM.out.drewN m⟩
end Go.Proofs.Ytabeehljpdehcaa
