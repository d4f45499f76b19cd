/- Clashes: whether two texts are one, by both. -/
import Derived.Test.YtkkcakblphebjaaDoorClA
import Derived.Test.YtkkcakblphebjaaDoorMerA
namespace Go.Proofs.YtkkcakblphebjaaDoor
set_option linter.unusedVariables false
set_option linter.unusedSimpArgs false
open Go.RowKit Go.Lib
theorem str_inj' {x y : List UInt8} (h : str x = str y) : x = y := by
  have := congrArg (fun s => s.data.toList) h
  simpa [str] using this
theorem str_toList (x : List UInt8) : (str x).toList = x := by rw [ByteArray.toList_eq]; rfl
theorem Sum_1 (w : Int) (a : List UInt8) (W : World) (T : TypeId) (hk : KAt W) (hl : a.length ≤ 900000000) :
    Calls Tryd.prog 26 #[.int .i64 w, .slice (some ⟨W.heap.size, 0, none⟩) 1 1] (W.alloc (.cells #[.string (str a)] T)) fun e w' => e = .returned (.string (str (tS (wid w) a))) ∧ Below W.heap.size W w' :=
  (Sum_any w _ 1 1 [a] _ rfl (row_new W [a] T) (hk.alloc _) (by simp; omega) (by simp)).mono fun e w' h => ⟨by rw [h.1]; simp, below_new h.2⟩
def clV (w : Int) (x y : List UInt8) : Bool := decide (x ≠ y ∧ tS (wid w) x = tS (wid w) y)
theorem clV_self (w : Int) (x : List UInt8) : clV w x x = false := by simp [clV]
theorem clV_ne {w : Int} {x y : List UInt8} (h : x ≠ y) : clV w x y = decide (tS (wid w) x = tS (wid w) y) := by simp [clV, h]
attribute [local irreducible] str sSum wid tS tLeaf tNode cutN cRoot
set_option maxRecDepth 100000 in
set_option maxHeartbeats 2000000 in
theorem refRoot17_any (w : Int) (A : Option Addr) (c : Nat) (ls : List (List UInt8)) (W : World) (hr : RowAt W A (strs ls)) (hl : ∀ l ∈ ls, l.length ≤ 400000000) (hc : ls.length ≤ c) (hc2 : ls.length ≤ 4611686018427387903) :
    Calls Tryd.prog 15 #[.int .i64 w, .slice A ls.length c] W fun e w' => e = .returned (.string (str (cRoot (wid w) ls))) ∧ Below W.heap.size W w' := by
  have HT := Kept.mk (refTop_any w ls.length A c ls W rfl hr hl hc hc2)
  have ht := cTop_le (wid w) (wid_range w).2 400000000 (by omega) ls hl
  have HX := Kept.mk (cRoot_of (wid w) ls)
  clear hr hl
  generalize cTop (wid w) ls = t at *
  go_enter Tryd.func15, Tryd.ntmps15
  go_wp2_with fail
  with_reducible refine HT.out.mono ?_
  rintro e w1 ⟨rfl, b1⟩
  go_wp2_with fail
  with_reducible refine (refMSum_any w t w1 (by omega)).mono ?_
  rintro e w2 ⟨rfl, b2⟩
  rw [HX.out]
  go_wp2_with fail
  go_ret
  exact ⟨rfl, bnext b1 b2⟩
set_option maxRecDepth 100000 in
set_option maxHeartbeats 2000000 in
theorem refValid_any (w : Int) (x y : List UInt8) (W : World) (hx : x.length ≤ 900000000) (hy : y.length ≤ 900000000) :
    Calls Tryd.prog 11 #[.int .i64 w, .string (str x), .string (str y)] W fun e w' => e = .returned (.bool (clV w x y)) ∧ Below W.heap.size W w' := by
  by_cases h : x = y
  · subst h
    rw [clV_self]
    go_enter Tryd.func11, Tryd.ntmps11
    go_wp2_with fail
    go_ret
    exact ⟨rfl, Below.refl _ _⟩
  · rw [clV_ne h]
    have tx := str_toList x
    have ty := str_toList y
    have HS1 := Kept.mk (fun w' => refMSum_any w x w' hx)
    have HS2 := Kept.mk (fun w' => refMSum_any w y w' hy)
    generalize tS (wid w) x = u at *
    generalize tS (wid w) y = v at *
    have su := str_toList u
    have sv := str_toList v
    by_cases hs : u = v
    · subst hs
      rw [decide_eq_true rfl]
      go_enter Tryd.func11, Tryd.ntmps11
      go_wp2_with fail
      with_reducible refine (HS1.out W).mono ?_
      rintro e w1 ⟨rfl, b1⟩
      go_wp2_with fail
      with_reducible refine (HS2.out w1).mono ?_
      rintro e w2 ⟨rfl, b2⟩
      have HB := Kept.mk (bnext b1 b2)
      clear b1 b2
      go_wp2_with fail
      go_ret
      refine ⟨?_, HB.out⟩
      show Ending.returned (Value.bool _) = _
      congr 2
      simp [h]
    · rw [decide_eq_false hs]
      go_enter Tryd.func11, Tryd.ntmps11
      go_wp2_with fail
      with_reducible refine (HS1.out W).mono ?_
      rintro e w1 ⟨rfl, b1⟩
      go_wp2_with fail
      with_reducible refine (HS2.out w1).mono ?_
      rintro e w2 ⟨rfl, b2⟩
      have HB := Kept.mk (bnext b1 b2)
      clear b1 b2
      go_wp2_with fail
      go_ret
      refine ⟨?_, HB.out⟩
      show Ending.returned (Value.bool _) = _
      congr 2
      simp [h, hs]
set_option maxRecDepth 100000 in
set_option maxHeartbeats 2000000 in
theorem clValid_any (w : Int) (x y : List UInt8) (W : World) (hk : KAt W) (hx : x.length ≤ 900000000) (hy : y.length ≤ 900000000) :
    Calls Tryd.prog 10 #[.int .i64 w, .string (str x), .string (str y)] W fun e w' => e = .returned (.bool (clV w x y)) ∧ Below W.heap.size W w' := by
  have HK := Kept.mk (fun w' (hb : Below W.heap.size W w') => hk.below hb)
  clear hk
  by_cases h : x = y
  · subst h
    rw [clV_self]
    go_enter Tryd.func10, Tryd.ntmps10
    go_wp2_with fail
    go_ret
    exact ⟨rfl, Below.refl _ _⟩
  · rw [clV_ne h]
    have tx := str_toList x
    have ty := str_toList y
    have HS1 := Kept.mk (fun w' T (hb : Below W.heap.size W w') => Sum_1 w x w' T (HK.out w' hb) hx)
    have HS2 := Kept.mk (fun w' T (hb : Below W.heap.size W w') => Sum_1 w y w' T (HK.out w' hb) hy)
    generalize tS (wid w) x = u at *
    generalize tS (wid w) y = v at *
    have su := str_toList u
    have sv := str_toList v
    by_cases hs : u = v
    · subst hs
      rw [decide_eq_true rfl]
      go_enter Tryd.func10, Tryd.ntmps10
      go_wp2_with fail
      with_reducible refine (HS1.out W _ (Below.refl _ _)).mono ?_
      rintro e w1 ⟨rfl, b1⟩
      go_wp2_with fail
      with_reducible refine (HS2.out w1 _ b1).mono ?_
      rintro e w2 ⟨rfl, b2⟩
      have HB := Kept.mk (bnext b1 b2)
      clear b1 b2
      go_wp2_with fail
      go_ret
      refine ⟨?_, HB.out⟩
      show Ending.returned (Value.bool _) = _
      congr 2
      simp [h]
    · rw [decide_eq_false hs]
      go_enter Tryd.func10, Tryd.ntmps10
      go_wp2_with fail
      with_reducible refine (HS1.out W _ (Below.refl _ _)).mono ?_
      rintro e w1 ⟨rfl, b1⟩
      go_wp2_with fail
      with_reducible refine (HS2.out w1 _ b1).mono ?_
      rintro e w2 ⟨rfl, b2⟩
      have HB := Kept.mk (bnext b1 b2)
      clear b1 b2
      go_wp2_with fail
      go_ret
      refine ⟨?_, HB.out⟩
      show Ending.returned (Value.bool _) = _
      congr 2
      simp [h, hs]
end Go.Proofs.YtkkcakblphebjaaDoor
