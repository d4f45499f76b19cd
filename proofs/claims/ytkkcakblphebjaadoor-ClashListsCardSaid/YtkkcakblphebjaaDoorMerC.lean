/- Trees of sums by definition: the sums, the root, each by a contract. -/
import Derived.Test.YtkkcakblphebjaaDoorMerA
import Derived.Test.YtkkcakblphebjaaDoorRfD
namespace Go.Proofs.YtkkcakblphebjaaDoor
set_option linter.unusedVariables false
set_option linter.unusedSimpArgs false
open Go.RowKit Go.Lib

set_option maxRecDepth 100000 in
theorem refWidth_any (w : Int) (W : World) : Calls Tryd.prog 38 #[.int .i64 w] W fun e w' => e = .returned (.int .i64 ((wid w : Nat) : Int)) ∧ W = w' := by
  by_cases h1 : w < 1
  · have h : wid w = 1 := by unfold wid; rw [if_pos h1]
    rw [h]
    go_enter Tryd.func38, Tryd.ntmps38
    go_wp2_with fail
    go_ret
    exact ⟨rfl, rfl⟩
  · by_cases h2 : 32 < w
    · have h : wid w = 32 := by unfold wid; rw [if_neg h1, if_pos h2]
      rw [h]
      go_enter Tryd.func38, Tryd.ntmps38
      go_wp2_with fail
      go_ret
      exact ⟨rfl, rfl⟩
    · have h : ((wid w : Nat) : Int) = w := by unfold wid; rw [if_neg h1, if_neg h2]; omega
      rw [h]
      go_enter Tryd.func38, Tryd.ntmps38
      go_wp2_with fail
      go_ret
      exact ⟨rfl, rfl⟩
section
attribute [local irreducible] str sSum wid

set_option maxRecDepth 100000 in
set_option maxHeartbeats 1000000 in
theorem refMSum_any (w : Int) (x : List UInt8) (W : World) (hl : x.length ≤ 900000000) :
    Calls Tryd.prog 27 #[.int .i64 w, .string (str x)] W fun e w' => e = .returned (.string (str (tS (wid w) x))) ∧ Below W.heap.size W w' := by
  have hw := wid_range w
  have hsl := sSum_length x
  have HT := Kept.mk (show (sSum x).take (wid w) = tS (wid w) x from rfl)
  go_enter Tryd.func27, Tryd.ntmps27
  go_wp2_with fail
  with_reducible refine (refSum_any x W hl).mono ?_
  rintro e w1 ⟨rfl, hb1⟩
  have HB := Kept.mk hb1
  clear hb1
  go_wp2_with fail
  with_reducible refine (refWidth_any w w1).mono ?_
  rintro e w2 ⟨rfl, rfl⟩
  have hst := str_take (sSum x) (wid w) (by omega)
  have hss := str_size (sSum x)
  rw [hsl] at hss
  rw [HT.out] at hst
  generalize hX : tS (wid w) x = X at *
  generalize hK : wid w = k at *
  generalize sSum x = Y at *
  have hk1 : k ≤ 32 := hw.2
  have HX := Kept.mk hX
  have HK := Kept.mk hK
  clear hX hK
  go_wp2_with fail
  go_ret
  exact ⟨by rw [HK.out, HX.out]; rfl, HB.out⟩
end
theorem lit_0 : ({ data := #[0] } : ByteArray) = str [0] := rfl
theorem lit_1 : ({ data := #[1] } : ByteArray) = str [1] := rfl
section
attribute [local irreducible] str sSum wid tS

set_option maxRecDepth 100000 in
set_option maxHeartbeats 1000000 in
theorem refLeaf_any (w : Int) (b : List UInt8) (W : World) (hl : b.length ≤ 800000000) :
    Calls Tryd.prog 19 #[.int .i64 w, .string (str b)] W fun e w' => e = .returned (.string (str (tLeaf (wid w) b))) ∧ Below W.heap.size W w' := by
  have HL := Kept.mk (show tLeaf (wid w) b = tS (wid w) (0 :: b) from rfl)
  have e0 := lit_0
  have a1 := str_append [0] b
  have s0 := str_size [0]
  have s1 := str_size b
  rw [List.length_singleton] at s0
  generalize hX : tLeaf (wid w) b = X at *
  go_enter Tryd.func19, Tryd.ntmps19
  go_wp2_with fail
  with_reducible refine (refMSum_any w (0 :: b) W (by rw [List.length_cons]; omega)).mono ?_
  rintro e w1 ⟨rfl, hb1⟩
  rw [← HL.out]
  go_wp2_with fail
  go_ret
  exact ⟨rfl, hb1⟩

set_option maxRecDepth 100000 in
set_option maxHeartbeats 1000000 in
theorem refNode_any (w : Int) (a b : List UInt8) (W : World) (hl : a.length + b.length ≤ 800000000) :
    Calls Tryd.prog 40 #[.int .i64 w, .string (str a), .string (str b)] W fun e w' => e = .returned (.string (str (tNode (wid w) a b))) ∧ Below W.heap.size W w' := by
  have HL := Kept.mk (show tNode (wid w) a b = tS (wid w) ([1] ++ a ++ b) from by simp [tNode])
  have e0 := lit_1
  have a1 := str_append [1] a
  have a2 := str_append ([1] ++ a) b
  have s0 := str_size [1]
  have s1 := str_size a
  have s2 := str_size b
  have s3 := str_size ([1] ++ a)
  rw [List.length_append, List.length_singleton] at s3
  rw [List.length_singleton] at s0
  have HZ := Kept.mk (show ([1] ++ a ++ b).length ≤ 900000000 from by rw [List.length_append, List.length_append, List.length_singleton]; omega)
  generalize hX : tNode (wid w) a b = X at *
  generalize hq : ([1] : List UInt8) ++ a = q at *
  generalize hr : q ++ b = r at *
  go_enter Tryd.func40, Tryd.ntmps40
  go_wp2_with fail
  with_reducible refine (refMSum_any w r W HZ.out).mono ?_
  rintro e w1 ⟨rfl, hb1⟩
  rw [← HL.out]
  go_wp2_with fail
  go_ret
  exact ⟨rfl, hb1⟩
end
end Go.Proofs.YtkkcakblphebjaaDoor
