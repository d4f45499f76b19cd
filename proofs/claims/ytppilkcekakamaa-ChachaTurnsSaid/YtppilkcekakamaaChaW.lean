/- Quarter rounds: the chapter's examples. -/
import Derived.Test.YtppilkcekakamaaChaQ
namespace Go.Proofs.Ytppilkcekakamaa
set_option linter.unusedVariables false
open Go.RowKit Go.Lib

theorem quart_lt (a b c d : Nat) (ha : a < 4294967296) (hb : b < 4294967296) (hc : c < 4294967296) (hd : d < 4294967296) :
    (quart a b c d).1 < 4294967296 ∧ (quart a b c d).2.1 < 4294967296 ∧ (quart a b c d).2.2.1 < 4294967296 ∧ (quart a b c d).2.2.2 < 4294967296 := by
  have d1 := rot_lt (xo d (ad a b)) 16 (xo_lt hd (ad_lt _ _)) (by omega)
  have b1 := rot_lt (xo b (ad c (rot (xo d (ad a b)) 16))) 12 (xo_lt hb (ad_lt _ _)) (by omega)
  simp only [quart]
  generalize rot (xo d (ad a b)) 16 = D1 at *
  generalize rot (xo b (ad c D1)) 12 = B1 at *
  exact ⟨ad_lt _ _, rot_lt _ 7 (xo_lt b1 (ad_lt _ _)) (by omega), ad_lt _ _, rot_lt _ 8 (xo_lt d1 (ad_lt _ _)) (by omega)⟩
theorem quartBack_lt (a b c d : Nat) (ha : a < 4294967296) (hb : b < 4294967296) (hc : c < 4294967296) (hd : d < 4294967296) :
    (quartBack a b c d).1 < 4294967296 ∧ (quartBack a b c d).2.1 < 4294967296 ∧ (quartBack a b c d).2.2.1 < 4294967296 ∧ (quartBack a b c d).2.2.2 < 4294967296 := by
  have b1 := xo_lt (rot_lt b 25 hb (by omega)) hc
  have d1 := xo_lt (rot_lt d 24 hd (by omega)) ha
  simp only [quartBack]
  generalize xo (rot b 25) c = B1 at *
  generalize xo (rot d 24) a = D1 at *
  exact ⟨su_lt _ _, xo_lt (rot_lt B1 20 b1 (by omega)) (su_lt _ _), su_lt _ _, xo_lt (rot_lt D1 16 d1 (by omega)) (su_lt _ _)⟩
theorem ex_quart : quart (low 286331153) (low 16909060) (low 2609737539) (low 19088743) = (3928658676, 3407673550, 1166100270, 1484899515) := by decide +kernel
attribute [local irreducible] quart quartBack low

set_option maxRecDepth 100000 in
set_option maxHeartbeats 1000000 in
theorem awake_any (w : World) :
    Calls Try.prog 17 #[] w fun e w' => e = .returned (.bool true) ∧ Below w.heap.size w w' := by
  go_enter Try.func17, Try.ntmps17
  go_wp2_with fail
  refine (Quarter_any _ _ _ _ _).mono ?_
  rintro e w1 ⟨rfl, hb1⟩
  rw [ex_quart]
  go_wp2_with fail
  go_ret
  exact ⟨rfl, hb1⟩
end Go.Proofs.Ytppilkcekakamaa
