/- Two laws of layer 4, walked by the contracts. -/
import Derived.Test.YtjfhodppapbeiaaChaE
namespace Go.Proofs.Ytjfhodppapbeiaa
set_option linter.unusedVariables false
open Go.RowKit Go.Lib

theorem quart_lt (a b c d : Nat) (ha : a < 4294967296) (hb : b < 4294967296) (hc : c < 4294967296) (hd : d < 4294967296) :
    (quart a b c d).1 < 4294967296 ∧ (quart a b c d).2.1 < 4294967296 ∧ (quart a b c d).2.2.1 < 4294967296 ∧ (quart a b c d).2.2.2 < 4294967296 := by
  have d1 := rot_lt (xo d (ad a b)) 16 (xo_lt hd (ad_lt _ _)) (by omega)
  have b1 := rot_lt (xo b (ad c (rot (xo d (ad a b)) 16))) 12 (xo_lt hb (ad_lt _ _)) (by omega)
  simp only [quart]
  generalize rot (xo d (ad a b)) 16 = D1 at *
  generalize rot (xo b (ad c D1)) 12 = B1 at *
  exact ⟨ad_lt _ _, rot_lt _ 7 (xo_lt b1 (ad_lt _ _)) (by omega), ad_lt _ _, rot_lt _ 8 (xo_lt d1 (ad_lt _ _)) (by omega)⟩
theorem quartBack_lt (a b c d : Nat) (ha : a < 4294967296) (hb : b < 4294967296) (hc : c < 4294967296) (hd : d < 4294967296) :
    (quartBack a b c d).1 < 4294967296 ∧ (quartBack a b c d).2.1 < 4294967296 ∧ (quartBack a b c d).2.2.1 < 4294967296 ∧ (quartBack a b c d).2.2.2 < 4294967296 := by
  have b1 := xo_lt (rot_lt b 25 hb (by omega)) hc
  have d1 := xo_lt (rot_lt d 24 hd (by omega)) ha
  simp only [quartBack]
  generalize xo (rot b 25) c = B1 at *
  generalize xo (rot d 24) a = D1 at *
  exact ⟨su_lt _ _, xo_lt (rot_lt B1 20 b1 (by omega)) (su_lt _ _), su_lt _ _, xo_lt (rot_lt D1 16 d1 (by omega)) (su_lt _ _)⟩
theorem ex_quart : quart (low 286331153) (low 16909060) (low 2609737539) (low 19088743) = (3928658676, 3407673550, 1166100270, 1484899515) := by decide +kernel
attribute [local irreducible] quart quartBack low

set_option maxRecDepth 100000 in
set_option maxHeartbeats 1000000 in
theorem awake_any (w : World) :
    Calls Try.prog 11 #[] w fun e w' => e = .returned (.bool true) ∧ Below w.heap.size w w' := by
  go_enter Try.func11, Try.ntmps11
  go_wp2_with fail
  refine (Quarter_any _ _ _ _ _).mono ?_
  rintro e w1 ⟨rfl, hb1⟩
  rw [ex_quart]
  go_wp2_with fail
  go_ret
  exact ⟨rfl, hb1⟩

set_option maxRecDepth 100000 in
set_option maxHeartbeats 1000000 in
theorem chachaQuarters_walk (a b c d : Int) (h0 : (Lit.int .i64 a).wf = true) (h1 : (Lit.int .i64 b).wf = true) (h2 : (Lit.int .i64 c).wf = true) (h3 : (Lit.int .i64 d).wf = true) (w : World) :
    Calls Try.prog 3 #[.int .i64 a, .int .i64 b, .int .i64 c, .int .i64 d] w fun e w' => e = .returned (.bool true) ∧ Below w.heap.size w w' := by
  go_enter Try.func3, Try.ntmps3
  go_wp2_with fail
  refine (Quarter_any a b c d _).mono ?_
  rintro e w1 ⟨rfl, hb1⟩
  go_wp2_with fail
  refine (refQuarter_any a b c d _).mono ?_
  rintro e w2 ⟨rfl, hb2⟩
  have hb2 := hb1.trans (hb2.mono hb1.size)
  clear hb1
  generalize quart (low a) (low b) (low c) (low d) = q at *
  go_wp2_with fail
  refine (awake_any _).mono ?_
  rintro e w3 ⟨rfl, hb3⟩
  go_wp2
  go_ret
  exact ⟨rfl, hb2.trans (hb3.mono hb2.size)⟩

set_option maxRecDepth 100000 in
set_option maxHeartbeats 2000000 in
theorem chachaBack_walk (a b c d : Int) (h0 : (Lit.int .i64 a).wf = true) (h1 : (Lit.int .i64 b).wf = true) (h2 : (Lit.int .i64 c).wf = true) (h3 : (Lit.int .i64 d).wf = true) (w : World) :
    Calls Try.prog 4 #[.int .i64 a, .int .i64 b, .int .i64 c, .int .i64 d] w fun e w' => e = .returned (.bool true) ∧ Below w.heap.size w w' := by
  have hqb := back_quart (low_lt a) (low_lt b) (low_lt c) (low_lt d)
  have hbq := quart_back (low_lt a) (low_lt b) (low_lt c) (low_lt d)
  have hq := quart_lt (low a) (low b) (low c) (low d) (low_lt a) (low_lt b) (low_lt c) (low_lt d)
  have hk := quartBack_lt (low a) (low b) (low c) (low d) (low_lt a) (low_lt b) (low_lt c) (low_lt d)
  have ea : bits .and .i64 a 4294967295 = (low a : Int) := (and_word a).trans (low_eq a)
  have eb : bits .and .i64 b 4294967295 = (low b : Int) := (and_word b).trans (low_eq b)
  have ec : bits .and .i64 c 4294967295 = (low c : Int) := (and_word c).trans (low_eq c)
  have ed : bits .and .i64 d 4294967295 = (low d : Int) := (and_word d).trans (low_eq d)
  generalize hQ : quart (low a) (low b) (low c) (low d) = q at *
  generalize hK : quartBack (low a) (low b) (low c) (low d) = k at *
  obtain ⟨q0, q1, q2, q3⟩ := q
  obtain ⟨k0, k1, k2, k3⟩ := k
  dsimp only at hqb hbq hq hk
  have HQ := Kept.mk hQ; clear hQ
  have HK := Kept.mk hK; clear hK
  have HQB := Kept.mk hqb; clear hqb
  have HBQ := Kept.mk hbq; clear hbq
  obtain ⟨s0, s1, s2, s3⟩ := hq
  obtain ⟨t0, t1, t2, t3⟩ := hk
  go_enter Try.func4, Try.ntmps4
  go_wp2_with fail
  refine (Quarter_any a b c d _).mono ?_
  rintro e w1 ⟨rfl, hb1⟩
  rw [HQ.out]
  go_wp2_with fail
  refine (Back_any _ _ _ _ _).mono ?_
  rintro e w2 ⟨rfl, hb2⟩
  have hb2 := hb1.trans (hb2.mono hb1.size)
  clear hb1
  rw [low_word q0 s0, low_word q1 s1, low_word q2 s2, low_word q3 s3, HQB.out]
  go_wp2_with fail
  refine (Back_any a b c d _).mono ?_
  rintro e w3 ⟨rfl, hb3⟩
  have hb3 := hb2.trans (hb3.mono hb2.size)
  clear hb2
  rw [HK.out]
  go_wp2_with fail
  refine (Quarter_any _ _ _ _ _).mono ?_
  rintro e w4 ⟨rfl, hb4⟩
  have hb4 := hb3.trans (hb4.mono hb3.size)
  clear hb3
  rw [low_word k0 t0, low_word k1 t1, low_word k2 t2, low_word k3 t3, HBQ.out]
  go_wp2_with fail
  refine (awake_any _).mono ?_
  rintro e w5 ⟨rfl, hb5⟩
  go_wp2
  go_ret
  exact ⟨rfl, hb4.trans (hb5.mono hb4.size)⟩
end Go.Proofs.Ytjfhodppapbeiaa
