/- The laws of layer 35 on numbers alone, walked by the contracts. -/
import Derived.Test.YthhoholfcoidmaaBound
namespace Go.Proofs.Ythhoholfcoidmaa
set_option linter.unusedVariables false
open Go.RowKit Go.Lib

theorem ex_1 : exN 1 0 = 52 ∧ exE 1 0 = 0 := by decide
theorem ex_5 : tkN 5 2 3 = 742 ∧ tkE 5 2 3 = 0 := by decide
theorem tkN_range (n k d : Int) : 0 ≤ tkN n k d ∧ tkN n k d ≤ 258 * 16000164 := by
  obtain ⟨x0, x1⟩ := exN_range k d
  unfold tkN; split
  · rename_i h
    unfold tkB at h
    rw [Bool.and_eq_true, decide_eq_true_iff] at h
    exact ⟨Int.mul_nonneg (by omega) x0, Int.mul_le_mul (by omega) x1 x0 (by omega)⟩
  · omega
theorem exV_mono {k d K D : Int} (h : exOk k d) (h1 : k ≤ K) (h2 : d ≤ D) : exV k d ≤ exV K D := by
  obtain ⟨a, b, c, e⟩ := h
  have := Int.mul_le_mul h1 h1 (by omega) (by omega : (0 : Int) ≤ K)
  unfold exV; omega
theorem tk_zero {n k d : Int} (h : tkE n k d = 0) : 1 ≤ n ∧ n ≤ 256 ∧ exOk k d := by
  unfold tkE at h
  split at h
  · rename_i hb
    unfold tkB at hb
    rw [Bool.and_eq_true, decide_eq_true_iff, exB_iff] at hb
    exact ⟨hb.1.1, hb.1.2, hb.2⟩
  · omega
theorem tk_of {n k d : Int} (h1 : 1 ≤ n) (h2 : n ≤ 256) (h : exOk k d) : tkN n k d = (n + 2) * exV k d ∧ tkE n k d = 0 := by
  have hb := (exB_iff k d).2 h
  have he : exE k d = 0 := by unfold exE; rw [if_pos hb]
  have hn : exN k d = exV k d := by unfold exN; rw [if_pos hb]
  have := tk_ok h1 h2 he
  rwa [hn] at this
theorem tk_grow {n k d N K D : Int} (h : tkE n k d = 0) (h1 : n ≤ N) (h2 : N ≤ 256) (h3 : k ≤ K) (h4 : K ≤ 1000) (h5 : d ≤ D) (h6 : D ≤ 64) : tkE N K D = 0 ∧ tkN n k d ≤ tkN N K D := by
  obtain ⟨a, b, c⟩ := tk_zero h
  have c2 : exOk K D := by unfold exOk at *; omega
  obtain ⟨e1, e2⟩ := tk_of a b c
  obtain ⟨e3, e4⟩ := tk_of (n := N) (by omega) h2 c2
  rw [e1, e3]
  have x := exV_mono c h3 h5
  have x0 := exV_range c
  exact ⟨e4, Int.mul_le_mul (by omega) x (by omega) (by omega)⟩
theorem tk_err {n k d : Int} (h : tkE n k d ≠ 0) : tkN n k d = 0 ∧ tkE n k d = 1 := by
  unfold tkE tkN at *; split <;> simp_all

attribute [local irreducible] exV exN exE tkN tkE

set_option maxRecDepth 100000 in
set_option maxHeartbeats 400000 in
theorem awake_any (w : World) :
    Calls Try.prog 10 #[] w fun e w' => e = .returned (.bool true) ∧ Below w.heap.size w w' := by
  go_enter Try.func10, Try.ntmps10
  go_wp2_with fail
  refine (exchange_any 1 0 _).mono ?_
  rintro e w1 ⟨rfl, hb1⟩
  rw [ex_1.1, ex_1.2]
  go_wp2_with fail
  refine (ticks_any 5 2 3 _).mono ?_
  rintro e w2 ⟨rfl, hb2⟩
  rw [ex_5.1, ex_5.2]
  go_wp2_with fail
  go_ret
  exact ⟨rfl, hb1.trans (hb2.mono hb1.size)⟩

set_option maxRecDepth 100000 in
set_option maxHeartbeats 400000 in
theorem boundTicks_walk (n k d : Int) (h0 : (Lit.int .i64 n).wf = true) (h1 : (Lit.int .i64 k).wf = true) (h2 : (Lit.int .i64 d).wf = true) (w : World) :
    Calls Try.prog 3 #[.int .i64 n, .int .i64 k, .int .i64 d] w fun e w' => e = .returned (.bool true) ∧ Below w.heap.size w w' := by
  obtain ⟨x0, x1⟩ := exE_range k d
  obtain ⟨y0, y1⟩ := tkE_range n k d
  go_enter Try.func3, Try.ntmps3
  go_wp2_with fail
  refine (exchange_any k d _).mono ?_
  rintro e w1 ⟨rfl, hb1⟩
  go_wp2_with fail
  refine (refExchange_any k d _).mono ?_
  rintro e w2 ⟨rfl, hb2⟩
  have hb2 := hb1.trans (hb2.mono hb1.size)
  clear hb1
  go_wp2_with fail
  refine (ticks_any n k d _).mono ?_
  rintro e w3 ⟨rfl, hb3⟩
  have hb3 := hb2.trans (hb3.mono hb2.size)
  clear hb2
  go_wp2_with fail
  refine (refTicks_any n k d _).mono ?_
  rintro e w4 ⟨rfl, hb4⟩
  have hb4 := hb3.trans (hb4.mono hb3.size)
  clear hb3
  go_wp2_with fail
  refine (awake_any _).mono ?_
  rintro e w5 ⟨rfl, hb5⟩
  go_wp2
  go_ret
  exact ⟨rfl, hb4.trans (hb5.mono hb4.size)⟩

theorem and_7 (n : Int) : bits .and .i64 n 7 = n % 8 := and_mask n 3 (by omega) 7 rfl

set_option maxRecDepth 100000 in
set_option maxHeartbeats 2000000 in
theorem boundGrows_walk (n k d more : Int) (h0 : (Lit.int .i64 n).wf = true) (h1 : (Lit.int .i64 k).wf = true) (h2 : (Lit.int .i64 d).wf = true) (h3 : (Lit.int .i64 more).wf = true) (w : World) :
    Calls Try.prog 5 #[.int .i64 n, .int .i64 k, .int .i64 d, .int .i64 more] w fun e w' => e = .returned (.bool true) ∧ Below w.heap.size w w' := by
  have hm := and_7 more
  have hm0 : 0 ≤ more % 8 := by omega
  have hm1 : more % 8 ≤ 7 := by omega
  generalize more % 8 = m at *
  by_cases he : tkE n k d = 0
  · obtain ⟨a, b, c⟩ := tk_zero he
    obtain ⟨c1, c2, c3, c4⟩ := c
    have hr := tkN_range n k d
    obtain ⟨hr0, hr1⟩ := hr
    have HE := Kept.mk he; clear he
    by_cases g1 : n + m ≤ 256
    · by_cases g2 : k + m ≤ 1000
      · by_cases g3 : d + m ≤ 64
        · obtain ⟨z1, l1⟩ := tk_grow (N := n + m) (K := k) (D := d) HE.out (by omega) (by omega) (by omega) (by omega) (by omega) (by omega)
          obtain ⟨z2, l2⟩ := tk_grow (N := n) (K := k + m) (D := d) HE.out (by omega) (by omega) (by omega) (by omega) (by omega) (by omega)
          obtain ⟨z3, l3⟩ := tk_grow (N := n) (K := k) (D := d + m) HE.out (by omega) (by omega) (by omega) (by omega) (by omega) (by omega)
          have Z1 := Kept.mk z1; clear z1
          have Z2 := Kept.mk z2; clear z2
          have Z3 := Kept.mk z3; clear z3
          go_enter Try.func5, Try.ntmps5
          go_wp2_with fail
          refine (ticks_any n k d _).mono ?_
          rintro e w1 ⟨rfl, hb1⟩
          rw [HE.out]
          go_wp2_with fail
          refine (ticks_any (n + m) k d _).mono ?_
          rintro e w2 ⟨rfl, hb2⟩
          have hb2 := hb1.trans (hb2.mono hb1.size)
          clear hb1
          rw [Z1.out]
          go_wp2_with fail
          refine (ticks_any n (k + m) d _).mono ?_
          rintro e w3 ⟨rfl, hb3⟩
          have hb3 := hb2.trans (hb3.mono hb2.size)
          clear hb2
          rw [Z2.out]
          go_wp2_with fail
          refine (ticks_any n k (d + m) _).mono ?_
          rintro e w4 ⟨rfl, hb4⟩
          have hb4 := hb3.trans (hb4.mono hb3.size)
          clear hb3
          rw [Z3.out]
          go_wp2_with fail
          refine (awake_any _).mono ?_
          rintro e w5 ⟨rfl, hb5⟩
          go_wp2
          go_ret
          exact ⟨rfl, hb4.trans (hb5.mono hb4.size)⟩
        · obtain ⟨z1, l1⟩ := tk_grow (N := n + m) (K := k) (D := d) HE.out (by omega) (by omega) (by omega) (by omega) (by omega) (by omega)
          obtain ⟨z2, l2⟩ := tk_grow (N := n) (K := k + m) (D := d) HE.out (by omega) (by omega) (by omega) (by omega) (by omega) (by omega)
          obtain ⟨z3, l3⟩ := tk_grow (N := n) (K := k) (D := 64) HE.out (by omega) (by omega) (by omega) (by omega) (by omega) (by omega)
          have Z1 := Kept.mk z1; clear z1
          have Z2 := Kept.mk z2; clear z2
          have Z3 := Kept.mk z3; clear z3
          go_enter Try.func5, Try.ntmps5
          go_wp2_with fail
          refine (ticks_any n k d _).mono ?_
          rintro e w1 ⟨rfl, hb1⟩
          rw [HE.out]
          go_wp2_with fail
          refine (ticks_any (n + m) k d _).mono ?_
          rintro e w2 ⟨rfl, hb2⟩
          have hb2 := hb1.trans (hb2.mono hb1.size)
          clear hb1
          rw [Z1.out]
          go_wp2_with fail
          refine (ticks_any n (k + m) d _).mono ?_
          rintro e w3 ⟨rfl, hb3⟩
          have hb3 := hb2.trans (hb3.mono hb2.size)
          clear hb2
          rw [Z2.out]
          go_wp2_with fail
          refine (ticks_any n k (64) _).mono ?_
          rintro e w4 ⟨rfl, hb4⟩
          have hb4 := hb3.trans (hb4.mono hb3.size)
          clear hb3
          rw [Z3.out]
          go_wp2_with fail
          refine (awake_any _).mono ?_
          rintro e w5 ⟨rfl, hb5⟩
          go_wp2
          go_ret
          exact ⟨rfl, hb4.trans (hb5.mono hb4.size)⟩
      · by_cases g3 : d + m ≤ 64
        · obtain ⟨z1, l1⟩ := tk_grow (N := n + m) (K := k) (D := d) HE.out (by omega) (by omega) (by omega) (by omega) (by omega) (by omega)
          obtain ⟨z2, l2⟩ := tk_grow (N := n) (K := 1000) (D := d) HE.out (by omega) (by omega) (by omega) (by omega) (by omega) (by omega)
          obtain ⟨z3, l3⟩ := tk_grow (N := n) (K := k) (D := d + m) HE.out (by omega) (by omega) (by omega) (by omega) (by omega) (by omega)
          have Z1 := Kept.mk z1; clear z1
          have Z2 := Kept.mk z2; clear z2
          have Z3 := Kept.mk z3; clear z3
          go_enter Try.func5, Try.ntmps5
          go_wp2_with fail
          refine (ticks_any n k d _).mono ?_
          rintro e w1 ⟨rfl, hb1⟩
          rw [HE.out]
          go_wp2_with fail
          refine (ticks_any (n + m) k d _).mono ?_
          rintro e w2 ⟨rfl, hb2⟩
          have hb2 := hb1.trans (hb2.mono hb1.size)
          clear hb1
          rw [Z1.out]
          go_wp2_with fail
          refine (ticks_any n (1000) d _).mono ?_
          rintro e w3 ⟨rfl, hb3⟩
          have hb3 := hb2.trans (hb3.mono hb2.size)
          clear hb2
          rw [Z2.out]
          go_wp2_with fail
          refine (ticks_any n k (d + m) _).mono ?_
          rintro e w4 ⟨rfl, hb4⟩
          have hb4 := hb3.trans (hb4.mono hb3.size)
          clear hb3
          rw [Z3.out]
          go_wp2_with fail
          refine (awake_any _).mono ?_
          rintro e w5 ⟨rfl, hb5⟩
          go_wp2
          go_ret
          exact ⟨rfl, hb4.trans (hb5.mono hb4.size)⟩
        · obtain ⟨z1, l1⟩ := tk_grow (N := n + m) (K := k) (D := d) HE.out (by omega) (by omega) (by omega) (by omega) (by omega) (by omega)
          obtain ⟨z2, l2⟩ := tk_grow (N := n) (K := 1000) (D := d) HE.out (by omega) (by omega) (by omega) (by omega) (by omega) (by omega)
          obtain ⟨z3, l3⟩ := tk_grow (N := n) (K := k) (D := 64) HE.out (by omega) (by omega) (by omega) (by omega) (by omega) (by omega)
          have Z1 := Kept.mk z1; clear z1
          have Z2 := Kept.mk z2; clear z2
          have Z3 := Kept.mk z3; clear z3
          go_enter Try.func5, Try.ntmps5
          go_wp2_with fail
          refine (ticks_any n k d _).mono ?_
          rintro e w1 ⟨rfl, hb1⟩
          rw [HE.out]
          go_wp2_with fail
          refine (ticks_any (n + m) k d _).mono ?_
          rintro e w2 ⟨rfl, hb2⟩
          have hb2 := hb1.trans (hb2.mono hb1.size)
          clear hb1
          rw [Z1.out]
          go_wp2_with fail
          refine (ticks_any n (1000) d _).mono ?_
          rintro e w3 ⟨rfl, hb3⟩
          have hb3 := hb2.trans (hb3.mono hb2.size)
          clear hb2
          rw [Z2.out]
          go_wp2_with fail
          refine (ticks_any n k (64) _).mono ?_
          rintro e w4 ⟨rfl, hb4⟩
          have hb4 := hb3.trans (hb4.mono hb3.size)
          clear hb3
          rw [Z3.out]
          go_wp2_with fail
          refine (awake_any _).mono ?_
          rintro e w5 ⟨rfl, hb5⟩
          go_wp2
          go_ret
          exact ⟨rfl, hb4.trans (hb5.mono hb4.size)⟩
    · by_cases g2 : k + m ≤ 1000
      · by_cases g3 : d + m ≤ 64
        · obtain ⟨z1, l1⟩ := tk_grow (N := 256) (K := k) (D := d) HE.out (by omega) (by omega) (by omega) (by omega) (by omega) (by omega)
          obtain ⟨z2, l2⟩ := tk_grow (N := n) (K := k + m) (D := d) HE.out (by omega) (by omega) (by omega) (by omega) (by omega) (by omega)
          obtain ⟨z3, l3⟩ := tk_grow (N := n) (K := k) (D := d + m) HE.out (by omega) (by omega) (by omega) (by omega) (by omega) (by omega)
          have Z1 := Kept.mk z1; clear z1
          have Z2 := Kept.mk z2; clear z2
          have Z3 := Kept.mk z3; clear z3
          go_enter Try.func5, Try.ntmps5
          go_wp2_with fail
          refine (ticks_any n k d _).mono ?_
          rintro e w1 ⟨rfl, hb1⟩
          rw [HE.out]
          go_wp2_with fail
          refine (ticks_any (256) k d _).mono ?_
          rintro e w2 ⟨rfl, hb2⟩
          have hb2 := hb1.trans (hb2.mono hb1.size)
          clear hb1
          rw [Z1.out]
          go_wp2_with fail
          refine (ticks_any n (k + m) d _).mono ?_
          rintro e w3 ⟨rfl, hb3⟩
          have hb3 := hb2.trans (hb3.mono hb2.size)
          clear hb2
          rw [Z2.out]
          go_wp2_with fail
          refine (ticks_any n k (d + m) _).mono ?_
          rintro e w4 ⟨rfl, hb4⟩
          have hb4 := hb3.trans (hb4.mono hb3.size)
          clear hb3
          rw [Z3.out]
          go_wp2_with fail
          refine (awake_any _).mono ?_
          rintro e w5 ⟨rfl, hb5⟩
          go_wp2
          go_ret
          exact ⟨rfl, hb4.trans (hb5.mono hb4.size)⟩
        · obtain ⟨z1, l1⟩ := tk_grow (N := 256) (K := k) (D := d) HE.out (by omega) (by omega) (by omega) (by omega) (by omega) (by omega)
          obtain ⟨z2, l2⟩ := tk_grow (N := n) (K := k + m) (D := d) HE.out (by omega) (by omega) (by omega) (by omega) (by omega) (by omega)
          obtain ⟨z3, l3⟩ := tk_grow (N := n) (K := k) (D := 64) HE.out (by omega) (by omega) (by omega) (by omega) (by omega) (by omega)
          have Z1 := Kept.mk z1; clear z1
          have Z2 := Kept.mk z2; clear z2
          have Z3 := Kept.mk z3; clear z3
          go_enter Try.func5, Try.ntmps5
          go_wp2_with fail
          refine (ticks_any n k d _).mono ?_
          rintro e w1 ⟨rfl, hb1⟩
          rw [HE.out]
          go_wp2_with fail
          refine (ticks_any (256) k d _).mono ?_
          rintro e w2 ⟨rfl, hb2⟩
          have hb2 := hb1.trans (hb2.mono hb1.size)
          clear hb1
          rw [Z1.out]
          go_wp2_with fail
          refine (ticks_any n (k + m) d _).mono ?_
          rintro e w3 ⟨rfl, hb3⟩
          have hb3 := hb2.trans (hb3.mono hb2.size)
          clear hb2
          rw [Z2.out]
          go_wp2_with fail
          refine (ticks_any n k (64) _).mono ?_
          rintro e w4 ⟨rfl, hb4⟩
          have hb4 := hb3.trans (hb4.mono hb3.size)
          clear hb3
          rw [Z3.out]
          go_wp2_with fail
          refine (awake_any _).mono ?_
          rintro e w5 ⟨rfl, hb5⟩
          go_wp2
          go_ret
          exact ⟨rfl, hb4.trans (hb5.mono hb4.size)⟩
      · by_cases g3 : d + m ≤ 64
        · obtain ⟨z1, l1⟩ := tk_grow (N := 256) (K := k) (D := d) HE.out (by omega) (by omega) (by omega) (by omega) (by omega) (by omega)
          obtain ⟨z2, l2⟩ := tk_grow (N := n) (K := 1000) (D := d) HE.out (by omega) (by omega) (by omega) (by omega) (by omega) (by omega)
          obtain ⟨z3, l3⟩ := tk_grow (N := n) (K := k) (D := d + m) HE.out (by omega) (by omega) (by omega) (by omega) (by omega) (by omega)
          have Z1 := Kept.mk z1; clear z1
          have Z2 := Kept.mk z2; clear z2
          have Z3 := Kept.mk z3; clear z3
          go_enter Try.func5, Try.ntmps5
          go_wp2_with fail
          refine (ticks_any n k d _).mono ?_
          rintro e w1 ⟨rfl, hb1⟩
          rw [HE.out]
          go_wp2_with fail
          refine (ticks_any (256) k d _).mono ?_
          rintro e w2 ⟨rfl, hb2⟩
          have hb2 := hb1.trans (hb2.mono hb1.size)
          clear hb1
          rw [Z1.out]
          go_wp2_with fail
          refine (ticks_any n (1000) d _).mono ?_
          rintro e w3 ⟨rfl, hb3⟩
          have hb3 := hb2.trans (hb3.mono hb2.size)
          clear hb2
          rw [Z2.out]
          go_wp2_with fail
          refine (ticks_any n k (d + m) _).mono ?_
          rintro e w4 ⟨rfl, hb4⟩
          have hb4 := hb3.trans (hb4.mono hb3.size)
          clear hb3
          rw [Z3.out]
          go_wp2_with fail
          refine (awake_any _).mono ?_
          rintro e w5 ⟨rfl, hb5⟩
          go_wp2
          go_ret
          exact ⟨rfl, hb4.trans (hb5.mono hb4.size)⟩
        · obtain ⟨z1, l1⟩ := tk_grow (N := 256) (K := k) (D := d) HE.out (by omega) (by omega) (by omega) (by omega) (by omega) (by omega)
          obtain ⟨z2, l2⟩ := tk_grow (N := n) (K := 1000) (D := d) HE.out (by omega) (by omega) (by omega) (by omega) (by omega) (by omega)
          obtain ⟨z3, l3⟩ := tk_grow (N := n) (K := k) (D := 64) HE.out (by omega) (by omega) (by omega) (by omega) (by omega) (by omega)
          have Z1 := Kept.mk z1; clear z1
          have Z2 := Kept.mk z2; clear z2
          have Z3 := Kept.mk z3; clear z3
          go_enter Try.func5, Try.ntmps5
          go_wp2_with fail
          refine (ticks_any n k d _).mono ?_
          rintro e w1 ⟨rfl, hb1⟩
          rw [HE.out]
          go_wp2_with fail
          refine (ticks_any (256) k d _).mono ?_
          rintro e w2 ⟨rfl, hb2⟩
          have hb2 := hb1.trans (hb2.mono hb1.size)
          clear hb1
          rw [Z1.out]
          go_wp2_with fail
          refine (ticks_any n (1000) d _).mono ?_
          rintro e w3 ⟨rfl, hb3⟩
          have hb3 := hb2.trans (hb3.mono hb2.size)
          clear hb2
          rw [Z2.out]
          go_wp2_with fail
          refine (ticks_any n k (64) _).mono ?_
          rintro e w4 ⟨rfl, hb4⟩
          have hb4 := hb3.trans (hb4.mono hb3.size)
          clear hb3
          rw [Z3.out]
          go_wp2_with fail
          refine (awake_any _).mono ?_
          rintro e w5 ⟨rfl, hb5⟩
          go_wp2
          go_ret
          exact ⟨rfl, hb4.trans (hb5.mono hb4.size)⟩
  · obtain ⟨e1, e2⟩ := tk_err he
    clear he
    have E1 := Kept.mk e1; clear e1
    have E2 := Kept.mk e2; clear e2
    go_enter Try.func5, Try.ntmps5
    go_wp2_with fail
    refine (ticks_any n k d _).mono ?_
    rintro e w1 ⟨rfl, hb1⟩
    rw [E1.out, E2.out]
    go_wp2_with fail
    refine (awake_any _).mono ?_
    rintro e w5 ⟨rfl, hb5⟩
    go_wp2
    go_ret
    exact ⟨rfl, hb1.trans (hb5.mono hb1.size)⟩

end Go.Proofs.Ythhoholfcoidmaa
