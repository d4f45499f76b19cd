/- Bounds: Exchange and Ticks of package bound and of the reference, each by a contract. -/
import Derived.Test.YtppilkcekakamaaKit
namespace Go.Proofs.Ytppilkcekakamaa
set_option linter.unusedVariables false
open Go.RowKit Go.Lib

def exOk (k d : Int) : Prop := 1 ≤ k ∧ k ≤ 1000 ∧ 0 ≤ d ∧ d ≤ 64
def exV (k d : Int) : Int := 16 * (k * k + 2) + 2 * (d + 2)
theorem sq_range {k : Int} (h0 : 1 ≤ k) (h1 : k ≤ 1000) : 1 ≤ k * k ∧ k * k ≤ 1000000 := by
  constructor
  · have := Int.mul_le_mul h0 h0 (by omega) (by omega); simpa using this
  · have := Int.mul_le_mul h1 h1 (by omega) (by omega : (0 : Int) ≤ 1000); simpa using this
theorem exV_range {k d : Int} (h : exOk k d) : 52 ≤ exV k d ∧ exV k d ≤ 16000164 := by
  obtain ⟨a, b, c, e⟩ := h
  have := sq_range a b
  unfold exV; omega
theorem exOk_not {k d : Int} (h : ¬ exOk k d) : k < 1 ∨ 1000 < k ∨ d < 0 ∨ 64 < d := by
  unfold exOk at h; omega

set_option maxHeartbeats 400000 in
theorem exchange_ok (k d : Int) (w : World) (h : exOk k d) :
    Calls Try.prog 72 #[.int .i64 k, .int .i64 d] w fun e w' => e = .returned (.tuple #[.int .i64 (exV k d), .int .i64 0]) ∧ Below w.heap.size w w' := by
  obtain ⟨a, b, c, e⟩ := h
  have hs := sq_range a b
  obtain ⟨hs0, hs1⟩ := hs
  go_enter Try.func72, Try.ntmps72
  go_wp2_with fail
  go_ret2
  exact ⟨rfl, Below.refl _ _⟩
set_option maxHeartbeats 400000 in
theorem exchange_no (k d : Int) (w : World) (h : ¬ exOk k d) :
    Calls Try.prog 72 #[.int .i64 k, .int .i64 d] w fun e w' => e = .returned (.tuple #[.int .i64 0, .int .i64 1]) ∧ Below w.heap.size w w' := by
  have hn := exOk_not h
  by_cases h1 : k < 1
  · go_enter Try.func72, Try.ntmps72
    go_wp2_with fail
    go_ret2
    exact ⟨rfl, Below.refl _ _⟩
  by_cases h2 : 1000 < k
  · go_enter Try.func72, Try.ntmps72
    go_wp2_with fail
    go_ret2
    exact ⟨rfl, Below.refl _ _⟩
  by_cases h3 : d < 0
  · go_enter Try.func72, Try.ntmps72
    go_wp2_with fail
    go_ret2
    exact ⟨rfl, Below.refl _ _⟩
  · have h4 : 64 < d := by omega
    clear hn
    go_enter Try.func72, Try.ntmps72
    go_wp2_with fail
    go_ret2
    exact ⟨rfl, Below.refl _ _⟩
theorem sq16 (k : Int) : 16 * k * k = 16 * (k * k) := Int.mul_assoc ..
set_option maxHeartbeats 400000 in
theorem refExchange_ok (k d : Int) (w : World) (h : exOk k d) :
    Calls Try.prog 86 #[.int .i64 k, .int .i64 d] w fun e w' => e = .returned (.tuple #[.int .i64 (exV k d), .int .i64 0]) ∧ Below w.heap.size w w' := by
  obtain ⟨a, b, c, e⟩ := h
  have hs := sq_range a b
  obtain ⟨hs0, hs1⟩ := hs
  have e1 := sq16 k
  have h0 : 16 ≤ 16 * k * k := by omega
  have h1 : 16 * k * k ≤ 16000000 := by omega
  have hv : exV k d = 16 * k * k + 32 + 2 * d + 4 := by unfold exV; omega
  have HV := Kept.mk hv; clear hv e1 hs0 hs1
  go_enter Try.func86, Try.ntmps86
  go_wp2_with fail
  go_ret2
  exact ⟨by rw [HV.out]; rfl, Below.refl _ _⟩
set_option maxHeartbeats 400000 in
theorem refExchange_no (k d : Int) (w : World) (h : ¬ exOk k d) :
    Calls Try.prog 86 #[.int .i64 k, .int .i64 d] w fun e w' => e = .returned (.tuple #[.int .i64 0, .int .i64 1]) ∧ Below w.heap.size w w' := by
  have hn := exOk_not h
  by_cases h1 : k < 1
  · go_enter Try.func86, Try.ntmps86
    go_wp2_with fail
    go_ret2
    exact ⟨rfl, Below.refl _ _⟩
  by_cases h2 : 1000 < k
  · go_enter Try.func86, Try.ntmps86
    go_wp2_with fail
    go_ret2
    exact ⟨rfl, Below.refl _ _⟩
  by_cases h3 : d < 0
  · go_enter Try.func86, Try.ntmps86
    go_wp2_with fail
    go_ret2
    exact ⟨rfl, Below.refl _ _⟩
  · have h4 : 64 < d := by omega
    clear hn
    go_enter Try.func86, Try.ntmps86
    go_wp2_with fail
    go_ret2
    exact ⟨rfl, Below.refl _ _⟩

/-- what Exchange tells -/
def exB (k d : Int) : Bool := decide (1 ≤ k ∧ k ≤ 1000 ∧ 0 ≤ d ∧ d ≤ 64)
def exN (k d : Int) : Int := if exB k d = true then exV k d else 0
def exE (k d : Int) : Int := if exB k d = true then 0 else 1
theorem exB_iff (k d : Int) : exB k d = true ↔ exOk k d := by unfold exB exOk; exact decide_eq_true_iff
theorem exE_range (k d : Int) : 0 ≤ exE k d ∧ exE k d ≤ 1 := by unfold exE; split <;> omega
theorem exN_range (k d : Int) : 0 ≤ exN k d ∧ exN k d ≤ 16000164 := by
  unfold exN; split
  · rename_i h; have := exV_range ((exB_iff k d).1 h); omega
  · omega
theorem exchange_any (k d : Int) (w : World) :
    Calls Try.prog 72 #[.int .i64 k, .int .i64 d] w fun e w' => e = .returned (.tuple #[.int .i64 (exN k d), .int .i64 (exE k d)]) ∧ Below w.heap.size w w' := by
  by_cases h : exB k d = true
  · unfold exN exE; rw [if_pos h, if_pos h]; exact exchange_ok k d w ((exB_iff k d).1 h)
  · unfold exN exE; rw [if_neg h, if_neg h]; exact exchange_no k d w (fun g => h ((exB_iff k d).2 g))
theorem refExchange_any (k d : Int) (w : World) :
    Calls Try.prog 86 #[.int .i64 k, .int .i64 d] w fun e w' => e = .returned (.tuple #[.int .i64 (exN k d), .int .i64 (exE k d)]) ∧ Below w.heap.size w w' := by
  by_cases h : exB k d = true
  · unfold exN exE; rw [if_pos h, if_pos h]; exact refExchange_ok k d w ((exB_iff k d).1 h)
  · unfold exN exE; rw [if_neg h, if_neg h]; exact refExchange_no k d w (fun g => h ((exB_iff k d).2 g))
theorem exE_zero {k d : Int} (h : exE k d ≠ 0) : exN k d = 0 ∧ exE k d = 1 := by
  unfold exE exN at *; split <;> simp_all

/-- what Ticks tells -/
def tkB (n k d : Int) : Bool := decide (1 ≤ n ∧ n ≤ 256) && exB k d
def tkN (n k d : Int) : Int := if tkB n k d = true then (n + 2) * exN k d else 0
def tkE (n k d : Int) : Int := if tkB n k d = true then 0 else 1
theorem tkE_range (n k d : Int) : 0 ≤ tkE n k d ∧ tkE n k d ≤ 1 := by unfold tkE; split <;> omega
theorem tk_far {n k d : Int} (h : n < 1 ∨ 256 < n) : tkN n k d = 0 ∧ tkE n k d = 1 := by
  have : tkB n k d = false := by unfold tkB; rw [decide_eq_false (by omega)]; rfl
  unfold tkN tkE; rw [this]; exact ⟨rfl, rfl⟩
theorem tk_ex {n k d : Int} (h : exE k d ≠ 0) : tkN n k d = 0 ∧ tkE n k d = 1 := by
  have h2 : exB k d = false := by
    unfold exE at h
    cases hb : exB k d with
    | false => rfl
    | true => rw [hb] at h; simp at h
  have : tkB n k d = false := by unfold tkB; rw [h2, Bool.and_false]
  unfold tkN tkE; rw [this]; exact ⟨rfl, rfl⟩
theorem tk_ok {n k d : Int} (h1 : 1 ≤ n) (h2 : n ≤ 256) (h : exE k d = 0) : tkN n k d = (n + 2) * exN k d ∧ tkE n k d = 0 := by
  have h3 : exB k d = true := by
    unfold exE at h
    cases hb : exB k d with
    | true => rfl
    | false => rw [hb] at h; simp at h
  have : tkB n k d = true := by unfold tkB; rw [decide_eq_true ⟨h1, h2⟩, h3]; rfl
  unfold tkN tkE; rw [this]; exact ⟨rfl, rfl⟩

attribute [local irreducible] exV exN exE tkN tkE

set_option maxHeartbeats 400000 in
theorem ticks_any (n k d : Int) (w : World) :
    Calls Try.prog 69 #[.int .i64 n, .int .i64 k, .int .i64 d] w fun e w' => e = .returned (.tuple #[.int .i64 (tkN n k d), .int .i64 (tkE n k d)]) ∧ Below w.heap.size w w' := by
  by_cases h : n < 1 ∨ 256 < n
  · obtain ⟨e1, e2⟩ := tk_far (k := k) (d := d) h
    rw [e1, e2]
    clear e1 e2
    by_cases h1 : n < 1
    · go_enter Try.func69, Try.ntmps69
      go_wp2_with fail
      go_ret2
      exact ⟨rfl, Below.refl _ _⟩
    · have h2 : 256 < n := by omega
      clear h
      go_enter Try.func69, Try.ntmps69
      go_wp2_with fail
      go_ret2
      exact ⟨rfl, Below.refl _ _⟩
  · have h1 : 1 ≤ n := by omega
    have h2 : n ≤ 256 := by omega
    clear h
    obtain ⟨x0, x1⟩ := exN_range k d
    have p0 : 0 ≤ (n + 2) * exN k d := Int.mul_nonneg (by omega) x0
    have p1 : (n + 2) * exN k d ≤ 258 * 16000164 := Int.mul_le_mul (by omega) x1 x0 (by omega)
    by_cases h : exE k d = 0
    · obtain ⟨e1, e2⟩ := tk_ok h1 h2 h
      rw [e1, e2]
      clear e1 e2
      have H := Kept.mk h; clear h
      go_enter Try.func69, Try.ntmps69
      go_wp2_with fail
      refine (exchange_any k d _).mono ?_
      rintro e w1 ⟨rfl, hb1⟩
      rw [H.out]
      go_wp2_with fail
      go_ret2
      exact ⟨rfl, hb1⟩
    · obtain ⟨e1, e2⟩ := tk_ex (n := n) h
      rw [e1, e2]
      obtain ⟨_, e3⟩ := exE_zero h
      clear e1 e2 h
      have H := Kept.mk e3; clear e3
      go_enter Try.func69, Try.ntmps69
      go_wp2_with fail
      refine (exchange_any k d _).mono ?_
      rintro e w1 ⟨rfl, hb1⟩
      rw [H.out]
      go_wp2_with fail
      go_ret2
      exact ⟨rfl, hb1⟩

set_option maxHeartbeats 400000 in
theorem refTicks_any (n k d : Int) (w : World) :
    Calls Try.prog 71 #[.int .i64 n, .int .i64 k, .int .i64 d] w fun e w' => e = .returned (.tuple #[.int .i64 (tkN n k d), .int .i64 (tkE n k d)]) ∧ Below w.heap.size w w' := by
  obtain ⟨x0, x1⟩ := exN_range k d
  by_cases h : n < 1 ∨ 256 < n
  · obtain ⟨e1, e2⟩ := tk_far (k := k) (d := d) h
    rw [e1, e2]
    clear e1 e2
    by_cases h1 : n < 1
    · go_enter Try.func71, Try.ntmps71
      go_wp2_with fail
      refine (refExchange_any k d _).mono ?_
      rintro e w1 ⟨rfl, hb1⟩
      go_wp2_with fail
      go_ret2
      exact ⟨rfl, hb1⟩
    · have h2 : 256 < n := by omega
      clear h
      go_enter Try.func71, Try.ntmps71
      go_wp2_with fail
      refine (refExchange_any k d _).mono ?_
      rintro e w1 ⟨rfl, hb1⟩
      go_wp2_with fail
      go_ret2
      exact ⟨rfl, hb1⟩
  · have h1 : 1 ≤ n := by omega
    have h2 : n ≤ 256 := by omega
    clear h
    by_cases h : exE k d = 0
    · obtain ⟨e1, e2⟩ := tk_ok h1 h2 h
      rw [e1, e2]
      clear e1 e2
      have H := Kept.mk h; clear h
      obtain ⟨m, rfl⟩ := Int.eq_ofNat_of_zero_le (show 0 ≤ n by omega)
      go_enter Try.func71, Try.ntmps71
      go_wp2_with fail
      refine (refExchange_any k d _).mono ?_
      rintro e w1 ⟨rfl, hb1⟩
      rw [H.out]
      clear H
      generalize hg : exN k d = x at *
      have HG := Kept.mk hg; clear hg
      go_wp2_with fail
      go_loop [10, 11] (fun s i => ∃ j : Nat, j ≤ m + 2 ∧ s = .int .i64 (j * x) ∧ i = .int .i64 j) (fun _ i => m + 2 - (intOf i).toNat)
      case atStart => exact ⟨0, by omega, by simp, rfl⟩
      case round =>
        obtain ⟨j, hj, rfl, rfl⟩ := hrel
        by_cases hlt : j < m + 2
        · have q0 : 0 ≤ (j : Int) * x := Int.mul_nonneg (by omega) x0
          have q1 : (j : Int) * x ≤ 258 * 16000164 := Int.mul_le_mul (by omega) x1 x0 (by omega)
          go_wp2_with fail
          go_round
          case rel => exact ⟨j + 1, by omega, by congr 1; rw [show ((j + 1 : Nat) : Int) = (j : Int) + 1 from by omega, Int.add_mul, Int.one_mul], by go_num⟩
          case measure => simp [intOf]; omega
        · go_wp2_with fail
          go_ret2
          have : j = m + 2 := by omega
          subst this
          exact ⟨by rw [show ((m + 2 : Nat) : Int) = (m : Int) + 2 from by omega, HG.out]; rfl, hb1⟩
    · obtain ⟨e1, e2⟩ := tk_ex (n := n) h
      rw [e1, e2]
      obtain ⟨_, e3⟩ := exE_zero h
      clear e1 e2 h
      have H := Kept.mk e3; clear e3
      go_enter Try.func71, Try.ntmps71
      go_wp2_with fail
      refine (refExchange_any k d _).mono ?_
      rintro e w1 ⟨rfl, hb1⟩
      rw [H.out]
      go_wp2_with fail
      go_ret2
      exact ⟨rfl, hb1⟩

end Go.Proofs.Ytppilkcekakamaa
