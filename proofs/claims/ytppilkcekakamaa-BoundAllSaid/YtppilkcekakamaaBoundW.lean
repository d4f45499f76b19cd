/- Bounds on numbers; the chapter's examples. -/
import Derived.Test.YtppilkcekakamaaBound
namespace Go.Proofs.Ytppilkcekakamaa
set_option linter.unusedVariables false
open Go.RowKit Go.Lib

theorem ex_1 : exN 1 0 = 52 ∧ exE 1 0 = 0 := by decide
theorem ex_5 : tkN 5 2 3 = 742 ∧ tkE 5 2 3 = 0 := by decide
theorem tkN_range (n k d : Int) : 0 ≤ tkN n k d ∧ tkN n k d ≤ 258 * 16000164 := by
  obtain ⟨x0, x1⟩ := exN_range k d
  unfold tkN; split
  · rename_i h
    unfold tkB at h
    rw [Bool.and_eq_true, decide_eq_true_iff] at h
    exact ⟨Int.mul_nonneg (by omega) x0, Int.mul_le_mul (by omega) x1 x0 (by omega)⟩
  · omega
theorem exV_mono {k d K D : Int} (h : exOk k d) (h1 : k ≤ K) (h2 : d ≤ D) : exV k d ≤ exV K D := by
  obtain ⟨a, b, c, e⟩ := h
  have := Int.mul_le_mul h1 h1 (by omega) (by omega : (0 : Int) ≤ K)
  unfold exV; omega
theorem tk_zero {n k d : Int} (h : tkE n k d = 0) : 1 ≤ n ∧ n ≤ 256 ∧ exOk k d := by
  unfold tkE at h
  split at h
  · rename_i hb
    unfold tkB at hb
    rw [Bool.and_eq_true, decide_eq_true_iff, exB_iff] at hb
    exact ⟨hb.1.1, hb.1.2, hb.2⟩
  · omega
theorem tk_of {n k d : Int} (h1 : 1 ≤ n) (h2 : n ≤ 256) (h : exOk k d) : tkN n k d = (n + 2) * exV k d ∧ tkE n k d = 0 := by
  have hb := (exB_iff k d).2 h
  have he : exE k d = 0 := by unfold exE; rw [if_pos hb]
  have hn : exN k d = exV k d := by unfold exN; rw [if_pos hb]
  have := tk_ok h1 h2 he
  rwa [hn] at this
theorem tk_grow {n k d N K D : Int} (h : tkE n k d = 0) (h1 : n ≤ N) (h2 : N ≤ 256) (h3 : k ≤ K) (h4 : K ≤ 1000) (h5 : d ≤ D) (h6 : D ≤ 64) : tkE N K D = 0 ∧ tkN n k d ≤ tkN N K D := by
  obtain ⟨a, b, c⟩ := tk_zero h
  have c2 : exOk K D := by unfold exOk at *; omega
  obtain ⟨e1, e2⟩ := tk_of a b c
  obtain ⟨e3, e4⟩ := tk_of (n := N) (by omega) h2 c2
  rw [e1, e3]
  have x := exV_mono c h3 h5
  have x0 := exV_range c
  exact ⟨e4, Int.mul_le_mul (by omega) x (by omega) (by omega)⟩
theorem tk_err {n k d : Int} (h : tkE n k d ≠ 0) : tkN n k d = 0 ∧ tkE n k d = 1 := by
  unfold tkE tkN at *; split <;> simp_all

attribute [local irreducible] exV exN exE tkN tkE

set_option maxRecDepth 100000 in
set_option maxHeartbeats 400000 in
theorem awake_any (w : World) :
    Calls Try.prog 40 #[] w fun e w' => e = .returned (.bool true) ∧ Below w.heap.size w w' := by
  go_enter Try.func40, Try.ntmps40
  go_wp2_with fail
  refine (exchange_any 1 0 _).mono ?_
  rintro e w1 ⟨rfl, hb1⟩
  rw [ex_1.1, ex_1.2]
  go_wp2_with fail
  refine (ticks_any 5 2 3 _).mono ?_
  rintro e w2 ⟨rfl, hb2⟩
  rw [ex_5.1, ex_5.2]
  go_wp2_with fail
  go_ret
  exact ⟨rfl, hb1.trans (hb2.mono hb1.size)⟩
end Go.Proofs.Ytppilkcekakamaa
