/- The document's answer for pace: the wait, by a contract. -/
import Derived.Test.YtpndjdiknlmddaaPaceR
namespace Go.Proofs.Ytpndjdiknlmddaa
set_option linter.unusedVariables false
open Go.RowKit Go.Lib
def dbl (b : Int) : Nat → Int
  | 0 => b
  | j + 1 => 2 * dbl b j
theorem dbl_range {b : Int} (h0 : 2 ≤ b) (h1 : b ≤ 600) : ∀ j : Nat, j ≤ 6 → 2 ≤ dbl b j ∧ dbl b j ≤ 38400 := by
  intro j hj
  have : j = 0 ∨ j = 1 ∨ j = 2 ∨ j = 3 ∨ j = 4 ∨ j = 5 ∨ j = 6 := by omega
  rcases this with rfl | rfl | rfl | rfl | rfl | rfl | rfl <;> simp only [dbl] <;> omega
theorem waitOf_range2 {t v : Int} {c : Bool} (t0 : 0 ≤ t) (t1 : t ≤ 512) (v0 : 0 ≤ v) (v1 : v ≤ 260) : 2 ≤ waitOf t v c ∧ waitOf t v c ≤ 600 := by
  unfold waitOf; split <;> omega
theorem wait_dbl {t v d : Int} {c : Bool} {j : Nat} (hd : d = j) (hj : j ≤ 6) : min (dbl (waitOf t v c) j) 64 = waitV t v c d := by
  subst hd
  have : j = 0 ∨ j = 1 ∨ j = 2 ∨ j = 3 ∨ j = 4 ∨ j = 5 ∨ j = 6 := by omega
  unfold waitV
  generalize waitOf t v c = b
  rcases this with rfl | rfl | rfl | rfl | rfl | rfl | rfl <;> simp [dbl] <;> omega
theorem dbl_0 (b : Int) : dbl b 0 = b := rfl
theorem dbl_s (b : Int) (j : Nat) : dbl b (j + 1) = 2 * dbl b j := rfl
attribute [local irreducible] waitOf dbl waitV
set_option maxRecDepth 100000 in
set_option maxHeartbeats 4000000 in
theorem waitR_any (t v d r o : Int) (c : Bool) (w : World) (t0 : 0 ≤ t) (t1 : t ≤ 512) (v0 : 0 ≤ v) (v1 : v ≤ 260) (d0 : 0 ≤ d) (d1 : d ≤ 6) :
    Calls Try.prog 13 #[.agg #[.int .i64 t, .int .i64 v, .int .i64 d, .int .i64 r, .int .i64 o, .bool c]] w fun e w' => e = .returned (.int .i64 (waitV t v c d)) ∧ Below w.heap.size w w' := by
  obtain ⟨b0, b1⟩ := waitOf_range2 (c := c) t0 t1 v0 v1
  have hv : c = false ∨ (c = true ∧ v < 1 ∧ t / 8 + 1 < 2) ∨ (c = true ∧ v < 1 ∧ ¬ t / 8 + 1 < 2) ∨ (c = true ∧ ¬ v < 1 ∧ t / 8 + v < 2) ∨ (c = true ∧ ¬ v < 1 ∧ ¬ t / 8 + v < 2) := by
    cases c
    · exact .inl rfl
    · by_cases a : v < 1 <;> by_cases b : t / 8 + 1 < 2 <;> by_cases e : t / 8 + v < 2 <;> simp [a, b, e]
  have hB : ∃ B, B = waitOf t v c := ⟨_, rfl⟩
  obtain ⟨B, hB⟩ := hB
  have HW := fun j => wait_dbl (t := t) (v := v) (d := d) (c := c) (j := j)
  rw [← hB] at b0 b1 HW
  have HR := fun j => dbl_range b0 b1 j
  have HB : Kept (B = if c then max (t / 8 + max v 1) 2 else 2) := ⟨by rw [hB]; unfold waitOf; rfl⟩
  clear hB
  go_enter Try.func13, Try.ntmps13
  rcases hv with hc | ⟨hc, hv, hs⟩ | ⟨hc, hv, hs⟩ | ⟨hc, hv, hs⟩ | ⟨hc, hv, hs⟩
  all_goals
    go_wp2_with (go_at_call 19; refine (down_8 _ _ (by omega) (by omega)).mono ?_; rintro e w1 ⟨rfl, rfl⟩)
    go_loopw [3, 5] (fun s3 s5 wr => ∃ j : Nat, j ≤ 6 ∧ (j : Int) ≤ d ∧ s3 = .int .i64 (dbl B j) ∧ s5 = .int .i64 j ∧ wr = w.alloc (.cells #[.int .i64 t, .int .i64 v, .int .i64 d, .int .i64 r, .int .i64 o, .bool c] 26)) (fun _ s5 _ => 6 - (intOf s5).toNat)
    case atStart =>
      refine ⟨0, by omega, by omega, ?_, rfl, by rw [hc]⟩
      rw [dbl_0, HB.out, hc]
      congr 1
      all_goals (try simp)
      all_goals (try omega)
    case round =>
      obtain ⟨j, hj, hjd, rfl, rfl, rfl⟩ := hrel
      obtain ⟨y0, y1⟩ := HR j hj
      by_cases hl : (j : Int) < d
      · obtain ⟨z0, z1⟩ := HR (j + 1) (by omega)
        have hs2 := dbl_s B j
        generalize hX : dbl B j = x at *
        have HX := Kept.mk hX; clear hX
        go_wp2_with fail
        exact ⟨⟨j + 1, by omega, by omega, by rw [hs2], by go_num, by rw [hc]⟩, by simp [intOf]; omega⟩
      · have hw := HW j (by omega) hj
        generalize hX : dbl B j = x at *
        by_cases h64 : 64 < x
        all_goals
          go_wp2_with fail
          go_ret
          exact ⟨ret_int (by rw [hc] at hw; rw [← hw]; omega), (Below.refl _ _).alloc (Nat.le_refl _) _⟩
end Go.Proofs.Ytpndjdiknlmddaa
