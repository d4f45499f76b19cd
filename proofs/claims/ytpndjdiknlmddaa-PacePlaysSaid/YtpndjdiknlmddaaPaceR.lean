/- The document's answer for pace, by contracts. -/
import Derived.Test.YtpndjdiknlmddaaPaceH
namespace Go.Proofs.Ytpndjdiknlmddaa
set_option linter.unusedVariables false
open Go.RowKit Go.Lib

theorem down_8 (n : Int) (w : World) (h0 : 0 ≤ n) (h1 : n ≤ 1000) :
    Calls Try.prog 19 #[.int .i64 n, .int .i64 8] w fun e w' => e = .returned (.int .i64 (n / 8)) ∧ w' = w := by
  have hm : ¬ n % 8 < 0 := by omega
  go_enter Try.func19, Try.ntmps19
  go_wp2_with fail
  go_ret
  exact ⟨rfl, rfl⟩
theorem down_4 (n : Int) (w : World) (h0 : 0 ≤ n) (h1 : n ≤ 1000) :
    Calls Try.prog 19 #[.int .i64 n, .int .i64 4] w fun e w' => e = .returned (.int .i64 (n / 4)) ∧ w' = w := by
  have hm : ¬ n % 4 < 0 := by omega
  go_enter Try.func19, Try.ntmps19
  go_wp2_with fail
  go_ret
  exact ⟨rfl, rfl⟩
theorem ret_rv {t v d r o t' v' d' r' o' : Int} {c c' : Bool} (h1 : t = t') (h2 : v = v') (h3 : d = d') (h4 : r = r') (h5 : o = o') (h6 : c = c') :
    Ending.returned (.agg #[.int .i64 t, .int .i64 v, .int .i64 d, .int .i64 r, .int .i64 o, .bool c]) = .returned (.agg #[.int .i64 t', .int .i64 v', .int .i64 d', .int .i64 r', .int .i64 o', .bool c']) := by
  rw [h1, h2, h3, h4, h5, h6]
theorem gapR_any (t v d r o : Int) (c : Bool) (w : World) (h0 : 16 ≤ r) (h1 : r ≤ 1024) :
    Calls Try.prog 11 #[.agg #[.int .i64 t, .int .i64 v, .int .i64 d, .int .i64 r, .int .i64 o, .bool c]] w fun e w' => e = .returned (.agg #[.int .i64 t, .int .i64 v, .int .i64 d, .int .i64 (max (r / 2) 32), .int .i64 (max (r / 2) 32), .bool c]) ∧ ∃ o1 o2 : Obj, w' = (w.alloc o1).alloc o2 := by
  by_cases hr : r / 2 < 32
  all_goals
    go_enter Try.func11, Try.ntmps11
    go_wp2_with fail
    refine bodyPost_of rfl ⟨_, by simp [results, Try.results11, go_sem]; rfl, ?_, ?_⟩
    · exact ret_rv rfl rfl rfl (by omega) (by omega) rfl
    · exact ⟨_, _, rfl⟩
theorem lostR_any (t v d r o : Int) (c : Bool) (w : World) (h0 : 16 ≤ r) (h1 : r ≤ 1024) (d0 : 0 ≤ d) (d1 : d ≤ 6) :
    Calls Try.prog 10 #[.agg #[.int .i64 t, .int .i64 v, .int .i64 d, .int .i64 r, .int .i64 o, .bool c]] w fun e w' => e = .returned (.agg #[.int .i64 t, .int .i64 v, .int .i64 (min (d + 1) 6), .int .i64 16, .int .i64 (max (r / 2) 32), .bool c]) ∧ Below w.heap.size w w' := by
  by_cases hr : d < 6
  all_goals
    go_enter Try.func10, Try.ntmps10
    go_wp2_with (go_at_call 11; refine (gapR_any _ _ _ _ _ _ _ h0 h1).mono ?_; rintro e w1 ⟨rfl, o1, o2, rfl⟩)
    refine bodyPost_of rfl ⟨_, by simp [results, Try.results10, go_sem]; rfl, ?_, ?_⟩
    · exact ret_rv rfl rfl (by omega) rfl rfl rfl
    · (repeat (first | exact Below.refl _ _ | refine Below.drew ?_ | refine Below.alloc ?_ (by simp; try omega) _))
set_option maxRecDepth 100000 in
theorem newR_any (w : World) :
    Calls Try.prog 7 #[] w fun e w' => e = .returned (.agg #[.int .i64 0, .int .i64 0, .int .i64 0, .int .i64 16, .int .i64 1024, .bool false]) ∧ Below w.heap.size w w' := by
  go_enter Try.func7, Try.ntmps7
  go_wp2_with fail
  refine bodyPost_of rfl ⟨_, by simp [results, Try.results7, go_sem]; rfl, ?_, ?_⟩
  · exact ret_rv rfl rfl rfl rfl rfl rfl
  · (repeat (first | exact Below.refl _ _ | refine Below.drew ?_ | refine Below.alloc ?_ (by simp; try omega) _))
end Go.Proofs.Ytpndjdiknlmddaa
