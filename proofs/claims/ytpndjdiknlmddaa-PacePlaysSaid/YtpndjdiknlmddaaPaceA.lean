/- Paces, each method by a contract. -/
import Derived.Test.YtpndjdiknlmddaaKit
import Derived.Deep.RegionHeld3
import Derived.RegionCalls
namespace Go.Proofs.Ytpndjdiknlmddaa
set_option linter.unusedVariables false
open Go.RowKit Go.Lib

/-- a pace as a value -/
def pv (t v : Int) (c : Bool) (d m o : Int) : Value := .agg #[.int .i64 t, .int .i64 v, .bool c, .int .i64 d, .int .i64 m, .int .i64 o]

set_option maxHeartbeats 400000 in
theorem rate_any (t v : Int) (c : Bool) (d m o : Int) (w : World) (h0 : 0 ≤ m) (h1 : m ≤ 1008) :
    Calls Try.prog 20 #[.agg #[.int .i64 t, .int .i64 v, .bool c, .int .i64 d, .int .i64 m, .int .i64 o]] w fun e w' => e = .returned (.int .i64 (16 + m)) ∧ ∃ o1 : Obj, w' = w.alloc o1 := by
  go_enter Try.func20, Try.ntmps20
  go_wp2
  go_ret
  exact ⟨rfl, _, rfl⟩
set_option maxHeartbeats 400000 in
theorem at_any (t v : Int) (c : Bool) (d m o r : Int) (w : World) (h0 : 0 ≤ r) (h1 : r ≤ 2000) :
    Calls Try.prog 22 #[.agg #[.int .i64 t, .int .i64 v, .bool c, .int .i64 d, .int .i64 m, .int .i64 o], .int .i64 r] w fun e w' => e = .returned (.agg #[.int .i64 t, .int .i64 v, .bool c, .int .i64 d, .int .i64 (r - 16), .int .i64 o]) ∧ ∃ o1 o2 : Obj, w' = (w.alloc o1).alloc o2 := by
  go_enter Try.func22, Try.ntmps22
  go_wp2
  refine bodyPost_ret (v := .agg #[.int .i64 t, .int .i64 v, .bool c, .int .i64 d, .int .i64 (r - 16), .int .i64 o]) (by simp [results, Try.results22, go_sem]) rfl ⟨rfl, ?_⟩
  exact ⟨_, _, rfl⟩
theorem ix0 (x : Int) : ∀ w, (Instr.index 43 (.agg #[.int .i64 1024, .int .i64 x]) (.int .i64 0)).run Try.prog w = .ok (.int .i64 1024) w := fun _ => by kernel_rfl
theorem ix1 (x : Int) : ∀ w, (Instr.index 43 (.agg #[.int .i64 1024, .int .i64 x]) (.int .i64 1)).run Try.prog w = .ok (.int .i64 x) w := fun _ => by kernel_rfl
set_option maxHeartbeats 400000 in
theorem threshold_0 (t v : Int) (c : Bool) (d m : Int) (w : World) :
    Calls Try.prog 21 #[.agg #[.int .i64 t, .int .i64 v, .bool c, .int .i64 d, .int .i64 m, .int .i64 0]] w fun e w' => e = .returned (.int .i64 1024) ∧ ∃ o1 : Obj, w' = w.alloc o1 := by
  have h := ix0 0
  go_enter Try.func21, Try.ntmps21
  go_wp2
  go_ret
  exact ⟨rfl, _, rfl⟩
set_option maxHeartbeats 400000 in
theorem threshold_1 (t v : Int) (c : Bool) (d m o : Int) (w : World) (h0 : 32 ≤ o) (h1 : o ≤ 512) :
    Calls Try.prog 21 #[.agg #[.int .i64 t, .int .i64 v, .bool c, .int .i64 d, .int .i64 m, .int .i64 o]] w fun e w' => e = .returned (.int .i64 o) ∧ ∃ o1 : Obj, w' = w.alloc o1 := by
  have h := ix1 o
  go_enter Try.func21, Try.ntmps21
  go_wp2
  go_ret
  exact ⟨rfl, _, rfl⟩

theorem bodyPost_of {P : Program} {fn : Func} {R : Ending → World → Prop} {a : Act} {w : World} (hd : a.defers = []) (h : ∃ v, (results fn a.tmps).run P w = .ok v w ∧ R (.returned v) w) : bodyPost P fn R .ret a w := by
  obtain ⟨v, h1, h2⟩ := h
  exact bodyPost_ret h1 hd h2
theorem ret_pv {t v d m o t' v' d' m' o' : Int} {c c' : Bool} (h1 : t = t') (h2 : v = v') (h3 : c = c') (h4 : d = d') (h5 : m = m') (h6 : o = o') :
    Ending.returned (.agg #[.int .i64 t, .int .i64 v, .bool c, .int .i64 d, .int .i64 m, .int .i64 o]) = .returned (.agg #[.int .i64 t', .int .i64 v', .bool c', .int .i64 d', .int .i64 m', .int .i64 o']) := by
  rw [h1, h2, h3, h4, h5, h6]

set_option maxHeartbeats 400000 in
theorem halved_any (t v : Int) (c : Bool) (d m o : Int) (w : World) (h0 : 0 ≤ m) (h1 : m ≤ 1008) :
    Calls Try.prog 23 #[.agg #[.int .i64 t, .int .i64 v, .bool c, .int .i64 d, .int .i64 m, .int .i64 o]] w fun e w' => e = .returned (.agg #[.int .i64 t, .int .i64 v, .bool c, .int .i64 d, .int .i64 m, .int .i64 (max ((16 + m) / 2) 32)]) ∧ ∃ o1 o2 o3 : Obj, w' = ((w.alloc o1).alloc o2).alloc o3 := by
  by_cases h : (16 + m) / 2 < 32
  all_goals
    go_enter Try.func23, Try.ntmps23
    go_wp2
    refine bodyPost_of rfl ⟨_, by simp [results, Try.results23, go_sem]; rfl, ?_, ?_⟩
    · exact ret_pv (by omega) (by omega) rfl (by omega) (by omega) (by omega)
    · exact ⟨_, _, _, rfl⟩

set_option maxHeartbeats 400000 in
theorem lost_any (t v : Int) (c : Bool) (d m o : Int) (w : World) (h0 : 0 ≤ m) (h1 : m ≤ 1008) (h2 : 0 ≤ d) (h3 : d ≤ 6) :
    Calls Try.prog 17 #[.agg #[.int .i64 t, .int .i64 v, .bool c, .int .i64 d, .int .i64 m, .int .i64 o]] w fun e w' => e = .returned (.agg #[.int .i64 t, .int .i64 v, .bool c, .int .i64 (min (d + 1) 6), .int .i64 0, .int .i64 (max ((16 + m) / 2) 32)]) ∧ Below w.heap.size w w' := by
  by_cases h : (16 + m) / 2 < 32 <;> by_cases g : d < 6
  all_goals
    go_enter Try.func17, Try.ntmps17
    go_wp2_with (first
      | (go_at_call 23; refine (halved_any _ _ _ _ _ _ _ h0 h1).mono ?_; rintro e w1 ⟨rfl, o1, o2, o3, rfl⟩)
      | (go_at_call 22; refine (at_any _ _ _ _ _ _ _ _ (by omega) (by omega)).mono ?_; rintro e w1 ⟨rfl, o4, o5, rfl⟩))
    refine bodyPost_of rfl ⟨_, by simp [results, Try.results17, go_sem]; rfl, ?_, ?_⟩
    · exact ret_pv (by omega) (by omega) rfl (by omega) (by omega) (by omega)
    · (repeat (first | exact Below.refl _ _ | refine Below.drew ?_ | refine Below.alloc ?_ (by simp; try omega) _))

set_option maxHeartbeats 400000 in
theorem gap_any (t v : Int) (c : Bool) (d m o : Int) (w : World) (h0 : 0 ≤ m) (h1 : m ≤ 1008) :
    Calls Try.prog 18 #[.agg #[.int .i64 t, .int .i64 v, .bool c, .int .i64 d, .int .i64 m, .int .i64 o]] w fun e w' => e = .returned (.agg #[.int .i64 t, .int .i64 v, .bool c, .int .i64 d, .int .i64 (max ((16 + m) / 2) 32 - 16), .int .i64 (max ((16 + m) / 2) 32)]) ∧ Below w.heap.size w w' := by
  by_cases h : (16 + m) / 2 < 32
  all_goals
    go_enter Try.func18, Try.ntmps18
    go_wp2_with (first
      | (go_at_call 23; refine (halved_any _ _ _ _ _ _ _ h0 h1).mono ?_; rintro e w1 ⟨rfl, o1, o2, o3, rfl⟩)
      | (go_at_call 22; refine (at_any _ _ _ _ _ _ _ _ (by omega) (by omega)).mono ?_; rintro e w1 ⟨rfl, o4, o5, rfl⟩))
    refine bodyPost_of rfl ⟨_, by simp [results, Try.results18, go_sem]; rfl, ?_, ?_⟩
    · exact ret_pv (by omega) (by omega) rfl (by omega) (by omega) (by omega)
    · (repeat (first | exact Below.refl _ _ | refine Below.drew ?_ | refine Below.alloc ?_ (by simp; try omega) _))

set_option maxHeartbeats 400000 in
theorem paceRate_any (t v : Int) (c : Bool) (d m o : Int) (w : World) (h0 : 0 ≤ m) (h1 : m ≤ 1008) :
    Calls Try.prog 14 #[.agg #[.int .i64 t, .int .i64 v, .bool c, .int .i64 d, .int .i64 m, .int .i64 o]] w fun e w' => e = .returned (.int .i64 ((16 + m) / 16)) ∧ Below w.heap.size w w' := by
  go_enter Try.func14, Try.ntmps14
  go_wp2
  go_ret
  exact ⟨rfl, by (repeat (first | exact Below.refl _ _ | refine Below.drew ?_ | refine Below.alloc ?_ (by simp; try omega) _))⟩

/-- how long is waited ahead of doubling -/
def waitOf (t v : Int) (c : Bool) : Int := if c then max (t / 8 + max v 1) 2 else 2
/-- the wait -/
def waitV (t v : Int) (c : Bool) (d : Int) : Int := min (waitOf t v c * (if d = 0 then 1 else if d = 1 then 2 else if d = 2 then 4 else if d = 3 then 8 else if d = 4 then 16 else if d = 5 then 32 else 64)) 64
set_option maxHeartbeats 4000000 in
theorem wait_any (t v : Int) (c : Bool) (d m o : Int) (w : World) (h0 : 0 ≤ t) (h1 : t ≤ 512) (h2 : 0 ≤ v) (h3 : v ≤ 300) (hd0 : 0 ≤ d) (hd : d ≤ 6) :
    Calls Try.prog 12 #[.agg #[.int .i64 t, .int .i64 v, .bool c, .int .i64 d, .int .i64 m, .int .i64 o]] w fun e w' => e = .returned (.int .i64 (waitV t v c d)) ∧ ∃ o1 : Obj, w' = w.alloc o1 := by
  have hc : d = 0 ∨ d = 1 ∨ d = 2 ∨ d = 3 ∨ d = 4 ∨ d = 5 ∨ d = 6 := by omega
  cases c <;> rcases hc with rfl | rfl | rfl | rfl | rfl | rfl | rfl
  all_goals
    go_enter Try.func12, Try.ntmps12
    go_wp2
    all_goals
      go_ret
      exact ⟨ret_int (by simp only [waitV, waitOf, if_true, Bool.false_eq_true, if_false, Int.reduceEq]; omega), _, rfl⟩

end Go.Proofs.Ytpndjdiknlmddaa
