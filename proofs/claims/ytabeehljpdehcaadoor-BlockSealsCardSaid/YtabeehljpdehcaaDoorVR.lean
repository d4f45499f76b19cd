/- The document's check of a key, a nonce and a counter, by a contract. -/
import Derived.Test.YtabeehljpdehcaaDoorVY
namespace Go.Proofs.YtabeehljpdehcaaDoor
set_option linter.unusedVariables false
set_option linter.unusedSimpArgs false
open Go.RowKit Go.Lib
section
attribute [local irreducible] str
set_option maxRecDepth 100000 in
theorem right_any (key nonce : List UInt8) (c : Int) (w : World) (hk : key.length ≤ 140737488355328) (hn : nonce.length ≤ 140737488355328) :
    Calls Tryd.prog 67 #[.string (str key), .string (str nonce), .int .i64 c] w fun e w' => e = .returned (.bool (decide (key.length = 32) && decide (nonce.length = 12) && decide (0 ≤ c) && decide (c ≤ 4294967295))) ∧ w = w' := by
  have s1 := str_size key
  have s2 := str_size nonce
  have h1 : (key.length : Int) ≤ 140737488355328 := by omega
  have h2 : (nonce.length : Int) ≤ 140737488355328 := by omega
  by_cases k : key.length = 32
  · by_cases n : nonce.length = 12
    · by_cases c0 : 0 ≤ c
      · by_cases c1 : c ≤ 4294967295
        · rw [decide_eq_true k, decide_eq_true n, decide_eq_true c0, decide_eq_true c1]
          rw [k] at s1
          rw [n] at s2
          clear h1 h2 k n
          go_enter Tryd.func67, Tryd.ntmps67
          go_wp2_with fail
          go_ret
          exact ⟨rfl, rfl⟩
        · rw [decide_eq_true k, decide_eq_true n, decide_eq_true c0, decide_eq_false c1]
          rw [k] at s1
          rw [n] at s2
          clear h1 h2 k n
          go_enter Tryd.func67, Tryd.ntmps67
          go_wp2_with fail
          go_ret
          exact ⟨rfl, rfl⟩
      · rw [decide_eq_true k, decide_eq_true n, decide_eq_false c0]
        rw [k] at s1
        rw [n] at s2
        clear h1 h2 k n
        go_enter Tryd.func67, Tryd.ntmps67
        go_wp2_with fail
        go_ret
        exact ⟨rfl, rfl⟩
    · rw [decide_eq_true k, decide_eq_false n]
      have n2 : ¬ (nonce.length : Int) = 12 := by omega
      rw [k] at s1
      clear h1 k
      go_enter Tryd.func67, Tryd.ntmps67
      go_wp2_with fail
      go_ret
      exact ⟨rfl, rfl⟩
  · rw [decide_eq_false k]
    have k2 : ¬ (key.length : Int) = 32 := by omega
    go_enter Tryd.func67, Tryd.ntmps67
    go_wp2_with fail
    go_ret
    exact ⟨rfl, rfl⟩
end
end Go.Proofs.YtabeehljpdehcaaDoor
