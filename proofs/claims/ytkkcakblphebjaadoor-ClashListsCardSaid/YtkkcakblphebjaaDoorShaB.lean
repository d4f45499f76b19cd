/- SHA-256: words turned, a group's schedule, each by a contract. -/
import Derived.Test.YtkkcakblphebjaaDoorShaA
import Derived.StillTailTactics
import Derived.Deep.DeepCutAuto
import Derived.Deep.RegionWith
import Derived.Deep.MidRow
import Derived.Outline
namespace Go.Proofs.YtkkcakblphebjaaDoor
set_option linter.unusedVariables false
open Go.RowKit Go.Lib

theorem quiet_after {P : Program} {f : FuncId} {xs : Array Value} {W : World} {i j : Nat} {u : Value}
    (h : Calls P f xs (W.drewN (i + j)) fun e X => e = .returned u ∧ ∃ k, X = (W.drewN (i + j)).drewN k) : Calls P f xs (W.drewN (i + j)) fun e X => e = .returned u ∧ ∃ k, X = W.drewN (i + k) := by
  refine h.mono fun e X hx => ?_
  obtain ⟨h1, k, h2⟩ := hx
  exact ⟨h1, j + k, by rw [h2, World.drewN_drewN, Nat.add_assoc]⟩
theorem rotr_any (x n : Nat) (w : World) (h1 : x < 4294967296) (h2 : 1 ≤ n) (h3 : n ≤ 31) :
    Calls Tryd.prog 109 #[.int .u32 (x : Int), .int .i64 (n : Int)] w fun e w' => e = .returned (.int .u32 (rot x (32 - n) : Nat)) ∧ ∃ k, w' = w.drewN k := by
  have hx : (x : Int) < 4294967296 := by omega
  have e1 : (32 - (n : Int)).toNat = 32 - n := by omega
  have e2 : ((x : Int) * 2 ^ (32 - n) % 4294967296) = ((x * 2 ^ (32 - n) % 4294967296 : Nat) : Int) := by rw [Int.natCast_emod, Int.natCast_mul, Int.natCast_pow]; rfl
  have e3 : ((x : Int) / 2 ^ n) = ((x / 2 ^ n : Nat) : Int) := by rw [Int.natCast_ediv, Int.natCast_pow]; rfl
  have e : bits .or .u32 ((x : Int) / 2 ^ n) ((x : Int) * 2 ^ (32 - n) % 4294967296) = ((rot x (32 - n) : Nat) : Int) := by
    rw [e2, e3, or_u32 _ _ (Nat.lt_of_le_of_lt (Nat.div_le_self _ _) h1) (Nat.mod_lt _ (by decide)), Nat.or_comm]
    have := rot_or x (32 - n) h1 (by omega)
    rw [show 32 - (32 - n) = n from by omega] at this
    rw [this]
  have E := Kept.mk e; clear e e2 e3
  have E1 := Kept.mk e1; clear e1
  go_enter Tryd.func109, Tryd.ntmps109
  go_wp2
  go_quiet (fail)
  go_wp2
  go_ret
  exact ⟨by first | exact ret_int E.out | (rw [← E.out]; simp [E1.out]), _, rfl⟩

theorem refRotr_any (x n : Nat) (w : World) (h1 : x < 4294967296) (h2 : 2 ≤ n) (h3 : n ≤ 31) :
    Calls Tryd.prog 88 #[.int .i64 (x : Int), .int .i64 (n : Int)] w fun e w' => e = .returned (.int .i64 (rot x (32 - n) : Nat)) ∧ ∃ k, w' = w.drewN k := by
  have hx : (x : Int) < 4294967296 := by omega
  have hp : 2 ^ (32 - n) ≤ 2 ^ 30 := Nat.pow_le_pow_right (by decide) (by omega)
  have hp1 : 1 ≤ 2 ^ (32 - n) := Nat.pow_pos (by decide)
  have hm : x * 2 ^ (32 - n) < 9223372036854775808 := by
    have : x * 2 ^ (32 - n) ≤ 4294967295 * 2 ^ 30 := Nat.mul_le_mul (by omega) hp
    omega
  have e1 : (32 - (n : Int)).toNat = 32 - n := by omega
  have e2 : wrap64 ((x : Int) * 2 ^ (32 - n)) = ((x * 2 ^ (32 - n) : Nat) : Int) := by
    rw [show (x : Int) * 2 ^ (32 - n) = ((x * 2 ^ (32 - n) : Nat) : Int) from by rw [Int.natCast_mul, Int.natCast_pow]; rfl]
    exact wrap64_in _ (by omega) (by omega)
  have e3 : ((x : Int) / 2 ^ n) = ((x / 2 ^ n : Nat) : Int) := by rw [Int.natCast_ediv, Int.natCast_pow]; rfl
  have e : bits .or .i64 ((x : Int) / 2 ^ n) (bits .and .i64 (wrap64 ((x : Int) * 2 ^ (32 - n))) 4294967295) = ((rot x (32 - n) : Nat) : Int) := by
    rw [e2, e3, and_word, show ((x * 2 ^ (32 - n) : Nat) : Int) % 4294967296 = ((x * 2 ^ (32 - n) % 4294967296 : Nat) : Int) from by rw [Int.natCast_emod]; rfl,
      or_i64 _ _ (Nat.lt_of_le_of_lt (Nat.div_le_self _ _) (by omega)) (Nat.lt_of_lt_of_le (Nat.mod_lt _ (by decide)) (by decide)), Nat.or_comm]
    have := rot_or x (32 - n) h1 (by omega)
    rw [show 32 - (32 - n) = n from by omega] at this
    rw [this]
  have E := Kept.mk e; clear e e2 e3 hp hp1 hm
  have E1 := Kept.mk e1; clear e1
  go_enter Tryd.func88, Tryd.ntmps88
  go_wp2
  go_quiet (fail)
  go_wp2
  go_ret
  exact ⟨by first | exact ret_int E.out | (rw [← E.out]; simp [E1.out]), _, rfl⟩
end Go.Proofs.YtkkcakblphebjaaDoor
