/- ChaCha's quarter rounds, each by a contract. -/
import Derived.Test.YtabeehljpdehcaaDoorChaA
import Derived.StillTailTactics
import Derived.Deep.DeepCutAuto
namespace Go.Proofs.YtabeehljpdehcaaDoor
set_option linter.unusedVariables false
open Go.RowKit Go.Lib

theorem rotl_any (x n : Nat) (w : World) (h1 : x < 4294967296) (h2 : 1 ≤ n) (h3 : n ≤ 31) :
    Calls Tryd.prog 78 #[.int .u32 (x : Int), .int .i64 (n : Int)] w fun e w' => e = .returned (.int .u32 (rot x n : Nat)) ∧ ∃ k, w' = w.drewN k := by
  have hx : (x : Int) < 4294967296 := by omega
  have e1 : (32 - (n : Int)).toNat = 32 - n := by omega
  have e2 : ((x : Int) * 2 ^ n % 4294967296) = ((x * 2 ^ n % 4294967296 : Nat) : Int) := by rw [Int.natCast_emod, Int.natCast_mul, Int.natCast_pow]; rfl
  have e3 : ((x : Int) / 2 ^ (32 - n)) = ((x / 2 ^ (32 - n) : Nat) : Int) := by rw [Int.natCast_ediv, Int.natCast_pow]; rfl
  have e : bits .or .u32 ((x : Int) * 2 ^ n % 4294967296) ((x : Int) / 2 ^ (32 - n)) = ((rot x n : Nat) : Int) := by
    rw [e2, e3, or_u32 _ _ (Nat.mod_lt _ (by decide)) (Nat.lt_of_le_of_lt (Nat.div_le_self _ _) h1), rot_or x n h1 (by omega)]
  have E := Kept.mk e; clear e e2 e3
  have E1 := Kept.mk e1; clear e1
  go_enter Tryd.func78, Tryd.ntmps78
  go_wp2
  go_quiet (fail)
  go_wp2
  go_ret
  exact ⟨by first | exact ret_int E.out | (rw [← E.out]; simp [E1.out]), _, rfl⟩

theorem refRotl_any (x n : Nat) (w : World) (h1 : x < 4294967296) (h2 : 1 ≤ n) (h3 : n ≤ 16) :
    Calls Tryd.prog 79 #[.int .i64 (x : Int), .int .i64 (n : Int)] w fun e w' => e = .returned (.int .i64 (rot x n : Nat)) ∧ ∃ k, w' = w.drewN k := by
  have hx : (x : Int) < 4294967296 := by omega
  have hp : 2 ^ n ≤ 2 ^ 16 := Nat.pow_le_pow_right (by decide) h3
  have hp1 : 1 ≤ 2 ^ n := Nat.pow_pos (by decide)
  have hm : x * 2 ^ n < 9223372036854775808 := by
    have : x * 2 ^ n ≤ 4294967295 * 2 ^ 16 := Nat.mul_le_mul (by omega) hp
    omega
  have e1 : (32 - (n : Int)).toNat = 32 - n := by omega
  have e2 : wrap64 ((x : Int) * 2 ^ n) = ((x * 2 ^ n : Nat) : Int) := by
    rw [show (x : Int) * 2 ^ n = ((x * 2 ^ n : Nat) : Int) from by rw [Int.natCast_mul, Int.natCast_pow]; rfl]
    exact wrap64_in _ (by omega) (by omega)
  have e3 : ((x : Int) / 2 ^ (32 - n)) = ((x / 2 ^ (32 - n) : Nat) : Int) := by rw [Int.natCast_ediv, Int.natCast_pow]; rfl
  have e : bits .and .i64 (bits .or .i64 (wrap64 ((x : Int) * 2 ^ n)) ((x : Int) / 2 ^ (32 - n))) 4294967295 = ((rot x n : Nat) : Int) := by
    rw [e2, e3, or_i64 _ _ hm (Nat.lt_of_le_of_lt (Nat.div_le_self _ _) (by omega)), and_word, ← rot_wide x n h1 (by omega), Int.natCast_emod]
    rfl
  have E := Kept.mk e; clear e e2 e3 hp hp1 hm
  have E1 := Kept.mk e1; clear e1
  go_enter Tryd.func79, Tryd.ntmps79
  go_wp2
  go_quiet (fail)
  go_wp2
  go_ret
  exact ⟨by first | exact ret_int E.out | (rw [← E.out]; simp [E1.out]), _, rfl⟩

end Go.Proofs.YtabeehljpdehcaaDoor
