/- HKDF on lists of bytes. -/
import Derived.Test.YtabeehljpdehcaaDoorMacB
import Derived.Test.YtabeehljpdehcaaDoorRfB
namespace Go.Proofs.YtabeehljpdehcaaDoor
set_option linter.unusedVariables false
set_option linter.unusedSimpArgs false
open Go.RowKit Go.Lib
/-- the i-th tag -/
def kT (key info : List UInt8) : Nat → List UInt8
  | 0 => []
  | i + 1 => mTag key (kT key info i ++ info ++ [byt ((i : Int) + 1)])
def kOut (key info : List UInt8) : Nat → List UInt8
  | 0 => []
  | i + 1 => kOut key info i ++ kT key info (i + 1)
def kExp (key info : List UInt8) (n : Nat) : List UInt8 := (kOut key info 255).take n
theorem kT_next (key info : List UInt8) (i : Nat) : mTag key (kT key info i ++ info ++ [byt ((i : Int) + 1)]) = kT key info (i + 1) := rfl
theorem kOut_next (key info : List UInt8) (i : Nat) : kOut key info i ++ kT key info (i + 1) = kOut key info (i + 1) := rfl
theorem kT_length (key info : List UInt8) (i : Nat) : (kT key info (i + 1)).length = 32 := mTag_length _ _
theorem kT_le (key info : List UInt8) (i : Nat) : (kT key info i).length ≤ 32 := by
  cases i with
  | zero => simp [kT]
  | succ i => rw [kT_length]; omega
theorem kOut_length (key info : List UInt8) (i : Nat) : (kOut key info i).length = 32 * i := by
  induction i with
  | zero => rfl
  | succ i ih => rw [kOut, List.length_append, ih, kT_length]; omega
theorem kOut_more (key info : List UInt8) (i d n : Nat) (h : n ≤ 32 * i) : (kOut key info (i + d)).take n = (kOut key info i).take n := by
  induction d with
  | zero => rfl
  | succ d ih =>
    rw [← Nat.add_assoc, kOut, List.take_append_of_le_length (by rw [kOut_length]; omega), ih]
theorem kExp_of (key info : List UInt8) (i n : Nat) (h : n ≤ 32 * i) (hi : i ≤ 255) : (kOut key info i).take n = kExp key info n := by
  have := kOut_more key info i (255 - i) n h
  rw [show i + (255 - i) = 255 from by omega] at this
  exact this.symm
theorem kExp_length (key info : List UInt8) (n : Nat) (h : n ≤ 8160) : (kExp key info n).length = n := by
  rw [kExp, List.length_take, kOut_length]; omega
theorem kExp_begin (key info : List UInt8) (n m : Nat) : (kExp key info (n + m)).take n = kExp key info n := by
  rw [kExp, kExp, List.take_take, Nat.min_eq_left (by omega)]
theorem kExp_all (key info : List UInt8) : kExp key info 8160 = kOut key info 255 := by
  rw [kExp, List.take_of_length_le (by rw [kOut_length]; omega)]
theorem kOut_part (key info : List UInt8) (i d : Nat) : ((kOut key info (i + 1 + d)).drop (32 * i)).take 32 = kT key info (i + 1) := by
  induction d with
  | zero =>
    rw [Nat.add_zero, kOut, List.drop_append_of_le_length (by rw [kOut_length]; omega), List.drop_of_length_le (by rw [kOut_length]; omega), List.nil_append, List.take_of_length_le (by rw [kT_length]; omega)]
  | succ d ih =>
    rw [← Nat.add_assoc, kOut, List.drop_append_of_le_length (by rw [kOut_length]; omega), List.take_append_of_le_length (by rw [List.length_drop, kOut_length]; omega), ih]
theorem kLast (key info : List UInt8) : (kExp key info 8160).drop 8128 = mTag key (((kExp key info 8160).drop 8096).take 32 ++ info ++ [255]) := by
  rw [kExp_all]
  have h1 := kOut_part key info 253 1
  have h2 := kOut_part key info 254 0
  rw [show 253 + 1 + 1 = 255 from rfl, show 32 * 253 = 8096 from rfl, show 253 + 1 = 254 from rfl] at h1
  rw [show 254 + 1 + 0 = 255 from rfl, show 32 * 254 = 8128 from rfl] at h2
  have h3 : ((kOut key info 255).drop 8128).length ≤ 32 := by rw [List.length_drop, kOut_length]; omega
  rw [List.take_of_length_le h3] at h2
  rw [h1, h2]; rfl
theorem kExp_zero (key info : List UInt8) : kExp key info 0 = [] := by rw [kExp, List.take_zero]
end Go.Proofs.YtabeehljpdehcaaDoor
