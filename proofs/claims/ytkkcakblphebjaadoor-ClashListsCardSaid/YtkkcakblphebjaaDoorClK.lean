/- Clashes of two lists by definition. -/
import Derived.Test.YtkkcakblphebjaaDoorClB
import Derived.OwnWalk
import Derived.Deep.RegionHeld3
namespace Go.Proofs.YtkkcakblphebjaaDoor
set_option linter.unusedVariables false
set_option linter.unusedSimpArgs false
open Go.RowKit Go.Lib
attribute [local irreducible] str sSum wid tS tLeaf tNode cutN cRoot
set_option maxRecDepth 100000 in
set_option maxHeartbeats 1000000 in
theorem rl_ne (w : Int) (A B : Option Addr) (ca cb m m' : Nat) (W : World) (t t' s s' : BL) (hne : s ≠ s') (HTa : Kept (∀ w', Below W.heap.size W w' → Calls Tryd.prog 31 #[.int .i64 w, .slice A m ca] w' fun e w2 => e = .returned (.string (str t)) ∧ Below w'.heap.size w' w2)) (HTb : Kept (∀ w', Below W.heap.size W w' → Calls Tryd.prog 31 #[.int .i64 w, .slice B m' cb] w' fun e w2 => e = .returned (.string (str t')) ∧ Below w'.heap.size w' w2)) (HSa : Kept (∀ w', Calls Tryd.prog 27 #[.int .i64 w, .string (str t)] w' fun e w2 => e = .returned (.string (str s)) ∧ Below w'.heap.size w' w2)) (HSb : Kept (∀ w', Calls Tryd.prog 27 #[.int .i64 w, .string (str t')] w' fun e w2 => e = .returned (.string (str s')) ∧ Below w'.heap.size w' w2)) :
    Calls Tryd.prog 14 #[.int .i64 w, .slice A m ca, .slice B m' cb] W fun e w' => e = .returned (.tuple #[.string { data := #[] }, .string { data := #[] }, .bool false]) ∧ Below W.heap.size W w' := by
  have e1 := str_toList s
  have e2 := str_toList s'
  have e3 : (s == s') = false := by simpa using hne
  go_enter Tryd.func14, Tryd.ntmps14
  go_wp2_with fail
  with_reducible refine (HTa.out W (Below.refl _ _)).mono ?_
  rintro e w1 ⟨rfl, b1⟩
  go_wp2_with fail
  with_reducible refine (HTb.out w1 b1).mono ?_
  rintro e w2 ⟨rfl, b2⟩
  have b2 := bnext b1 b2
  go_wp2_with fail
  with_reducible refine (HSa.out w2).mono ?_
  rintro e w3 ⟨rfl, b3⟩
  have b3 := bnext b2 b3
  go_wp2_with fail
  with_reducible refine (HSb.out w3).mono ?_
  rintro e w4 ⟨rfl, b4⟩
  have b4 := bnext b3 b4
  have HB4 := Kept.mk b4
  clear b1 b2 b3 b4
  go_wp2_with fail
  go_ret3
  exact ⟨rfl, HB4.out⟩
set_option maxRecDepth 100000 in
set_option maxHeartbeats 1000000 in
theorem rl_top (w : Int) (A B : Option Addr) (ca cb m m' : Nat) (W : World) (t t' s : BL) (hne : t ≠ t') (HTa : Kept (∀ w', Below W.heap.size W w' → Calls Tryd.prog 31 #[.int .i64 w, .slice A m ca] w' fun e w2 => e = .returned (.string (str t)) ∧ Below w'.heap.size w' w2)) (HTb : Kept (∀ w', Below W.heap.size W w' → Calls Tryd.prog 31 #[.int .i64 w, .slice B m' cb] w' fun e w2 => e = .returned (.string (str t')) ∧ Below w'.heap.size w' w2)) (HSa : Kept (∀ w', Calls Tryd.prog 27 #[.int .i64 w, .string (str t)] w' fun e w2 => e = .returned (.string (str s)) ∧ Below w'.heap.size w' w2)) (HSb : Kept (∀ w', Calls Tryd.prog 27 #[.int .i64 w, .string (str t')] w' fun e w2 => e = .returned (.string (str s)) ∧ Below w'.heap.size w' w2)) :
    Calls Tryd.prog 14 #[.int .i64 w, .slice A m ca, .slice B m' cb] W fun e w' => e = .returned (.tuple #[.string (str t), .string (str t'), .bool true]) ∧ Below W.heap.size W w' := by
  have e1 := str_toList t
  have e2 := str_toList t'
  have e3 : (t == t') = false := by simpa using hne
  have e4 := str_toList s
  go_enter Tryd.func14, Tryd.ntmps14
  go_wp2_with fail
  with_reducible refine (HTa.out W (Below.refl _ _)).mono ?_
  rintro e w1 ⟨rfl, b1⟩
  go_wp2_with fail
  with_reducible refine (HTb.out w1 b1).mono ?_
  rintro e w2 ⟨rfl, b2⟩
  have b2 := bnext b1 b2
  go_wp2_with fail
  with_reducible refine (HSa.out w2).mono ?_
  rintro e w3 ⟨rfl, b3⟩
  have b3 := bnext b2 b3
  go_wp2_with fail
  with_reducible refine (HSb.out w3).mono ?_
  rintro e w4 ⟨rfl, b4⟩
  have b4 := bnext b3 b4
  have HB4 := Kept.mk b4
  clear b1 b2 b3 b4
  go_wp2_with fail
  go_ret3
  exact ⟨rfl, HB4.out⟩
set_option maxRecDepth 100000 in
set_option maxHeartbeats 1000000 in
theorem rl_short (w : Int) (A B : Option Addr) (ca cb m m' : Nat) (W : World) (t s : BL) (hm : m < 2) (HTa : Kept (∀ w', Below W.heap.size W w' → Calls Tryd.prog 31 #[.int .i64 w, .slice A m ca] w' fun e w2 => e = .returned (.string (str t)) ∧ Below w'.heap.size w' w2)) (HTb : Kept (∀ w', Below W.heap.size W w' → Calls Tryd.prog 31 #[.int .i64 w, .slice B m' cb] w' fun e w2 => e = .returned (.string (str t)) ∧ Below w'.heap.size w' w2)) (HSa : Kept (∀ w', Calls Tryd.prog 27 #[.int .i64 w, .string (str t)] w' fun e w2 => e = .returned (.string (str s)) ∧ Below w'.heap.size w' w2)) (HSb : Kept (∀ w', Calls Tryd.prog 27 #[.int .i64 w, .string (str t)] w' fun e w2 => e = .returned (.string (str s)) ∧ Below w'.heap.size w' w2)) :
    Calls Tryd.prog 14 #[.int .i64 w, .slice A m ca, .slice B m' cb] W fun e w' => e = .returned (.tuple #[.string { data := #[] }, .string { data := #[] }, .bool false]) ∧ Below W.heap.size W w' := by
  have e1 := str_toList t
  have e4 := str_toList s
  have h2 : (m : Int) < 2 := by omega
  go_enter Tryd.func14, Tryd.ntmps14
  go_wp2_with fail
  with_reducible refine (HTa.out W (Below.refl _ _)).mono ?_
  rintro e w1 ⟨rfl, b1⟩
  go_wp2_with fail
  with_reducible refine (HTb.out w1 b1).mono ?_
  rintro e w2 ⟨rfl, b2⟩
  have b2 := bnext b1 b2
  go_wp2_with fail
  with_reducible refine (HSa.out w2).mono ?_
  rintro e w3 ⟨rfl, b3⟩
  have b3 := bnext b2 b3
  go_wp2_with fail
  with_reducible refine (HSb.out w3).mono ?_
  rintro e w4 ⟨rfl, b4⟩
  have b4 := bnext b3 b4
  have HB4 := Kept.mk b4
  clear b1 b2 b3 b4
  go_wp2_with fail
  go_ret3
  exact ⟨rfl, HB4.out⟩
set_option maxRecDepth 100000 in
set_option maxHeartbeats 1000000 in
theorem rl_left (w : Int) (ad bd : Addr) (ca cb m m' k k' : Nat) (W : World) (t s : BL) (hm : 2 ≤ m) (hk : 0 < k) (hkm : k < m) (hmc : m ≤ ca) (hk' : 0 < k') (hkm' : k' < m') (hmc' : m' ≤ cb) (x y : ByteArray) (HTa : Kept (∀ w', Below W.heap.size W w' → Calls Tryd.prog 31 #[.int .i64 w, .slice (some ad) m ca] w' fun e w2 => e = .returned (.string (str t)) ∧ Below w'.heap.size w' w2)) (HTb : Kept (∀ w', Below W.heap.size W w' → Calls Tryd.prog 31 #[.int .i64 w, .slice (some bd) m' cb] w' fun e w2 => e = .returned (.string (str t)) ∧ Below w'.heap.size w' w2)) (HSa : Kept (∀ w', Calls Tryd.prog 27 #[.int .i64 w, .string (str t)] w' fun e w2 => e = .returned (.string (str s)) ∧ Below w'.heap.size w' w2)) (HSb : Kept (∀ w', Calls Tryd.prog 27 #[.int .i64 w, .string (str t)] w' fun e w2 => e = .returned (.string (str s)) ∧ Below w'.heap.size w' w2)) (HCa : Kept (∀ w', Calls Tryd.prog 32 #[.int .i64 m] w' fun e w2 => e = .returned (.int .i64 ((k : Nat) : Int)) ∧ w' = w2)) (HCb : Kept (∀ w', Calls Tryd.prog 32 #[.int .i64 m'] w' fun e w2 => e = .returned (.int .i64 ((k' : Nat) : Int)) ∧ w' = w2)) (HL : Kept (∀ w', Below W.heap.size W w' → Calls Tryd.prog 14 #[.int .i64 w, .slice (some ad) k ca, .slice (some bd) k' cb] w' fun e w2 => e = .returned (.tuple #[.string x, .string y, .bool true]) ∧ Below w'.heap.size w' w2)) :
    Calls Tryd.prog 14 #[.int .i64 w, .slice (some ad) m ca, .slice (some bd) m' cb] W fun e w' => e = .returned (.tuple #[.string x, .string y, .bool true]) ∧ Below W.heap.size W w' := by
  have e1 := str_toList t
  have e4 := str_toList s
  have h2 : ¬ (m : Int) < 2 := by omega
  have f0 : (0 : Int) ≤ (k : Int) := by omega
  have f1 : (k : Int) ≤ (m : Int) := by omega
  have f2 : (m : Int) ≤ (ca : Int) := by omega
  have f3 : (k : Int) ≤ (ca : Int) := by omega
  have f4 : (0 : Int) ≤ (m : Int) := by omega
  have f5 : ¬ k = m := by omega
  have f6 : k ≤ m := by omega
  have f7 : k ≤ ca := by omega
  have f8 : ¬ ca = k := by omega
  have g0 : (0 : Int) ≤ (k' : Int) := by omega
  have g1 : (k' : Int) ≤ (m' : Int) := by omega
  have g2 : (m' : Int) ≤ (cb : Int) := by omega
  have g3 : (k' : Int) ≤ (cb : Int) := by omega
  have g4 : (0 : Int) ≤ (m' : Int) := by omega
  have g5 : ¬ k' = m' := by omega
  have g6 : k' ≤ m' := by omega
  have g7 : k' ≤ cb := by omega
  have g8 : ¬ cb = k' := by omega
  clear hm hk hkm hmc hk' hkm' hmc'
  go_enter Tryd.func14, Tryd.ntmps14
  go_wp2_with fail
  with_reducible refine (HTa.out W (Below.refl _ _)).mono ?_
  rintro e w1 ⟨rfl, b1⟩
  go_wp2_with fail
  with_reducible refine (HTb.out w1 b1).mono ?_
  rintro e w2 ⟨rfl, b2⟩
  have b2 := bnext b1 b2
  go_wp2_with fail
  with_reducible refine (HSa.out w2).mono ?_
  rintro e w3 ⟨rfl, b3⟩
  have b3 := bnext b2 b3
  go_wp2_with fail
  with_reducible refine (HSb.out w3).mono ?_
  rintro e w4 ⟨rfl, b4⟩
  have b4 := bnext b3 b4
  have HB4 := Kept.mk b4
  clear b1 b2 b3 b4
  go_wp2_with fail
  with_reducible refine (HCa.out w4).mono ?_
  rintro e w5 ⟨rfl, rfl⟩
  go_wp2_with fail
  with_reducible refine (HCb.out w4).mono ?_
  rintro e w5 ⟨rfl, rfl⟩
  go_wp2_with fail
  go_region_held3 (fun w' => Below W.heap.size W w')
    (first
      | exact HB4.out.drew
      | exact bnext (by assumption) hbA
      | assumption)
    (first
      | (go_at_call 14; with_reducible refine (HL.out _ (by assumption)).mono ?_; rintro e wA ⟨rfl, hbA⟩))
  all_goals
    have HBA := Kept.mk (show Below W.heap.size W wA by assumption)
    go_wp2_with fail
    go_ret3
    exact ⟨rfl, HBA.out⟩
set_option maxRecDepth 100000 in
set_option maxHeartbeats 1000000 in
theorem rl_right (w : Int) (ad bd : Addr) (ca cb m m' k k' : Nat) (W : World) (t s : BL) (hm : 2 ≤ m) (hk : 0 < k) (hkm : k < m) (hmc : m ≤ ca) (hk' : 0 < k') (hkm' : k' < m') (hmc' : m' ≤ cb) (x y : ByteArray) (b : Bool) (HTa : Kept (∀ w', Below W.heap.size W w' → Calls Tryd.prog 31 #[.int .i64 w, .slice (some ad) m ca] w' fun e w2 => e = .returned (.string (str t)) ∧ Below w'.heap.size w' w2)) (HTb : Kept (∀ w', Below W.heap.size W w' → Calls Tryd.prog 31 #[.int .i64 w, .slice (some bd) m' cb] w' fun e w2 => e = .returned (.string (str t)) ∧ Below w'.heap.size w' w2)) (HSa : Kept (∀ w', Calls Tryd.prog 27 #[.int .i64 w, .string (str t)] w' fun e w2 => e = .returned (.string (str s)) ∧ Below w'.heap.size w' w2)) (HSb : Kept (∀ w', Calls Tryd.prog 27 #[.int .i64 w, .string (str t)] w' fun e w2 => e = .returned (.string (str s)) ∧ Below w'.heap.size w' w2)) (HCa : Kept (∀ w', Calls Tryd.prog 32 #[.int .i64 m] w' fun e w2 => e = .returned (.int .i64 ((k : Nat) : Int)) ∧ w' = w2)) (HCb : Kept (∀ w', Calls Tryd.prog 32 #[.int .i64 m'] w' fun e w2 => e = .returned (.int .i64 ((k' : Nat) : Int)) ∧ w' = w2)) (HL : Kept (∀ w', Below W.heap.size W w' → Calls Tryd.prog 14 #[.int .i64 w, .slice (some ad) k ca, .slice (some bd) k' cb] w' fun e w2 => e = .returned (.tuple #[.string { data := #[] }, .string { data := #[] }, .bool false]) ∧ Below w'.heap.size w' w2)) (HR : Kept (∀ w', Below W.heap.size W w' → Calls Tryd.prog 14 #[.int .i64 w, .slice (some (ad.add k)) (m - k) (ca - k), .slice (some (bd.add k')) (m' - k') (cb - k')] w' fun e w2 => e = .returned (.tuple #[.string x, .string y, .bool b]) ∧ Below w'.heap.size w' w2)) :
    Calls Tryd.prog 14 #[.int .i64 w, .slice (some ad) m ca, .slice (some bd) m' cb] W fun e w' => e = .returned (.tuple #[.string x, .string y, .bool b]) ∧ Below W.heap.size W w' := by
  have e1 := str_toList t
  have e4 := str_toList s
  have h2 : ¬ (m : Int) < 2 := by omega
  have f0 : (0 : Int) ≤ (k : Int) := by omega
  have f1 : (k : Int) ≤ (m : Int) := by omega
  have f2 : (m : Int) ≤ (ca : Int) := by omega
  have f3 : (k : Int) ≤ (ca : Int) := by omega
  have f4 : (0 : Int) ≤ (m : Int) := by omega
  have f5 : ¬ k = m := by omega
  have f6 : k ≤ m := by omega
  have f7 : k ≤ ca := by omega
  have f8 : ¬ ca = k := by omega
  have g0 : (0 : Int) ≤ (k' : Int) := by omega
  have g1 : (k' : Int) ≤ (m' : Int) := by omega
  have g2 : (m' : Int) ≤ (cb : Int) := by omega
  have g3 : (k' : Int) ≤ (cb : Int) := by omega
  have g4 : (0 : Int) ≤ (m' : Int) := by omega
  have g5 : ¬ k' = m' := by omega
  have g6 : k' ≤ m' := by omega
  have g7 : k' ≤ cb := by omega
  have g8 : ¬ cb = k' := by omega
  clear hm hk hkm hmc hk' hkm' hmc'
  go_enter Tryd.func14, Tryd.ntmps14
  go_wp2_with fail
  with_reducible refine (HTa.out W (Below.refl _ _)).mono ?_
  rintro e w1 ⟨rfl, b1⟩
  go_wp2_with fail
  with_reducible refine (HTb.out w1 b1).mono ?_
  rintro e w2 ⟨rfl, b2⟩
  have b2 := bnext b1 b2
  go_wp2_with fail
  with_reducible refine (HSa.out w2).mono ?_
  rintro e w3 ⟨rfl, b3⟩
  have b3 := bnext b2 b3
  go_wp2_with fail
  with_reducible refine (HSb.out w3).mono ?_
  rintro e w4 ⟨rfl, b4⟩
  have b4 := bnext b3 b4
  have HB4 := Kept.mk b4
  clear b1 b2 b3 b4
  go_wp2_with fail
  with_reducible refine (HCa.out w4).mono ?_
  rintro e w5 ⟨rfl, rfl⟩
  go_wp2_with fail
  with_reducible refine (HCb.out w4).mono ?_
  rintro e w5 ⟨rfl, rfl⟩
  go_wp2_with fail
  go_region_held3 (fun w' => Below W.heap.size W w')
    (first
      | exact HB4.out.drew
      | exact bnext (by assumption) hbA
      | assumption)
    (first
      | (go_at_call 14; with_reducible refine (HL.out _ (by assumption)).mono ?_; rintro e wA ⟨rfl, hbA⟩))
  all_goals
    have HBA := Kept.mk (show Below W.heap.size W wA by assumption)
    go_wp2_with fail
    go_region_held3 (fun w' => Below W.heap.size W w')
      (first
        | exact HBA.out.drew
        | exact bnext (by assumption) hbB
        | assumption)
      (first
        | (go_at_call 14; with_reducible refine (HR.out _ (by assumption)).mono ?_; rintro e wB ⟨rfl, hbB⟩))
    all_goals
      have HBB := Kept.mk (show Below W.heap.size W wB by assumption)
      go_wp2_with fail
      go_ret3
      exact ⟨rfl, HBB.out⟩
end Go.Proofs.YtkkcakblphebjaaDoor
