/- bits: readers: bits taken or none, of the program and by definition, each by a contract. -/
import Derived.Test.YtohdekokdljgjaaReC
namespace Go.Proofs.Ytohdekokdljgjaa
set_option linter.unusedVariables false
set_option linter.unusedSimpArgs false
open Go.RowKit Go.Lib
theorem and_one (m : Nat) (h : m < 256) : bits .and .i64 (m : Int) 1 = ((m % 2 : Nat) : Int) := by
  have := and_mask (m : Int) 1 (by omega) 1 rfl
  rw [this]; omega
theorem and_bit (c : UInt8) (r : Nat) : bits .and .i64 ((c.toNat : Int) / 2 ^ r) 1 = ((c.toNat / 2 ^ r % 2 : Nat) : Int) := by
  have hc := c.toNat_lt
  have e1 : ((c.toNat : Int) / 2 ^ r) = ((c.toNat / 2 ^ r : Nat) : Int) := by rw [Int.natCast_ediv, Int.natCast_pow]; rfl
  have hm : c.toNat / 2 ^ r < 256 := Nat.lt_of_le_of_lt (Nat.div_le_self _ _) hc
  rw [e1, and_one _ hm]
attribute [local irreducible] str bt bv

set_option maxRecDepth 100000 in
set_option maxHeartbeats 1000000 in
theorem rdTake_no (g : Nat) (l : List UInt8) (u : Nat) (n : Int) (w : World) (hr : RS w 72 g l u) (hl : l.length ≤ 10000) (hu : u ≤ 8 * l.length) (hn : n < 0 ∨ 62 < n ∨ ((8 * l.length - u : Nat) : Int) < n) :
    Calls Try.prog 19 #[.pointer (some ⟨g, 0, none⟩), .int .i64 n] w fun e w' => e = .returned (.tuple #[.int .i64 0, .bool false]) ∧ ∃ k, w' = w.drewN k := by
  by_cases h1 : n < 0
  · clear hn
    go_enter Try.func19, Try.ntmps19
    go_wp2_with fail
    go_ret2
    exact ⟨rfl, 0, rfl⟩
  · by_cases h2 : 62 < n
    · clear hn
      go_enter Try.func19, Try.ntmps19
      go_wp2_with fail
      go_ret2
      exact ⟨rfl, 0, rfl⟩
    · have h3 : ((8 * l.length - u : Nat) : Int) < n := by omega
      have HR := Kept.mk hr
      clear hr hn
      go_enter Try.func19, Try.ntmps19
      go_wp2_with fail
      with_reducible refine (rdLeft_any g l u w HR.out hl hu).mono ?_
      rintro e w1 ⟨rfl, q, rfl⟩
      generalize 8 * l.length - u = lf at *
      go_wp2_with fail
      go_ret2
      exact ⟨rfl, q, rfl⟩
set_option maxRecDepth 100000 in
set_option maxHeartbeats 1000000 in
theorem refTake_no (g : Nat) (l : List UInt8) (u : Nat) (n : Int) (w : World) (hr : RS w 45 g l u) (hl : l.length ≤ 10000) (hu : u ≤ 8 * l.length) (hn : n < 0 ∨ 62 < n ∨ ((8 * l.length - u : Nat) : Int) < n) :
    Calls Try.prog 20 #[.pointer (some ⟨g, 0, none⟩), .int .i64 n] w fun e w' => e = .returned (.tuple #[.int .i64 0, .bool false]) ∧ ∃ k, w' = w.drewN k := by
  by_cases h1 : n < 0
  · clear hn
    go_enter Try.func20, Try.ntmps20
    go_wp2_with fail
    go_ret2
    exact ⟨rfl, 0, rfl⟩
  · by_cases h2 : 62 < n
    · clear hn
      go_enter Try.func20, Try.ntmps20
      go_wp2_with fail
      go_ret2
      exact ⟨rfl, 0, rfl⟩
    · have h3 : ((8 * l.length - u : Nat) : Int) < n := by omega
      have HR := Kept.mk hr
      clear hr hn
      go_enter Try.func20, Try.ntmps20
      go_wp2_with fail
      with_reducible refine (refLeft_any g l u w HR.out hl hu).mono ?_
      rintro e w1 ⟨rfl, q, rfl⟩
      generalize 8 * l.length - u = lf at *
      go_wp2_with fail
      go_ret2
      exact ⟨rfl, q, rfl⟩

set_option maxRecDepth 100000 in
set_option maxHeartbeats 1000000 in
theorem refTake_yes (g : Nat) (l : List UInt8) (u n : Nat) (w : World) (hr : RS w 45 g l u) (hl : l.length ≤ 10000) (hn : n ≤ 62) (hu : u + n ≤ 8 * l.length) :
    Calls Try.prog 20 #[.pointer (some ⟨g, 0, none⟩), .int .i64 (n : Int)] w fun e w' => e = .returned (.tuple #[.int .i64 ((bv l u n : Nat) : Int), .bool true]) ∧ RS w' 45 g l (u + n) ∧ OneB g w w' := by
  have hs := str_size l
  have h3 : (l.length : Int) ≤ 10000 := by omega
  have hn2 : (n : Int) ≤ 62 := by omega
  have hn3 : ¬ ((8 * l.length - u : Nat) : Int) < (n : Int) := by omega
  have hu3 : (u : Int) ≤ 80000 := by omega
  have HR := Kept.mk hr
  clear hr
  go_enter Try.func20, Try.ntmps20
  go_wp2_with fail
  with_reducible refine (refLeft_any g l u w HR.out hl (by omega)).mono ?_
  rintro e w1 ⟨rfl, q, rfl⟩
  have HRQ := Kept.mk (HR.out.drewN q)
  have HOQ := Kept.mk ((OneB.refl g w).drewN q)
  clear HR
  generalize w.drewN q = w1 at *
  generalize 8 * l.length - u = lf at *
  go_wp2_with fail
  clear hn3
  have c0 := HRQ.out.c0
  have c1 := HRQ.out.c1
  have f1 := HRQ.out.f1
  go_loop [6, 7] (fun v i => ∃ j : Nat, j ≤ n ∧ i = .int .i64 ((j : Int) - 1) ∧ v = .int .i64 ((bv l (u + j) (n - j) : Nat) : Int)) (fun _ i => ((RowKit.intOf i) + 1).toNat)
  case atStart => exact ⟨n, Nat.le_refl _, rfl, by rw [Nat.sub_self, bv_zero]; rfl⟩
  case round =>
    obtain ⟨j, hj, rfl, rfl⟩ := hrel
    cases j with
    | zero =>
      have HX := Kept.mk (show bv l (u + 0) (n - 0) = bv l u n from rfl)
      have HS := Kept.mk (HRQ.out.set (u + n))
      have HW := Kept.mk (show ((u : Int) + (n : Int)) = ((u + n : Nat) : Int) from by omega)
      go_wp2_with fail
      go_ret2
      refine ⟨by rw [← HX.out]; rfl, ?_, HOQ.out.setCell _ _⟩
      rw [HW.out]; exact HS.out
    | succ j =>
      have HSN := Kept.mk (bv_step l (u + j) (n - (j + 1)))
      have HLT := bv_lt l (u + (j + 1)) (n - (j + 1))
      have h61 : 2 ^ (n - (j + 1)) ≤ 2 ^ 61 := Nat.pow_le_pow_right (by decide) (by omega)
      have h62 : (2 : Nat) ^ 61 = 2305843009213693952 := by decide
      have HE := Kept.mk (show n - (j + 1) + 1 = n - j from by omega)
      have HF := Kept.mk (show u + j + 1 = u + (j + 1) from by omega)
      have hvl : ((bv l (u + (j + 1)) (n - (j + 1)) : Nat) : Int) ≤ 2305843009213693952 := by omega
      have hi1 : (((j + 1 : Nat) : Int) - 1) = (j : Int) := by omega
      rw [hi1]
      clear HLT h61 h62
      obtain ⟨p, hp⟩ : ∃ p, u + j = p := ⟨_, rfl⟩
      obtain ⟨q, hq⟩ : ∃ q, p / 8 = q := ⟨_, rfl⟩
      obtain ⟨r, hr⟩ : ∃ r, p % 8 = r := ⟨_, rfl⟩
      have hql : q < l.length := by omega
      have i0 : (u : Int) + (j : Int) = (p : Int) := by omega
      have i1 : (p : Int) / 8 = (q : Int) := by omega
      have i2 : (p : Int) % 8 = (r : Int) := by omega
      have i3 : (p : Int) ≤ 80000 := by omega
      have i4 : (r : Int) < 8 := by omega
      have i5 : (q : Int) < (l.length : Int) := by omega
      have i6 : (j : Int) ≤ 62 := by omega
      have hg := str_get l q hql (by rw [hs]; exact hql)
      have HG := Kept.mk (show bt l (u + j) = l[q].toNat / 2 ^ r % 2 from by unfold bt; rw [hp, hq, hr, List.getD_eq_getElem?_getD, List.getElem?_eq_getElem hql]; rfl)
      have hab := and_bit l[q] r
      have hb2 : l[q].toNat / 2 ^ r % 2 < 2 := Nat.mod_lt _ (by decide)
      clear hp hq hr hi1
      generalize hV : bv l (u + (j + 1)) (n - (j + 1)) = V at *
      have HV := Kept.mk hV
      clear hV
      generalize l[q] = c at *
      generalize c.toNat / 2 ^ r % 2 = b at *
      have hb3 : (b : Int) ≤ 1 := by omega
      obtain ⟨hc0, hc1⟩ := byte_range c
      go_wp2_with fail
      go_round
      case rel =>
        refine ⟨j, by omega, rfl, ?_⟩
        rw [HE.out, HG.out] at HSN
        rw [HSN.out]
        go_num
      case measure => simp [RowKit.intOf]
end Go.Proofs.Ytohdekokdljgjaa
