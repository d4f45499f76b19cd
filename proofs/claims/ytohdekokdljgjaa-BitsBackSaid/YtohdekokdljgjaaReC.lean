/- bits: readers: bits taken, each by a contract. -/
import Derived.Test.YtohdekokdljgjaaReB
import Derived.Test.YtohdekokdljgjaaChaA
namespace Go.Proofs.Ytohdekokdljgjaa
set_option linter.unusedVariables false
set_option linter.unusedSimpArgs false
open Go.RowKit Go.Lib
/-- the bit at a place, and so many of them from a place on, the lowest first -/
def bt (l : List UInt8) (p : Nat) : Nat := (l.getD (p / 8) 0).toNat / 2 ^ (p % 8) % 2
def bv (l : List UInt8) : Nat → Nat → Nat
  | _, 0 => 0
  | u, k + 1 => bt l u + 2 * bv l (u + 1) k
theorem bt_lt (l : List UInt8) (p : Nat) : bt l p < 2 := Nat.mod_lt _ (by decide)
theorem bv_snoc (l : List UInt8) (u k : Nat) : bv l u (k + 1) = bv l u k + bt l (u + k) * 2 ^ k := by
  induction k generalizing u with
  | zero => simp [bv]
  | succ k ih =>
    have h := ih (u + 1)
    rw [show u + 1 + k = u + (k + 1) from by omega] at h
    have e1 : bv l u (k + 1 + 1) = bt l u + 2 * bv l (u + 1) (k + 1) := rfl
    have e2 : bv l u (k + 1) = bt l u + 2 * bv l (u + 1) k := rfl
    have e3 : bt l (u + (k + 1)) * 2 ^ (k + 1) = 2 * (bt l (u + (k + 1)) * 2 ^ k) := by rw [Nat.pow_succ, ← Nat.mul_assoc, Nat.mul_comm]
    rw [e1, e2, e3, h]
    omega
theorem bv_lt (l : List UInt8) (u k : Nat) : bv l u k < 2 ^ k := by
  induction k generalizing u with
  | zero => simp [bv]
  | succ k ih =>
    have h1 := bt_lt l u
    have h2 := ih (u + 1)
    rw [bv, Nat.pow_succ]; omega
theorem bv_zero (l : List UInt8) (u : Nat) : bv l u 0 = 0 := rfl
theorem bv_step (l : List UInt8) (u k : Nat) : bv l u (k + 1) = bt l u + 2 * bv l (u + 1) k := rfl
theorem str_get (l : List UInt8) (i : Nat) (h : i < l.length) (h2 : i < (str l).size) : (str l)[i] = l[i] := rfl
theorem and_u8_one (m : Nat) (h : m < 256) : bits .and .u8 (m : Int) 1 = ((m % 2 : Nat) : Int) := by
  show IntKind.u8.wrap ((BitVec.ofInt 8 (m : Int) &&& BitVec.ofInt 8 1).toNat : Int) = _
  have h1 : (BitVec.ofInt 8 (m : Int)).toNat = m := by simp only [BitVec.toNat_ofInt]; omega
  have h2 : (BitVec.ofInt 8 1).toNat = 1 := by decide
  rw [BitVec.toNat_and, h1, h2, Nat.and_one_is_mod, IntKind.wrap_u8]
  omega
theorem or_bit (V j r : Nat) (c : UInt8) (hV : V < 2 ^ j) (hj : j ≤ 61) :
    bits .or .i64 (V : Int) (wrap64 (wrap64 (bits .and .u8 ((c.toNat : Int) / 2 ^ r) 1) * 2 ^ j)) = ((V + (c.toNat / 2 ^ r % 2) * 2 ^ j : Nat) : Int) := by
  have hc := c.toNat_lt
  have e1 : ((c.toNat : Int) / 2 ^ r) = ((c.toNat / 2 ^ r : Nat) : Int) := by rw [Int.natCast_ediv, Int.natCast_pow]; rfl
  have hm : c.toNat / 2 ^ r < 256 := Nat.lt_of_le_of_lt (Nat.div_le_self _ _) hc
  rw [e1, and_u8_one _ hm]
  have hb : c.toNat / 2 ^ r % 2 < 2 := Nat.mod_lt _ (by decide)
  generalize c.toNat / 2 ^ r % 2 = b at *
  have h61 : 2 ^ j ≤ 2 ^ 61 := Nat.pow_le_pow_right (by decide) hj
  have h62 : (2 : Nat) ^ 61 = 2305843009213693952 := by decide
  have hb2 : b * 2 ^ j ≤ 2305843009213693952 := by
    rcases (show b = 0 ∨ b = 1 from by omega) with rfl | rfl <;> omega
  rw [wrap64_in (b : Int) (by omega) (by omega)]
  have e2 : ((b : Int) * 2 ^ j) = ((b * 2 ^ j : Nat) : Int) := by rw [Int.natCast_mul, Int.natCast_pow]; rfl
  rw [e2, wrap64_in _ (by omega) (by omega), or_i64 _ _ (by omega) (by omega)]
  congr 1
  have h := Nat.two_pow_add_eq_or_of_lt hV b
  rw [Nat.mul_comm b, Nat.or_comm, ← h]; omega
attribute [local irreducible] str bt bv

set_option maxRecDepth 100000 in
set_option maxHeartbeats 1000000 in
theorem rdTake_round (g : Nat) (l : List UInt8) (u n : Nat) (w : World) (hr : RS w 72 g l u) (hl : l.length ≤ 10000) (hn : n ≤ 62) (hu : u + n ≤ 8 * l.length) :
    Calls Try.prog 19 #[.pointer (some ⟨g, 0, none⟩), .int .i64 (n : Int)] w fun e w' => e = .returned (.tuple #[.int .i64 ((bv l u n : Nat) : Int), .bool true]) ∧ RS w' 72 g l (u + n) ∧ OneB g w w' := by
  have hs := str_size l
  have h3 : (l.length : Int) ≤ 10000 := by omega
  have hn2 : (n : Int) ≤ 62 := by omega
  have hn3 : ¬ ((8 * l.length - u : Nat) : Int) < (n : Int) := by omega
  have HR := Kept.mk hr
  clear hr
  go_enter Try.func19, Try.ntmps19
  go_wp2_with fail
  with_reducible refine (rdLeft_any g l u w HR.out hl (by omega)).mono ?_
  rintro e w1 ⟨rfl, q, rfl⟩
  have HRQ := Kept.mk (HR.out.drewN q)
  have HOQ := Kept.mk ((OneB.refl g w).drewN q)
  clear HR
  generalize w.drewN q = w1 at *
  generalize 8 * l.length - u = lf at *
  go_wp2_with fail
  go_loopw [6, 25] (fun v i wr => ∃ j : Nat, j ≤ n ∧ i = .int .i64 j ∧ v = .int .i64 ((bv l u j : Nat) : Int) ∧ RS wr 72 g l (u + j) ∧ OneB g w wr) (fun _ i _ => n - (RowKit.intOf i).toNat)
  case atStart => exact ⟨0, Nat.zero_le _, rfl, by rw [bv_zero]; rfl, HRQ.out, HOQ.out⟩
  case round =>
    clear HRQ HOQ hn3
    obtain ⟨j, hj, rfl, rfl, hr, ho⟩ := hrel
    by_cases hlt : j < n
    · have HSN := Kept.mk (bv_snoc l u j)
      have HLT := Kept.mk (bv_lt l u j)
      have c0 := hr.c0
      have c1 := hr.c1
      have f1 := hr.f1
      have HR2 := Kept.mk hr
      have HO := Kept.mk ho
      have HSS := Kept.mk (fun (n : Nat) => show RS ((wr.drewN n).setCell ⟨g, 1, none⟩ (.int .i64 (((u + j : Nat) : Int) + 1))) 72 g l (u + (j + 1)) from (hr.drewN n).set (u + j + 1))
      clear hr ho
      obtain ⟨p, hp⟩ : ∃ p, u + j = p := ⟨_, rfl⟩
      obtain ⟨q, hq⟩ : ∃ q, p / 8 = q := ⟨_, rfl⟩
      obtain ⟨r, hr⟩ : ∃ r, p % 8 = r := ⟨_, rfl⟩
      rw [hp] at c1 HSS
      have hql : q < l.length := by omega
      have i1 : (p : Int) / 8 = (q : Int) := by omega
      have i2 : (p : Int) % 8 = (r : Int) := by omega
      have i3 : (p : Int) ≤ 80000 := by omega
      have i4 : (r : Int) < 8 := by omega
      have i5 : (q : Int) < (l.length : Int) := by omega
      have hg := str_get l q hql (by rw [hs]; exact hql)
      have HP := Kept.mk (And.intro hp (And.intro hq hr))
      have HG := Kept.mk (show bt l p = l[q].toNat / 2 ^ r % 2 from by unfold bt; rw [hq, hr, List.getD_eq_getElem?_getD, List.getElem?_eq_getElem hql]; rfl)
      clear hp hq hr hu
      generalize bv l u j = V at *
      generalize l[q] = c at *
      go_wp2_with fail
      go_quiet (fail)
      go_wp2_with fail
      refine ⟨⟨j + 1, by omega, by go_num, ?_, ?_, ?_⟩, by simp [RowKit.intOf]; omega⟩
      · rw [or_bit V j r c HLT.out (by omega), HSN.out, HP.out.1, HG.out]
      · exact HSS.out _
      · exact (HO.out.drewN _).setCell _ _
    · have hjn : j = n := by omega
      subst hjn
      have HR2 := Kept.mk hr
      have HO := Kept.mk ho
      clear hr ho
      go_wp2_with fail
      go_ret2
      exact ⟨rfl, HR2.out, HO.out⟩
end Go.Proofs.Ytohdekokdljgjaa
