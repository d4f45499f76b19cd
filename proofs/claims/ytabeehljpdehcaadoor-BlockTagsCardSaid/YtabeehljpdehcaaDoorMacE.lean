/- HMAC: two texts compared at every byte, by a contract. -/
import Derived.Test.YtabeehljpdehcaaDoorMacB
namespace Go.Proofs.YtabeehljpdehcaaDoor
set_option linter.unusedVariables false
set_option linter.unusedSimpArgs false
open Go.RowKit Go.Lib
section
attribute [local irreducible] mPart mXor str
theorem byteAt_any (l : List UInt8) (i : Nat) (w : World) (hl : l.length ≤ 140737488351232) (hi : i ≤ 1000000000) :
    Calls Tryd.prog 62 #[.string (str l), .int .i64 i] w fun e w' => e = .returned (.int .i64 (bth l i : Nat)) ∧ Below w.heap.size w w' := by
  have hs := str_size l
  by_cases h : i < l.length
  · have hb : bth l i = (l[i]).toNat := by unfold bth; rw [List.getD_eq_getElem?_getD, List.getElem?_eq_getElem h]; rfl
    have hg := str_getM l i h
    rw [hb]
    have h256 := l[i].toNat_lt
    clear hb
    go_enter Tryd.func62, Tryd.ntmps62
    go_wp2_with fail
    go_ret
    exact ⟨by go_num, Below.refl _ _⟩
  · have hb : bth l i = 0 := by unfold bth; rw [List.getD_eq_getElem?_getD, List.getElem?_eq_none (by omega)]; rfl
    rw [hb]
    go_enter Tryd.func62, Tryd.ntmps62
    go_wp2_with fail
    go_ret
    exact ⟨rfl, Below.refl _ _⟩

end
attribute [local irreducible] str dif bth

set_option maxRecDepth 100000 in
set_option maxHeartbeats 2000000 in
theorem equal_any (a b : List UInt8) (w : World) (ha : a.length ≤ 1000000) (hb : b.length ≤ 1000000) :
    Calls Tryd.prog 38 #[.string (str a), .string (str b)] w fun e w' => e = .returned (.tuple #[.bool (decide (a = b)), .int .i64 (max a.length b.length : Nat)]) ∧ Below w.heap.size w w' := by
  have sa := str_size a
  have sb := str_size b
  have hd := dif_same a b
  obtain ⟨m, hm⟩ : ∃ m, max a.length b.length = m := ⟨_, rfl⟩
  have hx0 := xor_i64_nat a.length b.length (by omega) (by omega)
  rw [← dif_start] at hx0
  rw [hm] at hd ⊢
  have hmb : m ≤ 1000000 := by omega
  have HD := Kept.mk hd; clear hd
  go_enter Tryd.func38, Tryd.ntmps38
  go_upto_region 3 with fail
  rw [show max (a.length : Int) (b.length : Int) = (m : Int) by omega]
  clear hx0 hm
  go_loopw [6, 7, 19] (fun s6 s7 s19 wr => ∃ i : Nat, i ≤ m ∧ s6 = .int .i64 i ∧ s7 = .int .i64 (dif a b i : Nat) ∧ s19 = .int .i64 i ∧ Below w.heap.size w wr) (fun _ _ s19 _ => m - (RowKit.intOf s19).toNat)
  case atStart => exact ⟨0, by omega, rfl, rfl, rfl, Below.refl _ _⟩
  case round =>
    obtain ⟨i, hi, rfl, rfl, rfl, hbl⟩ := hrel
    by_cases hlt : i < m
    · have h1 := dif_lt a b ha hb i
      have h2 := byte_lt a i
      have h3 := byte_lt b i
      have hx := xor_i64_nat (bth a i) (bth b i) (by omega) (by omega)
      have hx2 : bth a i ^^^ bth b i < 4294967296 := by
        have := Nat.xor_lt_two_pow (n := 8) (show bth a i < 2 ^ 8 from h2) (show bth b i < 2 ^ 8 from h3)
        omega
      have ho := or_i64_nat (dif a b i) (bth a i ^^^ bth b i) h1 hx2
      rw [← dif_next] at ho
      have HB := Kept.mk hbl; clear hbl
      go_wp2_with fail
      refine (byteAt_any a i _ (by omega) (by omega)).mono ?_
      rintro e w1 ⟨rfl, hb1⟩
      have HB1 := Kept.mk (HB.out.trans (hb1.mono HB.out.size))
      clear hb1 HB
      go_wp2_with fail
      refine (byteAt_any b i _ (by omega) (by omega)).mono ?_
      rintro e w2 ⟨rfl, hb2⟩
      have HB2 := Kept.mk (HB1.out.trans (hb2.mono HB1.out.size))
      clear hb2 HB1
      go_wp2_with fail
      exact ⟨⟨i + 1, by omega, by go_num, rfl, by go_num, HB2.out⟩, by simp [RowKit.intOf]; omega⟩
    · have him : i = m := by omega
      subst him
      have hb : (((dif a b i : Nat) : Int) == 0) = decide (a = b) := by
        by_cases h : a = b
        · rw [decide_eq_true h, (HD.out).2 h]; rfl
        · rw [decide_eq_false h]
          have := mt (HD.out).1 h
          simp; omega
      have HBQ := Kept.mk hb
      clear hb
      go_wp2_with fail
      go_ret2
      refine ⟨?_, hbl⟩
      rw [← HBQ.out]
      rfl

end Go.Proofs.YtabeehljpdehcaaDoor
