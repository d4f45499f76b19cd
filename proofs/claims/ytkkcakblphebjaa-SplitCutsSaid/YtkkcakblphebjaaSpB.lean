/- Cuts of a number: the comparison, the example, the law. -/
import Derived.Test.YtkkcakblphebjaaSpA
namespace Go.Proofs.Ytkkcakblphebjaa
set_option linter.unusedVariables false
set_option linter.unusedSimpArgs false
open Go.RowKit Go.Lib
theorem RowAt.cells {w : World} {ad : Addr} {xs : List Value} (h : RowAt w (some ad) xs) {j : Nat} {u : Value} (hu : xs[j]? = some u) : w.cell? (ad.add j) = some u := by
  have hx : 0 < xs.length := by
    have := (List.getElem?_eq_some_iff.1 hu).1; omega
  obtain ⟨ad2, e, _, hc⟩ := h hx
  cases e; exact hc j u hu
theorem RowAt.off0 {w : World} {g : Nat} {xs : List Value} (h : RowAt w (some ⟨g, 0, none⟩) xs) {j : Nat} {u : Value} (hu : xs[j]? = some u) : w.cell? ⟨g, j, none⟩ = some u := by
  rw [← at_add]; exact h.cells hu
theorem cuts_200 : spCuts 200 = [64, 128, 192, 200] := by decide +kernel
theorem cuts_1200 : spCuts 1200 = [100, 200, 300, 400, 500, 600, 700, 800, 900, 1000, 1100, 1200] := by decide +kernel
theorem Cuts_any (n : Int) (W : World) (h0 : -9223372036854775808 ≤ n) (h1 : n ≤ 9223372036854775807) :
    Calls Try.prog 9 #[.int .i64 n] W fun e w' => ∃ v, e = .returned v ∧ VB W w' v (ivs (spCuts n.toNat)) := by
  rcases Int.lt_or_le n 0 with h | h
  · have e : n.toNat = 0 := by omega
    rw [e]; exact Cuts_neg n W h h0
  · obtain ⟨N, rfl⟩ := Int.eq_ofNat_of_zero_le h
    exact Cuts_pos N W (by omega)
theorem vb_lit {w : World} (L : List Nat) (T : TypeId) : VB w (w.alloc (.cells (ivs L).toArray T)) (.slice (some ⟨w.heap.size, 0, none⟩) L.length L.length) (ivs L) := by
  refine ⟨(Below.refl _ _).alloc (Nat.le_refl _) _, .inr ⟨w.heap.size, L.length, (ivs L).toArray, T, 0, 0, by rw [ivs_length], Nat.le_refl _, heap_new _ _ _ rfl, by rw [ivs_length]; exact Nat.le_refl _, by simp [ivs_length], .inr rfl, by simp⟩⟩
section
attribute [local irreducible] ivs
set_option maxRecDepth 100000 in
set_option maxHeartbeats 1000000 in
theorem Same_any (L : List Nat) (u v : Value) (wu wv w : World) (hu : VB wu w u (ivs L)) (hv : VB wv w v (ivs L)) (hL : L.length ≤ 20000) :
    Calls Try.prog 16 #[u, v] w fun e w' => e = .returned (.bool true) ∧ Below w.heap.size w w' := by
  obtain ⟨A, ca, rfl, hca⟩ := hu.len
  obtain ⟨B, cb, rfl, hcb⟩ := hv.len
  have HU := Kept.mk hu
  have HV := Kept.mk hv
  clear hu hv
  rw [ivs_length] at *
  go_enter Try.func16, Try.ntmps16
  go_wp2_with fail
  go_loopw [5] (fun c wr => ∃ i : Nat, i ≤ L.length ∧ c = .int .i64 i ∧ ∃ k, wr = w.drewN k) (fun c _ => L.length - (RowKit.intOf c).toNat)
  case atStart => exact ⟨0, by omega, rfl, 0, rfl⟩
  case round =>
    obtain ⟨i, hi, rfl, k, rfl⟩ := hrel
    by_cases hlt : i < L.length
    · have hii : (i : Int) < (L.length : Int) := by omega
      obtain ⟨g, cap2, hve, hgw, hgl, hcp, hrow⟩ := HU.out.row (by rw [ivs_length]; omega)
      rw [ivs_length] at hve
      cases hve
      obtain ⟨g2, cap3, hve2, hgw2, hgl2, hcp2, hrow2⟩ := HV.out.row (by rw [ivs_length]; omega)
      rw [ivs_length] at hve2
      cases hve2
      have c0 := hrow.off0 (ivs_get L i hlt)
      have c1 := hrow2.off0 (ivs_get L i hlt)
      clear hrow hrow2
      generalize L[i] = x at *
      go_upto_region 6 with fail
      go_quiet (fail)
      go_wp2_with fail
      exact ⟨⟨i + 1, hlt, by push_cast; rfl, _, rfl⟩, by show L.length - ((i : Int) + 1).toNat < L.length - ((i : Nat) : Int).toNat; omega⟩
    · have hii : ¬ (i : Int) < (L.length : Int) := by omega
      go_wp2_with fail
      go_ret
      exact ⟨rfl, below_drewN (Below.refl _ _) _⟩
end
attribute [local irreducible] ivs spCuts spS spM
set_option maxRecDepth 100000 in
set_option maxHeartbeats 1000000 in
theorem spAwake_any (W : World) :
    Calls Try.prog 10 #[] W fun e w' => e = .returned (.bool true) ∧ Below W.heap.size W w' := by
  go_enter Try.func10, Try.ntmps10
  go_wp2_with fail
  refine (Cuts_any 1200 W (by omega) (by omega)).mono ?_
  rintro e w1 ⟨v, rfl, hv⟩
  rw [show (1200 : Int).toNat = 1200 from rfl, cuts_1200] at hv
  have HV := Kept.mk hv
  obtain ⟨g, cap, rfl, hg, hgl, hcap, hrow⟩ := hv.row (by rw [ivs_length]; decide)
  rw [ivs_length] at *
  clear hv hrow
  go_wp2_with fail
  refine (Cuts_any 200 w1 (by omega) (by omega)).mono ?_
  rintro e w2 ⟨v2, rfl, hv2⟩
  rw [show (200 : Int).toNat = 200 from rfl, cuts_200] at hv2
  have HV2 := Kept.mk hv2
  clear hv2
  go_wp2_with fail
  have HL := Kept.mk (vb_lit (w := w2) [64, 128, 192, 200] 3)
  have e3 : (World.alloc w2 (.cells (ivs [64, 128, 192, 200]).toArray 3)) = World.alloc w2 (.cells #[.int .i64 64, .int .i64 128, .int .i64 192, .int .i64 200] 3) := by unfold ivs; rfl
  rw [e3] at HL
  refine (Same_any [64, 128, 192, 200] _ _ w1 w2 _ (HV2.out.alloc _) HL.out (by decide)).mono ?_
  rintro e w3 ⟨rfl, b3⟩
  have hb3 : Below w1.heap.size w1 w3 := (HV2.out.alloc _).1.trans (b3.mono (HV2.out.alloc _).1.size)
  obtain ⟨g2, cap2, hve, _, _, _, hrow⟩ := (HV.out.below hb3).row (by rw [ivs_length]; decide)
  rw [ivs_length] at hve
  cases hve
  have c0 := hrow.off0 (ivs_get _ 0 (by decide))
  have c1 := hrow.off0 (ivs_get _ 11 (by decide))
  clear hrow
  have HB := Kept.mk (HV.out.1.trans (hb3.mono HV.out.1.size))
  go_wp2_with fail
  go_ret
  exact ⟨rfl, HB.out⟩
end Go.Proofs.Ytkkcakblphebjaa
