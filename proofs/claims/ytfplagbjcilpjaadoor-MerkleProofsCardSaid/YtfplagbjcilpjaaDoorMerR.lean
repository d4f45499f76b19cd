/- Trees of sums: the ways' law walked by the contracts. -/
import Derived.Test.YtfplagbjcilpjaaDoorMerQ
namespace Go.Proofs.YtfplagbjcilpjaaDoor
set_option linter.unusedVariables false
set_option linter.unusedSimpArgs false
open Go.RowKit Go.Lib
attribute [local irreducible] cutN bls
theorem ways_some (i n : Int) (W : World) (hn : n ≤ 1099511627776) :
    ∃ L : List Bool, L.length ≤ 40 ∧ (∀ W, Calls Tryd.prog 32 #[.int .i64 i, .int .i64 n] W fun e w' => ∃ v, e = .returned v ∧ VB W w' v (bls L)) ∧ (∀ W, Calls Tryd.prog 33 #[.int .i64 i, .int .i64 n] W fun e w' => ∃ v, e = .returned v ∧ VB W w' v (bls L)) := by
  by_cases h : i < 0 ∨ n ≤ i
  · exact ⟨[], by simp, fun W => (Way_bad i n W h).mono fun e w' ⟨h1, h2⟩ => by subst h2; exact ⟨_, h1, vb_bls_nil W⟩, fun W => (refWay_bad i n W h).mono fun e w' ⟨h1, h2⟩ => by subst h2; exact ⟨_, h1, vb_bls_nil W⟩⟩
  · obtain ⟨j, rfl⟩ : ∃ j : Nat, i = j := ⟨i.toNat, by omega⟩
    obtain ⟨m, rfl⟩ : ∃ m : Nat, n = m := ⟨n.toNat, by omega⟩
    have p40 : (2 : Nat) ^ 40 = 1099511627776 := by decide
    exact ⟨tWay j m, tWay_le 40 j m (by omega), fun W => Way_any j m W (by omega) (by omega), fun W => refWay_any m j W (by omega) (by omega)⟩
set_option maxRecDepth 100000 in
set_option maxHeartbeats 4000000 in
theorem merWays_w {W : World} (i : Int) (hi : (Lit.int .i64 i).wf = true) (n : Int) (hn : (Lit.int .i64 n).wf = true) (hk : KAt W) :
    Calls Tryd.prog 7 #[.int .i64 i, .int .i64 n] W fun e w' => e = .returned (.bool true) ∧ Below W.heap.size W w' := by
  have h1 := and_mask n 40 (by omega) 1099511627775 rfl
  simp only [Int.reducePow, Nat.reducePow] at h1
  obtain ⟨p, hp⟩ : ∃ p : Nat, n % ((1099511627776 : Nat) : Int) = p := ⟨(n % 1099511627776).toNat, by omega⟩
  rw [hp] at h1
  have p1 : p ≤ 1099511627775 := by omega
  clear hp
  have HK := Kept.mk (fun w' (hb : Below W.heap.size W w') => hk.below hb)
  clear hk
  by_cases hb : 1099511627776 < n
  · obtain ⟨L, hL, hA, hB⟩ := ways_some i p W (by omega)
    have HA := Kept.mk hA
    have HB := Kept.mk hB
    clear hA hB
    go_enter Tryd.func7, Tryd.ntmps7
    go_wp2_with fail
    with_reducible refine (HA.out W).mono ?_
    rintro e w1 ⟨v1, rfl, hv1⟩
    have HV1 := Kept.mk hv1
    clear hv1 HA
    go_wp2_with fail
    with_reducible refine (HB.out w1).mono ?_
    rintro e w2 ⟨v2, rfl, hv2⟩
    have HV1 := Kept.mk (HV1.out.below hv2.lies)
    have HV2 := Kept.mk hv2
    have B2 := Kept.mk HV1.out.lies
    clear hv2 HB
    obtain ⟨A1, c1, rfl, hc1⟩ := HV1.out.len
    obtain ⟨A2, c2, rfl, hc2⟩ := HV2.out.len
    rw [bls_length] at HV1 HV2 hc1 hc2
    rw [bls_length]
    go_wp2_with fail
    go_loopw [7] (fun c wr => ∃ i : Nat, i ≤ L.length ∧ c = .int .i64 i ∧ ∃ k, wr = w2.drewN k) (fun c _ => L.length - (RowKit.intOf c).toNat)
    case atStart => exact ⟨0, by omega, rfl, 0, rfl⟩
    case round =>
      obtain ⟨j, hj, rfl, k, rfl⟩ := hrel
      by_cases hlt : j < L.length
      · have hii : (j : Int) < (L.length : Int) := by omega
        obtain ⟨g, cap2, hve, hgw, hgl, hcp, hrow⟩ := HV1.out.row (by rw [bls_length]; omega)
        rw [bls_length] at hve
        cases hve
        obtain ⟨g2, cap3, hve2, hgw2, hgl2, hcp2, hrow2⟩ := HV2.out.row (by rw [bls_length]; omega)
        rw [bls_length] at hve2
        cases hve2
        have c0 := hrow.off0 (bls_get L j hlt)
        have c1 := hrow2.off0 (bls_get L j hlt)
        clear hrow hrow2
        generalize L[j] = x at *
        go_upto_region 9 with fail
        go_quiet (fail)
        go_wp2_with fail
        exact ⟨⟨j + 1, hlt, by push_cast; rfl, _, rfl⟩, by show L.length - ((j : Int) + 1).toNat < L.length - ((j : Nat) : Int).toNat; omega⟩
      · have hii : ¬ (j : Int) < (L.length : Int) := by omega
        have HB3 := Kept.mk (below_drewN B2.out k)
        clear hj
        go_wp2_with fail
        with_reducible refine (merAwake_any _ (HK.out _ HB3.out)).mono ?_
        rintro e w3 ⟨rfl, b3⟩
        have HB4 := Kept.mk (HB3.out.trans (b3.mono HB3.out.size))
        clear b3
        go_wp2_with fail
        go_ret
        exact ⟨rfl, HB4.out⟩
  · obtain ⟨L, hL, hA, hB⟩ := ways_some i n W (by omega)
    have HA := Kept.mk hA
    have HB := Kept.mk hB
    clear hA hB
    go_enter Tryd.func7, Tryd.ntmps7
    go_wp2_with fail
    with_reducible refine (HA.out W).mono ?_
    rintro e w1 ⟨v1, rfl, hv1⟩
    have HV1 := Kept.mk hv1
    clear hv1 HA
    go_wp2_with fail
    with_reducible refine (HB.out w1).mono ?_
    rintro e w2 ⟨v2, rfl, hv2⟩
    have HV1 := Kept.mk (HV1.out.below hv2.lies)
    have HV2 := Kept.mk hv2
    have B2 := Kept.mk HV1.out.lies
    clear hv2 HB
    obtain ⟨A1, c1, rfl, hc1⟩ := HV1.out.len
    obtain ⟨A2, c2, rfl, hc2⟩ := HV2.out.len
    rw [bls_length] at HV1 HV2 hc1 hc2
    rw [bls_length]
    go_wp2_with fail
    go_loopw [7] (fun c wr => ∃ i : Nat, i ≤ L.length ∧ c = .int .i64 i ∧ ∃ k, wr = w2.drewN k) (fun c _ => L.length - (RowKit.intOf c).toNat)
    case atStart => exact ⟨0, by omega, rfl, 0, rfl⟩
    case round =>
      obtain ⟨j, hj, rfl, k, rfl⟩ := hrel
      by_cases hlt : j < L.length
      · have hii : (j : Int) < (L.length : Int) := by omega
        obtain ⟨g, cap2, hve, hgw, hgl, hcp, hrow⟩ := HV1.out.row (by rw [bls_length]; omega)
        rw [bls_length] at hve
        cases hve
        obtain ⟨g2, cap3, hve2, hgw2, hgl2, hcp2, hrow2⟩ := HV2.out.row (by rw [bls_length]; omega)
        rw [bls_length] at hve2
        cases hve2
        have c0 := hrow.off0 (bls_get L j hlt)
        have c1 := hrow2.off0 (bls_get L j hlt)
        clear hrow hrow2
        generalize L[j] = x at *
        go_upto_region 9 with fail
        go_quiet (fail)
        go_wp2_with fail
        exact ⟨⟨j + 1, hlt, by push_cast; rfl, _, rfl⟩, by show L.length - ((j : Int) + 1).toNat < L.length - ((j : Nat) : Int).toNat; omega⟩
      · have hii : ¬ (j : Int) < (L.length : Int) := by omega
        have HB3 := Kept.mk (below_drewN B2.out k)
        clear hj
        go_wp2_with fail
        with_reducible refine (merAwake_any _ (HK.out _ HB3.out)).mono ?_
        rintro e w3 ⟨rfl, b3⟩
        have HB4 := Kept.mk (HB3.out.trans (b3.mono HB3.out.size))
        clear b3
        go_wp2_with fail
        go_ret
        exact ⟨rfl, HB4.out⟩
end Go.Proofs.YtfplagbjcilpjaaDoor
