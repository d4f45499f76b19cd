/- Trees of sums: proofs, walked by the contracts. -/
import Derived.Test.YtfplagbjcilpjaaDoorMerL
namespace Go.Proofs.YtfplagbjcilpjaaDoor
set_option linter.unusedVariables false
set_option linter.unusedSimpArgs false
open Go.RowKit Go.Lib
section
attribute [local irreducible] str strs
set_option maxRecDepth 100000 in
set_option maxHeartbeats 1000000 in
theorem sameTexts_any (L : List (List UInt8)) (u v : Value) (wu wv w : World) (hu : VB wu w u (strs L)) (hv : VB wv w v (strs L)) (hL : L.length ≤ 20000) :
    Calls Tryd.prog 27 #[u, v] w fun e w' => e = .returned (.bool true) ∧ Below w.heap.size w w' := by
  obtain ⟨A, ca, rfl, hca⟩ := hu.len
  obtain ⟨B, cb, rfl, hcb⟩ := hv.len
  have HU := Kept.mk hu
  have HV := Kept.mk hv
  clear hu hv
  rw [strs_length] at *
  go_enter Tryd.func27, Tryd.ntmps27
  go_wp2_with fail
  go_loopw [5] (fun c wr => ∃ i : Nat, i ≤ L.length ∧ c = .int .i64 i ∧ ∃ k, wr = w.drewN k) (fun c _ => L.length - (RowKit.intOf c).toNat)
  case atStart => exact ⟨0, by omega, rfl, 0, rfl⟩
  case round =>
    obtain ⟨i, hi, rfl, k, rfl⟩ := hrel
    by_cases hlt : i < L.length
    · have hii : (i : Int) < (L.length : Int) := by omega
      obtain ⟨g, cap2, hve, hgw, hgl, hcp, hrow⟩ := HU.out.row (by rw [strs_length]; omega)
      rw [strs_length] at hve
      cases hve
      obtain ⟨g2, cap3, hve2, hgw2, hgl2, hcp2, hrow2⟩ := HV.out.row (by rw [strs_length]; omega)
      rw [strs_length] at hve2
      cases hve2
      have c0 := hrow.off0 (strs_get? L i hlt)
      have c1 := hrow2.off0 (strs_get? L i hlt)
      clear hrow hrow2
      generalize L[i] = x at *
      go_upto_region 6 with fail
      go_quiet (fail)
      go_wp2_with fail
      exact ⟨⟨i + 1, hlt, by push_cast; rfl, _, rfl⟩, by show L.length - ((i : Int) + 1).toNat < L.length - ((i : Nat) : Int).toNat; omega⟩
    · have hii : ¬ (i : Int) < (L.length : Int) := by omega
      go_wp2_with fail
      go_ret
      exact ⟨rfl, below_drewN (Below.refl _ _) _⟩
end
attribute [local irreducible] str sSum wid tS tLeaf tNode cutN strs
set_option maxRecDepth 100000 in
set_option maxHeartbeats 4000000 in
theorem merProofs_w {W : World} (w : Int) (hw : (Lit.int .i64 w).wf = true) (i : Int) (hi : (Lit.int .i64 i).wf = true) (A : Option Addr) (c : Nat) (ls : List (List UInt8)) (hl : ls.length ≤ 9223372036854775807) (hP : RowAt W A (strs ls) ∧ (∀ l ∈ ls, l.length ≤ 9223372036854775807) ∧ ls.length ≤ c ∧ c ≤ 9223372036854775807) (hk : KAt W) :
    Calls Tryd.prog 5 #[.int .i64 w, .int .i64 i, .slice A ls.length c] W fun e w' => e = .returned (.bool true) ∧ Below W.heap.size W w' := by
  obtain ⟨hr, hle, hlc, hc⟩ := hP
  have HF := Kept.mk (fewM_any A c ls W hr hl hle hlc hc)
  clear hle
  go_enter Tryd.func5, Tryd.ntmps5
  go_wp2_with fail
  with_reducible refine HF.out.mono ?_
  rintro e w1 ⟨k, hk1, hk2, hk3, rfl, rfl⟩
  clear HF
  have hkl : (ls.take k).length = k := by rw [List.length_take]; omega
  have hel := elem_le (ls.take k) 20000 hk3
  have HK := Kept.mk (fun w' (hb : Below W.heap.size W w') => hk.below hb)
  by_cases hbad : i < 0 ∨ (k : Int) ≤ i
  · have HB := Kept.mk (Proof_bad w i A k c W hbad)
    clear hr hk hel hkl hk3
    rcases hbad with h0 | h1
    · go_wp2_with fail
      with_reducible refine HB.out.mono ?_
      rintro e w1 ⟨rfl, b1⟩
      go_wp2_with fail
      with_reducible refine (merAwake_any w1 (HK.out w1 b1)).mono ?_
      rintro e w3 ⟨rfl, b3⟩
      have b3 := b1.trans (b3.mono b1.size)
      go_wp2_with fail
      go_ret
      exact ⟨rfl, b3⟩
    · have h0 : ¬ i < 0 := by omega
      go_wp2_with fail
      with_reducible refine HB.out.mono ?_
      rintro e w1 ⟨rfl, b1⟩
      go_wp2_with fail
      with_reducible refine (merAwake_any w1 (HK.out w1 b1)).mono ?_
      rintro e w3 ⟨rfl, b3⟩
      have b3 := b1.trans (b3.mono b1.size)
      go_wp2_with fail
      go_ret
      exact ⟨rfl, b3⟩
  · obtain ⟨j, rfl⟩ : ∃ j : Nat, i = j := ⟨i.toNat, by omega⟩
    have hjk : j < k := by omega
    have h0 : ¬ (j : Int) < 0 := by omega
    have h1 : ¬ (k : Int) ≤ (j : Int) := by omega
    have HA := Kept.mk (Proof_any w j A c (ls.take k) W hk (by rw [hkl]; exact hjk) (strs_take ls k ▸ hr.take k) (fun l h => by have := hel l h; omega) (by rw [hkl]; omega) (by rw [hkl]; omega) (by rw [hkl]; omega))
    have HB := Kept.mk (fun (w' : World) (hb : Below W.heap.size W w') => refProof_any w k j A c (ls.take k) w' hkl (by omega) (strs_take ls k ▸ (hr.below hb).take k) (fun l h => by have := hel l h; omega) (by rw [hkl]; omega) (by rw [hkl]; omega))
    rw [hkl] at HA HB
    have p62 : (2 : Nat) ^ 62 = 4611686018427387904 := by decide
    have hpl := tProof_length_le (wid w) j (ls.take k) (by rw [hkl]; omega)
    clear hr hk hel hkl hk3 hbad p62
    generalize tProof (wid w) j (ls.take k) = P at *
    go_wp2_with fail
    with_reducible refine HA.out.mono ?_
    rintro e w1 ⟨v1, rfl, hv1⟩
    have HV1 := Kept.mk hv1
    clear hv1 HA
    go_wp2_with fail
    with_reducible refine (HB.out w1 HV1.out.lies).mono ?_
    rintro e w2 ⟨v2, rfl, hv2⟩
    have HS := Kept.mk (sameTexts_any P v1 v2 W w1 w2 (HV1.out.below hv2.lies) hv2 (by omega))
    have B2 := Kept.mk (HV1.out.lies.trans (hv2.lies.mono HV1.out.lies.size))
    clear hv2 HV1 HB
    go_wp2_with fail
    with_reducible refine HS.out.mono ?_
    rintro e w3 ⟨rfl, b3⟩
    have B3 := Kept.mk (B2.out.trans (b3.mono B2.out.size))
    clear b3 B2 HS
    go_wp2_with fail
    with_reducible refine (merAwake_any w3 (HK.out w3 B3.out)).mono ?_
    rintro e w4 ⟨rfl, b4⟩
    have B4 := Kept.mk (B3.out.trans (b4.mono B3.out.size))
    clear b4
    go_wp2_with fail
    go_ret
    exact ⟨rfl, B4.out⟩
end Go.Proofs.YtfplagbjcilpjaaDoor
