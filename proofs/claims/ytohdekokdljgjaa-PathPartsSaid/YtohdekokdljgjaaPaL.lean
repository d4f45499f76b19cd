/- path: the document's Join, two rows of one list, each by a contract; a path's parts: walked by the contracts. -/
import Derived.Test.YtohdekokdljgjaaPaK
import Derived.SliceStrings
import Derived.WideShapes
namespace Go.Proofs.Ytohdekokdljgjaa
set_option linter.unusedVariables false
set_option linter.unusedSimpArgs false
open Go.RowKit Go.Lib
attribute [local irreducible] str psp pok hasS jn
set_option maxRecDepth 100000 in
set_option maxHeartbeats 2000000 in
theorem refJoin_any (L : List (List UInt8)) (v : Value) (w0 w : World) (hv : VB w0 w v (sts L)) (hL : L.length ≤ 20000) (hl : (Lib.join L [47]).length ≤ 20000) (hx : ∀ x ∈ L, x.length ≤ 20000) :
    Calls Try.prog 36 #[v] w fun e w' => e = .returned (.tuple #[.string (str (jn L).1), .int .i64 (jn L).2]) ∧ Below w.heap.size w w' := by
  obtain ⟨A, cap, rfl, hcap⟩ := hv.len
  have HV := Kept.mk hv
  have HJB := Kept.mk (jn_bad L)
  have HJG := Kept.mk (jn_good L)
  have HXL := Kept.mk hx
  have HE := Kept.mk str_nil
  have s47 : (⟨#[47]⟩ : ByteArray) = str [47] := by unfold str; rfl
  have HS47 := Kept.mk s47
  clear hv hx s47
  rw [sts_length] at *
  go_enter Try.func36, Try.ntmps36
  go_wp2_with fail
  go_loopw [4, 5] (fun s c wr => ∃ i : Nat, i ≤ L.length ∧ c = .int .i64 i ∧ s = .string (str (Lib.join (L.take i) [47])) ∧ Below w.heap.size w wr ∧ ∀ k (hk : k < L.length), k < i → hasS L[k] = false) (fun _ c _ => L.length - (RowKit.intOf c).toNat)
  case atStart => exact ⟨0, by omega, rfl, by rw [List.take_zero, Lib.join_nil, HE.out]; rfl, Below.refl _ _, fun k _ h => absurd h (by omega)⟩
  case round =>
    obtain ⟨i, hi, rfl, rfl, hb, hz⟩ := hrel
    have HZ := Kept.mk hz
    have HB := Kept.mk hb
    clear hz
    by_cases hlt : i < L.length
    · have hii : (i : Int) < (L.length : Int) := by omega
      obtain ⟨g, cap2, hve, hgw, hgl, hcp, hrow⟩ := HV.out.row (by rw [sts_length]; omega)
      rw [sts_length] at hve
      cases hve
      have HROW := Kept.mk (fun (wx : World) (hbx : Below w.heap.size w wx) => row_get1 (hrow.below hbx) (sts_get L i hlt))
      have c0 := HROW.out wr hb
      have hxl := HXL.out _ (List.getElem_mem hlt)
      have HS := Kept.mk (fun w => split_any L[i] w hxl)
      have hsp := hasS_split L[i]
      have hps := psp_length L[i] []
      have hjt := join_take L i hlt
      have hj1 := join_take_le L i
      have hj2 := join_take_le L (i + 1)
      have hsz := str_size (Lib.join (L.take i) [47])
      clear hrow hb
      cases hb : hasS L[i] with
      | true =>
        have HJ := Kept.mk (HJB.out i hlt hb)
        rw [hb] at hsp
        have h1 : (1 : Int) < ((psp L[i] []).length : Int) := by have := of_decide_eq_true hsp.symm; omega
        clear hb hsp hjt
        generalize L[i] = x at *
        go_wp2_with fail
        with_reducible refine (HS.out wr).mono ?_
        rintro e w1 ⟨v1, rfl, hv1⟩
        obtain ⟨A1, cap1, rfl, hcap1⟩ := hv1.len
        have HB1 := Kept.mk (HB.out.trans (hv1.1.mono HB.out.size))
        clear hv1
        rw [sts_length] at *
        go_wp2_with fail
        go_ret2
        exact ⟨by rw [HJ.out]; show _ = Ending.returned (.tuple #[.string (str []), .int .i64 5]); rw [HE.out]; rfl, HB1.out⟩
      | false =>
        have HZ2 := Kept.mk (show ∀ k (hk : k < L.length), k < i + 1 → hasS L[k] = false from fun k hk h => by
          rcases (show k < i ∨ k = i from by omega) with h3 | h3
          · exact HZ.out k hk h3
          · subst h3; exact hb)
        rw [hb] at hsp
        have h1 : ¬ (1 : Int) < ((psp L[i] []).length : Int) := by have := of_decide_eq_false hsp.symm; omega
        clear hb hsp
        have hxs := str_size L[i]
        generalize L[i] = x at *
        go_wp2_with fail
        with_reducible refine (HS.out wr).mono ?_
        rintro e w1 ⟨v1, rfl, hv1⟩
        obtain ⟨A1, cap1, rfl, hcap1⟩ := hv1.len
        have HB1 := Kept.mk (HB.out.trans (hv1.1.mono HB.out.size))
        have d0 := HROW.out w1 HB1.out
        clear hv1 HS
        rw [sts_length] at *
        by_cases h0 : 0 < i
        · have h0i : (0 : Int) < (i : Int) := by omega
          rw [if_pos h0] at hjt
          have HA1 := Kept.mk (str_append (Lib.join (L.take i) [47]) [47])
          have HA2 := Kept.mk (str_append (Lib.join (L.take i) [47] ++ [47]) x)
          have HJT := Kept.mk hjt
          have hsz2 := str_size (Lib.join (L.take i) [47] ++ [47])
          rw [List.length_append, List.length_singleton] at hsz2
          clear hjt h0
          generalize Lib.join (L.take i) [47] = q at *
          have hs1 : (⟨#[47]⟩ : ByteArray).size = 1 := rfl
          have happ : str q ++ (⟨#[47]⟩ : ByteArray) = str (q ++ [47]) := by rw [HS47.out, HA1.out]
          go_wp2_with fail
          exact ⟨⟨i + 1, hlt, by push_cast; rfl, by rw [HJT.out, ← HA2.out], HB1.out, HZ2.out⟩, by show L.length - ((i : Int) + 1).toNat < L.length - ((i : Nat) : Int).toNat; omega⟩
        · have h0i : ¬ (0 : Int) < (i : Int) := by omega
          rw [if_neg h0] at hjt
          have HA2 := Kept.mk (str_append (Lib.join (L.take i) [47]) x)
          have HJT := Kept.mk hjt
          clear hjt h0
          generalize Lib.join (L.take i) [47] = q at *
          go_wp2_with fail
          exact ⟨⟨i + 1, hlt, by push_cast; rfl, by rw [HJT.out, ← HA2.out], HB1.out, HZ2.out⟩, by show L.length - ((i : Int) + 1).toNat < L.length - ((i : Nat) : Int).toNat; omega⟩
    · have hii : ¬ (i : Int) < (L.length : Int) := by omega
      have HG := Kept.mk (HJG.out (fun k hk => HZ.out k hk (by omega)))
      obtain rfl : i = L.length := by omega
      rw [List.take_length]
      generalize Lib.join L [47] = q at *
      clear hb
      go_wp2_with fail
      with_reducible refine (may_any q wr (by omega)).mono ?_
      rintro e w1 ⟨rfl, b1⟩
      have HB1 := Kept.mk (HB.out.trans (b1.mono HB.out.size))
      clear b1
      cases hk : pok q with
      | true =>
        rw [hk] at HG
        clear hk
        go_wp2_with fail
        go_ret2
        exact ⟨by rw [HG.out]; rfl, HB1.out⟩
      | false =>
        rw [hk] at HG
        clear hk
        go_wp2_with fail
        go_ret2
        exact ⟨by rw [HG.out]; show _ = Ending.returned (.tuple #[.string (str []), .int .i64 5]); rw [HE.out]; rfl, HB1.out⟩
set_option maxRecDepth 100000 in
set_option maxHeartbeats 1000000 in
theorem sameTexts_any (L : List (List UInt8)) (u v : Value) (wu wv w : World) (hu : VB wu w u (sts L)) (hv : VB wv w v (sts L)) (hL : L.length ≤ 20000) :
    Calls Try.prog 34 #[u, v] w fun e w' => e = .returned (.bool true) ∧ Below w.heap.size w w' := by
  obtain ⟨A, ca, rfl, hca⟩ := hu.len
  obtain ⟨B, cb, rfl, hcb⟩ := hv.len
  have HU := Kept.mk hu
  have HV := Kept.mk hv
  clear hu hv
  rw [sts_length] at *
  go_enter Try.func34, Try.ntmps34
  go_wp2_with fail
  go_loopw [5] (fun c wr => ∃ i : Nat, i ≤ L.length ∧ c = .int .i64 i ∧ ∃ k, wr = w.drewN k) (fun c _ => L.length - (RowKit.intOf c).toNat)
  case atStart => exact ⟨0, by omega, rfl, 0, rfl⟩
  case round =>
    obtain ⟨i, hi, rfl, k, rfl⟩ := hrel
    by_cases hlt : i < L.length
    · have hii : (i : Int) < (L.length : Int) := by omega
      obtain ⟨g, cap2, hve, hgw, hgl, hcp, hrow⟩ := HU.out.row (by rw [sts_length]; omega)
      rw [sts_length] at hve
      cases hve
      obtain ⟨g2, cap3, hve2, hgw2, hgl2, hcp2, hrow2⟩ := HV.out.row (by rw [sts_length]; omega)
      rw [sts_length] at hve2
      cases hve2
      have c0 := row_get1 hrow (sts_get L i hlt)
      have c1 := row_get1 hrow2 (sts_get L i hlt)
      clear hrow hrow2
      generalize L[i] = x at *
      go_upto_region 6 with fail
      go_quiet (fail)
      go_wp2_with fail
      exact ⟨⟨i + 1, hlt, by push_cast; rfl, _, rfl⟩, by show L.length - ((i : Int) + 1).toNat < L.length - ((i : Nat) : Int).toNat; omega⟩
    · have hii : ¬ (i : Int) < (L.length : Int) := by omega
      go_wp2_with fail
      go_ret
      exact ⟨rfl, below_drewN (Below.refl _ _) _⟩
end Go.Proofs.Ytohdekokdljgjaa
