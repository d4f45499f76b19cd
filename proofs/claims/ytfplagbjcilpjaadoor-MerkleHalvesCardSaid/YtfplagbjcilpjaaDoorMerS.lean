/- Trees of sums: two halves of a list: walked by the contracts. -/
import Derived.Test.YtfplagbjcilpjaaDoorMerL
namespace Go.Proofs.YtfplagbjcilpjaaDoor
set_option linter.unusedVariables false
set_option linter.unusedSimpArgs false
open Go.RowKit Go.Lib
theorem strs_append (L M : List (List UInt8)) : strs (L ++ M) = strs L ++ strs M := by simp [strs]
theorem str_spread {ops : Array Oper} {rest : List Oper} {o : Oper} {a : Act} {Q : Exit → Act → World → Prop} (hgd : o.guard = none) (s x : Operand)
    (ho : o.op = .call { callee := .builtin .append, args := #[s, x], argTypes := #[28, 28] })
    {w X : World} {L M : List (List UInt8)} {v : Value} (hs : a.eval s = v) (hb : VB w X v (strs L)) {ad : Addr} {m c : Nat}
    (hx : a.eval x = .slice (some ad) m c) (hm : m = M.length) (hr : RowAt X (some ad) (strs M)) (hM : 0 < M.length) (hlen : L.length + M.length ≤ 1000000)
    (h : ∀ v' w', VB w w' v' (strs (L ++ M)) → wpList Tryd.prog ops Q rest (a.put o.dst v') w') : wpList Tryd.prog ops Q (o :: rest) a X := by
  subst hm
  obtain ⟨i0, hi, hz0, hz1, hz2⟩ := info_parts infoStr
  have hS : Src Tryd.prog 1 28 (.slice (some ad) M.length c) (strs M).length (strs M) X := by
    have h := Src.ofSlice X Tryd.underlying28 ad M.length c (strs M) (by rw [strs_length, Nat.mul_one]) (fun j u hj => hr.cells hj) (fun u hu => by
      obtain ⟨y, _, rfl⟩ := List.mem_map.1 hu; rfl)
    rw [strs_length]
    exact h
  refine vb_append2 hgd s x Tryd.underlying28 hi hz0 hz1 rfl (by rw [hz2]; decide) ho hs hb hx hS (by rw [strs_length]; exact hM) (by rw [strs_length, strs_length]; omega) fun v' w' h1 _ h3 h4 => h v' w' ?_
  rw [strs_append]; exact h1
theorem root_halves (w e : Nat) (xa xb : List (List UInt8)) (ha : xa.length = 2 ^ e) (h0 : 0 < xb.length) (h1 : xb.length ≤ 2 ^ e) : tRoot w (xa ++ xb) = tNode w (tRoot w xa) (tRoot w xb) := by
  have hp : 0 < 2 ^ e := Nat.two_pow_pos e
  have hc : cutN (xa ++ xb).length = 2 ^ e := by
    rw [List.length_append, ha]
    exact cutN_of _ e (by omega) (by omega) (by rw [Nat.pow_succ]; omega)
  rw [tRoot_node w (xa ++ xb) (by rw [List.length_append]; omega), hc, ← ha, List.take_left, List.drop_left]
attribute [local irreducible] str sSum wid tS tLeaf tNode cutN strs
set_option maxRecDepth 100000 in
set_option maxHeartbeats 4000000 in
theorem merHalves_w {W : World} (w : Int) (hw : (Lit.int .i64 w).wf = true) (A : Option Addr) (c : Nat) (ls : List (List UInt8)) (hl : ls.length ≤ 9223372036854775807) (hP : RowAt W A (strs ls) ∧ (∀ l ∈ ls, l.length ≤ 9223372036854775807) ∧ ls.length ≤ c ∧ c ≤ 9223372036854775807) (B : Option Addr) (d : Nat) (ms : List (List UInt8)) (hl2 : ms.length ≤ 9223372036854775807) (hP2 : RowAt W B (strs ms) ∧ (∀ l ∈ ms, l.length ≤ 9223372036854775807) ∧ ms.length ≤ d ∧ d ≤ 9223372036854775807) (hk : KAt W) :
    Calls Tryd.prog 9 #[.int .i64 w, .slice A ls.length c, .slice B ms.length d] W fun e w' => e = .returned (.bool true) ∧ Below W.heap.size W w' := by
  obtain ⟨hr, hle, hlc, hc⟩ := hP
  obtain ⟨hr2, hle2, hlc2, hc2⟩ := hP2
  have HF := Kept.mk (fewM_any A c ls W hr hl hle hlc hc)
  have HF2 := Kept.mk (fewM_any B d ms W hr2 hl2 hle2 hlc2 hc2)
  have HAW := Kept.mk (merAwake_any W hk)
  clear hle hle2
  go_enter Tryd.func9, Tryd.ntmps9
  go_wp2_with fail
  with_reducible refine HF.out.mono ?_
  rintro e w1 ⟨p, hp1, hp2, hp3, rfl, rfl⟩
  clear HF
  go_wp2_with fail
  with_reducible refine HF2.out.mono ?_
  rintro e w1 ⟨q, hq1, hq2, hq3, rfl, rfl⟩
  clear HF2
  have hpl : (ls.take p).length = p := by rw [List.length_take]; omega
  have hel := elem_le (ls.take p) 20000 hp3
  have hql : (ms.take q).length = q := by rw [List.length_take]; omega
  have hel2 := elem_le (ms.take q) 20000 hq3
  have hra := strs_take ls p ▸ hr.take p
  have hrb := strs_take ms q ▸ hr2.take q
  have hpc : p ≤ c := by omega
  have hqd : q ≤ d := by omega
  generalize ls.take p = xa at *
  generalize ms.take q = xb at *
  clear hr hr2 hp1 hq1 hp3 hq3 hlc hlc2 hl hl2 hc hc2
  have HRA := Kept.mk hra
  have HRB := Kept.mk hrb
  have HE := Kept.mk hel
  have HE2 := Kept.mk hel2
  have HKK := Kept.mk hk
  have HPL := Kept.mk hpl
  have HQL := Kept.mk hql
  clear hra hrb hel hel2 hk hpl hql
  go_wp2_with fail
  go_loop [7] (fun v => ∃ e n : Nat, n = 2 ^ e ∧ (n = 1 ∨ n ≤ p) ∧ v = .int .i64 (n : Int)) (fun v => 71 - (RowKit.intOf v).toNat)
  case atStart => exact ⟨0, 1, rfl, .inl rfl, rfl⟩
  case round =>
    obtain ⟨e, n, hn, hnp, rfl⟩ := hrel
    have hp : 0 < n := by rw [hn]; exact Nat.two_pow_pos e
    have HN2 := Kept.mk (show n * 2 = 2 ^ (e + 1) from by rw [hn, Nat.pow_succ])
    have HN := Kept.mk hn
    clear hn
    have hn70 : n ≤ 70 := by omega
    by_cases h : n * 2 ≤ p
    · have hi : (n : Int) * 2 ≤ (p : Int) := by omega
      go_wp2_with fail
      go_round
      case rel => exact ⟨e + 1, n * 2, HN2.out, .inr h, by push_cast; rfl⟩
      case measure => simp [RowKit.intOf]; omega
    · have hi : ¬ (n : Int) * 2 ≤ (p : Int) := by omega
      by_cases hp0 : p = 0
      · subst hp0
        clear hi h
        have hi : ¬ (n : Int) * 2 ≤ 0 := by omega
        go_wp2_with fail
        with_reducible refine HAW.out.mono ?_
        rintro e w1 ⟨rfl, b1⟩
        go_wp2_with fail
        go_ret
        exact ⟨rfl, b1⟩
      · have hp0i : ¬ (p : Int) = 0 := by omega
        by_cases hq0 : q = 0
        · subst hq0
          go_wp2_with fail
          with_reducible refine HAW.out.mono ?_
          rintro e w1 ⟨rfl, b1⟩
          go_wp2_with fail
          go_ret
          exact ⟨rfl, b1⟩
        · have hq0i : ¬ (q : Int) = 0 := by omega
          have hpb : (((p : Nat) : Int) == 0) = false := by simp [hp0]
          have hqb : (((q : Nat) : Int) == 0) = false := by simp [hq0]
          by_cases hqn : n < q
          · have hqni : (n : Int) < (q : Int) := by omega
            have nqi : (n : Int) ≤ (q : Int) := by omega
            have ndi : (n : Int) ≤ (d : Int) := by omega
            have HNE := HN.out
            have hnp2 : n ≤ p := by omega
            obtain ⟨ad, rfl, hadl, hadc⟩ := HRA.out (by rw [strs_length, HPL.out]; omega)
            obtain ⟨bd, rfl, hbdl, hbdc⟩ := HRB.out (by rw [strs_length, HQL.out]; omega)
            have hta : (xa.take n).length = n := by rw [List.length_take, HPL.out]; omega
            have htb : (xb.take n).length = n := by rw [List.length_take, HQL.out]; omega
            have HTA := Kept.mk hta
            have HTB := Kept.mk htb
            have HR1 := Kept.mk (show RowAt W (some ad) (strs (xa.take n)) from strs_take xa n ▸ HRA.out.take n)
            have HR2 := Kept.mk (show RowAt W (some bd) (strs (xb.take n)) from strs_take xb n ▸ HRB.out.take n)
            have HE1 := Kept.mk (show ∀ l ∈ xa.take n, l.length ≤ 20000 from fun l h => HE.out l (List.mem_of_mem_take h))
            have HE3 := Kept.mk (show ∀ l ∈ xb.take n, l.length ≤ 20000 from fun l h => HE2.out l (List.mem_of_mem_take h))
            have HH := Kept.mk (root_halves (wid w) e (xa.take n) (xb.take n) (by rw [hta]; exact HNE) (by rw [htb]; omega) (by rw [htb, ← HNE]; omega))
            have HLa := Kept.mk (tRoot_le (wid w) (wid_range w).2 20000 (by omega) _ HE1.out)
            have HLb := Kept.mk (tRoot_le (wid w) (wid_range w).2 20000 (by omega) _ HE3.out)
            have nd : n ≤ c := by omega
            have n0 : (0 : Int) ≤ (n : Int) := by omega
            have npi : (n : Int) ≤ (p : Int) := by omega
            have nci : (n : Int) ≤ (c : Int) := by omega
            clear hadc hbdc hta htb HNE hnp HN2 HN HE HE2 HPL HQL HRA HRB
            generalize xa.take n = ya at *
            generalize xb.take n = yb at *
            have h2 : 0 < yb.length := by rw [HTB.out]; omega
            have h3 : ya.length + yb.length ≤ 1000000 := by rw [HTA.out, HTB.out]; omega
            have h4 : 0 < ya.length := by rw [HTA.out]; omega
            have h5 : ([] : List (List UInt8)).length + ya.length ≤ 1000000 := by rw [HTA.out, List.length_nil]; omega
            have H25 := Kept.mk (And.intro (And.intro h2 h3) (And.intro h4 h5))
            clear h2 h3 h4 h5
            go_wp2_with (first
              | (at_builtin; refine str_spread rfl _ _ (by rfl) (w := W) (L := []) (M := ya) (by rfl) (vb_strs_nil W) (by rfl) HTA.out.symm HR1.out H25.out.2.1 H25.out.2.2 ?_; intro v1 w1 hv1; rw [List.nil_append] at hv1; have HV1 := Kept.mk hv1; clear hv1)
              | (at_builtin; refine str_spread rfl _ _ (by rfl) (w := W) (L := ya) (M := yb) (by rfl) HV1.out (by rfl) HTB.out.symm (HR2.out.below HV1.out.lies) H25.out.1.1 H25.out.1.2 ?_; intro v2 w2 hv2)
              | fail)
            have HV2 := Kept.mk hv2
            have hal : (ya ++ yb).length = n + n := by rw [List.length_append, HTA.out, HTB.out]
            obtain ⟨g, cap, rfl, hgw, hgl, hcp, hrow⟩ := hv2.row (by rw [strs_length, hal]; omega)
            rw [strs_length] at hcp
            rw [strs_length] at HV2
            rw [strs_length]
            have HRt := Kept.mk (Root_any w (n + n) (some ⟨g, 0, none⟩) cap (ya ++ yb) w2 hal hrow (HKK.out.below HV2.out.lies) (fun l h => by
              rcases List.mem_append.1 h with h | h
              · have := HE1.out l h; omega
              · have := HE3.out l h; omega) hcp (by rw [hal]; omega))
            rw [HH.out] at HRt
            have HRta := Kept.mk (fun w' (hb : Below W.heap.size W w') => Root_any w n (some ad) c ya w' HTA.out (HR1.out.below hb) (HKK.out.below hb) (fun l h => by have := HE1.out l h; omega) (by rw [HTA.out]; omega) (by rw [HTA.out]; omega))
            have HRtb := Kept.mk (fun w' (hb : Below W.heap.size W w') => Root_any w n (some bd) d yb w' HTB.out (HR2.out.below hb) (HKK.out.below hb) (fun l h => by have := HE3.out l h; omega) (by rw [HTB.out]; omega) (by rw [HTB.out]; omega))
            rw [HTA.out] at HRta
            rw [HTB.out] at HRtb
            have HB2 := Kept.mk HV2.out.lies
            clear hv2 HV1 HV2 hrow HE1 HE3 HR1 HR2 HH HTA HTB HAW hal
            have hLa := HLa.out
            have hLb := HLb.out
            generalize tRoot (wid w) ya = ra at *
            generalize tRoot (wid w) yb = rb at *
            go_wp2_with fail
            with_reducible refine HRt.out.mono ?_
            rintro e w3 ⟨rfl, b3⟩
            have HB3 := Kept.mk (HB2.out.trans (b3.mono HB2.out.size))
            clear b3 HRt HB2
            go_wp2_with fail
            with_reducible refine (HRta.out w3 HB3.out).mono ?_
            rintro e w4 ⟨rfl, b4⟩
            have HB4 := Kept.mk (HB3.out.trans (b4.mono HB3.out.size))
            clear b4 HRta HB3
            go_wp2_with fail
            with_reducible refine (HRtb.out w4 HB4.out).mono ?_
            rintro e w5 ⟨rfl, b5⟩
            have HB5 := Kept.mk (HB4.out.trans (b5.mono HB4.out.size))
            clear b5 HRtb HB4
            go_wp2_with fail
            with_reducible refine (Node_any w ra rb w5 (HKK.out.below HB5.out) (by omega)).mono ?_
            rintro e w6 ⟨rfl, b6⟩
            have HB6 := Kept.mk (HB5.out.trans (b6.mono HB5.out.size))
            clear b6 HB5
            go_wp2_with fail
            with_reducible refine (merAwake_any w6 (HKK.out.below HB6.out)).mono ?_
            rintro e w7 ⟨rfl, b7⟩
            have HB7 := Kept.mk (HB6.out.trans (b7.mono HB6.out.size))
            clear b7 HB6
            go_wp2_with fail
            go_ret
            exact ⟨rfl, HB7.out⟩
          · have hqni : ¬ (n : Int) < (q : Int) := by omega
            have HNE := HN.out
            have hnp2 : n ≤ p := by omega
            obtain ⟨ad, rfl, hadl, hadc⟩ := HRA.out (by rw [strs_length, HPL.out]; omega)
            obtain ⟨bd, rfl, hbdl, hbdc⟩ := HRB.out (by rw [strs_length, HQL.out]; omega)
            have hta : (xa.take n).length = n := by rw [List.length_take, HPL.out]; omega
            have htb : (xb.take q).length = q := by rw [List.length_take, HQL.out]; omega
            have HTA := Kept.mk hta
            have HTB := Kept.mk htb
            have HR1 := Kept.mk (show RowAt W (some ad) (strs (xa.take n)) from strs_take xa n ▸ HRA.out.take n)
            have HR2 := Kept.mk (show RowAt W (some bd) (strs (xb.take q)) from strs_take xb q ▸ HRB.out.take q)
            have HE1 := Kept.mk (show ∀ l ∈ xa.take n, l.length ≤ 20000 from fun l h => HE.out l (List.mem_of_mem_take h))
            have HE3 := Kept.mk (show ∀ l ∈ xb.take q, l.length ≤ 20000 from fun l h => HE2.out l (List.mem_of_mem_take h))
            have HH := Kept.mk (root_halves (wid w) e (xa.take n) (xb.take q) (by rw [hta]; exact HNE) (by rw [htb]; omega) (by rw [htb, ← HNE]; omega))
            have HLa := Kept.mk (tRoot_le (wid w) (wid_range w).2 20000 (by omega) _ HE1.out)
            have HLb := Kept.mk (tRoot_le (wid w) (wid_range w).2 20000 (by omega) _ HE3.out)
            have nd : n ≤ c := by omega
            have n0 : (0 : Int) ≤ (n : Int) := by omega
            have npi : (n : Int) ≤ (p : Int) := by omega
            have nci : (n : Int) ≤ (c : Int) := by omega
            clear hadc hbdc hta htb HNE hnp HN2 HN HE HE2 HPL HQL HRA HRB
            generalize xa.take n = ya at *
            generalize xb.take q = yb at *
            have h2 : 0 < yb.length := by rw [HTB.out]; omega
            have h3 : ya.length + yb.length ≤ 1000000 := by rw [HTA.out, HTB.out]; omega
            have h4 : 0 < ya.length := by rw [HTA.out]; omega
            have h5 : ([] : List (List UInt8)).length + ya.length ≤ 1000000 := by rw [HTA.out, List.length_nil]; omega
            have H25 := Kept.mk (And.intro (And.intro h2 h3) (And.intro h4 h5))
            clear h2 h3 h4 h5
            go_wp2_with (first
              | (at_builtin; refine str_spread rfl _ _ (by rfl) (w := W) (L := []) (M := ya) (by rfl) (vb_strs_nil W) (by rfl) HTA.out.symm HR1.out H25.out.2.1 H25.out.2.2 ?_; intro v1 w1 hv1; rw [List.nil_append] at hv1; have HV1 := Kept.mk hv1; clear hv1)
              | (at_builtin; refine str_spread rfl _ _ (by rfl) (w := W) (L := ya) (M := yb) (by rfl) HV1.out (by rfl) HTB.out.symm (HR2.out.below HV1.out.lies) H25.out.1.1 H25.out.1.2 ?_; intro v2 w2 hv2)
              | fail)
            have HV2 := Kept.mk hv2
            have hal : (ya ++ yb).length = n + q := by rw [List.length_append, HTA.out, HTB.out]
            obtain ⟨g, cap, rfl, hgw, hgl, hcp, hrow⟩ := hv2.row (by rw [strs_length, hal]; omega)
            rw [strs_length] at hcp
            rw [strs_length] at HV2
            rw [strs_length]
            have HRt := Kept.mk (Root_any w (n + q) (some ⟨g, 0, none⟩) cap (ya ++ yb) w2 hal hrow (HKK.out.below HV2.out.lies) (fun l h => by
              rcases List.mem_append.1 h with h | h
              · have := HE1.out l h; omega
              · have := HE3.out l h; omega) hcp (by rw [hal]; omega))
            rw [HH.out] at HRt
            have HRta := Kept.mk (fun w' (hb : Below W.heap.size W w') => Root_any w n (some ad) c ya w' HTA.out (HR1.out.below hb) (HKK.out.below hb) (fun l h => by have := HE1.out l h; omega) (by rw [HTA.out]; omega) (by rw [HTA.out]; omega))
            have HRtb := Kept.mk (fun w' (hb : Below W.heap.size W w') => Root_any w q (some bd) d yb w' HTB.out (HR2.out.below hb) (HKK.out.below hb) (fun l h => by have := HE3.out l h; omega) (by rw [HTB.out]; omega) (by rw [HTB.out]; omega))
            rw [HTA.out] at HRta
            rw [HTB.out] at HRtb
            have HB2 := Kept.mk HV2.out.lies
            clear hv2 HV1 HV2 hrow HE1 HE3 HR1 HR2 HH HTA HTB HAW hal
            have hLa := HLa.out
            have hLb := HLb.out
            generalize tRoot (wid w) ya = ra at *
            generalize tRoot (wid w) yb = rb at *
            go_wp2_with fail
            with_reducible refine HRt.out.mono ?_
            rintro e w3 ⟨rfl, b3⟩
            have HB3 := Kept.mk (HB2.out.trans (b3.mono HB2.out.size))
            clear b3 HRt HB2
            go_wp2_with fail
            with_reducible refine (HRta.out w3 HB3.out).mono ?_
            rintro e w4 ⟨rfl, b4⟩
            have HB4 := Kept.mk (HB3.out.trans (b4.mono HB3.out.size))
            clear b4 HRta HB3
            go_wp2_with fail
            with_reducible refine (HRtb.out w4 HB4.out).mono ?_
            rintro e w5 ⟨rfl, b5⟩
            have HB5 := Kept.mk (HB4.out.trans (b5.mono HB4.out.size))
            clear b5 HRtb HB4
            go_wp2_with fail
            with_reducible refine (Node_any w ra rb w5 (HKK.out.below HB5.out) (by omega)).mono ?_
            rintro e w6 ⟨rfl, b6⟩
            have HB6 := Kept.mk (HB5.out.trans (b6.mono HB5.out.size))
            clear b6 HB5
            go_wp2_with fail
            with_reducible refine (merAwake_any w6 (HKK.out.below HB6.out)).mono ?_
            rintro e w7 ⟨rfl, b7⟩
            have HB7 := Kept.mk (HB6.out.trans (b7.mono HB6.out.size))
            clear b7 HB6
            go_wp2_with fail
            go_ret
            exact ⟨rfl, HB7.out⟩
end Go.Proofs.YtfplagbjcilpjaaDoor
