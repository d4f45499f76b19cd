/- Trees of sums: each leaf's proof leads to the root: walked by the contracts. -/
import Derived.Test.YtfplagbjcilpjaaDoorMerT
namespace Go.Proofs.YtfplagbjcilpjaaDoor
set_option linter.unusedVariables false
set_option linter.unusedSimpArgs false
open Go.RowKit Go.Lib
theorem tProof_width (w : Nat) (hw : w ≤ 32) (n : Nat) : ∀ (i : Nat) (l : List (List UInt8)), l.length = n → (∀ x ∈ l, x.length = w) → ∀ x ∈ tProof w i l, x.length = w := by
  induction n using Nat.strongRecOn with
  | _ n ih =>
    intro i l hn hl x hx
    by_cases h2 : l.length < 2
    · rw [tProof_short _ _ _ h2] at hx; simp at hx
    · have hcl := cutN_lt l.length (by omega)
      have hcp := cutN_pos l.length
      by_cases hc : i < cutN l.length
      · rw [tProof_left _ _ _ (by omega) hc] at hx
        rcases List.mem_append.1 hx with h | h
        · exact ih (cutN l.length) (by omega) i _ (by rw [List.length_take]; omega) (fun y hy => hl y (List.mem_of_mem_take hy)) x h
        · rw [List.mem_singleton.1 h]
          exact tRoot_width w hw _ fun y hy => hl y (List.mem_of_mem_drop hy)
      · rw [tProof_right _ _ _ (by omega) hc] at hx
        rcases List.mem_append.1 hx with h | h
        · exact ih (l.length - cutN l.length) (by omega) (i - cutN l.length) _ (by rw [List.length_drop]) (fun y hy => hl y (List.mem_of_mem_drop hy)) x h
        · rw [List.mem_singleton.1 h]
          exact tRoot_width w hw _ fun y hy => hl y (List.mem_of_mem_take hy)
theorem str_append1 {ops : Array Oper} {rest : List Oper} {o : Oper} {a : Act} {Q : Exit → Act → World → Prop} (hgd : o.guard = none) (s x : Operand)
    (ho : o.op = .call { callee := .builtin .append, args := #[s, x], argTypes := #[28, 28] })
    {w wr : World} {L : List (List UInt8)} {d : List UInt8} {v : Value} (hs : a.eval s = v) (hb : VB w wr v (strs L))
    (hx : a.eval x = .slice (some ⟨wr.heap.size, 0, none⟩) 1 1) (hlen : L.length + 1 ≤ 1000000)
    (h : ∀ v' w', VB w w' v' (strs (L ++ [d])) → wpList Tryd.prog ops Q rest (a.put o.dst v') w') : wpList Tryd.prog ops Q (o :: rest) a (wr.alloc (.cells #[.string (str d)] 9)) := by
  obtain ⟨i0, hi, hz0, hz1, hz2⟩ := info_parts infoStr
  refine vb_append2 hgd s x Tryd.underlying28 hi hz0 hz1 rfl (by rw [hz2]; decide) ho hs (hb.alloc _) hx (src_one Tryd.underlying28 wr (.string (str d)) 9 rfl) (Nat.zero_lt_one) (by rw [strs_length]; show L.length + 1 ≤ _; omega) fun v' w' h1 _ _ _ => h v' w' ?_
  rw [strs_snoc]; exact h1
theorem VB.rowAt {w wr : World} {A : Option Addr} {n c : Nat} {l : List Value} (h : VB w wr (.slice A n c) l) : RowAt wr A l := fun h0 => by
  obtain ⟨g, cap, e, _, _, _, hrow⟩ := h.row h0
  cases e
  exact hrow h0
theorem shr_pos {k b : Nat} (h : 2 ^ b ≤ k) : (0 : Int) < (k : Int) / 2 ^ b := by
  have e : (2 : Int) ^ b = ((2 ^ b : Nat) : Int) := (Int.natCast_pow 2 b).symm
  rw [e, ← Int.natCast_ediv]
  have := Nat.div_pos h (Nat.two_pow_pos b)
  omega
theorem shr_zero {k b : Nat} (h : k < 2 ^ b) : (k : Int) / 2 ^ b = 0 := by
  have e : (2 : Int) ^ b = ((2 ^ b : Nat) : Int) := (Int.natCast_pow 2 b).symm
  rw [e, ← Int.natCast_ediv, Nat.div_eq_of_lt h]; rfl
/-- what is answered of a proof -/
theorem up_proof (w : Nat) (hw : w ≤ 32) (i : Nat) (l : List (List UInt8)) (hi : i < l.length) (hl : ∀ x ∈ l, x.length = w) :
    uS w (l.getD i []) (tWay i l.length) (tProof w i l) = tRoot w l ∧ uE w (l.getD i []) (tWay i l.length) (tProof w i l) = 0 := by
  have hg : (l.getD i []).length = w := by
    rw [List.getD_eq_getElem?_getD, List.getElem?_eq_getElem hi]
    exact hl _ (List.getElem_mem hi)
  obtain ⟨h1, h2⟩ := u_good (uOk_all (V := tWay i l.length) (ps := tProof w i l) (tProof_way w i l) hg (fun k hk => tProof_width w hw l.length i l rfl hl _ (List.getElem_mem hk)))
  exact ⟨h1.trans (tUp_proof w i l hi), h2⟩
attribute [local irreducible] str sSum wid tS tLeaf tNode cutN strs bls tUp uS uE chkE
set_option maxRecDepth 100000 in
set_option maxHeartbeats 8000000 in
theorem merBack_w {W : World} (w : Int) (hw : (Lit.int .i64 w).wf = true) (i : Int) (hi : (Lit.int .i64 i).wf = true) (A : Option Addr) (c : Nat) (ls : List (List UInt8)) (hl : ls.length ≤ 9223372036854775807) (hP : RowAt W A (strs ls) ∧ (∀ l ∈ ls, l.length ≤ 9223372036854775807) ∧ ls.length ≤ c ∧ c ≤ 9223372036854775807) (hk : KAt W) :
    Calls Tryd.prog 8 #[.int .i64 w, .int .i64 i, .slice A ls.length c] W fun e w' => e = .returned (.bool true) ∧ Below W.heap.size W w' := by
  obtain ⟨hr, hle, hlc, hc⟩ := hP
  have HF := Kept.mk (fewM_any A c ls W hr hl hle hlc hc)
  have HAW := Kept.mk (fun w' (hb : Below W.heap.size W w') => merAwake_any w' (hk.below hb))
  clear hle
  go_enter Tryd.func8, Tryd.ntmps8
  go_wp2_with fail
  with_reducible refine HF.out.mono ?_
  rintro e w1 ⟨L, hk1, hk2, hk3, rfl, rfl⟩
  clear HF
  have hkl : (ls.take L).length = L := by rw [List.length_take]; omega
  have hel := elem_le (ls.take L) 20000 hk3
  have hrow : RowAt W A (strs (ls.take L)) := strs_take ls L ▸ hr.take L
  generalize ls.take L = ds at *
  clear hr hk1 hk3 hlc hl hc
  by_cases h0 : L = 0
  · subst h0
    go_wp2_with fail
    with_reducible refine (HAW.out W (Below.refl _ _)).mono ?_
    rintro e w1 ⟨rfl, b1⟩
    go_wp2_with fail
    go_ret
    exact ⟨rfl, b1⟩
  · have h0i : ¬ (L : Int) = 0 := by omega
    have h0b : (((L : Nat) : Int) == 0) = false := by simp [h0]
    obtain ⟨ad, rfl, had, hcell⟩ := hrow (by rw [strs_length]; omega)
    have HR := Kept.mk (fun w' (hb : Below W.heap.size W w') => hrow.below hb)
    have HK := Kept.mk (fun w' (hb : Below W.heap.size W w') => hk.below hb)
    have HE := Kept.mk hel
    have HDL := Kept.mk hkl
    clear hrow hk hel hcell
    go_wp2_with fail
    go_loopw [7, 8] (fun v s wr => ∃ k : Nat, k ≤ L ∧ s = .int .i64 k ∧ VB W wr v (strs ((ds.take k).map (tLeaf (wid w))))) (fun _ s _ => L - (RowKit.intOf s).toNat)
    case atStart => exact ⟨0, by omega, rfl, by rw [List.take_zero]; exact vb_strs_nil W⟩
    case round =>
      obtain ⟨k, hkL, rfl, hv⟩ := hrel
      have HV := Kept.mk hv
      clear hv
      by_cases hlt : k < L
      · have hki : (k : Int) < (L : Int) := by omega
        have hkd : k < ds.length := by rw [HDL.out]; exact hlt
        have hc0 := (HR.out wr HV.out.lies).cells (j := k) (strs_get? ds k hkd)
        have hbl := HE.out _ (List.getElem_mem hkd)
        have HLf := Kept.mk (Leaf_any w ds[k] wr (HK.out wr HV.out.lies) (by omega))
        have HN := Kept.mk (show (ds.take k).map (tLeaf (wid w)) ++ [tLeaf (wid w) ds[k]] = (ds.take (k + 1)).map (tLeaf (wid w)) from by rw [List.take_succ_eq_append_getElem hkd, List.map_append]; rfl)
        have hml : ((ds.take k).map (tLeaf (wid w))).length ≤ 100 := by rw [List.length_map, List.length_take]; omega
        generalize (ds.take k).map (tLeaf (wid w)) = M at *
        generalize tLeaf (wid w) ds[k] = lf at *
        generalize ds[k] = dk at *
        go_wp2_with fail
        with_reducible refine HLf.out.mono ?_
        rintro e w2 ⟨rfl, b2⟩
        have HV2 := Kept.mk (HV.out.below b2)
        clear b2 HLf HV
        go_wp2_with (at_builtin; refine str_append1 rfl _ _ (by rfl) (w := W) (L := M) (d := lf) (by rfl) HV2.out (by rfl) (by omega) ?_; intro v3 w3 hv3)
        rw [HN.out] at hv3
        exact ⟨⟨k + 1, hlt, by push_cast; rfl, hv3⟩, by show L - ((k : Int) + 1).toNat < L - ((k : Nat) : Int).toNat; omega⟩
      · have hki : ¬ (k : Int) < (L : Int) := by omega
        have hkl : k = L := by omega
        subst hkl
        have hall : ds.take k = ds := List.take_of_length_le (by rw [HDL.out]; exact Nat.le_refl _)
        rw [hall] at HV
        have hml : (ds.map (tLeaf (wid w))).length = k := by rw [List.length_map, HDL.out]
        have hmw : ∀ x ∈ ds.map (tLeaf (wid w)), x.length = wid w := fun x hx => by
          obtain ⟨y, _, rfl⟩ := List.mem_map.1 hx
          exact tLeaf_length _ _ (wid_range w).2
        generalize ds.map (tLeaf (wid w)) = l at *
        obtain ⟨g, cap, rfl, hgw, hgl, hcp, hrow⟩ := HV.out.row (by rw [strs_length]; omega)
        rw [strs_length, hml] at hcp
        rw [strs_length, hml] at HV
        rw [strs_length, hml]
        clear hall HR HE HDL hkL
        generalize wr = W9 at *
        obtain ⟨j, hj⟩ : ∃ j : Nat, ((i.tmod (k : Int) + (k : Int)).tmod (k : Int)) = j := ⟨((i.tmod (k : Int) + (k : Int)).tmod (k : Int)).toNat, by
          have h1 := Int.lt_tmod_of_pos i (show (0 : Int) < k by omega)
          have h2 := Int.tmod_nonneg (k : Int) (show 0 ≤ i.tmod (k : Int) + k by omega)
          omega⟩
        have hjk : j < k := by
          have h1 := Int.tmod_lt_of_pos (i.tmod (k : Int) + (k : Int)) (show (0 : Int) < k by omega)
          omega
        have hwr : wrap64 (i.tmod (k : Int) + (k : Int)) = i.tmod (k : Int) + (k : Int) := by
          have h1 := Int.lt_tmod_of_pos i (show (0 : Int) < k by omega)
          have h2 := Int.tmod_lt_of_pos i (show (0 : Int) < k by omega)
          exact wrap64_in _ (by omega) (by omega)
        have hw32 := (wid_range w).2
        have HPR := Kept.mk (Proof_any w j (some ⟨g, 0, none⟩) cap l W9 (HK.out W9 HV.out.lies) (by rw [hml]; exact hjk) hrow (fun x hx => by have := hmw x hx; omega) (by rw [hml]; exact hcp) (by rw [hml]; omega) (by rw [hml]; omega))
        have HRT := Kept.mk (fun w' (hb : Below W9.heap.size W9 w') => Root_any w k (some ⟨g, 0, none⟩) cap l w' hml (hrow.below hb) (HK.out w' (HV.out.lies.trans (hb.mono HV.out.lies.size))) (fun x hx => by have := hmw x hx; omega) (by rw [hml]; exact hcp) (by rw [hml]; omega))
        obtain ⟨hus, hue⟩ := up_proof (wid w) hw32 j l (by rw [hml]; exact hjk) hmw
        have hgl : (l.getD j []).length ≤ 1000000 := by
          rw [List.getD_eq_getElem?_getD, List.getElem?_eq_getElem (by rw [hml]; exact hjk)]
          have := hmw _ (List.getElem_mem (show j < l.length by rw [hml]; exact hjk))
          show l[j].length ≤ _
          omega
        have hcl := hrow.off0 (j := j) (u := .string (str (l.getD j []))) (by
          rw [strs_get? l j (by rw [hml]; exact hjk), List.getD_eq_getElem?_getD, List.getElem?_eq_getElem (by rw [hml]; exact hjk)]
          rfl)
        have hpw := tProof_way (wid w) j l
        have hpx := tProof_width (wid w) hw32 l.length j l rfl hmw
        rw [hml] at hus hue hpw HPR HRT
        have HX := Kept.mk hpx
        have HUS := Kept.mk hus
        have HUE := Kept.mk hue
        have HPW := Kept.mk hpw
        have HJ := Kept.mk hj
        clear hpx hus hue hpw hmw hrow hj
        go_wp2_with fail
        rw [HJ.out]
        generalize tProof (wid w) j l = P at *
        generalize tRoot (wid w) l = R at *
        generalize l.getD j [] = lf at *
        clear hwr
        with_reducible refine HPR.out.mono ?_
        rintro e w2 ⟨v2, rfl, hv2⟩
        have hg9 : g < W9.heap.size := block_of_cell hcl
        have hcl2 := (hv2.lies.cell (p := ⟨g, j, none⟩) hg9).trans hcl
        obtain ⟨A2, c2, rfl, hc2⟩ := hv2.len
        rw [strs_length] at hc2
        rw [strs_length] at hv2
        rw [strs_length]
        have HV2 := Kept.mk hv2
        clear hv2 HPR hcl
        go_wp2_with fail
        generalize w2 = W8 at *
        go_loop [11] (fun s => ∃ b : Nat, b ≤ 7 ∧ s = .int .i64 b) (fun s => 8 - (RowKit.intOf s).toNat)
        case atStart => exact ⟨0, by omega, rfl⟩
        case round =>
          obtain ⟨b, hb, rfl⟩ := hrel
          by_cases hs : 2 ^ b ≤ k
          · have hb0 : (0 : Int) ≤ (b : Int) := by omega
            have hsp := shr_pos hs
            have hb6 : b ≤ 6 := by
              rcases Nat.lt_or_ge 6 b with h | h
              · have := Nat.pow_le_pow_right (n := 2) (by decide) h
                have h7 : (2 : Nat) ^ Nat.succ 6 = 128 := by decide
                omega
              · exact h
            go_wp2_with fail
            exact ⟨⟨b + 1, by omega, by push_cast; rfl⟩, by show 8 - ((b : Int) + 1).toNat < 8 - ((b : Nat) : Int).toNat; omega⟩
          · have hb0 : (0 : Int) ≤ (b : Int) := by omega
            have hsz := shr_zero (show k < 2 ^ b by omega)
            have hpl0 := tWay_le b j k (by omega)
            have hpl : (P.length : Int) ≤ (b : Int) := by have := HPW.out; omega
            have hpn : P.length ≤ 1000 := by have := HPW.out; omega
            have hk9 := fun (w' : World) (h : Below W8.heap.size W8 w') => HV2.out.lies.trans (h.mono HV2.out.lies.size)
            have hk0 := fun (w' : World) (h : Below W8.heap.size W8 w') => HV.out.lies.trans ((hk9 w' h).mono HV.out.lies.size)
            have HS := Kept.mk (fun w' (h : Below W8.heap.size W8 w') => show w'.cell? ⟨g, j, none⟩ = some (.string (str lf)) ∧ Below W8.heap.size W8 w' from ⟨(h.cell (p := ⟨g, j, none⟩) (block_of_cell hcl2)).trans hcl2, h⟩)
            have HRR := Kept.mk (fun w' (h : Below W8.heap.size W8 w') => HRT.out w' (hk9 w' h))
            have HCK := Kept.mk (fun w' (h : Below W8.heap.size W8 w') => Check_of w j k R lf R 0 A2 P.length c2 w' (by
              have hu := Up_any w j k lf A2 c2 P w' (HK.out w' (hk0 w' h)) hjk (by omega) hgl (HV2.out.below h).rowAt hc2 (fun x hx => by have := HX.out x hx; omega) hpn
              rw [HUS.out, HUE.out] at hu
              exact hu))
            rw [chk_same] at HCK
            have HA2 := Kept.mk (fun w' (h : Below W8.heap.size W8 w') => HAW.out w' (hk0 w' h))
            have HB0 := Kept.mk hk0
            have jk : (j : Int) < (k : Int) := by omega
            have j0 : (0 : Int) ≤ (j : Int) := by omega
            clear hs hpl0 hk9 hk0 HX HUS HUE HPW HRT HK HAW hgl
            go_wp2_with fail
            go_region_held3 (fun w' => w'.cell? ⟨g, j, none⟩ = some (.string (str lf)) ∧ Below W8.heap.size W8 w')
              (first
                | exact HS.out _ (Below.refl _ _).drew
                | (go_split_ands; exact HS.out _ (below_nextM (by assumption) hbA))
                | (go_split_ands; exact HS.out _ (by assumption)))
              (first
                | (go_at_call 22; go_split_ands; (with_reducible refine (HRR.out _ (by assumption)).mono ?_); rintro e wA ⟨rfl, hbA⟩)
                | (go_at_call 31; go_split_ands; (with_reducible refine (HCK.out _ (by assumption)).mono ?_); rintro e wA ⟨rfl, hbA⟩)
                | (go_at_call 12; go_split_ands; (with_reducible refine (HA2.out _ (by assumption)).mono ?_); rintro e wA ⟨rfl, hbA⟩))
            all_goals
              go_split_ands
              have HB := Kept.mk (HB0.out _ (show Below W8.heap.size W8 _ by assumption))
              go_wp2_with fail
              go_ret
              exact ⟨rfl, HB.out⟩
end Go.Proofs.YtfplagbjcilpjaaDoor
