/- path: a path's parts make it again; any parts make the path that the document says, or none: walked by the contracts. -/
import Derived.Test.YtohdekokdljgjaaPaL
namespace Go.Proofs.Ytohdekokdljgjaa
set_option linter.unusedVariables false
set_option linter.unusedSimpArgs false
open Go.RowKit Go.Lib
theorem jn_psp (p : List UInt8) (h : pok p = true) : jn (psp p []) = (p, 0) := by
  have hc := psp_clean p [] (by simp)
  rw [jn_good _ (fun i hi => hc _ (List.getElem_mem hi)), join_psp p [], List.nil_append, if_pos h]
theorem chk_ok (p : List UInt8) (h : pok p = true) : chk p = 0 := by unfold chk; rw [h]; rfl
theorem chk_no (p : List UInt8) (h : pok p = false) : chk p = 5 := by unfold chk; rw [h]; rfl
attribute [local irreducible] str psp pok hasS jn chk
set_option maxRecDepth 100000 in
set_option maxHeartbeats 2000000 in
theorem pathParts_w {w : World} (p0 : List UInt8) (hp0 : p0.length ≤ 140737488351232) :
    Calls Try.prog 7 #[.string (str p0)] w fun e w' => e = .returned (.bool true) ∧ Below w.heap.size w w' := by
  have HC := Kept.mk (lawCut_any p0 w (by omega))
  have hp : (p0.take 5000).length ≤ 5000 := by rw [List.length_take]; omega
  generalize p0.take 5000 = p at *
  cases hk : pok p with
  | true =>
    have HP := Kept.mk (pParts_yes p w hp (chk_ok p hk))
    have HJ := Kept.mk (jn_psp p hk)
    have hpl := psp_length p []
    have HJP := Kept.mk (show Lib.join (psp p []) [47] = p from join_psp p [])
    go_enter Try.func7, Try.ntmps7
    go_wp2_with fail
    with_reducible refine HC.out.mono ?_
    rintro e w1 ⟨rfl, rfl⟩
    go_wp2_with fail
    with_reducible refine HP.out.mono ?_
    rintro e w1 ⟨v, rfl, hv⟩
    have HV := Kept.mk hv
    clear hv
    go_wp2_with fail
    with_reducible refine (may_any p w1 (by omega)).mono ?_
    rintro e w2 ⟨rfl, b2⟩
    rw [hk]
    have HV2 := Kept.mk (HV.out.below b2)
    clear b2 HV
    go_wp2_with fail
    with_reducible refine (pJoin_any (psp p []) v w w2 HV2.out (by omega) (by rw [HJP.out]; omega)).mono ?_
    rintro e w3 ⟨rfl, b3⟩
    rw [HJ.out]
    have HV3 := Kept.mk (HV2.out.below b3)
    clear b3 HV2
    go_wp2_with fail
    with_reducible refine (split_any p w3 (by omega)).mono ?_
    rintro e w4 ⟨v4, rfl, hv4⟩
    have HV4 := Kept.mk (HV3.out.below hv4.1)
    have HS4 := Kept.mk hv4
    clear hv4 HV3
    go_wp2_with fail
    with_reducible refine (sameTexts_any (psp p []) v v4 w w3 w4 HV4.out HS4.out (by omega)).mono ?_
    rintro e w5 ⟨rfl, b5⟩
    have HB5 := Kept.mk (HV4.out.1.trans (b5.mono HV4.out.1.size))
    clear b5
    go_wp2_with fail
    with_reducible refine (pathAwake_any w5).mono ?_
    rintro e w6 ⟨rfl, b6⟩
    have HB6 := Kept.mk (HB5.out.trans (b6.mono HB5.out.size))
    clear b6
    go_wp2_with fail
    go_ret
    exact ⟨by first | rfl | simp, HB6.out⟩
  | false =>
    have HP := Kept.mk (pParts_no p w hp (chk_no p hk))
    go_enter Try.func7, Try.ntmps7
    go_wp2_with fail
    with_reducible refine HC.out.mono ?_
    rintro e w1 ⟨rfl, rfl⟩
    go_wp2_with fail
    with_reducible refine HP.out.mono ?_
    rintro e w1 ⟨rfl, b1⟩
    go_wp2_with fail
    with_reducible refine (may_any p w1 (by omega)).mono ?_
    rintro e w2 ⟨rfl, b2⟩
    rw [hk]
    have b2 := b1.trans (b2.mono b1.size)
    go_wp2_with fail
    with_reducible refine (pathAwake_any w2).mono ?_
    rintro e w3 ⟨rfl, b3⟩
    have b3 := b2.trans (b3.mono b2.size)
    go_wp2_with fail
    go_ret
    exact ⟨by first | rfl | simp, b3⟩
theorem pathParts_s {w : World} (s : ByteArray) (_hm : s.size ≤ maxLen) (hs : s.size ≤ 140737488351232) :
    Calls Try.prog 7 #[.string s] w fun e w' => e = .returned (.bool true) ∧ Below w.heap.size w w' := by
  have h := pathParts_w (w := w) s.data.toList (by rw [Array.length_toList]; exact hs)
  rwa [str_eta] at h
theorem open_parts {H : Type} {enc : TypeId × Value → H} {W : World} {fuel : Nat} {cs : List Value} {x : DataW H × List MemPlace}
    (h : DataW.trod enc Try.prog W 0 (fun _ => true) true fuel 57 cs = some x) :
    ∃ (A : Option Addr) (ls : List (List UInt8)) (cap : Nat), cs = [.slice A ls.length cap] ∧ ls.length ≤ 9223372036854775807 ∧ (RowAt W A (sts ls) ∧ (∀ l ∈ ls, l.length ≤ 9223372036854775807)) := by
  have hC : Try.prog.cellsOf 9 = 1 := by kernel_rfl
  rcases Go.ChangeShapes.open_strings Try.underlying57 Try.underlying9 hC h with ⟨hcs, _⟩ | ⟨a, len, cap, ss, hcs, _, hl, hm, hlen, _, hcell, hsz⟩
  · exact ⟨none, [], 0, hcs, by decide, fun h => absurd h (by simp [sts]), by simp⟩
  · have hss : len ≤ ss.length := by rw [hlen]; simpa using hl
    have hlm : ((ss.take len).map fun s : ByteArray => s.data.toList).length = len := by simp [Nat.min_eq_left hss]
    refine ⟨some a, (ss.take len).map (fun s : ByteArray => s.data.toList), cap, ?_, ?_, ?_, ?_⟩
    · rw [hlm]; exact hcs
    · unfold maxLen at hm; rw [hlm]; omega
    · intro h0
      rw [sts, List.length_map, hlm] at h0
      refine ⟨a, rfl, ?_, fun j u hu => ?_⟩
      · have := block_of_cell (hcell 0 (by omega)); rwa [add_block] at this
      · have hj : j < len := by
          have := (List.getElem?_eq_some_iff.1 hu).1
          rw [sts, List.length_map, hlm] at this
          exact this
        rw [hcell j (by omega)]
        simp only [sts, List.map_map, List.getElem?_map, List.getElem?_take, if_pos hj, List.getElem?_eq_getElem (show j < ss.length by omega), Option.map_some, Function.comp] at hu
        rw [← hu, str_eta]
        simp [List.getD, List.getElem?_eq_getElem (show j < ss.length by omega)]
    · intro l hl2
      obtain ⟨s, hs, rfl⟩ := List.mem_map.1 hl2
      have := hsz s (List.mem_of_mem_take hs)
      unfold maxLen at this
      rw [Array.length_toList]
      exact this
/-- few texts, none too long -/
def fewP (ls : List (List UInt8)) : List (List UInt8) := (ls.take 50).map (·.take 300)
theorem fewP_len (ls : List (List UInt8)) : (fewP ls).length ≤ 50 := by unfold fewP; rw [List.length_map, List.length_take]; omega
theorem fewP_small (ls : List (List UInt8)) : ∀ x ∈ fewP ls, x.length ≤ 300 := by
  intro x hx
  obtain ⟨y, _, rfl⟩ := List.mem_map.1 hx
  rw [List.length_take]; omega
theorem fewP_snoc (ls : List (List UInt8)) (k : Nat) (h : k < ls.length) : (ls.take k).map (·.take 300) ++ [(ls[k].take 5000).take 300] = (ls.take (k + 1)).map (·.take 300) := by
  have e : (ls[k].take 5000).take 300 = ls[k].take 300 := by rw [List.take_take]; rfl
  rw [e]
  have e2 : ls.take (k + 1) = ls.take k ++ [ls[k]] := by rw [List.take_add_one (l := ls), List.getElem?_eq_getElem h]; rfl
  rw [e2, List.map_append]; rfl
theorem join_small : ∀ (L : List (List UInt8)), (∀ x ∈ L, x.length ≤ 300) → (Lib.join L [47]).length ≤ 301 * L.length
  | [], _ => by simp [Lib.join_nil]
  | x :: r, h => by
    rw [Lib.join_cons, List.length_append, List.length_cons]
    have h1 := h x (by simp)
    have h2 : ∀ (r : List (List UInt8)), (∀ y ∈ r, y.length ≤ 300) → (Lib.joinTail [47] r).length ≤ 301 * r.length := by
      intro r
      induction r with
      | nil => intro _; simp [Lib.joinTail]
      | cons y r ih =>
        intro hr
        have hy := hr y (by simp)
        have := ih (fun z hz => hr z (List.mem_cons_of_mem _ hz))
        simp only [Lib.joinTail, List.map_cons, List.flatten_cons, List.length_append, List.length_cons, List.length_nil] at this ⊢
        omega
    have := h2 r (fun y hy => h y (List.mem_cons_of_mem _ hy))
    omega
attribute [local irreducible] fewP
set_option maxRecDepth 100000 in
set_option maxHeartbeats 2000000 in
theorem pathJoins_w {w : World} (A : Option Addr) (c : Nat) (ls : List (List UInt8)) (hls : ls.length ≤ 9223372036854775807) (hr : RowAt w A (sts ls) ∧ ∀ l ∈ ls, l.length ≤ 9223372036854775807) :
    Calls Try.prog 8 #[.slice A ls.length c] w fun e w' => e = .returned (.bool true) ∧ Below w.heap.size w w' := by
  obtain ⟨hr1, hr2⟩ := hr
  have HR := Kept.mk hr1
  have HL := Kept.mk hr2
  clear hr1 hr2
  go_enter Try.func8, Try.ntmps8
  go_wp2_with fail
  go_loopw [3, 4] (fun o n wr => ∃ k : Nat, k ≤ ls.length ∧ k ≤ 50 ∧ n = .int .i64 k ∧ VB w wr o (sts ((ls.take k).map (·.take 300)))) (fun _ n _ => 50 - (RowKit.intOf n).toNat)
  case atStart => exact ⟨0, by omega, by omega, rfl, vb_nil w⟩
  case round =>
    obtain ⟨k, hk, hk5, rfl, hv⟩ := hrel
    have HV := Kept.mk hv
    have hbw := hv.1
    clear hv
    have fin : ∀ L, L = fewP ls → VB w wr u3 (sts L) → True := fun _ _ _ => trivial
    by_cases hlt : k < ls.length
    · by_cases h50 : k < 50
      · have hii : (k : Int) < (ls.length : Int) := by omega
        have hi5 : (k : Int) < 50 := by omega
        obtain ⟨ad, rfl, had, c0⟩ := (HR.out.below hbw).get (k := k) (by rw [sts_length]; exact hlt)
        rw [show (sts ls)[k]'(by rw [sts_length]; exact hlt) = .string (str ls[k]) from by have := sts_get ls k hlt; rw [List.getElem?_eq_getElem (by rw [sts_length]; exact hlt)] at this; exact Option.some.inj this] at c0
        have HC := Kept.mk (lawCut_any ls[k] wr (HL.out _ (List.getElem_mem hlt)))
        have HN := Kept.mk (fewP_snoc ls k hlt)
        have HLN := Kept.mk (show ((ls.take k).map (·.take 300)).length + 1 ≤ 1000000 from by rw [List.length_map, List.length_take]; omega)
        generalize ls[k].take 5000 = x at *
        generalize (ls.take k).map (·.take 300) = L at *
        clear hbw fin
        have hs := str_size x
        go_upto_if 27 with (with_reducible refine HC.out.mono ?_; rintro e w1 ⟨rfl, rfl⟩)
        go_cut [5] from 28 to 29 (fun s5 wx => s5 = .string (str (x.take 300)) ∧ wr = wx)
        case first =>
          by_cases h : x.length ≤ 300
          · have h1 : ¬ (300 : Int) < (x.length : Int) := by omega
            have HT := Kept.mk (show x.take 300 = x from List.take_of_length_le h)
            clear h
            go_wp2_with fail
            go_meet
            exact ⟨by rw [HT.out], rfl⟩
          · have h1 : (300 : Int) < (x.length : Int) := by omega
            have HT := Kept.mk (str_takeP x 300)
            clear h
            go_wp2_with fail
            go_meet
            exact ⟨by rw [HT.out], rfl⟩
        case rest =>
        obtain ⟨rfl, rfl⟩ := hcut
        go_wp2_with (at_builtin; refine str_append1 rfl _ _ (by rfl) (w := w) (L := L) (d := x.take 300) (by rfl) HV.out (by rfl) HLN.out ?_; intro v1 w1 hv1)
        rw [HN.out] at hv1
        exact ⟨⟨k + 1, hlt, h50, by push_cast; rfl, hv1⟩, by show 50 - ((k : Int) + 1).toNat < 50 - ((k : Nat) : Int).toNat; omega⟩
      · have hii : (k : Int) < (ls.length : Int) := by omega
        obtain rfl : k = 50 := by omega
        have HF := Kept.mk (show VB w wr _ (sts (fewP ls)) from by have h := HV.out; unfold fewP; exact h)
        have hfl := fewP_len ls
        have HSM := Kept.mk (fun x hx => Nat.le_trans (fewP_small ls x hx) (show 300 ≤ 20000 by decide))
        have hjl := join_small (fewP ls) (fewP_small ls)
        clear hk h50 HV fin hbw
        go_wp2_with fail
        with_reducible refine (pJoin_any (fewP ls) _ w wr HF.out (by omega) (by omega)).mono ?_
        rintro e w3 ⟨rfl, b3⟩
        have HV3 := Kept.mk (HF.out.below b3)
        clear b3
        go_wp2_with fail
        with_reducible refine (refJoin_any (fewP ls) _ w w3 HV3.out (by omega) (by omega) HSM.out).mono ?_
        rintro e w4 ⟨rfl, b4⟩
        have HB4 := Kept.mk (HV3.out.1.trans (b4.mono HV3.out.1.size))
        clear b4
        generalize jn (fewP ls) = jj at *
        obtain ⟨j1, j2⟩ := jj
        simp only
        go_wp2_with fail
        with_reducible refine (pathAwake_any w4).mono ?_
        rintro e w5 ⟨rfl, b5⟩
        have HB5 := Kept.mk (HB4.out.trans (b5.mono HB4.out.size))
        clear b5
        go_wp2_with fail
        go_ret
        exact ⟨by first | rfl | simp, HB5.out⟩
    · have hii : ¬ (k : Int) < (ls.length : Int) := by omega
      obtain rfl : k = ls.length := by omega
      have HF := Kept.mk (show VB w wr _ (sts (fewP ls)) from by have h := HV.out; unfold fewP; rw [List.take_of_length_le hk5]; rw [List.take_length] at h; exact h)
      have hfl := fewP_len ls
      have HSM := Kept.mk (fun x hx => Nat.le_trans (fewP_small ls x hx) (show 300 ≤ 20000 by decide))
      have hjl := join_small (fewP ls) (fewP_small ls)
      clear hk HV fin hbw
      go_wp2_with fail
      with_reducible refine (pJoin_any (fewP ls) _ w wr HF.out (by omega) (by omega)).mono ?_
      rintro e w3 ⟨rfl, b3⟩
      have HV3 := Kept.mk (HF.out.below b3)
      clear b3
      go_wp2_with fail
      with_reducible refine (refJoin_any (fewP ls) _ w w3 HV3.out (by omega) (by omega) HSM.out).mono ?_
      rintro e w4 ⟨rfl, b4⟩
      have HB4 := Kept.mk (HV3.out.1.trans (b4.mono HV3.out.1.size))
      clear b4
      generalize jn (fewP ls) = jj at *
      obtain ⟨j1, j2⟩ := jj
      simp only
      go_wp2_with fail
      with_reducible refine (pathAwake_any w4).mono ?_
      rintro e w5 ⟨rfl, b5⟩
      have HB5 := Kept.mk (HB4.out.trans (b5.mono HB4.out.size))
      clear b5
      go_wp2_with fail
      go_ret
      exact ⟨by first | rfl | simp, HB5.out⟩
end Go.Proofs.Ytohdekokdljgjaa
