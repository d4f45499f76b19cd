/- Trees of sums: up a way, the document's, by a contract. -/
import Derived.Test.YtfplagbjcilpjaaDoorMerO
namespace Go.Proofs.YtfplagbjcilpjaaDoor
set_option linter.unusedVariables false
set_option linter.unusedSimpArgs false
open Go.RowKit Go.Lib
theorem mem_width {ps : List (List UInt8)} {w : Nat} (h : ∀ k (hk : k < ps.length), ps[k].length = w) (m : Nat) : ∀ k (hk : k < (ps.take m).length), (ps.take m)[k].length = w := fun k hk => by
  rw [List.getElem_take]
  exact h k (by rw [List.length_take] at hk; omega)
theorem refWidth_same (w : Int) (W : World) : Calls Tryd.prog 14 #[.int .i64 w] W fun e w' => e = .returned (.int .i64 ((wid w : Nat) : Int)) ∧ w' = W := (refWidth_any w W).mono fun _ _ h => ⟨h.1, h.2.symm⟩
attribute [local irreducible] str sSum wid tS tLeaf tNode cutN strs bls tUp uS uE
set_option maxRecDepth 100000 in
set_option maxHeartbeats 4000000 in
theorem refup_any (w : Int) (leaf : List UInt8) (hleaf : leaf.length = wid w) (n : Nat) : ∀ (i : Nat) (A : Option Addr) (c : Nat) (ps : List (List UInt8)) (W : World), i < n → n ≤ 4611686018427387903 → ps.length = (tWay i n).length → (∀ k (hk : k < ps.length), ps[k].length = wid w) → RowAt W A (strs ps) → ps.length ≤ c →
    Calls Tryd.prog 44 #[.int .i64 w, .int .i64 i, .int .i64 n, .string (str leaf), .slice A ps.length c] W fun e w' => e = .returned (.string (str (tUp (wid w) leaf (tWay i n) ps))) ∧ Below W.heap.size W w' := by
  induction n using Nat.strongRecOn with
  | _ n ih =>
    intro i A c ps W hi hn hpl hpw hr hc
    by_cases h2 : n < 2
    · have h2i : (n : Int) < 2 := by omega
      rw [tWay_short _ _ h2] at hpl
      have hps : ps = [] := List.length_eq_zero_iff.1 hpl
      have HT := Kept.mk (show tUp (wid w) leaf (tWay i n) ps = leaf from by rw [tWay_short _ _ h2, hps, tUp_none])
      rw [HT.out]
      clear ih hpl hpw hr
      go_enter Tryd.func44, Tryd.ntmps44
      go_wp2_with fail
      go_ret
      exact ⟨rfl, Below.refl _ _⟩
    · have h2i : ¬ (n : Int) < 2 := by omega
      have hcl := cutN_lt n (by omega)
      have hcp := cutN_pos n
      have HC := Kept.mk (fun w => refCut_any n w hn)
      have p62 : (2 : Nat) ^ 62 = 4611686018427387904 := by decide
      have hw62 := tWay_le 62 i n (by omega)
      have hw32 := (wid_range w).2
      by_cases hx : i < cutN n
      · have hxi : (i : Int) < ((cutN n : Nat) : Int) := by omega
        have hwl := tWay_length_left i n (by omega) hx
        have h0 : ps.length - 1 < ps.length := by omega
        have HT := Kept.mk (tUp_last_left (wid w) leaf i n ps (by omega) hx hpl h0)
        rw [HT.out]
        obtain ⟨ad, rfl, hadl, hcell⟩ := hr.get (k := ps.length - 1) (by rw [strs_length]; exact h0)
        rw [strs_get ps _ h0] at hcell
        have hlast := hpw _ h0
        have HI := Kept.mk (ih (cutN n) hcl i (some ad) c (ps.take (ps.length - 1)) W hx (by omega) (by rw [List.length_take]; omega) (mem_width hpw _) (strs_take ps _ ▸ hr.take _) (by rw [List.length_take]; omega))
        rw [List.length_take, Nat.min_eq_left (by omega)] at HI
        have hul := tUp_length (wid w) hw32 (tWay i (cutN n)) leaf (ps.take (ps.length - 1)) hleaf
        have hp1 : (ps.length : Int) - 1 = ((ps.length - 1 : Nat) : Int) := by omega
        have hp0 : 0 < ps.length := by omega
        have HRN := Kept.mk (fun w1 => refNode_any w (tUp (wid w) leaf (tWay i (cutN n)) (ps.take (ps.length - 1))) ps[ps.length - 1] w1 (by omega))
        clear ih hr hpw HT
        generalize tUp (wid w) leaf (tWay i (cutN n)) (ps.take (ps.length - 1)) = u at *
        generalize ps[ps.length - 1] = last at *
        generalize cutN n = k at *
        have hpi : (0 : Int) ≤ (ps.length : Int) - 1 := by omega
        have hpn : ((ps.length : Int) - 1).toNat = ps.length - 1 := by omega
        have hcc : (ps.length : Int) - 1 ≤ (c : Int) := by omega
        have hmb : ps.length - 1 ≤ 62 := by omega
        clear hwl hw62 p62 hpl hp1
        generalize hm : ps.length - 1 = m at *
        have hpm : ps.length = m + 1 := by omega
        rw [hpm]
        rw [hpm] at hpi hpn hcc hc
        clear hm hpm hp0 h0
        go_enter Tryd.func44, Tryd.ntmps44
        go_wp2_with fail
        with_reducible refine (HC.out W).mono ?_
        rintro e w1 ⟨rfl, rfl⟩
        go_wp2_with fail
        with_reducible refine (HI.out).mono ?_
        rintro e w1 ⟨rfl, b1⟩
        go_wp2_with fail
        with_reducible refine (HRN.out w1).mono ?_
        rintro e w2 ⟨rfl, b2⟩
        have b2 := b1.trans (b2.mono b1.size)
        clear b1
        go_wp2_with fail
        go_ret
        exact ⟨rfl, b2⟩
      · have hxi : ¬ (i : Int) < ((cutN n : Nat) : Int) := by omega
        have hwl := tWay_length_right i n (by omega) hx
        have h0 : ps.length - 1 < ps.length := by omega
        have HT := Kept.mk (tUp_last_right (wid w) leaf i n ps (by omega) hx hpl h0)
        rw [HT.out]
        obtain ⟨ad, rfl, hadl, hcell⟩ := hr.get (k := ps.length - 1) (by rw [strs_length]; exact h0)
        rw [strs_get ps _ h0] at hcell
        have hlast := hpw _ h0
        have HI := Kept.mk (ih (n - cutN n) (by omega) (i - cutN n) (some ad) c (ps.take (ps.length - 1)) W (by omega) (by omega) (by rw [List.length_take]; omega) (mem_width hpw _) (strs_take ps _ ▸ hr.take _) (by rw [List.length_take]; omega))
        rw [List.length_take, Nat.min_eq_left (by omega)] at HI
        have hul := tUp_length (wid w) hw32 (tWay (i - cutN n) (n - cutN n)) leaf (ps.take (ps.length - 1)) hleaf
        have hp1 : (ps.length : Int) - 1 = ((ps.length - 1 : Nat) : Int) := by omega
        have hp0 : 0 < ps.length := by omega
        have HRN := Kept.mk (fun w1 => refNode_any w ps[ps.length - 1] (tUp (wid w) leaf (tWay (i - cutN n) (n - cutN n)) (ps.take (ps.length - 1))) w1 (by omega))
        have e1 : ((i - cutN n : Nat) : Int) = (i : Int) - ((cutN n : Nat) : Int) := by omega
        have e2 : ((n - cutN n : Nat) : Int) = (n : Int) - ((cutN n : Nat) : Int) := by omega
        rw [e1, e2] at HI
        clear ih hr hpw HT e1 e2
        generalize tUp (wid w) leaf (tWay (i - cutN n) (n - cutN n)) (ps.take (ps.length - 1)) = u at *
        generalize ps[ps.length - 1] = last at *
        generalize cutN n = k at *
        have hpi : (0 : Int) ≤ (ps.length : Int) - 1 := by omega
        have hpn : ((ps.length : Int) - 1).toNat = ps.length - 1 := by omega
        have hcc : (ps.length : Int) - 1 ≤ (c : Int) := by omega
        have hmb : ps.length - 1 ≤ 62 := by omega
        clear hwl hw62 p62 hpl hp1
        generalize hm : ps.length - 1 = m at *
        have hpm : ps.length = m + 1 := by omega
        rw [hpm]
        rw [hpm] at hpi hpn hcc hc
        clear hm hpm hp0 h0
        go_enter Tryd.func44, Tryd.ntmps44
        go_wp2_with fail
        with_reducible refine (HC.out W).mono ?_
        rintro e w1 ⟨rfl, rfl⟩
        go_wp2_with fail
        with_reducible refine (HI.out).mono ?_
        rintro e w1 ⟨rfl, b1⟩
        go_wp2_with fail
        with_reducible refine (HRN.out w1).mono ?_
        rintro e w2 ⟨rfl, b2⟩
        have b2 := b1.trans (b2.mono b1.size)
        clear b1
        go_wp2_with fail
        go_ret
        exact ⟨rfl, b2⟩
set_option maxRecDepth 100000 in
set_option maxHeartbeats 4000000 in
theorem refUp_any (w : Int) (i n : Nat) (leaf : List UInt8) (A : Option Addr) (c : Nat) (ps : List (List UInt8)) (W : World) (hi : i < n) (hn : n ≤ 1099511627776) (hleaf : leaf.length ≤ 1000000) (hr : RowAt W A (strs ps)) (hc : ps.length ≤ c) (hl : ∀ b ∈ ps, b.length ≤ 1000000) (hps : ps.length ≤ 1000) :
    Calls Tryd.prog 30 #[.int .i64 w, .int .i64 i, .int .i64 n, .string (str leaf), .slice A ps.length c] W fun e w' => e = .returned (.tuple #[.string (str (uS (wid w) leaf (tWay i n) ps)), .int .i64 (uE (wid w) leaf (tWay i n) ps)]) ∧ Below W.heap.size W w' := by
  have hN1 : ¬ (n : Int) < 1 := by omega
  have hI0 : ¬ (i : Int) < 0 := by omega
  have hIN : ¬ (n : Int) ≤ (i : Int) := by omega
  have p40 : (2 : Nat) ^ 40 = 1099511627776 := by decide
  have hVl := tWay_le 40 i n (by omega)
  have HLG := Kept.mk (refLong_any n i W (by omega) (by omega))
  have hsl := str_size leaf
  have hw32 := (wid_range w).2
  have HL := Kept.mk hl
  have HW := Kept.mk (fun W => refWidth_any w W)
  have HNL := Kept.mk str_nilM
  have HUP := Kept.mk (fun w' (hb : Below W.heap.size W w') h2 h1 h3 => refup_any w leaf h2 n i A c ps w' hi (by omega) h1 h3 (hr.below hb) hc)
  have HR := Kept.mk hr
  clear hr hl p40 hn hi
  generalize tWay i n = V at *
  by_cases h1 : ps.length = V.length
  · by_cases h2 : leaf.length = wid w
    · have HG := Kept.mk (fun h3 => u_good (uOk_all (w := wid w) (leaf := leaf) h1 h2 h3))
      have HBAD := Kept.mk (fun k hk h => u_bad (uOk_one (w := wid w) (leaf := leaf) (V := V) (ps := ps) k hk h))
      have HUP2 := Kept.mk (fun w' hb h3 => HUP.out w' hb h2 h1 h3)
      generalize uS (wid w) leaf V ps = US at *
      generalize uE (wid w) leaf V ps = UE at *
      have hwi : (leaf.length : Int) = ((wid w : Nat) : Int) := by omega
      rw [← h1] at HLG
      clear h1 h2 HUP
      go_enter Tryd.func30, Tryd.ntmps30
      go_wp2_with fail
      with_reducible refine HLG.out.mono ?_
      rintro e w1 ⟨rfl, rfl⟩
      clear HLG
      go_wp2_with fail
      with_reducible refine (HW.out W).mono ?_
      rintro e w2 ⟨rfl, rfl⟩
      go_wp2_with fail
      go_loopw [12] (fun c wr => ∃ j : Nat, j ≤ ps.length ∧ c = .int .i64 j ∧ Below W.heap.size W wr ∧ ∀ k (hk : k < ps.length), k < j → ps[k].length = wid w) (fun c _ => ps.length - (RowKit.intOf c).toNat)
      case atStart => exact ⟨0, by omega, rfl, Below.refl _ _, fun k _ h => absurd h (by omega)⟩
      case round =>
        obtain ⟨j, hj, rfl, hbw, hz⟩ := hrel
        have HBW := Kept.mk hbw
        have HZ := Kept.mk hz
        clear hz
        by_cases hlt : j < ps.length
        · have hji : (j : Int) < (ps.length : Int) := by omega
          have hj0 : (0 : Int) ≤ (j : Int) := by omega
          obtain ⟨ad, rfl, had, hcell⟩ := (HR.out.below hbw).get (k := j) (by rw [strs_length]; exact hlt)
          rw [strs_get ps j hlt] at hcell
          have hbl := HL.out _ (List.getElem_mem hlt)
          have hbs := str_size ps[j]
          have HBj := Kept.mk (HBAD.out j hlt)
          have hz2 : ps[j].length = wid w → ∀ k (hk : k < ps.length), k < j + 1 → ps[k].length = wid w := fun h k hk hkj => by
            rcases (show k < j ∨ k = j from by omega) with h3 | h3
            · exact HZ.out k hk h3
            · subst h3; exact h
          have HZ2 := Kept.mk hz2
          clear hz2 HZ HBAD
          generalize ps[j] = b at *
          by_cases hb : b.length = wid w
          · have hbi : (b.length : Int) = ((wid w : Nat) : Int) := by omega
            have HZ3 := HZ2.out hb
            have HZ4 := Kept.mk HZ3
            clear HZ3
            go_upto_region 8 with fail
            go_quiet ((go_at_call 14; exact Calls.quiet_of_same (refWidth_same w _)))
            go_wp2_with fail
            exact ⟨⟨j + 1, hlt, by push_cast; rfl, below_drewN HBW.out _, HZ4.out⟩, by show ps.length - ((j : Int) + 1).toNat < ps.length - ((j : Nat) : Int).toNat; omega⟩
          · have hbi : (((b.length : Nat) : Int) == ((wid w : Nat) : Int)) = false := by simp; omega
            obtain ⟨hs, he⟩ := HBj.out hb
            have HS := Kept.mk hs
            have HE := Kept.mk he
            clear hs he hbw
            go_upto_region 8 with fail
            go_quiet ((go_at_call 14; exact Calls.quiet_of_same (refWidth_same w _)))
            go_wp2_with fail
            go_ret2
            exact ⟨by rw [HS.out, HE.out, HNL.out]; rfl, below_drewN HBW.out _⟩
        · have hji : ¬ (j : Int) < (ps.length : Int) := by omega
          have hall : ∀ k (hk : k < ps.length), ps[k].length = wid w := fun k hk => HZ.out k hk (by omega)
          obtain ⟨hs, he⟩ := HG.out hall
          have HS := Kept.mk hs
          have HE := Kept.mk he
          have HU3 := Kept.mk (HUP2.out wr hbw hall)
          clear hs he hbw hall HZ hj
          go_wp2_with fail
          with_reducible refine HU3.out.mono ?_
          rintro e w2 ⟨rfl, b2⟩
          have HB2 := Kept.mk (HBW.out.trans (b2.mono HBW.out.size))
          clear b2
          go_wp2_with fail
          go_ret2
          exact ⟨by rw [HS.out, HE.out]; rfl, HB2.out⟩
    · obtain ⟨hs, he⟩ := u_bad (uOk_leaf (w := wid w) (V := V) (ps := ps) h2)
      have h2b : ((leaf.length : Int) == ((wid w : Nat) : Int)) = false := by simp; omega
      rw [hs, he, HNL.out]
      rw [← h1] at HLG
      clear hs he h1 HUP
      go_enter Tryd.func30, Tryd.ntmps30
      go_wp2_with fail
      with_reducible refine HLG.out.mono ?_
      rintro e w1 ⟨rfl, rfl⟩
      clear HLG
      go_wp2_with fail
      with_reducible refine (HW.out W).mono ?_
      rintro e w2 ⟨rfl, rfl⟩
      go_wp2_with fail
      go_ret2
      exact ⟨rfl, Below.refl _ _⟩
  · obtain ⟨hs, he⟩ := u_bad (uOk_long (w := wid w) (leaf := leaf) h1)
    have h1b : ((ps.length : Int) == (V.length : Int)) = false := by simp; omega
    rw [hs, he, HNL.out]
    clear hs he HUP
    go_enter Tryd.func30, Tryd.ntmps30
    go_wp2_with fail
    with_reducible refine HLG.out.mono ?_
    rintro e w1 ⟨rfl, rfl⟩
    clear HLG
    go_wp2_with fail
    go_ret2
    exact ⟨rfl, Below.refl _ _⟩
set_option maxRecDepth 100000 in
set_option maxHeartbeats 1000000 in
theorem Up_bad (w i n : Int) (leaf : List UInt8) (A : Option Addr) (m c : Nat) (W : World) (hi : i < 0 ∨ n ≤ i) :
    Calls Tryd.prog 29 #[.int .i64 w, .int .i64 i, .int .i64 n, .string (str leaf), .slice A m c] W fun e w' => e = .returned (.tuple #[.string (str []), .int .i64 1]) ∧ Below W.heap.size W w' := by
  have HNL := Kept.mk str_nilM
  by_cases h0 : n < 1
  · clear hi
    go_enter Tryd.func29, Tryd.ntmps29
    go_wp2_with fail
    go_ret2
    exact ⟨by rw [HNL.out]; rfl, Below.refl _ _⟩
  · by_cases h1 : i < 0
    · clear hi
      go_enter Tryd.func29, Tryd.ntmps29
      go_wp2_with fail
      go_ret2
      exact ⟨by rw [HNL.out]; rfl, Below.refl _ _⟩
    · have h2 : n ≤ i := by omega
      clear hi
      go_enter Tryd.func29, Tryd.ntmps29
      go_wp2_with fail
      go_ret2
      exact ⟨by rw [HNL.out]; rfl, Below.refl _ _⟩
set_option maxRecDepth 100000 in
set_option maxHeartbeats 1000000 in
theorem refUp_bad (w i n : Int) (leaf : List UInt8) (A : Option Addr) (m c : Nat) (W : World) (hi : i < 0 ∨ n ≤ i) :
    Calls Tryd.prog 30 #[.int .i64 w, .int .i64 i, .int .i64 n, .string (str leaf), .slice A m c] W fun e w' => e = .returned (.tuple #[.string (str []), .int .i64 1]) ∧ Below W.heap.size W w' := by
  have HNL := Kept.mk str_nilM
  by_cases h0 : n < 1
  · clear hi
    go_enter Tryd.func30, Tryd.ntmps30
    go_wp2_with fail
    go_ret2
    exact ⟨by rw [HNL.out]; rfl, Below.refl _ _⟩
  · by_cases h1 : i < 0
    · clear hi
      go_enter Tryd.func30, Tryd.ntmps30
      go_wp2_with fail
      go_ret2
      exact ⟨by rw [HNL.out]; rfl, Below.refl _ _⟩
    · have h2 : n ≤ i := by omega
      clear hi
      go_enter Tryd.func30, Tryd.ntmps30
      go_wp2_with fail
      go_ret2
      exact ⟨by rw [HNL.out]; rfl, Below.refl _ _⟩
/-- what both answer: the same -/
theorem ups_some (w i n : Int) (leaf : List UInt8) (A : Option Addr) (c : Nat) (ps : List (List UInt8)) (W0 : World) (hk : KAt W0) (hn : n ≤ 1099511627776) (hleaf : leaf.length ≤ 1000000) (hr : RowAt W0 A (strs ps)) (hc : ps.length ≤ c) (hl : ∀ b ∈ ps, b.length ≤ 1000000) (hps : ps.length ≤ 1000) :
    ∃ (S : List UInt8) (E : Int), (E = 0 ∨ E = 1 ∨ E = 2) ∧
      (∀ W, Below W0.heap.size W0 W → Calls Tryd.prog 29 #[.int .i64 w, .int .i64 i, .int .i64 n, .string (str leaf), .slice A ps.length c] W fun e w' => e = .returned (.tuple #[.string (str S), .int .i64 E]) ∧ Below W.heap.size W w') ∧
      (∀ W, Below W0.heap.size W0 W → Calls Tryd.prog 30 #[.int .i64 w, .int .i64 i, .int .i64 n, .string (str leaf), .slice A ps.length c] W fun e w' => e = .returned (.tuple #[.string (str S), .int .i64 E]) ∧ Below W.heap.size W w') := by
  by_cases h : i < 0 ∨ n ≤ i
  · exact ⟨[], 1, by simp, fun W _ => Up_bad w i n leaf A _ c W h, fun W _ => refUp_bad w i n leaf A _ c W h⟩
  · obtain ⟨j, rfl⟩ : ∃ j : Nat, i = j := ⟨i.toNat, by omega⟩
    obtain ⟨m, rfl⟩ : ∃ m : Nat, n = m := ⟨n.toNat, by omega⟩
    refine ⟨_, _, ?_, fun W hb => Up_any w j m leaf A c ps W (hk.below hb) (by omega) (by omega) hleaf (hr.below hb) hc hl hps, fun W hb => refUp_any w j m leaf A c ps W (by omega) (by omega) hleaf (hr.below hb) hc hl hps⟩
    cases h : uOk (wid w) leaf (tWay j m) ps with
    | true => exact .inl (u_good h).2
    | false => exact .inr (.inr (u_bad h).2)
end Go.Proofs.YtfplagbjcilpjaaDoor
