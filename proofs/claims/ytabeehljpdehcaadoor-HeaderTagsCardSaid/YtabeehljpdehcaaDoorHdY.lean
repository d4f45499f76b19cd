/- header: a header of whose tag a byte is turned is not verified: walked by the contracts. -/
import Derived.Test.YtabeehljpdehcaaDoorHdW
namespace Go.Proofs.YtabeehljpdehcaaDoor
set_option linter.unusedVariables false
set_option linter.unusedSimpArgs false
open Go.RowKit Go.Lib
theorem set_ne (l : List UInt8) (i : Nat) (c : UInt8) (hi : i < l.length) (hc : c ≠ 0) : l.set i (l[i] ^^^ c) ≠ l := by
  intro h
  have h2 := congrArg (fun m : List UInt8 => m[i]?) h
  simp only [List.getElem?_set, hi, if_true, List.getElem?_eq_getElem hi, Option.some.injEq] at h2
  apply hc
  have h3 : l[i] ^^^ (l[i] ^^^ c) = l[i] ^^^ l[i] := by rw [h2]
  rwa [← UInt8.xor_assoc, UInt8.xor_self, UInt8.zero_xor] at h3
attribute [local irreducible] str zs hP hF beL mTag hT sSum mXor mPad mKey vE

set_option maxRecDepth 100000 in
set_option maxHeartbeats 8000000 in
theorem headerTags_w {W : World} (key : List UInt8) (zk : key.length ≤ 140737488351232) (id : Int) (salt : List UInt8) (n b raw : Int) (root tag : List UInt8) (hP : (I64 id ∧ I64 n ∧ I64 b ∧ I64 raw) ∧ salt.length ≤ 9223372036854775807 ∧ root.length ≤ 9223372036854775807 ∧ tag.length ≤ 9223372036854775807) (at_ : Int) (hat : (Lit.int .i64 at_).wf = true) (x : Int) (hx : (Lit.int .u8 x).wf = true) (hk : KAt W) :
    Calls Tryd.prog 4 #[.string (str key), .agg #[.int .i64 id, .string (str salt), .int .i64 n, .int .i64 b, .int .i64 raw, .string (str root), .string (str tag)], .int .i64 at_, .int .u8 x] W fun e w' => e = .returned (.bool true) ∧ Below W.heap.size W w' := by
  obtain ⟨⟨r1, r2, r3, r4⟩, z1, z2, z3⟩ := hP
  obtain ⟨x0, x1⟩ := bounds_u8 hx
  obtain ⟨c, rfl⟩ : ∃ c : UInt8, x = c.toNat := ⟨byt x, by have := byt_toNat x; omega⟩
  have hm := and_mask at_ 5 (by omega) 31 rfl
  simp only [Int.reducePow, Nat.reducePow] at hm
  obtain ⟨i, hi⟩ : ∃ i : Nat, at_ % ((32 : Nat) : Int) = i := ⟨(at_ % 32).toNat, by omega⟩
  rw [hi] at hm
  have hi1 : i < 32 := by omega
  clear hi hx hat x0 x1
  have sk := str_size key
  have hA := hnew W (.cells #[.int .i64 id, .string (str salt), .int .i64 n, .int .i64 b, .int .i64 raw, .string (str root), .string (str tag)] 23)
  have hB := bnew W (.cells #[.int .i64 id, .string (str salt), .int .i64 n, .int .i64 b, .int .i64 raw, .string (str root), .string (str tag)] 23)
  generalize hW : W.alloc (.cells #[.int .i64 id, .string (str salt), .int .i64 n, .int .i64 b, .int .i64 raw, .string (str root), .string (str tag)] 23) = W1 at *
  have HW := Kept.mk hW
  have HS := Kept.mk (fun w' (h : Below W1.heap.size W1 w') => show w'.cell? ⟨W.heap.size, 0, none⟩ = some (.int .i64 id) ∧ w'.cell? ⟨W.heap.size, 1, none⟩ = some (.string (str salt)) ∧ w'.cell? ⟨W.heap.size, 2, none⟩ = some (.int .i64 n) ∧ w'.cell? ⟨W.heap.size, 3, none⟩ = some (.int .i64 b) ∧ w'.cell? ⟨W.heap.size, 4, none⟩ = some (.int .i64 raw) ∧ w'.cell? ⟨W.heap.size, 5, none⟩ = some (.string (str root)) ∧ w'.cell? ⟨W.heap.size, 6, none⟩ = some (.string (str tag)) from seven_at (hkept hA h))
  have HB := Kept.mk (fun w' (h : Below W1.heap.size W1 w') => bnext hB h)
  have HK := Kept.mk (fun w' (h : Below W1.heap.size W1 w') => hk.below (bnext hB h))
  clear hA hB hW hk
  by_cases hl : salt.length ≤ 1000 ∧ root.length ≤ 1000 ∧ tag.length ≤ 1000
  · have HL := Kept.mk (fun w' => light_yes id salt n b raw root tag w' hl)
    obtain ⟨y1, y2, y3⟩ := hl
    by_cases hkl : key.length ≤ 1000
    · by_cases hc : (c.toNat : Int) = 0
      · clear y1 y2 y3 r1 r2 r3 r4 z1 z2 z3 hm
        rw [hc]
        clear hc
        go_enter Tryd.func4, Tryd.ntmps4
        go_upto_region 1 with fail
        rw [HW.out]
        obtain ⟨c0, c1, c2, c3, c4, c5, c6⟩ := HS.out _ (Below.refl _ _)
        have b0 := Below.refl W1.heap.size W1
        go_wp2_with fail
        with_reducible refine (HL.out _).mono ?_
        rintro e w1 ⟨rfl, b⟩
        clear c0 c1 c2 c3 c4 c5 c6
        have b1 := bnext b0 b
        clear b b0
        obtain ⟨c0, c1, c2, c3, c4, c5, c6⟩ := HS.out _ b1
        go_wp2_with fail
        with_reducible refine (hdAwake_any _).mono ?_
        rintro e w2 ⟨rfl, b⟩
        clear c0 c1 c2 c3 c4 c5 c6
        have b2 := bnext b1 b
        clear b b1
        obtain ⟨c0, c1, c2, c3, c4, c5, c6⟩ := HS.out _ b2
        clear c0 c1 c2 c3 c4 c5 c6
        go_wp2_with fail
        go_ret
        exact ⟨rfl, HB.out _ b2⟩
      · have hc0 : c ≠ 0 := fun h => hc (by rw [h]; rfl)
        have hcb : ((c.toNat : Int) == 0) = false := by simp only [beq_eq_false_iff_ne, ne_eq]; exact hc
        have hTl := hT_length key id salt n b raw root
        have HG := Kept.mk (fun w' (hk : KAt w') => Sign_any key id salt n b raw root tag w' hk r1 r2 r3 r4 y1 y2 hkl)
        have HNE := Kept.mk (fun h => set_ne (hT key id salt n b raw root) i c h hc0)
        have HVN := Kept.mk (fun (t : List UInt8) (h : ¬ hMay id salt n b raw root t) => vE_no key id salt n b raw root t h)
        have HVT := Kept.mk (fun (t : List UInt8) (h : hMay id salt n b raw root t) (h2 : t ≠ hT key id salt n b raw root) => vE_tag key id salt n b raw root t h h2)
        have HV3 := Kept.mk (fun (t : List UInt8) (ht : t.length ≤ 1000) w' (hk : KAt w') => Verify_all key id salt n b raw root t w' hk hkl y1 y2 ht)
        have HM := Kept.mk (fun (t : List UInt8) (ht : t.length ≤ 1000) w' => May_all id salt n b raw root t w' y1 y2 ht)
        clear r1 r2 r3 r4 z1 z2 z3 y1 y2 y3 zk hc hc0
        generalize hT key id salt n b raw root = TT at *
        have sT := str_size TT
        rw [hTl] at sT
        go_enter Tryd.func4, Tryd.ntmps4
        go_upto_region 1 with fail
        rw [HW.out]
        obtain ⟨c0, c1, c2, c3, c4, c5, c6⟩ := HS.out _ (Below.refl _ _)
        have b0 := Below.refl W1.heap.size W1
        go_wp2_with fail
        with_reducible refine (HL.out _).mono ?_
        rintro e w1 ⟨rfl, b⟩
        clear c0 c1 c2 c3 c4 c5 c6
        have b1 := bnext b0 b
        clear b b0
        obtain ⟨c0, c1, c2, c3, c4, c5, c6⟩ := HS.out _ b1
        go_wp2_with fail
        with_reducible refine (HG.out _ (HK.out _ b1)).mono ?_
        rintro e w2 ⟨rfl, b⟩
        clear c0 c1 c2 c3 c4 c5 c6
        have b2 := bnext b1 b
        clear b b1
        obtain ⟨c0, c1, c2, c3, c4, c5, c6⟩ := HS.out _ b2
        go_upto_region 4 with fail
        have hA5 := hnew w2 (.cells #[.int .i64 id, .string (str salt), .int .i64 n, .int .i64 b, .int .i64 raw, .string (str root), .string (str TT)] 23)
        have b5 := bnext b2 (bnew w2 (.cells #[.int .i64 id, .string (str salt), .int .i64 n, .int .i64 b, .int .i64 raw, .string (str root), .string (str TT)] 23))
        have hz5 : (w2.alloc (.cells #[.int .i64 id, .string (str salt), .int .i64 n, .int .i64 b, .int .i64 raw, .string (str root), .string (str TT)] 23)).heap.size = w2.heap.size + 1 := by simp
        generalize w2.alloc (.cells #[.int .i64 id, .string (str salt), .int .i64 n, .int .i64 b, .int .i64 raw, .string (str root), .string (str TT)] 23) = W5 at *
        clear c0 c1 c2 c3 c4 c5 c6
        have HCV := Kept.mk (conv_bytes W5 TT)
        have hbg := bg_start W5 TT
        rw [hz5] at HCV hbg
        generalize bytesWorld W5 5 (str TT) = W6 at *
        generalize grownCap W5 TT.length 0 5 = cap at *
        obtain ⟨g, cap', e, hc6, hf6, hst⟩ := hbg.place (i := i) (by omega)
        cases e
        have hx6 := xor_u8M (TT[i]'(by omega)) c
        have hne := HNE.out (by omega)
        have HQ := Kept.mk (hst (TT[i]'(by omega) ^^^ c))
        have hlen : (TT.set i (TT[i]'(by omega) ^^^ c)).length = 32 := by rw [List.length_set]; exact hTl
        clear hst
        generalize TT[i]'(by omega) ^^^ c = d at *
        generalize TT.set i d = T2 at *
        have hA6 := hkept hA5 hbg.1
        have b6 := bnext b5 hbg.1
        have h29 := b2.size
        obtain ⟨c0, c1, c2, c3, c4, c5, c6⟩ := seven_at hA5
        have HA6 := Kept.mk hA6
        have HB6 := Kept.mk b6
        clear hA5 hbg b5 hA6 b6 HL HG HS
        rw [hTl] at HCV HQ
        have hi0 : (0 : Int) ≤ (i : Int) := by omega
        have hi9 : (i : Int) < 32 := by omega
        have hE : (decide (hMay id salt n b raw root T2) = true ∧ vE key id salt n b raw root T2 = 4) ∨ (decide (hMay id salt n b raw root T2) = false ∧ vE key id salt n b raw root T2 = 1) := by
          by_cases h : hMay id salt n b raw root T2
          · exact .inl ⟨decide_eq_true h, HVT.out T2 h hne⟩
          · exact .inr ⟨decide_eq_false h, HVN.out T2 h⟩
        have HV4 := Kept.mk (HV3.out T2 (by omega))
        have HM4 := Kept.mk (HM.out T2 (by omega))
        generalize vE key id salt n b raw root T2 = E2 at *
        generalize decide (hMay id salt n b raw root T2) = D at *
        clear HVN HV3 HM HVT HNE hne hlen
        go_upto_region 7 with (rw [HCV.out])
        clear c0 c1 c2 c3 c4 c5 c6
        go_upto_region 8 with fail
        clear hc6 hf6
        have hcv := HQ.out.string
        have hA7 := (set_otherS W6 (w2.heap.size + 1) w2.heap.size i (.int .u8 (d.toNat : Int)) (by omega)).trans HA6.out
        have b7 := HB6.out.setCell (p := ⟨w2.heap.size + 1, i, none⟩) (by show _ ≤ w2.heap.size + 1; omega) (.int .u8 (d.toNat : Int))
        clear HQ HA6 HB6 HCV
        generalize W6.setCell ⟨w2.heap.size + 1, i, none⟩ (.int .u8 (d.toNat : Int)) = W7 at *
        obtain ⟨c0, c1, c2, c3, c4, c5, c6⟩ := seven_at hA7
        have fx := (seven_free hA7).2.2.2.2.2.2
        have hA8 : (W7.setCell ⟨w2.heap.size, 6, none⟩ (.string (str T2))).heap[w2.heap.size]? = some (.cells #[.int .i64 id, .string (str salt), .int .i64 n, .int .i64 b, .int .i64 raw, .string (str root), .string (str T2)] 23 (0, 0)) := Joins.block_setCell (i := 6) hA7 _
        have b8 := b7.setCell (p := ⟨w2.heap.size, 6, none⟩) h29 (.string (str T2))
        have HA8 := Kept.mk hA8
        have HB8 := Kept.mk b8
        clear hA7 b7 hA8 b8
        go_upto_region 9 with fail
        clear c0 c1 c2 c3 c4 c5 c6 fx hcv
        have hA8 := HA8.out
        have b8 := HB8.out
        clear HA8 HB8
        generalize W7.setCell ⟨w2.heap.size, 6, none⟩ (.string (str T2)) = W8 at *
        obtain ⟨c0, c1, c2, c3, c4, c5, c6⟩ := seven_at hA8
        have HA8 := Kept.mk hA8
        clear hA8
        go_wp2_with fail
        with_reducible refine (HV4.out _ (HK.out _ b8)).mono ?_
        rintro e w9 ⟨rfl, b⟩
        have b9 := bnext b8 b
        have hA9 := hkept HA8.out b
        clear b b8 c0 c1 c2 c3 c4 c5 c6
        obtain ⟨c0, c1, c2, c3, c4, c5, c6⟩ := seven_at hA9
        clear hA9
        go_wp2_with fail
        with_reducible refine (HM4.out _).mono ?_
        rintro e w10 ⟨rfl, b⟩
        have b10 := bnext b9 b
        clear b b9 c0 c1 c2 c3 c4 c5 c6
        rcases hE with ⟨rfl, rfl⟩ | ⟨rfl, rfl⟩
        all_goals
          go_wp2_with fail
          with_reducible refine (hdAwake_any _).mono ?_
          rintro e w12 ⟨rfl, b⟩
          have b12 := bnext b10 b
          go_wp2_with fail
          go_ret
          exact ⟨rfl, HB.out _ b12⟩
    · clear y1 y2 y3 r1 r2 r3 r4 z1 z2 z3
      go_enter Tryd.func4, Tryd.ntmps4
      go_upto_region 1 with fail
      rw [HW.out]
      obtain ⟨c0, c1, c2, c3, c4, c5, c6⟩ := HS.out _ (Below.refl _ _)
      have b0 := Below.refl W1.heap.size W1
      go_wp2_with fail
      with_reducible refine (HL.out _).mono ?_
      rintro e w1 ⟨rfl, b⟩
      clear c0 c1 c2 c3 c4 c5 c6
      have b1 := bnext b0 b
      clear b b0
      obtain ⟨c0, c1, c2, c3, c4, c5, c6⟩ := HS.out _ b1
      go_wp2_with fail
      with_reducible refine (hdAwake_any _).mono ?_
      rintro e w2 ⟨rfl, b⟩
      clear c0 c1 c2 c3 c4 c5 c6
      have b2 := bnext b1 b
      clear b b1
      obtain ⟨c0, c1, c2, c3, c4, c5, c6⟩ := HS.out _ b2
      clear c0 c1 c2 c3 c4 c5 c6
      go_wp2_with fail
      go_ret
      exact ⟨rfl, HB.out _ b2⟩
  · have HL := Kept.mk (fun w' => light_no id salt n b raw root tag w' hl z1 z2 z3)
    clear hl r1 r2 r3 r4 z1 z2 z3
    go_enter Tryd.func4, Tryd.ntmps4
    go_upto_region 1 with fail
    rw [HW.out]
    obtain ⟨c0, c1, c2, c3, c4, c5, c6⟩ := HS.out _ (Below.refl _ _)
    have b0 := Below.refl W1.heap.size W1
    go_wp2_with fail
    with_reducible refine (HL.out _).mono ?_
    rintro e w1 ⟨rfl, b⟩
    clear c0 c1 c2 c3 c4 c5 c6
    have b1 := bnext b0 b
    clear b b0
    obtain ⟨c0, c1, c2, c3, c4, c5, c6⟩ := HS.out _ b1
    go_wp2_with fail
    with_reducible refine (hdAwake_any _).mono ?_
    rintro e w2 ⟨rfl, b⟩
    clear c0 c1 c2 c3 c4 c5 c6
    have b2 := bnext b1 b
    clear b b1
    obtain ⟨c0, c1, c2, c3, c4, c5, c6⟩ := HS.out _ b2
    clear c0 c1 c2 c3 c4 c5 c6
    go_wp2_with fail
    go_ret
    exact ⟨rfl, HB.out _ b2⟩
end Go.Proofs.YtabeehljpdehcaaDoor
