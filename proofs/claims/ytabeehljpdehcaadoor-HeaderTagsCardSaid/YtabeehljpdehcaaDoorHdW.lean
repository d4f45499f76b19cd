/- header: any header is signed and verified as the document says: walked by the contracts. -/
import Derived.Test.YtabeehljpdehcaaDoorHdV
import Derived.Test.YtabeehljpdehcaaDoorHdE
import Derived.Test.YtabeehljpdehcaaDoorHdO
import Derived.Laws.StructEq
namespace Go.Proofs.YtabeehljpdehcaaDoor
set_option linter.unusedVariables false
set_option linter.unusedSimpArgs false
open Go.RowKit Go.Lib
attribute [local irreducible] str zs hP hF beL mTag hT sSum mXor mPad mKey vE
set_option maxRecDepth 100000 in
theorem hdr_neq (id : Int) (salt : List UInt8) (n b raw : Int) (root tag : List UInt8) (w : World) :
    (binOp .neq 23 (.agg #[.int .i64 id, .string (str salt), .int .i64 n, .int .i64 b, .int .i64 raw, .string (str root), .string (str tag)]) (.agg #[.int .i64 id, .string (str salt), .int .i64 n, .int .i64 b, .int .i64 raw, .string (str root), .string (str tag)])).run Tryd.prog w = .ok (.bool false) w := by
  have ht : Tryd.prog.underlying 23 = some (.struct (Tryd.prog.fieldsOf 23)) := by kernel_rfl
  have hp : Tryd.prog.stoodInHeld 23 = false := by kernel_rfl
  rw [run_neq_struct, run_equalIn_agg w 9999 _ _ _ ht hp]
  simp only [Program.fieldsOf, Tryd.underlying23]
  simp [Op.eqFields, go_sem, Tryd.underlying3, Tryd.underlying9]

set_option maxRecDepth 100000 in
set_option maxHeartbeats 8000000 in
theorem headerSigns_w {W : World} (key : List UInt8) (zk : key.length ≤ 140737488351232) (id : Int) (salt : List UInt8) (n b raw : Int) (root tag : List UInt8) (hP : (I64 id ∧ I64 n ∧ I64 b ∧ I64 raw) ∧ salt.length ≤ 9223372036854775807 ∧ root.length ≤ 9223372036854775807 ∧ tag.length ≤ 9223372036854775807) (hk : KAt W) :
    Calls Tryd.prog 3 #[.string (str key), .agg #[.int .i64 id, .string (str salt), .int .i64 n, .int .i64 b, .int .i64 raw, .string (str root), .string (str tag)]] W fun e w' => e = .returned (.bool true) ∧ Below W.heap.size W w' := by
  obtain ⟨⟨r1, r2, r3, r4⟩, z1, z2, z3⟩ := hP
  have sk := str_size key
  have hA := hnew W (.cells #[.int .i64 id, .string (str salt), .int .i64 n, .int .i64 b, .int .i64 raw, .string (str root), .string (str tag)] 23)
  have hB := bnew W (.cells #[.int .i64 id, .string (str salt), .int .i64 n, .int .i64 b, .int .i64 raw, .string (str root), .string (str tag)] 23)
  generalize hW : W.alloc (.cells #[.int .i64 id, .string (str salt), .int .i64 n, .int .i64 b, .int .i64 raw, .string (str root), .string (str tag)] 23) = W1 at *
  have HW := Kept.mk hW
  have HS := Kept.mk (fun w' (h : Below W1.heap.size W1 w') => show w'.cell? ⟨W.heap.size, 0, none⟩ = some (.int .i64 id) ∧ w'.cell? ⟨W.heap.size, 1, none⟩ = some (.string (str salt)) ∧ w'.cell? ⟨W.heap.size, 2, none⟩ = some (.int .i64 n) ∧ w'.cell? ⟨W.heap.size, 3, none⟩ = some (.int .i64 b) ∧ w'.cell? ⟨W.heap.size, 4, none⟩ = some (.int .i64 raw) ∧ w'.cell? ⟨W.heap.size, 5, none⟩ = some (.string (str root)) ∧ w'.cell? ⟨W.heap.size, 6, none⟩ = some (.string (str tag)) from seven_at (hkept hA h))
  have HA := Kept.mk hA
  have HB := Kept.mk (fun w' (h : Below W1.heap.size W1 w') => bnext hB h)
  have HK := Kept.mk (fun w' (h : Below W1.heap.size W1 w') => hk.below (bnext hB h))
  clear hA hB hW hk
  by_cases hl : salt.length ≤ 1000 ∧ root.length ≤ 1000 ∧ tag.length ≤ 1000
  · have HL := Kept.mk (fun w' => light_yes id salt n b raw root tag w' hl)
    obtain ⟨y1, y2, y3⟩ := hl
    by_cases hkl : key.length ≤ 1000
    · have hl9 := hT_length key id salt n b raw root
      have HG := Kept.mk (fun w' (hk : KAt w') => Sign_any key id salt n b raw root tag w' hk r1 r2 r3 r4 y1 y2 hkl)
      have HF := Kept.mk (fun w' => refFields_any id salt n b raw root tag w' r1 r2 r3 r4 y1 y2)
      have hfl := hF_length id salt n b raw root
      have HT := Kept.mk (fun w' => refTag_any key (hF id salt n b raw root) w' (by omega) (by omega))
      rw [hT_of] at HT
      have HV1 := Kept.mk (fun w' (hk : KAt w') => Verify_all key id salt n b raw root tag w' hk hkl y1 y2 y3)
      have HV2 := Kept.mk (fun w' => refVerify_all key id salt n b raw root tag w' hkl y1 y2 y3)
      have HV3 := Kept.mk (fun w' (hk : KAt w') => Verify_all key id salt n b raw root (hT key id salt n b raw root) w' hk hkl y1 y2 (by omega))
      have HM := Kept.mk (fun w' => May_all id salt n b raw root (hT key id salt n b raw root) w' y1 y2 (by omega))
      have hE : (decide (hMay id salt n b raw root (hT key id salt n b raw root)) = true ∧ vE key id salt n b raw root (hT key id salt n b raw root) = 0) ∨ (decide (hMay id salt n b raw root (hT key id salt n b raw root)) = false ∧ vE key id salt n b raw root (hT key id salt n b raw root) = 1) := by
        by_cases h : hMay id salt n b raw root (hT key id salt n b raw root)
        · exact .inl ⟨decide_eq_true h, vE_yes _ _ _ _ _ _ _ _ h rfl⟩
        · exact .inr ⟨decide_eq_false h, vE_no _ _ _ _ _ _ _ _ h⟩
      have HNE := hdr_neq id salt n b raw root (hT key id salt n b raw root)
      have hgd : Tryd.prog.eqGuardType Tryd.prog.depth 23 = false := by kernel_rfl
      generalize vE key id salt n b raw root tag = E1 at *
      generalize vE key id salt n b raw root (hT key id salt n b raw root) = E2 at *
      generalize decide (hMay id salt n b raw root (hT key id salt n b raw root)) = D at *
      generalize hT key id salt n b raw root = TT at *
      generalize hF id salt n b raw root = F at *
      clear hfl hl9 r1 r2 r3 r4 z1 z2 z3 y1 y2 y3 zk
      go_enter Tryd.func3, Tryd.ntmps3
      go_upto_region 1 with fail
      rw [HW.out]
      obtain ⟨c0, c1, c2, c3, c4, c5, c6⟩ := HS.out _ (Below.refl _ _)
      have b0 := Below.refl W1.heap.size W1
      go_wp2_with fail
      with_reducible refine (HL.out _).mono ?_
      rintro e w1 ⟨rfl, b⟩
      clear c0 c1 c2 c3 c4 c5 c6
      have b1 := bnext b0 b
      clear b b0
      obtain ⟨c0, c1, c2, c3, c4, c5, c6⟩ := HS.out _ b1
      go_wp2_with fail
      with_reducible refine (HG.out _ (HK.out _ b1)).mono ?_
      rintro e w2 ⟨rfl, b⟩
      clear c0 c1 c2 c3 c4 c5 c6
      have b2 := bnext b1 b
      clear b b1
      obtain ⟨c0, c1, c2, c3, c4, c5, c6⟩ := HS.out _ b2
      go_upto_region 4 with fail
      have hA5 := hnew w2 (.cells #[.int .i64 id, .string (str salt), .int .i64 n, .int .i64 b, .int .i64 raw, .string (str root), .string (str TT)] 23)
      have b5 := bnext b2 (bnew w2 (.cells #[.int .i64 id, .string (str salt), .int .i64 n, .int .i64 b, .int .i64 raw, .string (str root), .string (str TT)] 23))
      have hz5 : (w2.alloc (.cells #[.int .i64 id, .string (str salt), .int .i64 n, .int .i64 b, .int .i64 raw, .string (str root), .string (str TT)] 23)).heap.size = w2.heap.size + 1 := by simp
      generalize w2.alloc (.cells #[.int .i64 id, .string (str salt), .int .i64 n, .int .i64 b, .int .i64 raw, .string (str root), .string (str TT)] 23) = W5 at *
      clear c0 c1 c2 c3 c4 c5 c6
      obtain ⟨c0, c1, c2, c3, c4, c5, c6⟩ := HS.out _ b5
      go_upto_region 5 with fail
      have hA6 := hnew W5 (.cells #[.int .i64 id, .string (str salt), .int .i64 n, .int .i64 b, .int .i64 raw, .string (str root), .string (str tag)] 23)
      have k6 := bnew W5 (.cells #[.int .i64 id, .string (str salt), .int .i64 n, .int .i64 b, .int .i64 raw, .string (str root), .string (str tag)] 23)
      have b6 := bnext b5 k6
      generalize W5.alloc (.cells #[.int .i64 id, .string (str salt), .int .i64 n, .int .i64 b, .int .i64 raw, .string (str root), .string (str tag)] 23) = W6 at *
      have hA5 := hkept hA5 k6
      rw [hz5] at hA6
      have hg3 := (HA.out : W1.heap[W.heap.size]? = _)
      have hlt3 := (Array.getElem?_eq_some_iff.1 hg3).1
      have hs2 := b2.size
      clear c0 c1 c2 c3 c4 c5 c6 hg3 k6 b5
      have HA5 := Kept.mk hA5
      have HA6 := Kept.mk hA6
      obtain ⟨c0, c1, c2, c3, c4, c5, c6⟩ := HS.out _ b6
      clear hA5 hA6 hz5
      go_wp2_with fail
      with_reducible refine (HF.out _).mono ?_
      rintro e w7 ⟨rfl, b7⟩
      clear c0 c1 c2 c3 c4 c5 c6
      go_wp2_with fail
      with_reducible refine (HT.out _).mono ?_
      rintro e w8 ⟨rfl, b8⟩
      have b8 := bnext b7 b8
      have hA5 := hkept HA5.out b8
      have hA6 := hkept HA6.out b8
      have hA3 := hkept HA.out (bnext b6 b8)
      have B8 := bnext b6 b8
      clear b6 b7 b8 HA5 HA6
      obtain ⟨x0, x1, x2, x3, x4, x5, x6⟩ := seven_at hA6
      have fx := (seven_free hA6).2.2.2.2.2.2
      go_upto_region 6 with fail
      clear x0 x1 x2 x3 x4 x5 x6 fx
      have hA3 := (set_otherS w8 (w2.heap.size + 1) W.heap.size 6 (.string (str TT)) (by omega)).trans hA3
      have hA5 := (set_otherS w8 (w2.heap.size + 1) w2.heap.size 6 (.string (str TT)) (by omega)).trans hA5
      have hA6 : (w8.setCell ⟨w2.heap.size + 1, 6, none⟩ (.string (str TT))).heap[w2.heap.size + 1]? = some (.cells #[.int .i64 id, .string (str salt), .int .i64 n, .int .i64 b, .int .i64 raw, .string (str root), .string (str TT)] 23 (0, 0)) := Joins.block_setCell (i := 6) hA6 _
      have B9 : Below W1.heap.size W1 (w8.setCell ⟨w2.heap.size + 1, 6, none⟩ (.string (str TT))) := B8.setCell (by show _ ≤ w2.heap.size + 1; omega) _
      generalize w8.setCell ⟨w2.heap.size + 1, 6, none⟩ (.string (str TT)) = W9 at *
      have KS := Kept.mk (fun w' (h : Below W9.heap.size W9 w') => show (w'.cell? ⟨W.heap.size, 0, none⟩ = some (.int .i64 id) ∧ w'.cell? ⟨W.heap.size, 1, none⟩ = some (.string (str salt)) ∧ w'.cell? ⟨W.heap.size, 2, none⟩ = some (.int .i64 n) ∧ w'.cell? ⟨W.heap.size, 3, none⟩ = some (.int .i64 b) ∧ w'.cell? ⟨W.heap.size, 4, none⟩ = some (.int .i64 raw) ∧ w'.cell? ⟨W.heap.size, 5, none⟩ = some (.string (str root)) ∧ w'.cell? ⟨W.heap.size, 6, none⟩ = some (.string (str tag))) ∧ (w'.cell? ⟨w2.heap.size, 0, none⟩ = some (.int .i64 id) ∧ w'.cell? ⟨w2.heap.size, 1, none⟩ = some (.string (str salt)) ∧ w'.cell? ⟨w2.heap.size, 2, none⟩ = some (.int .i64 n) ∧ w'.cell? ⟨w2.heap.size, 3, none⟩ = some (.int .i64 b) ∧ w'.cell? ⟨w2.heap.size, 4, none⟩ = some (.int .i64 raw) ∧ w'.cell? ⟨w2.heap.size, 5, none⟩ = some (.string (str root)) ∧ w'.cell? ⟨w2.heap.size, 6, none⟩ = some (.string (str TT))) ∧ (w'.cell? ⟨w2.heap.size + 1, 0, none⟩ = some (.int .i64 id) ∧ w'.cell? ⟨w2.heap.size + 1, 1, none⟩ = some (.string (str salt)) ∧ w'.cell? ⟨w2.heap.size + 1, 2, none⟩ = some (.int .i64 n) ∧ w'.cell? ⟨w2.heap.size + 1, 3, none⟩ = some (.int .i64 b) ∧ w'.cell? ⟨w2.heap.size + 1, 4, none⟩ = some (.int .i64 raw) ∧ w'.cell? ⟨w2.heap.size + 1, 5, none⟩ = some (.string (str root)) ∧ w'.cell? ⟨w2.heap.size + 1, 6, none⟩ = some (.string (str TT))) ∧ Below W9.heap.size W9 w' from ⟨seven_at (hkept hA3 h), seven_at (hkept hA5 h), seven_at (hkept hA6 h), h⟩)
      have KG := Kept.mk (fun w' (h : Below W9.heap.size W9 w') => show w'.cell? ⟨w2.heap.size, 0, none⟩ = some (.int .i64 id) ∧ w'.cell? ⟨w2.heap.size, 1, none⟩ = some (.string (str salt)) ∧ w'.cell? ⟨w2.heap.size, 2, none⟩ = some (.int .i64 n) ∧ w'.cell? ⟨w2.heap.size, 3, none⟩ = some (.int .i64 b) ∧ w'.cell? ⟨w2.heap.size, 4, none⟩ = some (.int .i64 raw) ∧ w'.cell? ⟨w2.heap.size, 5, none⟩ = some (.string (str root)) ∧ w'.cell? ⟨w2.heap.size, 6, none⟩ = some (.string (str TT)) from seven_at (hkept hA5 h))
      have K9 := Kept.mk (fun w' (h : Below W9.heap.size W9 w') => HK.out w' (bnext B9 h))
      have HB9 := Kept.mk (fun w' (h : Below W9.heap.size W9 w') => HB.out w' (bnext B9 h))
      clear hA3 hA5 hA6 B9 B8 HB HK HS HA hs2 hlt3 HL HG HF HT
      go_region_held3 (fun w' => (w'.cell? ⟨W.heap.size, 0, none⟩ = some (.int .i64 id) ∧ w'.cell? ⟨W.heap.size, 1, none⟩ = some (.string (str salt)) ∧ w'.cell? ⟨W.heap.size, 2, none⟩ = some (.int .i64 n) ∧ w'.cell? ⟨W.heap.size, 3, none⟩ = some (.int .i64 b) ∧ w'.cell? ⟨W.heap.size, 4, none⟩ = some (.int .i64 raw) ∧ w'.cell? ⟨W.heap.size, 5, none⟩ = some (.string (str root)) ∧ w'.cell? ⟨W.heap.size, 6, none⟩ = some (.string (str tag))) ∧ (w'.cell? ⟨w2.heap.size, 0, none⟩ = some (.int .i64 id) ∧ w'.cell? ⟨w2.heap.size, 1, none⟩ = some (.string (str salt)) ∧ w'.cell? ⟨w2.heap.size, 2, none⟩ = some (.int .i64 n) ∧ w'.cell? ⟨w2.heap.size, 3, none⟩ = some (.int .i64 b) ∧ w'.cell? ⟨w2.heap.size, 4, none⟩ = some (.int .i64 raw) ∧ w'.cell? ⟨w2.heap.size, 5, none⟩ = some (.string (str root)) ∧ w'.cell? ⟨w2.heap.size, 6, none⟩ = some (.string (str TT))) ∧ (w'.cell? ⟨w2.heap.size + 1, 0, none⟩ = some (.int .i64 id) ∧ w'.cell? ⟨w2.heap.size + 1, 1, none⟩ = some (.string (str salt)) ∧ w'.cell? ⟨w2.heap.size + 1, 2, none⟩ = some (.int .i64 n) ∧ w'.cell? ⟨w2.heap.size + 1, 3, none⟩ = some (.int .i64 b) ∧ w'.cell? ⟨w2.heap.size + 1, 4, none⟩ = some (.int .i64 raw) ∧ w'.cell? ⟨w2.heap.size + 1, 5, none⟩ = some (.string (str root)) ∧ w'.cell? ⟨w2.heap.size + 1, 6, none⟩ = some (.string (str TT))) ∧ Below W9.heap.size W9 w')
        (first
          | exact KS.out _ (Below.refl _ _).drew
          | (go_split_ands; exact KS.out _ (bnext (by assumption) hbA))
          | (go_split_ands; exact KS.out _ (by assumption)))
        (first
          | (go_at_call 16; go_split_ands; with_reducible refine (HV1.out _ (K9.out _ (by assumption))).mono ?_; rintro e wA ⟨rfl, hbA⟩)
          | (go_at_call 17; with_reducible refine (HV2.out _).mono ?_; rintro e wA ⟨rfl, hbA⟩))
      all_goals
        go_split_ands
        have b9 : Below W9.heap.size W9 wA := by assumption
        clear KS HNE
        go_wp2_with fail
        with_reducible refine (HV3.out _ (K9.out _ b9)).mono ?_
        rintro e w10 ⟨rfl, b⟩
        have b10 := bnext b9 b
        obtain ⟨y0, y1, y2, y3, y4, y5, y6⟩ := KG.out _ b10
        go_wp2_with fail
        with_reducible refine (HM.out _).mono ?_
        rintro e w11 ⟨rfl, b⟩
        have b11 := bnext b10 b
        rcases hE with ⟨rfl, rfl⟩ | ⟨rfl, rfl⟩
        all_goals
          go_wp2_with fail
          with_reducible refine (hdAwake_any _).mono ?_
          rintro e w12 ⟨rfl, b⟩
          have b12 := bnext b11 b
          go_wp2_with fail
          go_ret
          exact ⟨rfl, HB9.out _ b12⟩
    · clear y1 y2 y3 r1 r2 r3 r4 z1 z2 z3
      go_enter Tryd.func3, Tryd.ntmps3
      go_upto_region 1 with fail
      rw [HW.out]
      obtain ⟨c0, c1, c2, c3, c4, c5, c6⟩ := HS.out _ (Below.refl _ _)
      have b0 := Below.refl W1.heap.size W1
      go_wp2_with fail
      with_reducible refine (HL.out _).mono ?_
      rintro e w1 ⟨rfl, b⟩
      clear c0 c1 c2 c3 c4 c5 c6
      have b1 := bnext b0 b
      clear b b0
      obtain ⟨c0, c1, c2, c3, c4, c5, c6⟩ := HS.out _ b1
      go_wp2_with fail
      with_reducible refine (hdAwake_any _).mono ?_
      rintro e w2 ⟨rfl, b⟩
      clear c0 c1 c2 c3 c4 c5 c6
      have b2 := bnext b1 b
      clear b b1
      obtain ⟨c0, c1, c2, c3, c4, c5, c6⟩ := HS.out _ b2
      clear c0 c1 c2 c3 c4 c5 c6
      go_wp2_with fail
      go_ret
      exact ⟨rfl, HB.out _ b2⟩
  · have HL := Kept.mk (fun w' => light_no id salt n b raw root tag w' hl z1 z2 z3)
    clear hl r1 r2 r3 r4 z1 z2 z3
    go_enter Tryd.func3, Tryd.ntmps3
    go_upto_region 1 with fail
    rw [HW.out]
    obtain ⟨c0, c1, c2, c3, c4, c5, c6⟩ := HS.out _ (Below.refl _ _)
    have b0 := Below.refl W1.heap.size W1
    go_wp2_with fail
    with_reducible refine (HL.out _).mono ?_
    rintro e w1 ⟨rfl, b⟩
    clear c0 c1 c2 c3 c4 c5 c6
    have b1 := bnext b0 b
    clear b b0
    obtain ⟨c0, c1, c2, c3, c4, c5, c6⟩ := HS.out _ b1
    go_wp2_with fail
    with_reducible refine (hdAwake_any _).mono ?_
    rintro e w2 ⟨rfl, b⟩
    clear c0 c1 c2 c3 c4 c5 c6
    have b2 := bnext b1 b
    clear b b1
    obtain ⟨c0, c1, c2, c3, c4, c5, c6⟩ := HS.out _ b2
    clear c0 c1 c2 c3 c4 c5 c6
    go_wp2_with fail
    go_ret
    exact ⟨rfl, HB.out _ b2⟩
end Go.Proofs.YtabeehljpdehcaaDoor
