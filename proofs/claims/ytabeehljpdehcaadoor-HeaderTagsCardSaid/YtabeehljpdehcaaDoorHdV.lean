/- header.Verify, of the program and by definition, each by a contract. -/
import Derived.Test.YtabeehljpdehcaaDoorHdS
import Derived.Test.YtabeehljpdehcaaDoorMacT
namespace Go.Proofs.YtabeehljpdehcaaDoor
set_option linter.unusedVariables false
set_option linter.unusedSimpArgs false
open Go.RowKit Go.Lib
/-- what Verify tells -/
def vE (key : List UInt8) (id : Int) (salt : List UInt8) (n b raw : Int) (root tag : List UInt8) : Int :=
  if hMay id salt n b raw root tag then (if tag = hT key id salt n b raw root then 0 else 4) else 1
theorem vE_no (key : List UInt8) (id : Int) (salt : List UInt8) (n b raw : Int) (root tag : List UInt8) (h : ¬ hMay id salt n b raw root tag) : vE key id salt n b raw root tag = 1 := if_neg h
theorem vE_yes (key : List UInt8) (id : Int) (salt : List UInt8) (n b raw : Int) (root tag : List UInt8) (h : hMay id salt n b raw root tag) (ht : tag = hT key id salt n b raw root) : vE key id salt n b raw root tag = 0 := by rw [vE, if_pos h, if_pos ht]
theorem vE_tag (key : List UInt8) (id : Int) (salt : List UInt8) (n b raw : Int) (root tag : List UInt8) (h : hMay id salt n b raw root tag) (ht : tag ≠ hT key id salt n b raw root) : vE key id salt n b raw root tag = 4 := by rw [vE, if_pos h, if_neg ht]
attribute [local irreducible] str beL hF hP hMark mTag hT sSum mXor mPad mKey vE

set_option maxRecDepth 100000 in
set_option maxHeartbeats 1000000 in
theorem Verify_no (key : List UInt8) (id : Int) (salt : List UInt8) (n b raw : Int) (root tag : List UInt8) (w : World) (h : ¬ hMay id salt n b raw root tag) (z1 : salt.length ≤ 140737488355328) (z2 : root.length ≤ 140737488355328) (z3 : tag.length ≤ 140737488355328) :
    Calls Tryd.prog 16 #[.string (str key), .agg #[.int .i64 id, .string (str salt), .int .i64 n, .int .i64 b, .int .i64 raw, .string (str root), .string (str tag)]] w fun e w' => e = .returned (.int .i64 1) ∧ Below w.heap.size w w' := by
  have HC := Kept.mk (fun w' => Check_no id salt n b raw root tag w' h z1 z2 z3)
  clear h z1 z2 z3
  go_enter Tryd.func16, Tryd.ntmps16
  go_wp2_with fail
  with_reducible refine (HC.out _).mono ?_
  rintro e w1 ⟨rfl, b1⟩
  have HB := Kept.mk (bfrom b1)
  clear b1
  go_wp2_with fail
  go_ret
  exact ⟨rfl, HB.out⟩
set_option maxRecDepth 100000 in
set_option maxHeartbeats 1000000 in
theorem refVerify_no (key : List UInt8) (id : Int) (salt : List UInt8) (n b raw : Int) (root tag : List UInt8) (w : World) (h : ¬ hMay id salt n b raw root tag) (z1 : salt.length ≤ 140737488355328) (z2 : root.length ≤ 140737488355328) (z3 : tag.length ≤ 140737488355328) :
    Calls Tryd.prog 17 #[.string (str key), .agg #[.int .i64 id, .string (str salt), .int .i64 n, .int .i64 b, .int .i64 raw, .string (str root), .string (str tag)]] w fun e w' => e = .returned (.int .i64 1) ∧ Below w.heap.size w w' := by
  have HC := Kept.mk (fun w' => May_no id salt n b raw root tag w' h z1 z2 z3)
  clear h z1 z2 z3
  go_enter Tryd.func17, Tryd.ntmps17
  go_wp2_with fail
  with_reducible refine (HC.out _).mono ?_
  rintro e w1 ⟨rfl, b1⟩
  have HB := Kept.mk (bfrom b1)
  clear b1
  go_wp2_with fail
  go_ret
  exact ⟨rfl, HB.out⟩
set_option maxRecDepth 100000 in
set_option maxHeartbeats 4000000 in
theorem Verify_may (key : List UInt8) (id : Int) (salt : List UInt8) (n b raw : Int) (root tag : List UInt8) (w : World) (hk : KAt w) (h : hMay id salt n b raw root tag) (z3 : key.length ≤ 1000) :
    Calls Tryd.prog 16 #[.string (str key), .agg #[.int .i64 id, .string (str salt), .int .i64 n, .int .i64 b, .int .i64 raw, .string (str root), .string (str tag)]] w fun e w' => e = .returned (.int .i64 (vE key id salt n b raw root tag)) ∧ Below w.heap.size w w' := by
  obtain ⟨r1, r2, r3, r4⟩ := hMay_I64 _ _ _ _ _ _ _ h
  obtain ⟨y1, y2, y3⟩ := hMay_len _ _ _ _ _ _ _ h
  have hl := hT_length key id salt n b raw root
  have HC := Kept.mk (fun w' => Check_yes id salt n b raw root tag w' h)
  have HG := Kept.mk (fun w' (hk : KAt w') => Sign_any key id salt n b raw root tag w' hk r1 r2 r3 r4 (by omega) (by omega) z3)
  have HY := Kept.mk (vE_yes key id salt n b raw root tag h)
  have HN := Kept.mk (vE_tag key id salt n b raw root tag h)
  have HE := Kept.mk (fun w' => equal_any tag (hT key id salt n b raw root) w' (by omega) (by omega))
  clear h r1 r2 r3 r4 y1 y2 y3 hl
  generalize vE key id salt n b raw root tag = E at *
  generalize hT key id salt n b raw root = TT at *
  have hfl : ∀ w : World, (Instr.field 23 (.agg #[.int .i64 id, .string (str salt), .int .i64 n, .int .i64 b, .int .i64 raw, .string (str root), .string (str TT)]) 6).run Tryd.prog w = .ok (.string (str TT)) w := fun w => by kernel_rfl
  have hA := hnew w (.cells #[.int .i64 id, .string (str salt), .int .i64 n, .int .i64 b, .int .i64 raw, .string (str root), .string (str tag)] 23)
  have hB := bnew w (.cells #[.int .i64 id, .string (str salt), .int .i64 n, .int .i64 b, .int .i64 raw, .string (str root), .string (str tag)] 23)
  go_enter Tryd.func16, Tryd.ntmps16
  go_upto_region 1 with fail
  generalize w.alloc (.cells #[.int .i64 id, .string (str salt), .int .i64 n, .int .i64 b, .int .i64 raw, .string (str root), .string (str tag)] 23) = W1 at *
  have HS := Kept.mk (fun w' (h : Below W1.heap.size W1 w') => show w'.cell? ⟨w.heap.size, 0, none⟩ = some (.int .i64 id) ∧ w'.cell? ⟨w.heap.size, 1, none⟩ = some (.string (str salt)) ∧ w'.cell? ⟨w.heap.size, 2, none⟩ = some (.int .i64 n) ∧ w'.cell? ⟨w.heap.size, 3, none⟩ = some (.int .i64 b) ∧ w'.cell? ⟨w.heap.size, 4, none⟩ = some (.int .i64 raw) ∧ w'.cell? ⟨w.heap.size, 5, none⟩ = some (.string (str root)) ∧ w'.cell? ⟨w.heap.size, 6, none⟩ = some (.string (str tag)) from seven_at (hkept hA h))
  have HB := Kept.mk (fun w' (h : Below W1.heap.size W1 w') => bnext hB h)
  have HK := Kept.mk (fun w' (h : Below W1.heap.size W1 w') => hk.below (bnext hB h))
  obtain ⟨c0, c1, c2, c3, c4, c5, c6⟩ := seven_at hA
  clear hA hB hk
  go_wp2_with fail
  with_reducible refine (HC.out _).mono ?_
  rintro e w1 ⟨rfl, b1⟩
  clear c0 c1 c2 c3 c4 c5 c6
  have KS := Kept.mk (fun w' (h : Below w1.heap.size w1 w') => show (w'.cell? ⟨w.heap.size, 0, none⟩ = some (.int .i64 id) ∧ w'.cell? ⟨w.heap.size, 1, none⟩ = some (.string (str salt)) ∧ w'.cell? ⟨w.heap.size, 2, none⟩ = some (.int .i64 n) ∧ w'.cell? ⟨w.heap.size, 3, none⟩ = some (.int .i64 b) ∧ w'.cell? ⟨w.heap.size, 4, none⟩ = some (.int .i64 raw) ∧ w'.cell? ⟨w.heap.size, 5, none⟩ = some (.string (str root)) ∧ w'.cell? ⟨w.heap.size, 6, none⟩ = some (.string (str tag))) ∧ Below w1.heap.size w1 w' from ⟨HS.out _ (bnext b1 h), h⟩)
  have HB1 := Kept.mk (fun w' (h : Below w1.heap.size w1 w') => HB.out _ (bnext b1 h))
  have HK1 := Kept.mk (fun w' (h : Below w1.heap.size w1 w') => HK.out _ (bnext b1 h))
  clear b1 HB HS HK HC
  go_upto_region 4 with fail
  go_region_held3 (fun w' => (w'.cell? ⟨w.heap.size, 0, none⟩ = some (.int .i64 id) ∧ w'.cell? ⟨w.heap.size, 1, none⟩ = some (.string (str salt)) ∧ w'.cell? ⟨w.heap.size, 2, none⟩ = some (.int .i64 n) ∧ w'.cell? ⟨w.heap.size, 3, none⟩ = some (.int .i64 b) ∧ w'.cell? ⟨w.heap.size, 4, none⟩ = some (.int .i64 raw) ∧ w'.cell? ⟨w.heap.size, 5, none⟩ = some (.string (str root)) ∧ w'.cell? ⟨w.heap.size, 6, none⟩ = some (.string (str tag))) ∧ Below w1.heap.size w1 w')
    (first
      | exact KS.out _ (Below.refl _ _).drew
      | (go_split_ands; exact KS.out _ (bnext (by assumption) hbA))
      | (go_split_ands; exact KS.out _ (by assumption)))
    (first
      | (go_at_call 13; go_split_ands; with_reducible refine (HG.out _ (HK1.out _ (by assumption))).mono ?_; rintro e wA ⟨rfl, hbA⟩)
      | (go_at_call 38; with_reducible refine (HE.out _).mono ?_; rintro e wA ⟨rfl, hbA⟩))
  all_goals
    go_split_ands
    have HX := Kept.mk (HB1.out _ (show Below w1.heap.size w1 _ by assumption))
    by_cases ht : tag = TT
    · rw [decide_eq_true ht]
      have HZ := Kept.mk (HY.out ht)
      clear ht
      go_wp2_with fail
      go_ret
      exact ⟨by rw [HZ.out]; rfl, HX.out⟩
    · rw [decide_eq_false ht]
      have HZ := Kept.mk (HN.out ht)
      clear ht
      go_wp2_with fail
      go_ret
      exact ⟨by rw [HZ.out]; rfl, HX.out⟩
set_option maxRecDepth 100000 in
set_option maxHeartbeats 4000000 in
theorem refVerify_may (key : List UInt8) (id : Int) (salt : List UInt8) (n b raw : Int) (root tag : List UInt8) (w : World) (h : hMay id salt n b raw root tag) (z3 : key.length ≤ 1000) :
    Calls Tryd.prog 17 #[.string (str key), .agg #[.int .i64 id, .string (str salt), .int .i64 n, .int .i64 b, .int .i64 raw, .string (str root), .string (str tag)]] w fun e w' => e = .returned (.int .i64 (vE key id salt n b raw root tag)) ∧ Below w.heap.size w w' := by
  obtain ⟨r1, r2, r3, r4⟩ := hMay_I64 _ _ _ _ _ _ _ h
  obtain ⟨y1, y2, y3⟩ := hMay_len _ _ _ _ _ _ _ h
  have HC := Kept.mk (fun w' => May_yes id salt n b raw root tag w' h)
  have HF := Kept.mk (fun w' => refFields_any id salt n b raw root tag w' r1 r2 r3 r4 (by omega) (by omega))
  have hl := hF_length id salt n b raw root
  have HG := Kept.mk (fun w' => refTag_any key (hF id salt n b raw root) w' (by omega) (by omega))
  rw [hT_of] at HG
  have HY := Kept.mk (vE_yes key id salt n b raw root tag h)
  have HN := Kept.mk (vE_tag key id salt n b raw root tag h)
  clear h r1 r2 r3 r4 y1 y2 y3 hl
  generalize vE key id salt n b raw root tag = E at *
  generalize hT key id salt n b raw root = TT at *
  generalize hF id salt n b raw root = F at *
  have hA := hnew w (.cells #[.int .i64 id, .string (str salt), .int .i64 n, .int .i64 b, .int .i64 raw, .string (str root), .string (str tag)] 23)
  have hB := bnew w (.cells #[.int .i64 id, .string (str salt), .int .i64 n, .int .i64 b, .int .i64 raw, .string (str root), .string (str tag)] 23)
  have ht := str_tl TT tag
  have hq : (decide (TT = tag) = true ∧ E = 0) ∨ (decide (TT = tag) = false ∧ E = 4) := by
    by_cases hq : tag = TT
    · exact .inl ⟨decide_eq_true hq.symm, HY.out hq⟩
    · exact .inr ⟨decide_eq_false (Ne.symm hq), HN.out hq⟩
  rcases hq with ⟨hq, rfl⟩ | ⟨hq, rfl⟩
  all_goals
    rw [hq] at ht
    clear HY HN hq
    go_enter Tryd.func17, Tryd.ntmps17
    go_upto_region 1 with fail
    generalize w.alloc (.cells #[.int .i64 id, .string (str salt), .int .i64 n, .int .i64 b, .int .i64 raw, .string (str root), .string (str tag)] 23) = W1 at *
    have HS := Kept.mk (fun w' (h : Below W1.heap.size W1 w') => show w'.cell? ⟨w.heap.size, 0, none⟩ = some (.int .i64 id) ∧ w'.cell? ⟨w.heap.size, 1, none⟩ = some (.string (str salt)) ∧ w'.cell? ⟨w.heap.size, 2, none⟩ = some (.int .i64 n) ∧ w'.cell? ⟨w.heap.size, 3, none⟩ = some (.int .i64 b) ∧ w'.cell? ⟨w.heap.size, 4, none⟩ = some (.int .i64 raw) ∧ w'.cell? ⟨w.heap.size, 5, none⟩ = some (.string (str root)) ∧ w'.cell? ⟨w.heap.size, 6, none⟩ = some (.string (str tag)) from seven_at (hkept hA h))
    have HB := Kept.mk (fun w' (h : Below W1.heap.size W1 w') => bnext hB h)
    obtain ⟨c0, c1, c2, c3, c4, c5, c6⟩ := seven_at hA
    clear hA hB
    go_wp2_with fail
    with_reducible refine (HC.out _).mono ?_
    rintro e w1 ⟨rfl, b1⟩
    clear c0 c1 c2 c3 c4 c5 c6
    have KS := Kept.mk (fun w' (h : Below w1.heap.size w1 w') => show (w'.cell? ⟨w.heap.size, 0, none⟩ = some (.int .i64 id) ∧ w'.cell? ⟨w.heap.size, 1, none⟩ = some (.string (str salt)) ∧ w'.cell? ⟨w.heap.size, 2, none⟩ = some (.int .i64 n) ∧ w'.cell? ⟨w.heap.size, 3, none⟩ = some (.int .i64 b) ∧ w'.cell? ⟨w.heap.size, 4, none⟩ = some (.int .i64 raw) ∧ w'.cell? ⟨w.heap.size, 5, none⟩ = some (.string (str root)) ∧ w'.cell? ⟨w.heap.size, 6, none⟩ = some (.string (str tag))) ∧ Below w1.heap.size w1 w' from ⟨HS.out _ (bnext b1 h), h⟩)
    have HB1 := Kept.mk (fun w' (h : Below w1.heap.size w1 w') => HB.out _ (bnext b1 h))
    clear b1 HB HS HC
    go_upto_region 3 with fail
    go_region_held3 (fun w' => (w'.cell? ⟨w.heap.size, 0, none⟩ = some (.int .i64 id) ∧ w'.cell? ⟨w.heap.size, 1, none⟩ = some (.string (str salt)) ∧ w'.cell? ⟨w.heap.size, 2, none⟩ = some (.int .i64 n) ∧ w'.cell? ⟨w.heap.size, 3, none⟩ = some (.int .i64 b) ∧ w'.cell? ⟨w.heap.size, 4, none⟩ = some (.int .i64 raw) ∧ w'.cell? ⟨w.heap.size, 5, none⟩ = some (.string (str root)) ∧ w'.cell? ⟨w.heap.size, 6, none⟩ = some (.string (str tag))) ∧ Below w1.heap.size w1 w')
      (first
        | exact KS.out _ (Below.refl _ _).drew
        | (go_split_ands; exact KS.out _ (bnext (by assumption) hbA))
        | (go_split_ands; exact KS.out _ (by assumption)))
      (first
        | (go_at_call 15; with_reducible refine (HF.out _).mono ?_; rintro e wA ⟨rfl, hbA⟩)
        | (go_at_call 14; with_reducible refine (HG.out _).mono ?_; rintro e wA ⟨rfl, hbA⟩))
    all_goals
      go_split_ands
      have HX := Kept.mk (HB1.out _ (show Below w1.heap.size w1 _ by assumption))
      go_wp2_with fail
      go_ret
      exact ⟨rfl, HX.out⟩
theorem Verify_all (key : List UInt8) (id : Int) (salt : List UInt8) (n b raw : Int) (root tag : List UInt8) (w : World) (hk : KAt w) (z0 : key.length ≤ 1000) (z1 : salt.length ≤ 1000) (z2 : root.length ≤ 1000) (z3 : tag.length ≤ 1000) :
    Calls Tryd.prog 16 #[.string (str key), .agg #[.int .i64 id, .string (str salt), .int .i64 n, .int .i64 b, .int .i64 raw, .string (str root), .string (str tag)]] w fun e w' => e = .returned (.int .i64 (vE key id salt n b raw root tag)) ∧ Below w.heap.size w w' := by
  by_cases h : hMay id salt n b raw root tag
  · exact Verify_may key id salt n b raw root tag w hk h z0
  · rw [vE_no key id salt n b raw root tag h]; exact Verify_no key id salt n b raw root tag w h (by omega) (by omega) (by omega)
theorem refVerify_all (key : List UInt8) (id : Int) (salt : List UInt8) (n b raw : Int) (root tag : List UInt8) (w : World) (z0 : key.length ≤ 1000) (z1 : salt.length ≤ 1000) (z2 : root.length ≤ 1000) (z3 : tag.length ≤ 1000) :
    Calls Tryd.prog 17 #[.string (str key), .agg #[.int .i64 id, .string (str salt), .int .i64 n, .int .i64 b, .int .i64 raw, .string (str root), .string (str tag)]] w fun e w' => e = .returned (.int .i64 (vE key id salt n b raw root tag)) ∧ Below w.heap.size w w' := by
  by_cases h : hMay id salt n b raw root tag
  · exact refVerify_may key id salt n b raw root tag w h z0
  · rw [vE_no key id salt n b raw root tag h]; exact refVerify_no key id salt n b raw root tag w h (by omega) (by omega) (by omega)
theorem May_all (id : Int) (salt : List UInt8) (n b raw : Int) (root tag : List UInt8) (w : World) (z1 : salt.length ≤ 1000) (z2 : root.length ≤ 1000) (z3 : tag.length ≤ 1000) :
    Calls Tryd.prog 18 #[.agg #[.int .i64 id, .string (str salt), .int .i64 n, .int .i64 b, .int .i64 raw, .string (str root), .string (str tag)]] w fun e w' => e = .returned (.bool (decide (hMay id salt n b raw root tag))) ∧ Below w.heap.size w w' := by
  by_cases h : hMay id salt n b raw root tag
  · rw [decide_eq_true h]; exact May_yes id salt n b raw root tag w h
  · rw [decide_eq_false h]; exact May_no id salt n b raw root tag w h (by omega) (by omega) (by omega)
end Go.Proofs.YtabeehljpdehcaaDoor
