/- header.Put by definition, by a contract. -/
import Derived.Test.YtabeehljpdehcaaHdC
namespace Go.Proofs.Ytabeehljpdehcaa
set_option linter.unusedVariables false
set_option linter.unusedSimpArgs false
open Go.RowKit Go.Lib
attribute [local irreducible] str beL hF hP hMark
set_option maxRecDepth 100000 in
set_option maxHeartbeats 2000000 in
theorem refPut_yes (id : Int) (salt : List UInt8) (n b raw : Int) (root tag : List UInt8) (w : World) (h : hMay id salt n b raw root tag) :
    Calls Try.prog 9 #[.agg #[.int .i64 id, .string (str salt), .int .i64 n, .int .i64 b, .int .i64 raw, .string (str root), .string (str tag)]] w fun e w' => e = .returned (.tuple #[.string (str (hP id salt n b raw root tag)), .int .i64 0]) ∧ Below w.heap.size w w' := by
  obtain ⟨r1, r2, r3, r4⟩ := hMay_I64 _ _ _ _ _ _ _ h
  obtain ⟨z1, z2, z3⟩ := hMay_len _ _ _ _ _ _ _ h
  have HC := Kept.mk (fun w' => May_yes id salt n b raw root tag w' h)
  have HF := Kept.mk (fun w' => refFields_any id salt n b raw root tag w' r1 r2 r3 r4 (by omega) (by omega))
  have A1 := str_append (hF id salt n b raw root) tag
  rw [hP_of] at A1
  have t1 := str_size (hF id salt n b raw root)
  have t2 := str_size tag
  rw [hF_length] at t1
  have q1 : ¬ (9223372036854775807 < (str (hF id salt n b raw root)).size + (str tag).size) := by omega
  generalize hF id salt n b raw root = F at *
  generalize hP id salt n b raw root tag = R at *
  clear h r1 r2 r3 r4 z1 z2 z3 t1 t2
  go_enter Try.func9, Try.ntmps9
  go_upto_region 1 with fail
  have hA := hnew w (.cells #[.int .i64 id, .string (str salt), .int .i64 n, .int .i64 b, .int .i64 raw, .string (str root), .string (str tag)] 23)
  have hB := bnew w (.cells #[.int .i64 id, .string (str salt), .int .i64 n, .int .i64 b, .int .i64 raw, .string (str root), .string (str tag)] 23)
  generalize w.alloc (.cells #[.int .i64 id, .string (str salt), .int .i64 n, .int .i64 b, .int .i64 raw, .string (str root), .string (str tag)] 23) = W at *
  have HS := Kept.mk (fun w' (h : Below W.heap.size W w') => show w'.cell? ⟨w.heap.size, 0, none⟩ = some (.int .i64 id) ∧ w'.cell? ⟨w.heap.size, 1, none⟩ = some (.string (str salt)) ∧ w'.cell? ⟨w.heap.size, 2, none⟩ = some (.int .i64 n) ∧ w'.cell? ⟨w.heap.size, 3, none⟩ = some (.int .i64 b) ∧ w'.cell? ⟨w.heap.size, 4, none⟩ = some (.int .i64 raw) ∧ w'.cell? ⟨w.heap.size, 5, none⟩ = some (.string (str root)) ∧ w'.cell? ⟨w.heap.size, 6, none⟩ = some (.string (str tag)) from seven_at (hkept hA h))
  obtain ⟨c0, c1, c2, c3, c4, c5, c6⟩ := HS.out W (Below.refl _ _)
  have HB := Kept.mk (fun w' (h : Below W.heap.size W w') => bnext hB h)
  clear hA hB
  go_wp2_with fail
  with_reducible refine (HC.out _).mono ?_
  rintro e w1 ⟨rfl, b1⟩
  clear c0 c1 c2 c3 c4 c5 c6
  go_upto_region 3 with fail
  have KS := Kept.mk (fun w' (h : Below w1.heap.size w1 w') => show (w'.cell? ⟨w.heap.size, 0, none⟩ = some (.int .i64 id) ∧ w'.cell? ⟨w.heap.size, 1, none⟩ = some (.string (str salt)) ∧ w'.cell? ⟨w.heap.size, 2, none⟩ = some (.int .i64 n) ∧ w'.cell? ⟨w.heap.size, 3, none⟩ = some (.int .i64 b) ∧ w'.cell? ⟨w.heap.size, 4, none⟩ = some (.int .i64 raw) ∧ w'.cell? ⟨w.heap.size, 5, none⟩ = some (.string (str root)) ∧ w'.cell? ⟨w.heap.size, 6, none⟩ = some (.string (str tag))) ∧ Below w1.heap.size w1 w' from ⟨HS.out _ (bnext b1 h), h⟩)
  have HB1 := Kept.mk (fun w' (h : Below w1.heap.size w1 w') => HB.out _ (bnext b1 h))
  clear b1 HB HS
  go_region_held3 (fun w' => (w'.cell? ⟨w.heap.size, 0, none⟩ = some (.int .i64 id) ∧ w'.cell? ⟨w.heap.size, 1, none⟩ = some (.string (str salt)) ∧ w'.cell? ⟨w.heap.size, 2, none⟩ = some (.int .i64 n) ∧ w'.cell? ⟨w.heap.size, 3, none⟩ = some (.int .i64 b) ∧ w'.cell? ⟨w.heap.size, 4, none⟩ = some (.int .i64 raw) ∧ w'.cell? ⟨w.heap.size, 5, none⟩ = some (.string (str root)) ∧ w'.cell? ⟨w.heap.size, 6, none⟩ = some (.string (str tag))) ∧ Below w1.heap.size w1 w')
    (first
      | exact KS.out _ (Below.refl _ _).drew
      | (go_split_ands; exact KS.out _ (bnext (by assumption) hbA))
      | (go_split_ands; exact KS.out _ (by assumption)))
    (first
      | (go_at_call 16; with_reducible refine (HF.out _).mono ?_; rintro e wA ⟨rfl, hbA⟩))
  all_goals
    go_split_ands
    have HE := Kept.mk (HB1.out _ (show Below w1.heap.size w1 _ by assumption))
    go_wp2_with fail
    go_ret2
    exact ⟨rfl, HE.out⟩
set_option maxRecDepth 100000 in
theorem refPut_no (id : Int) (salt : List UInt8) (n b raw : Int) (root tag : List UInt8) (w : World) (h : ¬ hMay id salt n b raw root tag) (z1 : salt.length ≤ 140737488355328) (z2 : root.length ≤ 140737488355328) (z3 : tag.length ≤ 140737488355328) :
    Calls Try.prog 9 #[.agg #[.int .i64 id, .string (str salt), .int .i64 n, .int .i64 b, .int .i64 raw, .string (str root), .string (str tag)]] w fun e w' => e = .returned (.tuple #[.string (ByteArray.mk #[]), .int .i64 1]) ∧ Below w.heap.size w w' := by
  have HC := Kept.mk (fun w' => May_no id salt n b raw root tag w' h z1 z2 z3)
  clear h z1 z2 z3
  go_enter Try.func9, Try.ntmps9
  go_wp2_with fail
  with_reducible refine (HC.out _).mono ?_
  rintro e w1 ⟨rfl, b1⟩
  have HB := Kept.mk (bfrom b1)
  clear b1
  go_wp2_with fail
  go_ret2
  exact ⟨rfl, HB.out⟩
end Go.Proofs.Ytabeehljpdehcaa
