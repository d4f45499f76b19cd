/- header's fields, of the program and by definition, each by a contract. -/
import Derived.Test.YtabeehljpdehcaaHdA
import Derived.Deep.RegionHeld3
import Derived.Deep.Cut
import Derived.Test.YtabeehljpdehcaaHw
namespace Go.Proofs.Ytabeehljpdehcaa
set_option linter.unusedVariables false
set_option linter.unusedSimpArgs false
open Go.RowKit Go.Lib
/-- a number of 64 bits -/
def I64 (n : Int) : Prop := -9223372036854775808 ≤ n ∧ n ≤ 9223372036854775807
theorem seven_at {X : World} {g : Nat} {T : TypeId} {a0 a1 a2 a3 a4 a5 a6 : Value} (h : X.heap[g]? = some (.cells #[a0, a1, a2, a3, a4, a5, a6] T (0, 0))) :
    X.cell? ⟨g, 0, none⟩ = some a0 ∧ X.cell? ⟨g, 1, none⟩ = some a1 ∧ X.cell? ⟨g, 2, none⟩ = some a2 ∧ X.cell? ⟨g, 3, none⟩ = some a3 ∧ X.cell? ⟨g, 4, none⟩ = some a4 ∧ X.cell? ⟨g, 5, none⟩ = some a5 ∧ X.cell? ⟨g, 6, none⟩ = some a6 :=
  ⟨Joins.cell_of_block h 0, Joins.cell_of_block h 1, Joins.cell_of_block h 2, Joins.cell_of_block h 3, Joins.cell_of_block h 4, Joins.cell_of_block h 5, Joins.cell_of_block h 6⟩
theorem lit_hMark : ({ data := #[83, 76, 71, 49] } : ByteArray) = str hMark := rfl
theorem hMark_length : hMark.length = 4 := rfl
theorem fixed4 (n : Int) (w : World) (h : I64 n) : Calls Try.prog 22 #[.int .i64 n, .int .i64 4] w fun e w' => e = .returned (.string (str (beL 4 n))) ∧ Below w.heap.size w w' := fixed_any n 4 w h.1 h.2
theorem fixed2 (n : Int) (w : World) (h : I64 n) : Calls Try.prog 22 #[.int .i64 n, .int .i64 2] w fun e w' => e = .returned (.string (str (beL 2 n))) ∧ Below w.heap.size w w' := fixed_any n 2 w h.1 h.2
theorem refFixed4 (n : Int) (w : World) (h : I64 n) : Calls Try.prog 23 #[.int .i64 n, .int .i64 4] w fun e w' => e = .returned (.string (str (beL 4 n))) ∧ Below w.heap.size w w' := refFixed_any n 4 w h.1 h.2
theorem refFixed2 (n : Int) (w : World) (h : I64 n) : Calls Try.prog 23 #[.int .i64 n, .int .i64 2] w fun e w' => e = .returned (.string (str (beL 2 n))) ∧ Below w.heap.size w w' := refFixed_any n 2 w h.1 h.2
theorem hF_of (id : Int) (salt : List UInt8) (n b raw : Int) (root : List UInt8) : hMark ++ beL 4 id ++ salt ++ beL 2 n ++ beL 4 b ++ beL 4 raw ++ root = hF id salt n b raw root := rfl
attribute [local irreducible] str beL hF hMark

set_option maxRecDepth 100000 in
set_option maxHeartbeats 4000000 in
theorem fields_any (id : Int) (salt : List UInt8) (n b raw : Int) (root tag : List UInt8) (w : World) (r1 : I64 id) (r2 : I64 n) (r3 : I64 b) (r4 : I64 raw) (z1 : salt.length ≤ 1000) (z2 : root.length ≤ 1000) :
    Calls Try.prog 14 #[.agg #[.int .i64 id, .string (str salt), .int .i64 n, .int .i64 b, .int .i64 raw, .string (str root), .string (str tag)]] w fun e w' => e = .returned (.string (str (hF id salt n b raw root))) ∧ Below w.heap.size w w' := by
  have HX := Kept.mk (hF_of id salt n b raw root)
  have HC1 := Kept.mk (fun w' => fixed4 id w' r1)
  have HC2 := Kept.mk (fun w' => fixed2 n w' r2)
  have HC3 := Kept.mk (fun w' => fixed4 b w' r3)
  have HC4 := Kept.mk (fun w' => fixed4 raw w' r4)
  have eM := lit_hMark
  have l0 := hMark_length
  have l1 := beL_length 4 id
  have l2 := beL_length 2 n
  have l3 := beL_length 4 b
  have l4 := beL_length 4 raw
  generalize hF id salt n b raw root = R at *
  generalize beL 4 id = x1 at *
  generalize beL 2 n = x2 at *
  generalize beL 4 b = x3 at *
  generalize beL 4 raw = x4 at *
  generalize hMark = x0 at *
  have A1 := str_append x0 x1
  have A2 := str_append (x0 ++ x1) salt
  have A3 := str_append (x0 ++ x1 ++ salt) x2
  have A4 := str_append (x0 ++ x1 ++ salt ++ x2) x3
  have A5 := str_append (x0 ++ x1 ++ salt ++ x2 ++ x3) x4
  have A6 := str_append (x0 ++ x1 ++ salt ++ x2 ++ x3 ++ x4) root
  rw [HX.out] at A6
  have t0 := str_size x0
  have t1 := str_size x1
  have t2 := str_size salt
  have t3 := str_size x2
  have t4 := str_size x3
  have t5 := str_size x4
  have t6 := str_size root
  have u1 := str_size (x0 ++ x1)
  have u2 := str_size (x0 ++ x1 ++ salt)
  have u3 := str_size (x0 ++ x1 ++ salt ++ x2)
  have u4 := str_size (x0 ++ x1 ++ salt ++ x2 ++ x3)
  have u5 := str_size (x0 ++ x1 ++ salt ++ x2 ++ x3 ++ x4)
  simp only [List.length_append, l0, l1, l2, l3, l4] at t0 t1 t3 t4 t5 u1 u2 u3 u4 u5
  have q1 : ¬ (9223372036854775807 < (str x0).size + (str x1).size) := by omega
  have q1b : ¬ (9223372036854775807 < 4 + (str x1).size) := by omega
  have q2 : ¬ (9223372036854775807 < (str (x0 ++ x1)).size + (str salt).size) := by omega
  have q3 : ¬ (9223372036854775807 < (str (x0 ++ x1 ++ salt)).size + (str x2).size) := by omega
  have q4 : ¬ (9223372036854775807 < (str (x0 ++ x1 ++ salt ++ x2)).size + (str x3).size) := by omega
  have q5 : ¬ (9223372036854775807 < (str (x0 ++ x1 ++ salt ++ x2 ++ x3)).size + (str x4).size) := by omega
  have q6 : ¬ (9223372036854775807 < (str (x0 ++ x1 ++ salt ++ x2 ++ x3 ++ x4)).size + (str root).size) := by omega
  clear l0 l1 l2 l3 l4 HX r1 r2 r3 r4 t0 t1 t2 t3 t4 t5 t6 u1 u2 u3 u4 u5 z1 z2
  generalize hy1 : x0 ++ x1 = y1 at *
  generalize hy2 : y1 ++ salt = y2 at *
  generalize hy3 : y2 ++ x2 = y3 at *
  generalize hy4 : y3 ++ x3 = y4 at *
  generalize hy5 : y4 ++ x4 = y5 at *
  clear hy1 hy2 hy3 hy4 hy5
  go_enter Try.func14, Try.ntmps14
  go_upto_region 1 with fail
  have hA := hnew w (.cells #[.int .i64 id, .string (str salt), .int .i64 n, .int .i64 b, .int .i64 raw, .string (str root), .string (str tag)] 23)
  have hB := bnew w (.cells #[.int .i64 id, .string (str salt), .int .i64 n, .int .i64 b, .int .i64 raw, .string (str root), .string (str tag)] 23)
  generalize w.alloc (.cells #[.int .i64 id, .string (str salt), .int .i64 n, .int .i64 b, .int .i64 raw, .string (str root), .string (str tag)] 23) = W at *
  have KS := Kept.mk (fun w' (h : Below W.heap.size W w') => show w'.cell? ⟨w.heap.size, 0, none⟩ = some (.int .i64 id) ∧ w'.cell? ⟨w.heap.size, 1, none⟩ = some (.string (str salt)) ∧ w'.cell? ⟨w.heap.size, 2, none⟩ = some (.int .i64 n) ∧ w'.cell? ⟨w.heap.size, 3, none⟩ = some (.int .i64 b) ∧ w'.cell? ⟨w.heap.size, 4, none⟩ = some (.int .i64 raw) ∧ w'.cell? ⟨w.heap.size, 5, none⟩ = some (.string (str root)) ∧ Below W.heap.size W w' from by
    obtain ⟨c0, c1, c2, c3, c4, c5, c6⟩ := seven_at (hkept hA h)
    exact ⟨c0, c1, c2, c3, c4, c5, h⟩)
  have HB := Kept.mk (fun w' (h : Below W.heap.size W w') => hB.trans (h.mono hB.size))
  clear hA hB
  go_region_held3 (fun w' => w'.cell? ⟨w.heap.size, 0, none⟩ = some (.int .i64 id) ∧ w'.cell? ⟨w.heap.size, 1, none⟩ = some (.string (str salt)) ∧ w'.cell? ⟨w.heap.size, 2, none⟩ = some (.int .i64 n) ∧ w'.cell? ⟨w.heap.size, 3, none⟩ = some (.int .i64 b) ∧ w'.cell? ⟨w.heap.size, 4, none⟩ = some (.int .i64 raw) ∧ w'.cell? ⟨w.heap.size, 5, none⟩ = some (.string (str root)) ∧ Below W.heap.size W w')
    (first
      | exact KS.out _ (Below.refl _ _).drew
      | (go_split_ands; exact KS.out _ (bnext (by assumption) hbA))
      | (go_split_ands; exact KS.out _ (by assumption)))
    (first
      | (go_at_call 22; (first | with_reducible refine (HC1.out _).mono ?_ | with_reducible refine (HC2.out _).mono ?_ | with_reducible refine (HC3.out _).mono ?_ | with_reducible refine (HC4.out _).mono ?_); rintro e wA ⟨rfl, hbA⟩))
  all_goals
    go_split_ands
    have HE := Kept.mk (HB.out _ (show Below W.heap.size W _ by assumption))
    go_wp2_with fail
    go_ret
    exact ⟨rfl, HE.out⟩
set_option maxRecDepth 100000 in
set_option maxHeartbeats 4000000 in
theorem refFields_any (id : Int) (salt : List UInt8) (n b raw : Int) (root tag : List UInt8) (w : World) (r1 : I64 id) (r2 : I64 n) (r3 : I64 b) (r4 : I64 raw) (z1 : salt.length ≤ 1000) (z2 : root.length ≤ 1000) :
    Calls Try.prog 16 #[.agg #[.int .i64 id, .string (str salt), .int .i64 n, .int .i64 b, .int .i64 raw, .string (str root), .string (str tag)]] w fun e w' => e = .returned (.string (str (hF id salt n b raw root))) ∧ Below w.heap.size w w' := by
  have HX := Kept.mk (hF_of id salt n b raw root)
  have HC1 := Kept.mk (fun w' => refFixed4 id w' r1)
  have HC2 := Kept.mk (fun w' => refFixed2 n w' r2)
  have HC3 := Kept.mk (fun w' => refFixed4 b w' r3)
  have HC4 := Kept.mk (fun w' => refFixed4 raw w' r4)
  have eM := lit_hMark
  have l0 := hMark_length
  have l1 := beL_length 4 id
  have l2 := beL_length 2 n
  have l3 := beL_length 4 b
  have l4 := beL_length 4 raw
  generalize hF id salt n b raw root = R at *
  generalize beL 4 id = x1 at *
  generalize beL 2 n = x2 at *
  generalize beL 4 b = x3 at *
  generalize beL 4 raw = x4 at *
  generalize hMark = x0 at *
  have A1 := str_append x0 x1
  have A2 := str_append (x0 ++ x1) salt
  have A3 := str_append (x0 ++ x1 ++ salt) x2
  have A4 := str_append (x0 ++ x1 ++ salt ++ x2) x3
  have A5 := str_append (x0 ++ x1 ++ salt ++ x2 ++ x3) x4
  have A6 := str_append (x0 ++ x1 ++ salt ++ x2 ++ x3 ++ x4) root
  rw [HX.out] at A6
  have t0 := str_size x0
  have t1 := str_size x1
  have t2 := str_size salt
  have t3 := str_size x2
  have t4 := str_size x3
  have t5 := str_size x4
  have t6 := str_size root
  have u1 := str_size (x0 ++ x1)
  have u2 := str_size (x0 ++ x1 ++ salt)
  have u3 := str_size (x0 ++ x1 ++ salt ++ x2)
  have u4 := str_size (x0 ++ x1 ++ salt ++ x2 ++ x3)
  have u5 := str_size (x0 ++ x1 ++ salt ++ x2 ++ x3 ++ x4)
  simp only [List.length_append, l0, l1, l2, l3, l4] at t0 t1 t3 t4 t5 u1 u2 u3 u4 u5
  have q1 : ¬ (9223372036854775807 < (str x0).size + (str x1).size) := by omega
  have q1b : ¬ (9223372036854775807 < 4 + (str x1).size) := by omega
  have q2 : ¬ (9223372036854775807 < (str (x0 ++ x1)).size + (str salt).size) := by omega
  have q3 : ¬ (9223372036854775807 < (str (x0 ++ x1 ++ salt)).size + (str x2).size) := by omega
  have q4 : ¬ (9223372036854775807 < (str (x0 ++ x1 ++ salt ++ x2)).size + (str x3).size) := by omega
  have q5 : ¬ (9223372036854775807 < (str (x0 ++ x1 ++ salt ++ x2 ++ x3)).size + (str x4).size) := by omega
  have q6 : ¬ (9223372036854775807 < (str (x0 ++ x1 ++ salt ++ x2 ++ x3 ++ x4)).size + (str root).size) := by omega
  clear l0 l1 l2 l3 l4 HX r1 r2 r3 r4 t0 t1 t2 t3 t4 t5 t6 u1 u2 u3 u4 u5 z1 z2
  generalize hy1 : x0 ++ x1 = y1 at *
  generalize hy2 : y1 ++ salt = y2 at *
  generalize hy3 : y2 ++ x2 = y3 at *
  generalize hy4 : y3 ++ x3 = y4 at *
  generalize hy5 : y4 ++ x4 = y5 at *
  clear hy1 hy2 hy3 hy4 hy5
  go_enter Try.func16, Try.ntmps16
  go_upto_region 1 with fail
  have hA := hnew w (.cells #[.int .i64 id, .string (str salt), .int .i64 n, .int .i64 b, .int .i64 raw, .string (str root), .string (str tag)] 23)
  have hB := bnew w (.cells #[.int .i64 id, .string (str salt), .int .i64 n, .int .i64 b, .int .i64 raw, .string (str root), .string (str tag)] 23)
  generalize w.alloc (.cells #[.int .i64 id, .string (str salt), .int .i64 n, .int .i64 b, .int .i64 raw, .string (str root), .string (str tag)] 23) = W at *
  have KS := Kept.mk (fun w' (h : Below W.heap.size W w') => show w'.cell? ⟨w.heap.size, 0, none⟩ = some (.int .i64 id) ∧ w'.cell? ⟨w.heap.size, 1, none⟩ = some (.string (str salt)) ∧ w'.cell? ⟨w.heap.size, 2, none⟩ = some (.int .i64 n) ∧ w'.cell? ⟨w.heap.size, 3, none⟩ = some (.int .i64 b) ∧ w'.cell? ⟨w.heap.size, 4, none⟩ = some (.int .i64 raw) ∧ w'.cell? ⟨w.heap.size, 5, none⟩ = some (.string (str root)) ∧ Below W.heap.size W w' from by
    obtain ⟨c0, c1, c2, c3, c4, c5, c6⟩ := seven_at (hkept hA h)
    exact ⟨c0, c1, c2, c3, c4, c5, h⟩)
  have HB := Kept.mk (fun w' (h : Below W.heap.size W w') => hB.trans (h.mono hB.size))
  clear hA hB
  go_region_held3 (fun w' => w'.cell? ⟨w.heap.size, 0, none⟩ = some (.int .i64 id) ∧ w'.cell? ⟨w.heap.size, 1, none⟩ = some (.string (str salt)) ∧ w'.cell? ⟨w.heap.size, 2, none⟩ = some (.int .i64 n) ∧ w'.cell? ⟨w.heap.size, 3, none⟩ = some (.int .i64 b) ∧ w'.cell? ⟨w.heap.size, 4, none⟩ = some (.int .i64 raw) ∧ w'.cell? ⟨w.heap.size, 5, none⟩ = some (.string (str root)) ∧ Below W.heap.size W w')
    (first
      | exact KS.out _ (Below.refl _ _).drew
      | (go_split_ands; exact KS.out _ (bnext (by assumption) hbA))
      | (go_split_ands; exact KS.out _ (by assumption)))
    (first
      | (go_at_call 23; (first | with_reducible refine (HC1.out _).mono ?_ | with_reducible refine (HC2.out _).mono ?_ | with_reducible refine (HC3.out _).mono ?_ | with_reducible refine (HC4.out _).mono ?_); rintro e wA ⟨rfl, hbA⟩))
  all_goals
    go_split_ands
    have HE := Kept.mk (HB.out _ (show Below W.heap.size W _ by assumption))
    go_wp2_with fail
    go_ret
    exact ⟨rfl, HE.out⟩
end Go.Proofs.Ytabeehljpdehcaa
