/- header: any header has the document's bytes, or may not be: walked by the contracts. -/
import Derived.Test.YtabeehljpdehcaaHdD
import Derived.Test.YtabeehljpdehcaaHdE
import Derived.Test.YtabeehljpdehcaaHdO
namespace Go.Proofs.Ytabeehljpdehcaa
set_option linter.unusedVariables false
set_option linter.unusedSimpArgs false
open Go.RowKit Go.Lib
attribute [local irreducible] str zs hP hF beL
theorem str_beq (a : List UInt8) : ((str a).toList == (str a).toList) = true := by simp
set_option maxRecDepth 100000 in
set_option maxHeartbeats 1000000 in
theorem headerPuts_w {W : World} (id : Int) (salt : List UInt8) (n b raw : Int) (root tag : List UInt8) (hP : (I64 id ∧ I64 n ∧ I64 b ∧ I64 raw) ∧ salt.length ≤ 9223372036854775807 ∧ root.length ≤ 9223372036854775807 ∧ tag.length ≤ 9223372036854775807) :
    Calls Try.prog 3 #[.agg #[.int .i64 id, .string (str salt), .int .i64 n, .int .i64 b, .int .i64 raw, .string (str root), .string (str tag)]] W fun e w' => e = .returned (.bool true) ∧ Below W.heap.size W w' := by
  obtain ⟨⟨r1, r2, r3, r4⟩, z1, z2, z3⟩ := hP
  have hA := hnew W (.cells #[.int .i64 id, .string (str salt), .int .i64 n, .int .i64 b, .int .i64 raw, .string (str root), .string (str tag)] 23)
  have hB := bnew W (.cells #[.int .i64 id, .string (str salt), .int .i64 n, .int .i64 b, .int .i64 raw, .string (str root), .string (str tag)] 23)
  generalize hW : W.alloc (.cells #[.int .i64 id, .string (str salt), .int .i64 n, .int .i64 b, .int .i64 raw, .string (str root), .string (str tag)] 23) = W1 at *
  have HW := Kept.mk hW
  have HS := Kept.mk (fun w' (h : Below W1.heap.size W1 w') => show w'.cell? ⟨W.heap.size, 0, none⟩ = some (.int .i64 id) ∧ w'.cell? ⟨W.heap.size, 1, none⟩ = some (.string (str salt)) ∧ w'.cell? ⟨W.heap.size, 2, none⟩ = some (.int .i64 n) ∧ w'.cell? ⟨W.heap.size, 3, none⟩ = some (.int .i64 b) ∧ w'.cell? ⟨W.heap.size, 4, none⟩ = some (.int .i64 raw) ∧ w'.cell? ⟨W.heap.size, 5, none⟩ = some (.string (str root)) ∧ w'.cell? ⟨W.heap.size, 6, none⟩ = some (.string (str tag)) from seven_at (hkept hA h))
  have HB := Kept.mk (fun w' (h : Below W1.heap.size W1 w') => bnext hB h)
  clear hA hB hW
  by_cases hl : salt.length ≤ 1000 ∧ root.length ≤ 1000 ∧ tag.length ≤ 1000
  · have HL := Kept.mk (fun w' => light_yes id salt n b raw root tag w' hl)
    by_cases hm : hMay id salt n b raw root tag
    · have HP1 := Kept.mk (fun w' => Put_yes id salt n b raw root tag w' hm)
      have HP2 := Kept.mk (fun w' => refPut_yes id salt n b raw root tag w' hm)
      have HC := Kept.mk (fun w' => Check_yes id salt n b raw root tag w' hm)
      have se := str_beq (hP id salt n b raw root tag)
      clear hl hm r1 r2 r3 r4 z1 z2 z3
      generalize hP id salt n b raw root tag = R at *
      go_enter Try.func3, Try.ntmps3
      go_upto_region 1 with fail
      rw [HW.out]
      obtain ⟨c0, c1, c2, c3, c4, c5, c6⟩ := HS.out _ (Below.refl _ _)
      have b0 := Below.refl W1.heap.size W1
      go_wp2_with fail
      with_reducible refine (HL.out _).mono ?_
      rintro e w1 ⟨rfl, b⟩
      clear c0 c1 c2 c3 c4 c5 c6
      have b1 := bnext b0 b
      clear b b0
      obtain ⟨c0, c1, c2, c3, c4, c5, c6⟩ := HS.out _ b1
      go_wp2_with fail
      with_reducible refine (HP1.out _).mono ?_
      rintro e w2 ⟨rfl, b⟩
      clear c0 c1 c2 c3 c4 c5 c6
      have b2 := bnext b1 b
      clear b b1
      obtain ⟨c0, c1, c2, c3, c4, c5, c6⟩ := HS.out _ b2
      go_wp2_with fail
      with_reducible refine (HP2.out _).mono ?_
      rintro e w3 ⟨rfl, b⟩
      clear c0 c1 c2 c3 c4 c5 c6
      have b3 := bnext b2 b
      clear b b2
      obtain ⟨c0, c1, c2, c3, c4, c5, c6⟩ := HS.out _ b3
      go_wp2_with fail
      with_reducible refine (HC.out _).mono ?_
      rintro e w4 ⟨rfl, b⟩
      clear c0 c1 c2 c3 c4 c5 c6
      have b4 := bnext b3 b
      clear b b3
      obtain ⟨c0, c1, c2, c3, c4, c5, c6⟩ := HS.out _ b4
      go_wp2_with fail
      with_reducible refine (hdAwake_any _).mono ?_
      rintro e w5 ⟨rfl, b⟩
      clear c0 c1 c2 c3 c4 c5 c6
      have b5 := bnext b4 b
      clear b b4
      obtain ⟨c0, c1, c2, c3, c4, c5, c6⟩ := HS.out _ b5
      clear c0 c1 c2 c3 c4 c5 c6
      go_wp2_with fail
      go_ret
      exact ⟨rfl, HB.out _ b5⟩
    · have HP1 := Kept.mk (fun w' => Put_no id salt n b raw root tag w' hm (by omega) (by omega) (by omega))
      have HP2 := Kept.mk (fun w' => refPut_no id salt n b raw root tag w' hm (by omega) (by omega) (by omega))
      have HC := Kept.mk (fun w' => Check_no id salt n b raw root tag w' hm (by omega) (by omega) (by omega))
      clear hl hm r1 r2 r3 r4 z1 z2 z3
      go_enter Try.func3, Try.ntmps3
      go_upto_region 1 with fail
      rw [HW.out]
      obtain ⟨c0, c1, c2, c3, c4, c5, c6⟩ := HS.out _ (Below.refl _ _)
      have b0 := Below.refl W1.heap.size W1
      go_wp2_with fail
      with_reducible refine (HL.out _).mono ?_
      rintro e w1 ⟨rfl, b⟩
      clear c0 c1 c2 c3 c4 c5 c6
      have b1 := bnext b0 b
      clear b b0
      obtain ⟨c0, c1, c2, c3, c4, c5, c6⟩ := HS.out _ b1
      go_wp2_with fail
      with_reducible refine (HP1.out _).mono ?_
      rintro e w2 ⟨rfl, b⟩
      clear c0 c1 c2 c3 c4 c5 c6
      have b2 := bnext b1 b
      clear b b1
      obtain ⟨c0, c1, c2, c3, c4, c5, c6⟩ := HS.out _ b2
      go_wp2_with fail
      with_reducible refine (HP2.out _).mono ?_
      rintro e w3 ⟨rfl, b⟩
      clear c0 c1 c2 c3 c4 c5 c6
      have b3 := bnext b2 b
      clear b b2
      obtain ⟨c0, c1, c2, c3, c4, c5, c6⟩ := HS.out _ b3
      go_wp2_with fail
      with_reducible refine (HC.out _).mono ?_
      rintro e w4 ⟨rfl, b⟩
      clear c0 c1 c2 c3 c4 c5 c6
      have b4 := bnext b3 b
      clear b b3
      obtain ⟨c0, c1, c2, c3, c4, c5, c6⟩ := HS.out _ b4
      go_wp2_with fail
      with_reducible refine (hdAwake_any _).mono ?_
      rintro e w5 ⟨rfl, b⟩
      clear c0 c1 c2 c3 c4 c5 c6
      have b5 := bnext b4 b
      clear b b4
      obtain ⟨c0, c1, c2, c3, c4, c5, c6⟩ := HS.out _ b5
      clear c0 c1 c2 c3 c4 c5 c6
      go_wp2_with fail
      go_ret
      exact ⟨rfl, HB.out _ b5⟩
  · have HL := Kept.mk (fun w' => light_no id salt n b raw root tag w' hl z1 z2 z3)
    clear hl r1 r2 r3 r4 z1 z2 z3
    go_enter Try.func3, Try.ntmps3
    go_upto_region 1 with fail
    rw [HW.out]
    obtain ⟨c0, c1, c2, c3, c4, c5, c6⟩ := HS.out _ (Below.refl _ _)
    have b0 := Below.refl W1.heap.size W1
    go_wp2_with fail
    with_reducible refine (HL.out _).mono ?_
    rintro e w1 ⟨rfl, b⟩
    clear c0 c1 c2 c3 c4 c5 c6
    have b1 := bnext b0 b
    clear b b0
    obtain ⟨c0, c1, c2, c3, c4, c5, c6⟩ := HS.out _ b1
    go_wp2_with fail
    with_reducible refine (hdAwake_any _).mono ?_
    rintro e w2 ⟨rfl, b⟩
    clear c0 c1 c2 c3 c4 c5 c6
    have b2 := bnext b1 b
    clear b b1
    obtain ⟨c0, c1, c2, c3, c4, c5, c6⟩ := HS.out _ b2
    clear c0 c1 c2 c3 c4 c5 c6
    go_wp2_with fail
    go_ret
    exact ⟨rfl, HB.out _ b2⟩
end Go.Proofs.Ytabeehljpdehcaa
