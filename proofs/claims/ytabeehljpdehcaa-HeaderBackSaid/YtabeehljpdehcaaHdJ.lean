/- header: any bytes are the document's header, or none; what is put is taken, what is taken is put: walked by the contracts. -/
import Derived.Test.YtabeehljpdehcaaHdI
import Derived.Test.YtabeehljpdehcaaHdO
import Derived.Laws.StructEq
namespace Go.Proofs.Ytabeehljpdehcaa
set_option linter.unusedVariables false
set_option linter.unusedSimpArgs false
open Go.RowKit Go.Lib
theorem tkV_form (s : List UInt8) : ∃ (id : Int) (b1 : ByteArray) (n b raw : Int) (b5 b6 : ByteArray), tkV s = .agg #[.int .i64 id, .string b1, .int .i64 n, .int .i64 b, .int .i64 raw, .string b5, .string b6] := by
  by_cases h : hIs s
  · exact ⟨_, _, _, _, _, _, _, (tk_yes h).1⟩
  · exact ⟨_, _, _, _, _, _, _, (tk_no h).1⟩
theorem Take_all (s : List UInt8) (w : World) (hs : s.length ≤ 1000) : Calls Try.prog 11 #[.string (str s)] w fun e w' => e = .returned (.tuple #[tkV s, .int .i64 (tkE s)]) ∧ Below w.heap.size w w' := by
  by_cases h : s.length = 98
  · exact Take_98 s w h
  · have h2 := tk_no (s := s) (fun h2 => h h2.1)
    rw [h2.1, h2.2]; exact Take_len s w h (by omega)
theorem refTake_all (s : List UInt8) (w : World) (hs : s.length ≤ 1000) : Calls Try.prog 12 #[.string (str s)] w fun e w' => e = .returned (.tuple #[tkV s, .int .i64 (tkE s)]) ∧ Below w.heap.size w w' := by
  by_cases h : s.length = 98
  · exact refTake_98 s w h
  · have h2 := tk_no (s := s) (fun h2 => h h2.1)
    rw [h2.1, h2.2]; exact refTake_len s w h (by omega)
theorem Take_yes (s : List UInt8) (w : World) (h : hIs s) : Calls Try.prog 11 #[.string (str s)] w fun e w' => e = .returned (.tuple #[.agg #[.int .i64 (pId s), .string (str (pSalt s)), .int .i64 (pN s), .int .i64 (pB s), .int .i64 (pRaw s), .string (str (pRoot s)), .string (str (pTag s))], .int .i64 0]) ∧ Below w.heap.size w w' := by
  have h2 := Take_98 s w h.1
  rw [(tk_yes h).1, (tk_yes h).2] at h2
  exact h2
theorem Take_no (s : List UInt8) (w : World) (h : ¬ hIs s) (hs : s.length ≤ 1000) : Calls Try.prog 11 #[.string (str s)] w fun e w' => e = .returned (.tuple #[noHdr, .int .i64 2]) ∧ Below w.heap.size w w' := by
  have h2 := Take_all s w hs
  rw [(tk_no h).1, (tk_no h).2] at h2
  exact h2
theorem Take_back (id : Int) (salt : List UInt8) (n b raw : Int) (root tag : List UInt8) (w : World) (h : hMay id salt n b raw root tag) : Calls Try.prog 11 #[.string (str (hP id salt n b raw root tag))] w fun e w' => e = .returned (.tuple #[.agg #[.int .i64 id, .string (str salt), .int .i64 n, .int .i64 b, .int .i64 raw, .string (str root), .string (str tag)], .int .i64 0]) ∧ Below w.heap.size w w' := by
  have h2 := Take_yes (hP id salt n b raw root tag) w (hP_is id salt n b raw root tag h)
  obtain ⟨_, _, q1, q2, q3, q4, q5, q6, q7⟩ := hP_parts id salt n b raw root tag h
  rw [q1, q2, q3, q4, q5, q6, q7] at h2
  exact h2
theorem Put_back (s : List UInt8) (w : World) (h : hIs s) : Calls Try.prog 8 #[.agg #[.int .i64 (pId s), .string (str (pSalt s)), .int .i64 (pN s), .int .i64 (pB s), .int .i64 (pRaw s), .string (str (pRoot s)), .string (str (pTag s))]] w fun e w' => e = .returned (.tuple #[.string (str s), .int .i64 0]) ∧ Below w.heap.size w w' := by
  have h2 := Put_yes _ _ _ _ _ _ _ w h.2.2
  rw [hP_take s h] at h2
  exact h2
set_option maxRecDepth 100000 in
theorem hdr_eqlB (id : Int) (b1 : ByteArray) (n b raw : Int) (b5 b6 : ByteArray) (w : World) :
    (binOp .eql 23 (.agg #[.int .i64 id, .string b1, .int .i64 n, .int .i64 b, .int .i64 raw, .string b5, .string b6]) (.agg #[.int .i64 id, .string b1, .int .i64 n, .int .i64 b, .int .i64 raw, .string b5, .string b6])).run Try.prog w = .ok (.bool true) w := by
  have ht : Try.prog.underlying 23 = some (.struct (Try.prog.fieldsOf 23)) := by kernel_rfl
  have hp : Try.prog.stoodInHeld 23 = false := by kernel_rfl
  rw [run_eql_struct, run_equalIn_agg w 9999 _ _ _ ht hp]
  simp only [Program.fieldsOf, Try.underlying23]
  simp [Op.eqFields, go_sem, Try.underlying3, Try.underlying9]
set_option maxRecDepth 100000 in
theorem hdr_neqB (id : Int) (b1 : ByteArray) (n b raw : Int) (b5 b6 : ByteArray) (w : World) :
    (binOp .neq 23 (.agg #[.int .i64 id, .string b1, .int .i64 n, .int .i64 b, .int .i64 raw, .string b5, .string b6]) (.agg #[.int .i64 id, .string b1, .int .i64 n, .int .i64 b, .int .i64 raw, .string b5, .string b6])).run Try.prog w = .ok (.bool false) w := by
  have ht : Try.prog.underlying 23 = some (.struct (Try.prog.fieldsOf 23)) := by kernel_rfl
  have hp : Try.prog.stoodInHeld 23 = false := by kernel_rfl
  rw [run_neq_struct, run_equalIn_agg w 9999 _ _ _ ht hp]
  simp only [Program.fieldsOf, Try.underlying23]
  simp [Op.eqFields, go_sem, Try.underlying3, Try.underlying9]
attribute [local irreducible] str zs hP hF beL tkV tkE pId pSalt pN pB pRaw pRoot pTag

set_option maxRecDepth 100000 in
set_option maxHeartbeats 1000000 in
theorem headerTakes_w {W : World} (s : List UInt8) (zs : s.length ≤ 140737488351232) :
    Calls Try.prog 4 #[.string (str s)] W fun e w' => e = .returned (.bool true) ∧ Below W.heap.size W w' := by
  have s1 := str_size s
  have hgd : Try.prog.eqGuardType Try.prog.depth 23 = false := by kernel_rfl
  have hcut : ∃ t : List UInt8, t.length ≤ 1000 ∧ (s.length ≤ 1000 → t = s) ∧ (1000 < s.length → (str s).extract 0 1000 = str t) := by
    by_cases h : 1000 < s.length
    · exact ⟨s.take 1000, by rw [List.length_take]; omega, fun h2 => absurd h2 (by omega), fun _ => str_cut s 1000⟩
    · exact ⟨s, by omega, fun _ => rfl, fun h2 => absurd h2 h⟩
  obtain ⟨t, ht, h1, h2⟩ := hcut
  have H1 := Kept.mk (fun w' => Take_all t w' ht)
  have H2 := Kept.mk (fun w' => refTake_all t w' ht)
  obtain ⟨id, b1, n, b, raw, b5, b6, hf⟩ := tkV_form t
  rw [hf] at H1 H2
  have HQ := hdr_eqlB id b1 n b raw b5 b6
  generalize tkE t = E at *
  clear hf ht
  by_cases h : 1000 < s.length
  · have e1 := h2 h
    have hi : (1000 : Int) < (s.length : Int) := by omega
    clear h1 h2
    go_enter Try.func4, Try.ntmps4
    go_wp2_with fail
    with_reducible refine (H1.out _).mono ?_
    rintro e w1 ⟨rfl, b1'⟩
    go_upto_region 4 with fail
    have hA3 := hnew w1 (.cells #[.int .i64 id, .string b1, .int .i64 n, .int .i64 b, .int .i64 raw, .string b5, .string b6] 23)
    have b2' := bnext b1' (bnew w1 (.cells #[.int .i64 id, .string b1, .int .i64 n, .int .i64 b, .int .i64 raw, .string b5, .string b6] 23))
    generalize w1.alloc (.cells #[.int .i64 id, .string b1, .int .i64 n, .int .i64 b, .int .i64 raw, .string b5, .string b6] 23) = W2 at *
    have HA3 := Kept.mk hA3
    clear hA3 b1'
    go_wp2_with fail
    with_reducible refine (H2.out _).mono ?_
    rintro e w3 ⟨rfl, bb⟩
    have b3' := bnext b2' bb
    have hA3 := hkept HA3.out bb
    clear b2' bb HA3
    go_upto_region 5 with fail
    have hA5 := hnew w3 (.cells #[.int .i64 id, .string b1, .int .i64 n, .int .i64 b, .int .i64 raw, .string b5, .string b6] 23)
    have k5 := bnew w3 (.cells #[.int .i64 id, .string b1, .int .i64 n, .int .i64 b, .int .i64 raw, .string b5, .string b6] 23)
    have b4' := bnext b3' k5
    have hA3 := hkept hA3 k5
    clear k5 b3'
    generalize w3.alloc (.cells #[.int .i64 id, .string b1, .int .i64 n, .int .i64 b, .int .i64 raw, .string b5, .string b6] 23) = W4 at *
    obtain ⟨c0, c1, c2, c3, c4, c5, c6⟩ := seven_at hA3
    obtain ⟨d0, d1, d2, d3, d4, d5, d6⟩ := seven_at hA5
    clear hA3 hA5
    go_wp2_with fail
    with_reducible refine (hdAwake_any _).mono ?_
    rintro e w5 ⟨rfl, bb⟩
    have HB := Kept.mk (bnext b4' bb)
    clear bb b4' c0 c1 c2 c3 c4 c5 c6 d0 d1 d2 d3 d4 d5 d6
    go_wp2_with fail
    go_ret
    exact ⟨rfl, HB.out⟩
  · have e1 := h1 (by omega)
    subst e1
    have hi : ¬ (1000 : Int) < (t.length : Int) := by omega
    clear h2
    go_enter Try.func4, Try.ntmps4
    go_wp2_with fail
    with_reducible refine (H1.out _).mono ?_
    rintro e w1 ⟨rfl, b1'⟩
    go_upto_region 4 with fail
    have hA3 := hnew w1 (.cells #[.int .i64 id, .string b1, .int .i64 n, .int .i64 b, .int .i64 raw, .string b5, .string b6] 23)
    have b2' := bnext b1' (bnew w1 (.cells #[.int .i64 id, .string b1, .int .i64 n, .int .i64 b, .int .i64 raw, .string b5, .string b6] 23))
    generalize w1.alloc (.cells #[.int .i64 id, .string b1, .int .i64 n, .int .i64 b, .int .i64 raw, .string b5, .string b6] 23) = W2 at *
    have HA3 := Kept.mk hA3
    clear hA3 b1'
    go_wp2_with fail
    with_reducible refine (H2.out _).mono ?_
    rintro e w3 ⟨rfl, bb⟩
    have b3' := bnext b2' bb
    have hA3 := hkept HA3.out bb
    clear b2' bb HA3
    go_upto_region 5 with fail
    have hA5 := hnew w3 (.cells #[.int .i64 id, .string b1, .int .i64 n, .int .i64 b, .int .i64 raw, .string b5, .string b6] 23)
    have k5 := bnew w3 (.cells #[.int .i64 id, .string b1, .int .i64 n, .int .i64 b, .int .i64 raw, .string b5, .string b6] 23)
    have b4' := bnext b3' k5
    have hA3 := hkept hA3 k5
    clear k5 b3'
    generalize w3.alloc (.cells #[.int .i64 id, .string b1, .int .i64 n, .int .i64 b, .int .i64 raw, .string b5, .string b6] 23) = W4 at *
    obtain ⟨c0, c1, c2, c3, c4, c5, c6⟩ := seven_at hA3
    obtain ⟨d0, d1, d2, d3, d4, d5, d6⟩ := seven_at hA5
    clear hA3 hA5
    go_wp2_with fail
    with_reducible refine (hdAwake_any _).mono ?_
    rintro e w5 ⟨rfl, bb⟩
    have HB := Kept.mk (bnext b4' bb)
    clear bb b4' c0 c1 c2 c3 c4 c5 c6 d0 d1 d2 d3 d4 d5 d6
    go_wp2_with fail
    go_ret
    exact ⟨rfl, HB.out⟩

set_option maxRecDepth 100000 in
set_option maxHeartbeats 4000000 in
theorem headerBack_w {W : World} (id : Int) (salt : List UInt8) (n b raw : Int) (root tag : List UInt8) (hP0 : (I64 id ∧ I64 n ∧ I64 b ∧ I64 raw) ∧ salt.length ≤ 9223372036854775807 ∧ root.length ≤ 9223372036854775807 ∧ tag.length ≤ 9223372036854775807) (s : List UInt8) (zs : s.length ≤ 140737488351232) :
    Calls Try.prog 5 #[.agg #[.int .i64 id, .string (str salt), .int .i64 n, .int .i64 b, .int .i64 raw, .string (str root), .string (str tag)], .string (str s)] W fun e w' => e = .returned (.bool true) ∧ Below W.heap.size W w' := by
  obtain ⟨⟨r1, r2, r3, r4⟩, z1, z2, z3⟩ := hP0
  have hgd : Try.prog.eqGuardType Try.prog.depth 23 = false := by kernel_rfl
  have s1 := str_size s
  have hA := hnew W (.cells #[.int .i64 id, .string (str salt), .int .i64 n, .int .i64 b, .int .i64 raw, .string (str root), .string (str tag)] 23)
  have hB := bnew W (.cells #[.int .i64 id, .string (str salt), .int .i64 n, .int .i64 b, .int .i64 raw, .string (str root), .string (str tag)] 23)
  generalize hW : W.alloc (.cells #[.int .i64 id, .string (str salt), .int .i64 n, .int .i64 b, .int .i64 raw, .string (str root), .string (str tag)] 23) = W1 at *
  have HW := Kept.mk hW
  have HS := Kept.mk (fun w' (h : Below W1.heap.size W1 w') => show w'.cell? ⟨W.heap.size, 0, none⟩ = some (.int .i64 id) ∧ w'.cell? ⟨W.heap.size, 1, none⟩ = some (.string (str salt)) ∧ w'.cell? ⟨W.heap.size, 2, none⟩ = some (.int .i64 n) ∧ w'.cell? ⟨W.heap.size, 3, none⟩ = some (.int .i64 b) ∧ w'.cell? ⟨W.heap.size, 4, none⟩ = some (.int .i64 raw) ∧ w'.cell? ⟨W.heap.size, 5, none⟩ = some (.string (str root)) ∧ w'.cell? ⟨W.heap.size, 6, none⟩ = some (.string (str tag)) from seven_at (hkept hA h))
  have HB := Kept.mk (fun w' (h : Below W1.heap.size W1 w') => bnext hB h)
  clear hA hB hW
  by_cases hl : salt.length ≤ 1000 ∧ root.length ≤ 1000 ∧ tag.length ≤ 1000
  · have HL := Kept.mk (fun w' => light_yes id salt n b raw root tag w' hl)
    by_cases hs : s.length ≤ 1000
    · have hsi : ¬ (1000 : Int) < (s.length : Int) := by omega
      by_cases hm : hMay id salt n b raw root tag
      · have HP1 := Kept.mk (fun w' => Put_yes id salt n b raw root tag w' hm)
        have HT := Kept.mk (fun w' => Take_back id salt n b raw root tag w' hm)
        have HNE := hdr_neqB id (str salt) n b raw (str root) (str tag)
        by_cases hi : hIs s
        · have HT2 := Kept.mk (fun w' => Take_yes s w' hi)
          have HP2 := Kept.mk (fun w' => Put_back s w' hi)
          have hse : ((str s).toList == (str s).toList) = true := by simp
          clear hl hm hs hi r1 r2 r3 r4 z1 z2 z3 zs
          go_enter Try.func5, Try.ntmps5
          go_upto_region 1 with fail
          rw [HW.out]
          obtain ⟨c0, c1, c2, c3, c4, c5, c6⟩ := HS.out _ (Below.refl _ _)
          go_wp2_with fail
          with_reducible refine (HL.out _).mono ?_
          rintro e w1 ⟨rfl, b1⟩
          clear c0 c1 c2 c3 c4 c5 c6
          obtain ⟨c0, c1, c2, c3, c4, c5, c6⟩ := HS.out _ b1
          go_wp2_with fail
          with_reducible refine (HP1.out _).mono ?_
          rintro e w2 ⟨rfl, bb⟩
          have b2 := bnext b1 bb
          clear c0 c1 c2 c3 c4 c5 c6 bb b1
          go_wp2_with fail
          with_reducible refine (HT.out _).mono ?_
          rintro e w3 ⟨rfl, bb⟩
          have b3 := bnext b2 bb
          clear bb b2
          go_upto_region 6 with fail
          have hA7 := hnew w3 (.cells #[.int .i64 id, .string (str salt), .int .i64 n, .int .i64 b, .int .i64 raw, .string (str root), .string (str tag)] 23)
          have b4 := bnext b3 (bnew w3 (.cells #[.int .i64 id, .string (str salt), .int .i64 n, .int .i64 b, .int .i64 raw, .string (str root), .string (str tag)] 23))
          generalize w3.alloc (.cells #[.int .i64 id, .string (str salt), .int .i64 n, .int .i64 b, .int .i64 raw, .string (str root), .string (str tag)] 23) = W4 at *
          clear b3
          obtain ⟨c0, c1, c2, c3, c4, c5, c6⟩ := HS.out _ b4
          obtain ⟨d0, d1, d2, d3, d4, d5, d6⟩ := seven_at hA7
          clear hA7
          go_wp2_with fail
          with_reducible refine (HT2.out _).mono ?_
          rintro e w5 ⟨rfl, bb⟩
          have b5 := bnext b4 bb
          clear bb b4 c0 c1 c2 c3 c4 c5 c6 d0 d1 d2 d3 d4 d5 d6
          go_upto_region 9 with fail
          have hA9 := hnew w5 (.cells #[.int .i64 (pId s), .string (str (pSalt s)), .int .i64 (pN s), .int .i64 (pB s), .int .i64 (pRaw s), .string (str (pRoot s)), .string (str (pTag s))] 23)
          have b6 := bnext b5 (bnew w5 (.cells #[.int .i64 (pId s), .string (str (pSalt s)), .int .i64 (pN s), .int .i64 (pB s), .int .i64 (pRaw s), .string (str (pRoot s)), .string (str (pTag s))] 23))
          generalize w5.alloc (.cells #[.int .i64 (pId s), .string (str (pSalt s)), .int .i64 (pN s), .int .i64 (pB s), .int .i64 (pRaw s), .string (str (pRoot s)), .string (str (pTag s))] 23) = W6 at *
          clear b5
          obtain ⟨d0, d1, d2, d3, d4, d5, d6⟩ := seven_at hA9
          clear hA9
          go_wp2_with fail
          with_reducible refine (HP2.out _).mono ?_
          rintro e w7 ⟨rfl, bb⟩
          have b7 := bnext b6 bb
          clear bb b6 d0 d1 d2 d3 d4 d5 d6
          go_wp2_with fail
          with_reducible refine (hdAwake_any _).mono ?_
          rintro e w8 ⟨rfl, bb⟩
          have HE := Kept.mk (HB.out _ (bnext b7 bb))
          go_wp2_with fail
          go_ret
          exact ⟨rfl, HE.out⟩
        · have HT2 := Kept.mk (fun w' => Take_no s w' hi hs)
          unfold noHdr at HT2
          have HQ := hdr_eqlB 0 (ByteArray.mk #[]) 0 0 0 (ByteArray.mk #[]) (ByteArray.mk #[])
          clear hl hm hs hi r1 r2 r3 r4 z1 z2 z3 zs
          go_enter Try.func5, Try.ntmps5
          go_upto_region 1 with fail
          rw [HW.out]
          obtain ⟨c0, c1, c2, c3, c4, c5, c6⟩ := HS.out _ (Below.refl _ _)
          go_wp2_with fail
          with_reducible refine (HL.out _).mono ?_
          rintro e w1 ⟨rfl, b1⟩
          clear c0 c1 c2 c3 c4 c5 c6
          obtain ⟨c0, c1, c2, c3, c4, c5, c6⟩ := HS.out _ b1
          go_wp2_with fail
          with_reducible refine (HP1.out _).mono ?_
          rintro e w2 ⟨rfl, bb⟩
          have b2 := bnext b1 bb
          clear c0 c1 c2 c3 c4 c5 c6 bb b1
          go_wp2_with fail
          with_reducible refine (HT.out _).mono ?_
          rintro e w3 ⟨rfl, bb⟩
          have b3 := bnext b2 bb
          clear bb b2
          go_upto_region 6 with fail
          have hA7 := hnew w3 (.cells #[.int .i64 id, .string (str salt), .int .i64 n, .int .i64 b, .int .i64 raw, .string (str root), .string (str tag)] 23)
          have b4 := bnext b3 (bnew w3 (.cells #[.int .i64 id, .string (str salt), .int .i64 n, .int .i64 b, .int .i64 raw, .string (str root), .string (str tag)] 23))
          generalize w3.alloc (.cells #[.int .i64 id, .string (str salt), .int .i64 n, .int .i64 b, .int .i64 raw, .string (str root), .string (str tag)] 23) = W4 at *
          clear b3
          obtain ⟨c0, c1, c2, c3, c4, c5, c6⟩ := HS.out _ b4
          obtain ⟨d0, d1, d2, d3, d4, d5, d6⟩ := seven_at hA7
          clear hA7
          go_wp2_with fail
          with_reducible refine (HT2.out _).mono ?_
          rintro e w5 ⟨rfl, bb⟩
          have b5 := bnext b4 bb
          clear bb b4 c0 c1 c2 c3 c4 c5 c6 d0 d1 d2 d3 d4 d5 d6
          go_upto_region 9 with fail
          have hA9 := hnew w5 (.cells #[.int .i64 0, .string (ByteArray.mk #[]), .int .i64 0, .int .i64 0, .int .i64 0, .string (ByteArray.mk #[]), .string (ByteArray.mk #[])] 23)
          have b6 := bnext b5 (bnew w5 (.cells #[.int .i64 0, .string (ByteArray.mk #[]), .int .i64 0, .int .i64 0, .int .i64 0, .string (ByteArray.mk #[]), .string (ByteArray.mk #[])] 23))
          generalize w5.alloc (.cells #[.int .i64 0, .string (ByteArray.mk #[]), .int .i64 0, .int .i64 0, .int .i64 0, .string (ByteArray.mk #[]), .string (ByteArray.mk #[])] 23) = W6 at *
          clear b5
          obtain ⟨d0, d1, d2, d3, d4, d5, d6⟩ := seven_at hA9
          clear hA9
          go_wp2_with fail
          with_reducible refine (hdAwake_any _).mono ?_
          rintro e w8 ⟨rfl, bb⟩
          have HE := Kept.mk (HB.out _ (bnext b6 bb))
          go_wp2_with fail
          go_ret
          exact ⟨rfl, HE.out⟩
      · have HP1 := Kept.mk (fun w' => Put_no id salt n b raw root tag w' hm (by omega) (by omega) (by omega))
        by_cases hi : hIs s
        · have HT2 := Kept.mk (fun w' => Take_yes s w' hi)
          have HP2 := Kept.mk (fun w' => Put_back s w' hi)
          have hse : ((str s).toList == (str s).toList) = true := by simp
          clear hl hm hs hi r1 r2 r3 r4 z1 z2 z3 zs
          go_enter Try.func5, Try.ntmps5
          go_upto_region 1 with fail
          rw [HW.out]
          obtain ⟨c0, c1, c2, c3, c4, c5, c6⟩ := HS.out _ (Below.refl _ _)
          go_wp2_with fail
          with_reducible refine (HL.out _).mono ?_
          rintro e w1 ⟨rfl, b1⟩
          clear c0 c1 c2 c3 c4 c5 c6
          obtain ⟨c0, c1, c2, c3, c4, c5, c6⟩ := HS.out _ b1
          go_wp2_with fail
          with_reducible refine (HP1.out _).mono ?_
          rintro e w2 ⟨rfl, bb⟩
          have b2 := bnext b1 bb
          clear c0 c1 c2 c3 c4 c5 c6 bb b1
          go_wp2_with fail
          with_reducible refine (HT2.out _).mono ?_
          rintro e w5 ⟨rfl, bb⟩
          have b5 := bnext b2 bb
          clear bb b2
          go_upto_region 9 with fail
          have hA9 := hnew w5 (.cells #[.int .i64 (pId s), .string (str (pSalt s)), .int .i64 (pN s), .int .i64 (pB s), .int .i64 (pRaw s), .string (str (pRoot s)), .string (str (pTag s))] 23)
          have b6 := bnext b5 (bnew w5 (.cells #[.int .i64 (pId s), .string (str (pSalt s)), .int .i64 (pN s), .int .i64 (pB s), .int .i64 (pRaw s), .string (str (pRoot s)), .string (str (pTag s))] 23))
          generalize w5.alloc (.cells #[.int .i64 (pId s), .string (str (pSalt s)), .int .i64 (pN s), .int .i64 (pB s), .int .i64 (pRaw s), .string (str (pRoot s)), .string (str (pTag s))] 23) = W6 at *
          clear b5
          obtain ⟨d0, d1, d2, d3, d4, d5, d6⟩ := seven_at hA9
          clear hA9
          go_wp2_with fail
          with_reducible refine (HP2.out _).mono ?_
          rintro e w7 ⟨rfl, bb⟩
          have b7 := bnext b6 bb
          clear bb b6 d0 d1 d2 d3 d4 d5 d6
          go_wp2_with fail
          with_reducible refine (hdAwake_any _).mono ?_
          rintro e w8 ⟨rfl, bb⟩
          have HE := Kept.mk (HB.out _ (bnext b7 bb))
          go_wp2_with fail
          go_ret
          exact ⟨rfl, HE.out⟩
        · have HT2 := Kept.mk (fun w' => Take_no s w' hi hs)
          unfold noHdr at HT2
          have HQ := hdr_eqlB 0 (ByteArray.mk #[]) 0 0 0 (ByteArray.mk #[]) (ByteArray.mk #[])
          clear hl hm hs hi r1 r2 r3 r4 z1 z2 z3 zs
          go_enter Try.func5, Try.ntmps5
          go_upto_region 1 with fail
          rw [HW.out]
          obtain ⟨c0, c1, c2, c3, c4, c5, c6⟩ := HS.out _ (Below.refl _ _)
          go_wp2_with fail
          with_reducible refine (HL.out _).mono ?_
          rintro e w1 ⟨rfl, b1⟩
          clear c0 c1 c2 c3 c4 c5 c6
          obtain ⟨c0, c1, c2, c3, c4, c5, c6⟩ := HS.out _ b1
          go_wp2_with fail
          with_reducible refine (HP1.out _).mono ?_
          rintro e w2 ⟨rfl, bb⟩
          have b2 := bnext b1 bb
          clear c0 c1 c2 c3 c4 c5 c6 bb b1
          go_wp2_with fail
          with_reducible refine (HT2.out _).mono ?_
          rintro e w5 ⟨rfl, bb⟩
          have b5 := bnext b2 bb
          clear bb b2
          go_upto_region 9 with fail
          have hA9 := hnew w5 (.cells #[.int .i64 0, .string (ByteArray.mk #[]), .int .i64 0, .int .i64 0, .int .i64 0, .string (ByteArray.mk #[]), .string (ByteArray.mk #[])] 23)
          have b6 := bnext b5 (bnew w5 (.cells #[.int .i64 0, .string (ByteArray.mk #[]), .int .i64 0, .int .i64 0, .int .i64 0, .string (ByteArray.mk #[]), .string (ByteArray.mk #[])] 23))
          generalize w5.alloc (.cells #[.int .i64 0, .string (ByteArray.mk #[]), .int .i64 0, .int .i64 0, .int .i64 0, .string (ByteArray.mk #[]), .string (ByteArray.mk #[])] 23) = W6 at *
          clear b5
          obtain ⟨d0, d1, d2, d3, d4, d5, d6⟩ := seven_at hA9
          clear hA9
          go_wp2_with fail
          with_reducible refine (hdAwake_any _).mono ?_
          rintro e w8 ⟨rfl, bb⟩
          have HE := Kept.mk (HB.out _ (bnext b6 bb))
          go_wp2_with fail
          go_ret
          exact ⟨rfl, HE.out⟩
    · have hsi : (1000 : Int) < (s.length : Int) := by omega
      clear r1 r2 r3 r4 z1 z2 z3
      go_enter Try.func5, Try.ntmps5
      go_upto_region 1 with fail
      rw [HW.out]
      obtain ⟨c0, c1, c2, c3, c4, c5, c6⟩ := HS.out _ (Below.refl _ _)
      have b0 := Below.refl W1.heap.size W1
      go_wp2_with fail
      with_reducible refine (HL.out _).mono ?_
      rintro e w1 ⟨rfl, b⟩
      clear c0 c1 c2 c3 c4 c5 c6
      have b1 := bnext b0 b
      clear b b0
      obtain ⟨c0, c1, c2, c3, c4, c5, c6⟩ := HS.out _ b1
      go_wp2_with fail
      with_reducible refine (hdAwake_any _).mono ?_
      rintro e w2 ⟨rfl, b⟩
      clear c0 c1 c2 c3 c4 c5 c6
      have b2 := bnext b1 b
      clear b b1
      obtain ⟨c0, c1, c2, c3, c4, c5, c6⟩ := HS.out _ b2
      clear c0 c1 c2 c3 c4 c5 c6
      go_wp2_with fail
      go_ret
      exact ⟨rfl, HB.out _ b2⟩
  · have HL := Kept.mk (fun w' => light_no id salt n b raw root tag w' hl z1 z2 z3)
    clear hl r1 r2 r3 r4 z1 z2 z3
    go_enter Try.func5, Try.ntmps5
    go_upto_region 1 with fail
    rw [HW.out]
    obtain ⟨c0, c1, c2, c3, c4, c5, c6⟩ := HS.out _ (Below.refl _ _)
    have b0 := Below.refl W1.heap.size W1
    go_wp2_with fail
    with_reducible refine (HL.out _).mono ?_
    rintro e w1 ⟨rfl, b⟩
    clear c0 c1 c2 c3 c4 c5 c6
    have b1 := bnext b0 b
    clear b b0
    obtain ⟨c0, c1, c2, c3, c4, c5, c6⟩ := HS.out _ b1
    go_wp2_with fail
    with_reducible refine (hdAwake_any _).mono ?_
    rintro e w2 ⟨rfl, b⟩
    clear c0 c1 c2 c3 c4 c5 c6
    have b2 := bnext b1 b
    clear b b1
    obtain ⟨c0, c1, c2, c3, c4, c5, c6⟩ := HS.out _ b2
    clear c0 c1 c2 c3 c4 c5 c6
    go_wp2_with fail
    go_ret
    exact ⟨rfl, HB.out _ b2⟩
end Go.Proofs.Ytabeehljpdehcaa
