/- header.Take by definition, by a contract. -/
import Derived.Test.YtabeehljpdehcaaHdH
import Derived.Test.YtabeehljpdehcaaHdD
namespace Go.Proofs.Ytabeehljpdehcaa
set_option linter.unusedVariables false
set_option linter.unusedSimpArgs false
open Go.RowKit Go.Lib
theorem refTake_end {R : Ending → World → Prop} {a : Act} {X : World} {g : Nat} {c0 c1 c2 c3 c4 c5 c6 f : Value} (h2 : a.tmps.getD 2 undef = .pointer (some ⟨g, 0, none⟩)) (h3 : a.tmps.getD 3 undef = f) (hd : a.defers = [])
    (hX : X.heap[g]? = some (.cells #[c0, c1, c2, c3, c4, c5, c6] 23 (0, 0))) (hR : R (.returned (.tuple #[.agg #[c0, c1, c2, c3, c4, c5, c6], f])) X) : bodyPost Try.prog Try.f12 R .ret a X := by
  obtain ⟨y0, y1, y2, y3, y4, y5, y6⟩ := seven_at hX
  have h2' : a.tmps[2]?.getD undef = .pointer (some ⟨g, 0, none⟩) := by rw [← h2]; simp
  have h3' : a.tmps[3]?.getD undef = f := by rw [← h3]; simp
  exact bodyPost_ret (v := .tuple #[.agg #[c0, c1, c2, c3, c4, c5, c6], f]) (by simp [results, Try.results12, h2', h3', go_sem, y0, y1, y2, y3, y4, y5, y6]) hd hR
theorem tk_at (s : List UInt8) (j k : Nat) (hj : j + k ≤ s.length) (h1 : 1 ≤ k) (h8 : k ≤ 8) : tkFix (str (s.drop j)) k = (bev ((s.drop j).take k), str (s.drop (j + k)), 0) := by
  rw [tkFix_list _ k h1 h8 (by rw [List.length_drop]; omega), List.drop_drop]
theorem cut_at' (s : List UInt8) (j k : Nat) : (str (s.drop j)).extract 0 k = str ((s.drop j).take k) := str_cut _ _
theorem rest_at (s : List UInt8) (j k m : Nat) (h : s.length = j + m) : (str (s.drop j)).extract k m = str (s.drop (j + k)) := by
  have h2 := str_rest (s.drop j) k
  rw [List.length_drop, show s.length - j = m from by omega, List.drop_drop] at h2
  exact h2
theorem Take_len (s : List UInt8) (w : World) (hl : s.length ≠ 98) (hz : s.length ≤ 140737488355328) :
    Calls Try.prog 11 #[.string (str s)] w fun e w' => e = .returned (.tuple #[noHdr, .int .i64 2]) ∧ Below w.heap.size w w' := by
  have s1 := str_size s
  have h2 : ((s.length : Int) != 98) = true := by
    rw [bne, show ((s.length : Int) == 98) = false from by simp only [beq_eq_false_iff_ne, ne_eq]; omega]; rfl
  have hA := hnew w (.cells #[.int .i64 0, .string (ByteArray.mk #[]), .int .i64 0, .int .i64 0, .int .i64 0, .string (ByteArray.mk #[]), .string (ByteArray.mk #[])] 23)
  have hB := bnew w (.cells #[.int .i64 0, .string (ByteArray.mk #[]), .int .i64 0, .int .i64 0, .int .i64 0, .string (ByteArray.mk #[]), .string (ByteArray.mk #[])] 23)
  clear hl
  go_enter Try.func11, Try.ntmps11
  go_wp2_with fail
  refine take_end rfl rfl rfl hA ⟨rfl, hB⟩
theorem refTake_len (s : List UInt8) (w : World) (hl : s.length ≠ 98) (hz : s.length ≤ 140737488355328) :
    Calls Try.prog 12 #[.string (str s)] w fun e w' => e = .returned (.tuple #[noHdr, .int .i64 2]) ∧ Below w.heap.size w w' := by
  have s1 := str_size s
  have h2 : ((s.length : Int) != 98) = true := by
    rw [bne, show ((s.length : Int) == 98) = false from by simp only [beq_eq_false_iff_ne, ne_eq]; omega]; rfl
  have hA := hnew w (.cells #[.int .i64 0, .string (ByteArray.mk #[]), .int .i64 0, .int .i64 0, .int .i64 0, .string (ByteArray.mk #[]), .string (ByteArray.mk #[])] 23)
  have hB := bnew w (.cells #[.int .i64 0, .string (ByteArray.mk #[]), .int .i64 0, .int .i64 0, .int .i64 0, .string (ByteArray.mk #[]), .string (ByteArray.mk #[])] 23)
  clear hl
  go_enter Try.func12, Try.ntmps12
  go_wp2_with fail
  refine refTake_end rfl rfl rfl hA ⟨rfl, hB⟩
theorem rt (j k : Nat) (s : List UInt8) (w : World) (hj : j + k ≤ s.length) (h1 : 1 ≤ k) (h8 : k ≤ 8) (hl : s.length = 98) :
    Calls Try.prog 21 #[.string (str (s.drop j)), .int .i64 (k : Int)] w fun e w' => e = .returned (.tuple #[.int .i64 (bev ((s.drop j).take k)), .string (str (s.drop (j + k))), .int .i64 0]) ∧ Below w.heap.size w w' := by
  have h := refTake_any (str (s.drop j)) k w (by rw [str_size, List.length_drop]; unfold maxLen; omega)
  rw [tk_at s j k hj h1 h8] at h
  exact h
theorem rtId (s : List UInt8) (w : World) (hl : s.length = 98) : Calls Try.prog 21 #[.string (str (s.drop 4)), .int .i64 4] w fun e w' => e = .returned (.tuple #[.int .i64 (pId s), .string (str (s.drop 8)), .int .i64 0]) ∧ Below w.heap.size w w' := rt 4 4 s w (by omega) (by omega) (by omega) hl
theorem rtN (s : List UInt8) (w : World) (hl : s.length = 98) : Calls Try.prog 21 #[.string (str (s.drop 24)), .int .i64 2] w fun e w' => e = .returned (.tuple #[.int .i64 (pN s), .string (str (s.drop 26)), .int .i64 0]) ∧ Below w.heap.size w w' := rt 24 2 s w (by omega) (by omega) (by omega) hl
theorem rtB (s : List UInt8) (w : World) (hl : s.length = 98) : Calls Try.prog 21 #[.string (str (s.drop 26)), .int .i64 4] w fun e w' => e = .returned (.tuple #[.int .i64 (pB s), .string (str (s.drop 30)), .int .i64 0]) ∧ Below w.heap.size w w' := rt 26 4 s w (by omega) (by omega) (by omega) hl
theorem rtRaw (s : List UInt8) (w : World) (hl : s.length = 98) : Calls Try.prog 21 #[.string (str (s.drop 30)), .int .i64 4] w fun e w' => e = .returned (.tuple #[.int .i64 (pRaw s), .string (str (s.drop 34)), .int .i64 0]) ∧ Below w.heap.size w w' := rt 30 4 s w (by omega) (by omega) (by omega) hl
theorem pSalt_of (s : List UInt8) : (str (s.drop 8)).extract 0 16 = str (pSalt s) := str_cut _ _
theorem pRoot_of (s : List UInt8) : (str (s.drop 34)).extract 0 32 = str (pRoot s) := str_cut _ _
theorem pTag_of (s : List UInt8) (h : s.length = 98) : (str (s.drop 34)).extract 32 64 = str (pTag s) := rest_at s 34 32 64 (by omega)
attribute [local irreducible] str beL hF hMark pId pSalt pN pB pRaw pRoot pTag tkV tkE

set_option maxRecDepth 100000 in
set_option maxHeartbeats 4000000 in
theorem refTake_98 (s : List UInt8) (w : World) (hl : s.length = 98) :
    Calls Try.prog 12 #[.string (str s)] w fun e w' => e = .returned (.tuple #[tkV s, .int .i64 (tkE s)]) ∧ Below w.heap.size w w' := by
  have s1 := str_size s
  rw [hl] at s1
  have hA := hnew w (.cells #[.int .i64 0, .string (ByteArray.mk #[]), .int .i64 0, .int .i64 0, .int .i64 0, .string (ByteArray.mk #[]), .string (ByteArray.mk #[])] 23)
  have hB := bnew w (.cells #[.int .i64 0, .string (ByteArray.mk #[]), .int .i64 0, .int .i64 0, .int .i64 0, .string (ByteArray.mk #[]), .string (ByteArray.mk #[])] 23)
  have eM := lit_hMark
  have e0 := str_cut s 4
  have ht := str_tlH (s.take 4) hMark
  by_cases hm : s.take 4 = hMark
  · rw [decide_eq_true hm] at ht
    have e1 := str_rest s 4
    rw [hl] at e1
    have s8 : (str (s.drop 8)).size = 90 := by rw [str_size, List.length_drop]; omega
    have s34 : (str (s.drop 34)).size = 64 := by rw [str_size, List.length_drop]; omega
    have e2 := pSalt_of s
    have e3 : (str (s.drop 8)).extract 16 90 = str (s.drop 24) := rest_at s 8 16 90 (by omega)
    have e4 := pRoot_of s
    have e5 := pTag_of s hl
    have H1 := Kept.mk (fun w' => rtId s w' hl)
    have H2 := Kept.mk (fun w' => rtN s w' hl)
    have H3 := Kept.mk (fun w' => rtB s w' hl)
    have H4 := Kept.mk (fun w' => rtRaw s w' hl)
    go_enter Try.func12, Try.ntmps12
    go_upto_region 1 with fail
    generalize w.alloc (.cells #[.int .i64 0, .string (ByteArray.mk #[]), .int .i64 0, .int .i64 0, .int .i64 0, .string (ByteArray.mk #[]), .string (ByteArray.mk #[])] 23) = W1 at *
    have HA := Kept.mk hA
    clear hA
    go_wp2_with fail
    with_reducible refine (H1.out _).mono ?_
    rintro e w2 ⟨rfl, b⟩
    have b2 := bnext hB b
    have hA := hkept HA.out b
    have HA := Kept.mk hA
    clear b hB hA
    go_wp2_with fail
    with_reducible refine (H2.out _).mono ?_
    rintro e w3 ⟨rfl, b⟩
    have b3 := bnext b2 b
    have hA := hkept HA.out b
    have HA := Kept.mk hA
    clear b b2 hA
    go_wp2_with fail
    with_reducible refine (H3.out _).mono ?_
    rintro e w4 ⟨rfl, b⟩
    have b4 := bnext b3 b
    have hA := hkept HA.out b
    have HA := Kept.mk hA
    clear b b3 hA
    go_wp2_with fail
    with_reducible refine (H4.out _).mono ?_
    rintro e w5 ⟨rfl, b⟩
    have b5 := bnext b4 b
    have hA := hkept HA.out b
    have HA := Kept.mk hA
    clear b b4 hA H1 H2 H3 H4
    go_upto_region 8 with fail
    go_region_held3 (fun w' => True)
      (first | trivial)
      (first | fail)
    have hg8 : (w5.alloc (.cells #[.int .i64 (pId s), .string (str (pSalt s)), .int .i64 (pN s), .int .i64 (pB s), .int .i64 (pRaw s), .string (str (pRoot s)), .string (str (pTag s))] 23)).drew.heap[w5.heap.size]? = some (.cells #[.int .i64 (pId s), .string (str (pSalt s)), .int .i64 (pN s), .int .i64 (pB s), .int .i64 (pRaw s), .string (str (pRoot s)), .string (str (pTag s))] 23 (0, 0)) := hnew _ _
    have k8 := (bnew w5 (.cells #[.int .i64 (pId s), .string (str (pSalt s)), .int .i64 (pN s), .int .i64 (pB s), .int .i64 (pRaw s), .string (str (pRoot s)), .string (str (pTag s))] 23)).drew
    have hA8 := hkept HA.out k8
    have HB8 := Kept.mk (bnext b5 k8)
    clear k8 b5
    generalize (w5.alloc (.cells #[.int .i64 (pId s), .string (str (pSalt s)), .int .i64 (pN s), .int .i64 (pB s), .int .i64 (pRaw s), .string (str (pRoot s)), .string (str (pTag s))] 23)).drew = W8 at *
    obtain ⟨c0, c1, c2, c3, c4, c5, c6⟩ := seven_at hg8
    have HG8 := Kept.mk hg8
    have HA8 := Kept.mk hA8
    obtain ⟨q1, q2, q3⟩ := pLens s
    clear hg8 hA8 HA s1 e0 e1 e2 e3 e4 e5 s8 s34
    by_cases hy : hMay (pId s) (pSalt s) (pN s) (pB s) (pRaw s) (pRoot s) (pTag s)
    · have hi : hIs s := ⟨hl, hm, hy⟩
      have HR := Kept.mk (tk_yes hi)
      have HC := Kept.mk (fun w' => May_yes (pId s) (pSalt s) (pN s) (pB s) (pRaw s) (pRoot s) (pTag s) w' hy)
      clear hy hi hm
      go_wp2_with fail
      with_reducible refine (HC.out _).mono ?_
      rintro e w3 ⟨rfl, bb⟩
      have hA3 := hkept HA8.out bb
      have hg3 := hkept HG8.out bb
      have HB3 := Kept.mk (bnext HB8.out bb)
      clear bb c0 c1 c2 c3 c4 c5 c6
      obtain ⟨c0, c1, c2, c3, c4, c5, c6⟩ := seven_at hg3
      obtain ⟨d0, d1, d2, d3, d4, d5, d6⟩ := seven_at hA3
      obtain ⟨f0, f1, f2, f3, f4, f5, f6⟩ := seven_free hA3
      go_wp2_with fail
      refine refTake_end rfl rfl rfl (seven_cells _ _ _ _ _ _ _ _ _ _ _ _ _ _ _ _ _ hA3) ⟨by rw [HR.out.1, HR.out.2]; rfl, ?_⟩
      exact ((((((HB3.out.setCell (Nat.le_refl _) _).setCell (Nat.le_refl _) _).setCell (Nat.le_refl _) _).setCell (Nat.le_refl _) _).setCell (Nat.le_refl _) _).setCell (Nat.le_refl _) _).setCell (Nat.le_refl _) _
    · have hi : ¬ hIs s := fun h => hy h.2.2
      have HR := Kept.mk (tk_no hi)
      have HC := Kept.mk (fun w' => May_no (pId s) (pSalt s) (pN s) (pB s) (pRaw s) (pRoot s) (pTag s) w' hy (by omega) (by omega) (by omega))
      clear hy hi hm
      go_wp2_with fail
      with_reducible refine (HC.out _).mono ?_
      rintro e w3 ⟨rfl, bb⟩
      have hA3 := hkept HA8.out bb
      have hg3 := hkept HG8.out bb
      have HB3 := Kept.mk (bnext HB8.out bb)
      clear bb c0 c1 c2 c3 c4 c5 c6
      obtain ⟨c0, c1, c2, c3, c4, c5, c6⟩ := seven_at hg3
      obtain ⟨d0, d1, d2, d3, d4, d5, d6⟩ := seven_at hA3
      obtain ⟨f0, f1, f2, f3, f4, f5, f6⟩ := seven_free hA3
      go_wp2_with fail
      refine refTake_end rfl rfl rfl (seven_cells _ _ _ _ _ _ _ _ _ _ _ _ _ _ _ _ _ hA3) ⟨by rw [HR.out.1, HR.out.2]; rfl, ?_⟩
      exact ((((((HB3.out.setCell (Nat.le_refl _) _).setCell (Nat.le_refl _) _).setCell (Nat.le_refl _) _).setCell (Nat.le_refl _) _).setCell (Nat.le_refl _) _).setCell (Nat.le_refl _) _).setCell (Nat.le_refl _) _
  · rw [decide_eq_false hm] at ht
    have hi : ¬ hIs s := fun h => hm h.2.1
    have HR := Kept.mk (tk_no hi)
    clear hi hm
    go_enter Try.func12, Try.ntmps12
    go_wp2_with fail
    refine refTake_end rfl rfl rfl hA ⟨by rw [HR.out.1, HR.out.2]; rfl, hB⟩
end Go.Proofs.Ytabeehljpdehcaa
