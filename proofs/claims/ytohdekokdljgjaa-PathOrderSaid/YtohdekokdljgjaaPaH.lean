/- path: any text is a path, or none, as the document says; any two texts stand in its order; what is in a folder: walked by the contracts. -/
import Derived.Test.YtohdekokdljgjaaPaG
namespace Go.Proofs.Ytohdekokdljgjaa
set_option linter.unusedVariables false
set_option linter.unusedSimpArgs false
open Go.RowKit Go.Lib
theorem chk_ok (p : List UInt8) (h : pok p = true) : chk p = 0 := by unfold chk; rw [h]; rfl
theorem chk_no (p : List UInt8) (h : pok p = false) : chk p = 5 := by unfold chk; rw [h]; rfl
attribute [local irreducible] str psp pok chk und
set_option maxRecDepth 100000 in
set_option maxHeartbeats 1000000 in
theorem pathChecks_w {w : World} (p0 : List UInt8) (hp0 : p0.length ≤ 140737488351232) :
    Calls Try.prog 6 #[.string (str p0)] w fun e w' => e = .returned (.bool true) ∧ Below w.heap.size w w' := by
  have HC := Kept.mk (lawCut_any p0 w (by omega))
  have hp : (p0.take 5000).length ≤ 5000 := by rw [List.length_take]; omega
  generalize p0.take 5000 = p at *
  go_enter Try.func6, Try.ntmps6
  go_wp2_with fail
  with_reducible refine HC.out.mono ?_
  rintro e w1 ⟨rfl, rfl⟩
  go_wp2_with fail
  with_reducible refine (check_any p w (by omega)).mono ?_
  rintro e w1 ⟨rfl, b1⟩
  cases hk : pok p with
  | true =>
    have hc := chk_ok p hk
    rw [hc]
    clear hc
    go_wp2_with fail
    with_reducible refine (may_any p w1 (by omega)).mono ?_
    rintro e w2 ⟨rfl, b2⟩
    have b2 := b1.trans (b2.mono b1.size)
    rw [hk]
    go_wp2_with fail
    with_reducible refine (may_any p w2 (by omega)).mono ?_
    rintro e w3 ⟨rfl, b3⟩
    have b3 := b2.trans (b3.mono b2.size)
    rw [hk]
    clear b1
    go_wp2_with fail
    with_reducible refine (pathAwake_any w3).mono ?_
    rintro e w4 ⟨rfl, b4⟩
    have b4 := b3.trans (b4.mono b3.size)
    clear b2
    go_wp2_with fail
    go_ret
    exact ⟨by first | rfl | simp, b4⟩
  | false =>
    have hc := chk_no p hk
    rw [hc]
    clear hc
    go_wp2_with fail
    with_reducible refine (may_any p w1 (by omega)).mono ?_
    rintro e w2 ⟨rfl, b2⟩
    have b2 := b1.trans (b2.mono b1.size)
    rw [hk]
    go_wp2_with fail
    with_reducible refine (may_any p w2 (by omega)).mono ?_
    rintro e w3 ⟨rfl, b3⟩
    have b3 := b2.trans (b3.mono b2.size)
    rw [hk]
    clear b1
    go_wp2_with fail
    with_reducible refine (check_any p w3 (by omega)).mono ?_
    rintro e w4 ⟨rfl, b4⟩
    have b4 := b3.trans (b4.mono b3.size)
    rw [chk_no p hk]
    clear b2
    go_wp2_with fail
    with_reducible refine (pathAwake_any w4).mono ?_
    rintro e w5 ⟨rfl, b5⟩
    have b5 := b4.trans (b5.mono b4.size)
    clear b3
    go_wp2_with fail
    go_ret
    exact ⟨by first | rfl | simp, b5⟩
theorem pathChecks_s {w : World} (s : ByteArray) (_hm : s.size ≤ maxLen) (hs : s.size ≤ 140737488351232) :
    Calls Try.prog 6 #[.string s] w fun e w' => e = .returned (.bool true) ∧ Below w.heap.size w w' := by
  have h := pathChecks_w (w := w) s.data.toList (by rw [Array.length_toList]; exact hs)
  rwa [str_eta] at h
set_option maxRecDepth 100000 in
set_option maxHeartbeats 1000000 in
theorem pathOrder_w {w : World} (a0 b0 : List UInt8) (ha0 : a0.length ≤ 140737488351232) (hb0 : b0.length ≤ 140737488351232) :
    Calls Try.prog 9 #[.string (str a0), .string (str b0)] w fun e w' => e = .returned (.bool true) ∧ Below w.heap.size w w' := by
  have HCA := Kept.mk (lawCut_any a0 w (by omega))
  have HCB := Kept.mk (lawCut_any b0 w (by omega))
  have hpa : (a0.take 5000).length ≤ 5000 := by rw [List.length_take]; omega
  have hpb : (b0.take 5000).length ≤ 5000 := by rw [List.length_take]; omega
  generalize a0.take 5000 = a at *
  generalize b0.take 5000 = b at *
  have HN := Kept.mk (fun w => (by have h := pCompare_any b a w; rw [cmp_neg a b] at h; exact h : Calls Try.prog 37 #[.string (str b), .string (str a)] w fun e w' => e = .returned (.int .i64 (- Lib.compareBytes a b)) ∧ w = w'))
  have HS := Kept.mk (fun w => (by have h := pCompare_any a a w; rw [cmp_self a] at h; exact h : Calls Try.prog 37 #[.string (str a), .string (str a)] w fun e w' => e = .returned (.int .i64 0) ∧ w = w'))
  have HM := Kept.mk (fun w => pCompare_any a b w)
  have HR := Kept.mk (fun w => refCompare_any a b w (by omega) (by omega))
  obtain ⟨r0, r1⟩ := cmp_range a b
  generalize Lib.compareBytes a b = k at *
  go_enter Try.func9, Try.ntmps9
  go_wp2_with fail
  with_reducible refine HCA.out.mono ?_
  rintro e w1 ⟨rfl, rfl⟩
  go_wp2_with fail
  with_reducible refine HCB.out.mono ?_
  rintro e w1 ⟨rfl, rfl⟩
  go_wp2_with fail
  with_reducible refine (HM.out w).mono ?_
  rintro e w1 ⟨rfl, rfl⟩
  go_wp2_with fail
  with_reducible refine (HR.out w).mono ?_
  rintro e w1 ⟨rfl, b1⟩
  go_wp2_with fail
  with_reducible refine (HN.out w1).mono ?_
  rintro e w2 ⟨rfl, rfl⟩
  have hw := wrap_i64_small (-k) (by omega) (by omega)
  go_wp2_with fail
  with_reducible refine (HS.out w1).mono ?_
  rintro e w2 ⟨rfl, rfl⟩
  go_wp2_with fail
  with_reducible refine (pathAwake_any w1).mono ?_
  rintro e w2 ⟨rfl, b2⟩
  have b2 := b1.trans (b2.mono b1.size)
  go_wp2_with fail
  go_ret
  exact ⟨by first | rfl | simp, b2⟩
theorem pathOrder_s {w : World} (s : ByteArray) (_hm : s.size ≤ maxLen) (hs : s.size ≤ 140737488351232) (t : ByteArray) (_hm2 : t.size ≤ maxLen) (ht : t.size ≤ 140737488351232) :
    Calls Try.prog 9 #[.string s, .string t] w fun e w' => e = .returned (.bool true) ∧ Below w.heap.size w w' := by
  have h := pathOrder_w (w := w) s.data.toList t.data.toList (by rw [Array.length_toList]; exact hs) (by rw [Array.length_toList]; exact ht)
  rwa [str_eta, str_eta] at h
set_option maxRecDepth 100000 in
set_option maxHeartbeats 1000000 in
theorem pathUnder_w {w : World} (a0 b0 : List UInt8) (ha0 : a0.length ≤ 140737488351232) (hb0 : b0.length ≤ 140737488351232) :
    Calls Try.prog 10 #[.string (str a0), .string (str b0)] w fun e w' => e = .returned (.bool true) ∧ Below w.heap.size w w' := by
  have HCA := Kept.mk (lawCut_any a0 w (by omega))
  have HCB := Kept.mk (lawCut_any b0 w (by omega))
  have hpa : (a0.take 5000).length ≤ 5000 := by rw [List.length_take]; omega
  have hpb : (b0.take 5000).length ≤ 5000 := by rw [List.length_take]; omega
  generalize a0.take 5000 = p at *
  generalize b0.take 5000 = f at *
  have HU := Kept.mk (under_any p f w (by omega) (by omega))
  have HR := Kept.mk (refUnder_any p f w (by omega) (by omega))
  have HS := Kept.mk (under_any p p w (by omega) (by omega))
  rw [und_self] at HS
  cases hu : und p f with
  | true =>
    rw [hu] at HU HR
    have HM := Kept.mk (show Calls Try.prog 37 #[.string (str f), .string (str p)] w fun e w' => e = .returned (.int .i64 (-1)) ∧ w = w' from by
      obtain ⟨r, rfl⟩ := (und_split p f).1 hu
      have h := pCompare_any f (f ++ 47 :: r) w
      rw [cmp_under] at h; exact h)
    clear hu
    go_enter Try.func10, Try.ntmps10
    go_wp2_with fail
    with_reducible refine HCA.out.mono ?_
    rintro e w1 ⟨rfl, rfl⟩
    go_wp2_with fail
    with_reducible refine HCB.out.mono ?_
    rintro e w1 ⟨rfl, rfl⟩
    go_wp2_with fail
    with_reducible refine HU.out.mono ?_
    rintro e w1 ⟨rfl, rfl⟩
    go_wp2_with fail
    with_reducible refine HR.out.mono ?_
    rintro e w1 ⟨rfl, rfl⟩
    go_wp2_with fail
    with_reducible refine HS.out.mono ?_
    rintro e w1 ⟨rfl, rfl⟩
    go_wp2_with fail
    with_reducible refine HM.out.mono ?_
    rintro e w1 ⟨rfl, rfl⟩
    go_wp2_with fail
    with_reducible refine (pathAwake_any w).mono ?_
    rintro e w2 ⟨rfl, b2⟩
    go_wp2_with fail
    go_ret
    exact ⟨by first | rfl | simp, b2⟩
  | false =>
    rw [hu] at HU HR
    clear hu
    go_enter Try.func10, Try.ntmps10
    go_wp2_with fail
    with_reducible refine HCA.out.mono ?_
    rintro e w1 ⟨rfl, rfl⟩
    go_wp2_with fail
    with_reducible refine HCB.out.mono ?_
    rintro e w1 ⟨rfl, rfl⟩
    go_wp2_with fail
    with_reducible refine HU.out.mono ?_
    rintro e w1 ⟨rfl, rfl⟩
    go_wp2_with fail
    with_reducible refine HR.out.mono ?_
    rintro e w1 ⟨rfl, rfl⟩
    go_wp2_with fail
    with_reducible refine HS.out.mono ?_
    rintro e w1 ⟨rfl, rfl⟩
    go_wp2_with fail
    with_reducible refine (pathAwake_any w).mono ?_
    rintro e w2 ⟨rfl, b2⟩
    go_wp2_with fail
    go_ret
    exact ⟨by first | rfl | simp, b2⟩
theorem pathUnder_s {w : World} (s : ByteArray) (_hm : s.size ≤ maxLen) (hs : s.size ≤ 140737488351232) (t : ByteArray) (_hm2 : t.size ≤ maxLen) (ht : t.size ≤ 140737488351232) :
    Calls Try.prog 10 #[.string s, .string t] w fun e w' => e = .returned (.bool true) ∧ Below w.heap.size w w' := by
  have h := pathUnder_w (w := w) s.data.toList t.data.toList (by rw [Array.length_toList]; exact hs) (by rw [Array.length_toList]; exact ht)
  rwa [str_eta, str_eta] at h
end Go.Proofs.Ytohdekokdljgjaa
