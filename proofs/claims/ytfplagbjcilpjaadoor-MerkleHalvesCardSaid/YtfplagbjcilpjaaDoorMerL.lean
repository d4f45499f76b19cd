/- Trees of sums: sums and roots, walked by the contracts. -/
import Derived.Test.YtfplagbjcilpjaaDoorMerK
namespace Go.Proofs.YtfplagbjcilpjaaDoor
set_option linter.unusedVariables false
set_option linter.unusedSimpArgs false
open Go.RowKit Go.Lib
attribute [local irreducible] str sSum wid tS tLeaf tNode cutN strs
set_option maxRecDepth 100000 in
set_option maxHeartbeats 4000000 in
theorem merSums_w {W : World} (w : Int) (hw : (Lit.int .i64 w).wf = true) (a : List UInt8) (ha : a.length ≤ 140737488351232) (b : List UInt8) (hb : b.length ≤ 140737488351232) (hk : KAt W) :
    Calls Tryd.prog 3 #[.int .i64 w, .string (str a), .string (str b)] W fun e w' => e = .returned (.bool true) ∧ Below W.heap.size W w' := by
  have sa := str_size a
  have sb := str_size b
  by_cases h1 : 5000 < a.length
  · have h1i : (5000 : Int) < (a.length : Int) := by omega
    go_enter Tryd.func3, Tryd.ntmps3
    go_wp2_with fail
    with_reducible refine (merAwake_any W hk).mono ?_
    rintro e w1 ⟨rfl, b1⟩
    go_wp2_with fail
    go_ret
    exact ⟨rfl, b1⟩
  · have h1i : ¬ (5000 : Int) < (a.length : Int) := by omega
    by_cases h2 : 5000 < b.length
    · have h2i : (5000 : Int) < (b.length : Int) := by omega
      go_enter Tryd.func3, Tryd.ntmps3
      go_wp2_with fail
      with_reducible refine (merAwake_any W hk).mono ?_
      rintro e w1 ⟨rfl, b1⟩
      go_wp2_with fail
      go_ret
      exact ⟨rfl, b1⟩
    · have h2i : ¬ (5000 : Int) < (b.length : Int) := by omega
      have hap := str_append a b
      have hla : (a ++ b).length ≤ 10000 := by rw [List.length_append]; omega
      have HS2 := Kept.mk (Sum_2 w a b W 9 hk (by omega))
      have HRS := Kept.mk (fun W => refMSum_any w (a ++ b) W (by omega))
      have HL := Kept.mk (fun W hk => Leaf_any w a W hk (by omega))
      have HRL := Kept.mk (fun W => refLeaf_any w a W (by omega))
      have HN := Kept.mk (fun W hk => Node_any w a b W hk (by omega))
      have HRN := Kept.mk (fun W => refNode_any w a b W (by omega))
      have HK := Kept.mk hk
      clear hk
      generalize a ++ b = ab at *
      generalize tS (wid w) ab = s at *
      generalize tLeaf (wid w) a = l at *
      generalize tNode (wid w) a b = n at *
      go_enter Tryd.func3, Tryd.ntmps3
      go_wp2_with fail
      with_reducible refine (Width_any w W).mono ?_
      rintro e w1 ⟨rfl, rfl⟩
      go_wp2_with fail
      with_reducible refine (refWidth_any w W).mono ?_
      rintro e w1 ⟨rfl, rfl⟩
      go_wp2_with fail
      with_reducible refine HS2.out.mono ?_
      rintro e w1 ⟨rfl, b1⟩
      go_wp2_with fail
      with_reducible refine (HRS.out w1).mono ?_
      rintro e w2 ⟨rfl, b2⟩
      have b2 := b1.trans (b2.mono b1.size)
      clear b1
      go_wp2_with fail
      with_reducible refine (HL.out w2 (HK.out.below b2)).mono ?_
      rintro e w3 ⟨rfl, b3⟩
      have b3 := b2.trans (b3.mono b2.size)
      clear b2
      go_wp2_with fail
      with_reducible refine (HRL.out w3).mono ?_
      rintro e w4 ⟨rfl, b4⟩
      have b4 := b3.trans (b4.mono b3.size)
      clear b3
      go_wp2_with fail
      with_reducible refine (HN.out w4 (HK.out.below b4)).mono ?_
      rintro e w5 ⟨rfl, b5⟩
      have b5 := b4.trans (b5.mono b4.size)
      clear b4
      go_wp2_with fail
      with_reducible refine (HRN.out w5).mono ?_
      rintro e w6 ⟨rfl, b6⟩
      have b6 := b5.trans (b6.mono b5.size)
      clear b5
      go_wp2_with fail
      with_reducible refine (merAwake_any w6 (HK.out.below b6)).mono ?_
      rintro e w7 ⟨rfl, b7⟩
      have b7 := b6.trans (b7.mono b6.size)
      clear b6
      go_wp2_with fail
      go_ret
      exact ⟨rfl, b7⟩
set_option maxRecDepth 100000 in
set_option maxHeartbeats 4000000 in
theorem merRoots_w {W : World} (w : Int) (hw : (Lit.int .i64 w).wf = true) (A : Option Addr) (c : Nat) (ls : List (List UInt8)) (hl : ls.length ≤ 9223372036854775807) (hP : RowAt W A (strs ls) ∧ (∀ l ∈ ls, l.length ≤ 9223372036854775807) ∧ ls.length ≤ c ∧ c ≤ 9223372036854775807) (n : Int) (hn : (Lit.int .i64 n).wf = true) (hk : KAt W) :
    Calls Tryd.prog 4 #[.int .i64 w, .slice A ls.length c, .int .i64 n] W fun e w' => e = .returned (.bool true) ∧ Below W.heap.size W w' := by
  obtain ⟨hr, hle, hlc, hc⟩ := hP
  have HF := Kept.mk (fewM_any A c ls W hr hl hle hlc hc)
  have h1 := and_mask n 10 (by omega) 1023 rfl
  simp only [Int.reducePow, Nat.reducePow] at h1
  obtain ⟨p, hp⟩ : ∃ p : Nat, n % ((1024 : Nat) : Int) = p := ⟨(n % 1024).toNat, by omega⟩
  rw [hp] at h1
  have p1 : p ≤ 1023 := by omega
  clear hp hle hn
  go_enter Tryd.func4, Tryd.ntmps4
  go_wp2_with fail
  with_reducible refine HF.out.mono ?_
  rintro e w1 ⟨k, hk1, hk2, hk3, rfl, rfl⟩
  clear HF
  have hkl : (ls.take k).length = k := by rw [List.length_take]; omega
  have hel := elem_le (ls.take k) 20000 hk3
  have HA := Kept.mk (Root_any w k A c (ls.take k) W hkl (strs_take ls k ▸ hr.take k) hk (fun l h => by have := hel l h; omega) (by rw [hkl]; omega) (by rw [hkl]; omega))
  have HB := Kept.mk (fun (w' : World) (hb : Below W.heap.size W w') => refRoot_any w k A c (ls.take k) w' hkl (strs_take ls k ▸ (hr.below hb).take k) (fun l h => by have := hel l h; omega) (by rw [hkl]; omega) (by rw [hkl]; omega))
  rw [hkl] at HA HB
  have HC := Kept.mk (fun w => Cut_any p w (by omega))
  have HD := Kept.mk (fun w => refCut_any p w (by omega))
  have HK := Kept.mk (fun w' (hb : Below W.heap.size W w') => hk.below hb)
  clear hr hk hel hkl hk3
  generalize tRoot (wid w) (ls.take k) = r at *
  generalize cutN p = q at *
  go_wp2_with fail
  with_reducible refine HA.out.mono ?_
  rintro e w1 ⟨rfl, b1⟩
  go_wp2_with fail
  with_reducible refine (HB.out w1 b1).mono ?_
  rintro e w2 ⟨rfl, b2⟩
  have b2 := b1.trans (b2.mono b1.size)
  clear b1
  go_wp2_with fail
  with_reducible refine (HC.out w2).mono ?_
  rintro e w3 ⟨rfl, rfl⟩
  go_wp2_with fail
  with_reducible refine (HD.out w2).mono ?_
  rintro e w3 ⟨rfl, rfl⟩
  go_wp2_with fail
  with_reducible refine (merAwake_any w2 (HK.out w2 b2)).mono ?_
  rintro e w3 ⟨rfl, b3⟩
  have b3 := b2.trans (b3.mono b2.size)
  clear b2
  go_wp2_with fail
  go_ret
  exact ⟨rfl, b3⟩
end Go.Proofs.YtfplagbjcilpjaaDoor
