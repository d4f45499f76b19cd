/- Trees of sums: checks, walked by the contracts. -/
import Derived.Test.YtfplagbjcilpjaaDoorMerT
namespace Go.Proofs.YtfplagbjcilpjaaDoor
set_option linter.unusedVariables false
set_option linter.unusedSimpArgs false
open Go.RowKit Go.Lib
attribute [local irreducible] str sSum wid tS tLeaf tNode cutN strs bls tUp uS uE chkE
set_option maxRecDepth 100000 in
set_option maxHeartbeats 8000000 in
theorem merChecks_w {W : World} (w : Int) (hw : (Lit.int .i64 w).wf = true) (i : Int) (hi : (Lit.int .i64 i).wf = true) (n : Int) (hn : (Lit.int .i64 n).wf = true) (leaf : List UInt8) (hleaf : leaf.length ≤ 140737488351232) (root : List UInt8) (hroot : root.length ≤ 140737488351232) (A : Option Addr) (c : Nat) (ls : List (List UInt8)) (hl : ls.length ≤ 9223372036854775807) (hP : RowAt W A (strs ls) ∧ (∀ l ∈ ls, l.length ≤ 9223372036854775807) ∧ ls.length ≤ c ∧ c ≤ 9223372036854775807) (hk : KAt W) :
    Calls Tryd.prog 6 #[.int .i64 w, .int .i64 i, .int .i64 n, .string (str leaf), .string (str root), .slice A ls.length c] W fun e w' => e = .returned (.bool true) ∧ Below W.heap.size W w' := by
  obtain ⟨hr, hle, hlc, hc⟩ := hP
  have HF := Kept.mk (fewM_any A c ls W hr hl hle hlc hc)
  have sl := str_size leaf
  have sr := str_size root
  clear hle
  by_cases hl1 : 1000 < leaf.length
  · have hl1i : (1000 : Int) < (leaf.length : Int) := by omega
    go_enter Tryd.func6, Tryd.ntmps6
    go_wp2_with fail
    with_reducible refine HF.out.mono ?_
    rintro e w1 ⟨k, hk1, hk2, hk3, rfl, rfl⟩
    go_wp2_with fail
    with_reducible refine (merAwake_any W hk).mono ?_
    rintro e w1 ⟨rfl, b1⟩
    go_wp2_with fail
    go_ret
    exact ⟨rfl, b1⟩
  · have hl1i : ¬ (1000 : Int) < (leaf.length : Int) := by omega
    by_cases hl2 : 1000 < root.length
    · have hl2i : (1000 : Int) < (root.length : Int) := by omega
      go_enter Tryd.func6, Tryd.ntmps6
      go_wp2_with fail
      with_reducible refine HF.out.mono ?_
      rintro e w1 ⟨k, hk1, hk2, hk3, rfl, rfl⟩
      go_wp2_with fail
      with_reducible refine (merAwake_any W hk).mono ?_
      rintro e w1 ⟨rfl, b1⟩
      go_wp2_with fail
      go_ret
      exact ⟨rfl, b1⟩
    · have hl2i : ¬ (1000 : Int) < (root.length : Int) := by omega
      have hm := and_mask n 12 (by omega) 4095 rfl
      simp only [Int.reducePow, Nat.reducePow] at hm
      obtain ⟨m, hmm⟩ : ∃ m : Nat, n % ((4096 : Nat) : Int) = m := ⟨(n % 4096).toNat, by omega⟩
      rw [hmm] at hm
      have hm1 : m ≤ 4095 := by omega
      clear hmm
      have HK := Kept.mk (fun w' (hb : Below W.heap.size W w') => hk.below hb)
      have HAW := Kept.mk (fun w' (hb : Below W.heap.size W w') => merAwake_any w' (hk.below hb))
      have HUPS := Kept.mk (fun (k : Nat) (hk1 : k ≤ ls.length) (hk2 : k ≤ 70) (hk3 : (ls.take k).flatten.length ≤ 20000) (q : Int) (hq : q ≤ 1099511627776) => ups_some w i q leaf A c (ls.take k) W hk hq (by omega) (strs_take ls k ▸ hr.take k) (by rw [List.length_take]; omega) (fun b hb => by have := elem_le (ls.take k) 20000 hk3 b hb; omega) (by rw [List.length_take]; omega))
      clear hk hr hl hlc hc hn hi hw hleaf hroot
      by_cases hb : 4096 < n
      · have hm4 : (m : Int) ≤ 4095 := by omega
        go_enter Tryd.func6, Tryd.ntmps6
        go_wp2_with fail
        with_reducible refine HF.out.mono ?_
        rintro e w1 ⟨k, hk1, hk2, hk3, rfl, rfl⟩
        obtain ⟨S, E, hE, hA, hB⟩ := HUPS.out k hk1 hk2 hk3 m (by omega)
        have hkl : (ls.take k).length = k := by rw [List.length_take]; omega
        rw [hkl] at hA hB
        have HA := Kept.mk hA
        have HB := Kept.mk hB
        have HCK := Kept.mk (fun W' hb => Check_of w i m root leaf S E A k c W' (hA W' hb))
        have HCS := Kept.mk (fun W' hb => Check_of w i m S leaf S E A k c W' (hA W' hb))
        clear hA hB hkl HUPS HF hk1 hk2 hk3
        rcases hE with rfl | rfl | rfl
        · by_cases hS : S = root
          · subst hS
            rw [chk_same] at HCK
            rw [chk_same] at HCS
            go_wp2_with fail
            with_reducible refine (HA.out W (Below.refl _ _)).mono ?_
            rintro e w1 ⟨rfl, b1⟩
            have HB1 := Kept.mk b1
            clear b1
            go_wp2_with fail
            with_reducible refine (HB.out w1 HB1.out).mono ?_
            rintro e w2 ⟨rfl, b2⟩
            have HB2 := Kept.mk (HB1.out.trans (b2.mono HB1.out.size))
            clear b2 HB1
            go_wp2_with fail
            with_reducible refine (HCK.out w2 HB2.out).mono ?_
            rintro e w3 ⟨rfl, b3⟩
            have HB3 := Kept.mk (HB2.out.trans (b3.mono HB2.out.size))
            clear b3 HB2
            go_wp2_with fail
            with_reducible refine (HCS.out w3 HB3.out).mono ?_
            rintro e w4 ⟨rfl, b4⟩
            have HB3 := Kept.mk (HB3.out.trans (b4.mono HB3.out.size))
            clear b4
            go_wp2_with fail
            with_reducible refine (HAW.out w4 HB3.out).mono ?_
            rintro e w5 ⟨rfl, b5⟩
            have HB5 := Kept.mk (HB3.out.trans (b5.mono HB3.out.size))
            clear b5
            go_wp2_with fail
            go_ret
            exact ⟨rfl, HB5.out⟩
          · rw [chk_other hS] at HCK
            rw [chk_same] at HCS
            have hnb := str_other hS
            go_wp2_with fail
            with_reducible refine (HA.out W (Below.refl _ _)).mono ?_
            rintro e w1 ⟨rfl, b1⟩
            have HB1 := Kept.mk b1
            clear b1
            go_wp2_with fail
            with_reducible refine (HB.out w1 HB1.out).mono ?_
            rintro e w2 ⟨rfl, b2⟩
            have HB2 := Kept.mk (HB1.out.trans (b2.mono HB1.out.size))
            clear b2 HB1
            go_wp2_with fail
            with_reducible refine (HCK.out w2 HB2.out).mono ?_
            rintro e w3 ⟨rfl, b3⟩
            have HB3 := Kept.mk (HB2.out.trans (b3.mono HB2.out.size))
            clear b3 HB2
            go_wp2_with fail
            with_reducible refine (HCS.out w3 HB3.out).mono ?_
            rintro e w4 ⟨rfl, b4⟩
            have HB3 := Kept.mk (HB3.out.trans (b4.mono HB3.out.size))
            clear b4
            go_wp2_with fail
            with_reducible refine (HAW.out w4 HB3.out).mono ?_
            rintro e w5 ⟨rfl, b5⟩
            have HB5 := Kept.mk (HB3.out.trans (b5.mono HB3.out.size))
            clear b5
            go_wp2_with fail
            go_ret
            exact ⟨rfl, HB5.out⟩
        · rw [chk_err (by decide)] at HCK
          go_wp2_with fail
          with_reducible refine (HA.out W (Below.refl _ _)).mono ?_
          rintro e w1 ⟨rfl, b1⟩
          have HB1 := Kept.mk b1
          clear b1
          go_wp2_with fail
          with_reducible refine (HB.out w1 HB1.out).mono ?_
          rintro e w2 ⟨rfl, b2⟩
          have HB2 := Kept.mk (HB1.out.trans (b2.mono HB1.out.size))
          clear b2 HB1
          go_wp2_with fail
          with_reducible refine (HCK.out w2 HB2.out).mono ?_
          rintro e w3 ⟨rfl, b3⟩
          have HB3 := Kept.mk (HB2.out.trans (b3.mono HB2.out.size))
          clear b3 HB2
          go_wp2_with fail
          with_reducible refine (HAW.out w3 HB3.out).mono ?_
          rintro e w5 ⟨rfl, b5⟩
          have HB5 := Kept.mk (HB3.out.trans (b5.mono HB3.out.size))
          clear b5
          go_wp2_with fail
          go_ret
          exact ⟨rfl, HB5.out⟩
        · rw [chk_err (by decide)] at HCK
          go_wp2_with fail
          with_reducible refine (HA.out W (Below.refl _ _)).mono ?_
          rintro e w1 ⟨rfl, b1⟩
          have HB1 := Kept.mk b1
          clear b1
          go_wp2_with fail
          with_reducible refine (HB.out w1 HB1.out).mono ?_
          rintro e w2 ⟨rfl, b2⟩
          have HB2 := Kept.mk (HB1.out.trans (b2.mono HB1.out.size))
          clear b2 HB1
          go_wp2_with fail
          with_reducible refine (HCK.out w2 HB2.out).mono ?_
          rintro e w3 ⟨rfl, b3⟩
          have HB3 := Kept.mk (HB2.out.trans (b3.mono HB2.out.size))
          clear b3 HB2
          go_wp2_with fail
          with_reducible refine (HAW.out w3 HB3.out).mono ?_
          rintro e w5 ⟨rfl, b5⟩
          have HB5 := Kept.mk (HB3.out.trans (b5.mono HB3.out.size))
          clear b5
          go_wp2_with fail
          go_ret
          exact ⟨rfl, HB5.out⟩
      · have hb2 : n ≤ 4096 := by omega
        go_enter Tryd.func6, Tryd.ntmps6
        go_wp2_with fail
        with_reducible refine HF.out.mono ?_
        rintro e w1 ⟨k, hk1, hk2, hk3, rfl, rfl⟩
        obtain ⟨S, E, hE, hA, hB⟩ := HUPS.out k hk1 hk2 hk3 n (by omega)
        have hkl : (ls.take k).length = k := by rw [List.length_take]; omega
        rw [hkl] at hA hB
        have HA := Kept.mk hA
        have HB := Kept.mk hB
        have HCK := Kept.mk (fun W' hb => Check_of w i n root leaf S E A k c W' (hA W' hb))
        have HCS := Kept.mk (fun W' hb => Check_of w i n S leaf S E A k c W' (hA W' hb))
        clear hA hB hkl HUPS HF hk1 hk2 hk3
        rcases hE with rfl | rfl | rfl
        · by_cases hS : S = root
          · subst hS
            rw [chk_same] at HCK
            rw [chk_same] at HCS
            go_wp2_with fail
            with_reducible refine (HA.out W (Below.refl _ _)).mono ?_
            rintro e w1 ⟨rfl, b1⟩
            have HB1 := Kept.mk b1
            clear b1
            go_wp2_with fail
            with_reducible refine (HB.out w1 HB1.out).mono ?_
            rintro e w2 ⟨rfl, b2⟩
            have HB2 := Kept.mk (HB1.out.trans (b2.mono HB1.out.size))
            clear b2 HB1
            go_wp2_with fail
            with_reducible refine (HCK.out w2 HB2.out).mono ?_
            rintro e w3 ⟨rfl, b3⟩
            have HB3 := Kept.mk (HB2.out.trans (b3.mono HB2.out.size))
            clear b3 HB2
            go_wp2_with fail
            with_reducible refine (HCS.out w3 HB3.out).mono ?_
            rintro e w4 ⟨rfl, b4⟩
            have HB3 := Kept.mk (HB3.out.trans (b4.mono HB3.out.size))
            clear b4
            go_wp2_with fail
            with_reducible refine (HAW.out w4 HB3.out).mono ?_
            rintro e w5 ⟨rfl, b5⟩
            have HB5 := Kept.mk (HB3.out.trans (b5.mono HB3.out.size))
            clear b5
            go_wp2_with fail
            go_ret
            exact ⟨rfl, HB5.out⟩
          · rw [chk_other hS] at HCK
            rw [chk_same] at HCS
            have hnb := str_other hS
            go_wp2_with fail
            with_reducible refine (HA.out W (Below.refl _ _)).mono ?_
            rintro e w1 ⟨rfl, b1⟩
            have HB1 := Kept.mk b1
            clear b1
            go_wp2_with fail
            with_reducible refine (HB.out w1 HB1.out).mono ?_
            rintro e w2 ⟨rfl, b2⟩
            have HB2 := Kept.mk (HB1.out.trans (b2.mono HB1.out.size))
            clear b2 HB1
            go_wp2_with fail
            with_reducible refine (HCK.out w2 HB2.out).mono ?_
            rintro e w3 ⟨rfl, b3⟩
            have HB3 := Kept.mk (HB2.out.trans (b3.mono HB2.out.size))
            clear b3 HB2
            go_wp2_with fail
            with_reducible refine (HCS.out w3 HB3.out).mono ?_
            rintro e w4 ⟨rfl, b4⟩
            have HB3 := Kept.mk (HB3.out.trans (b4.mono HB3.out.size))
            clear b4
            go_wp2_with fail
            with_reducible refine (HAW.out w4 HB3.out).mono ?_
            rintro e w5 ⟨rfl, b5⟩
            have HB5 := Kept.mk (HB3.out.trans (b5.mono HB3.out.size))
            clear b5
            go_wp2_with fail
            go_ret
            exact ⟨rfl, HB5.out⟩
        · rw [chk_err (by decide)] at HCK
          go_wp2_with fail
          with_reducible refine (HA.out W (Below.refl _ _)).mono ?_
          rintro e w1 ⟨rfl, b1⟩
          have HB1 := Kept.mk b1
          clear b1
          go_wp2_with fail
          with_reducible refine (HB.out w1 HB1.out).mono ?_
          rintro e w2 ⟨rfl, b2⟩
          have HB2 := Kept.mk (HB1.out.trans (b2.mono HB1.out.size))
          clear b2 HB1
          go_wp2_with fail
          with_reducible refine (HCK.out w2 HB2.out).mono ?_
          rintro e w3 ⟨rfl, b3⟩
          have HB3 := Kept.mk (HB2.out.trans (b3.mono HB2.out.size))
          clear b3 HB2
          go_wp2_with fail
          with_reducible refine (HAW.out w3 HB3.out).mono ?_
          rintro e w5 ⟨rfl, b5⟩
          have HB5 := Kept.mk (HB3.out.trans (b5.mono HB3.out.size))
          clear b5
          go_wp2_with fail
          go_ret
          exact ⟨rfl, HB5.out⟩
        · rw [chk_err (by decide)] at HCK
          go_wp2_with fail
          with_reducible refine (HA.out W (Below.refl _ _)).mono ?_
          rintro e w1 ⟨rfl, b1⟩
          have HB1 := Kept.mk b1
          clear b1
          go_wp2_with fail
          with_reducible refine (HB.out w1 HB1.out).mono ?_
          rintro e w2 ⟨rfl, b2⟩
          have HB2 := Kept.mk (HB1.out.trans (b2.mono HB1.out.size))
          clear b2 HB1
          go_wp2_with fail
          with_reducible refine (HCK.out w2 HB2.out).mono ?_
          rintro e w3 ⟨rfl, b3⟩
          have HB3 := Kept.mk (HB2.out.trans (b3.mono HB2.out.size))
          clear b3 HB2
          go_wp2_with fail
          with_reducible refine (HAW.out w3 HB3.out).mono ?_
          rintro e w5 ⟨rfl, b5⟩
          have HB5 := Kept.mk (HB3.out.trans (b5.mono HB3.out.size))
          clear b5
          go_wp2_with fail
          go_ret
          exact ⟨rfl, HB5.out⟩
end Go.Proofs.YtfplagbjcilpjaaDoor
