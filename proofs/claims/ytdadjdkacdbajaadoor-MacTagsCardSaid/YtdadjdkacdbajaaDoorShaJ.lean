/- SHA-256: two hashes side by side: walked by the contracts. -/
import Derived.Test.YtdadjdkacdbajaaDoorShaI
namespace Go.Proofs.YtdadjdkacdbajaaDoor
set_option linter.unusedSimpArgs false
set_option linter.unusedVariables false
set_option linter.unusedVariables false
open Go.RowKit Go.Lib
attribute [local irreducible] hcells sFold byteCells eightL gput sMix sW rnds St.add wc64 sPad sOut sSum str

set_option maxRecDepth 100000 in
set_option maxHeartbeats 4000000 in
theorem shaApart_walk (a b c : List UInt8) (w : World) (hk : KAt w) (ha : a.length ≤ 9223372036854775807) (hb : b.length ≤ 9223372036854775807) (hc : c.length ≤ 9223372036854775807) :
    Calls Tryd.prog 6 #[.string (str a), .string (str b), .string (str c)] w fun e w' => e = .returned (.bool true) ∧ Below w.heap.size w w' := by
  have sa := str_size a
  have sb := str_size b
  have sc := str_size c
  by_cases h : 5000 < a.length ∨ 5000 < b.length ∨ 5000 < c.length
  · have h3 : (5000 < a.length) ∨ (¬ 5000 < a.length ∧ 5000 < b.length) ∨ (¬ 5000 < a.length ∧ ¬ 5000 < b.length ∧ 5000 < c.length) := by omega
    rcases h3 with h1 | ⟨h1, h2⟩ | ⟨h1, h2, h3⟩
    all_goals
      go_enter Tryd.func6, Tryd.ntmps6
      go_wp2_with fail
      refine (shaAwake_any w hk).mono ?_
      rintro e w1 ⟨rfl, hb1⟩
      go_wp2_with fail
      go_ret
      exact ⟨rfl, hb1⟩
  · have h1 : ¬ 5000 < a.length := by omega
    have h2 : ¬ 5000 < b.length := by omega
    have h3 : ¬ 5000 < c.length := by omega
    have hg0 := hk.lt
    have s32 := fun l : List UInt8 => (str_size (sSum l)).trans (sSum_length l)
    have HA := Kept.mk (str_append a c)
    clear h
    go_enter Tryd.func6, Tryd.ntmps6
    go_wp2_with fail
    refine (New_any w).mono ?_
    rintro e w1 ⟨rfl, hw1⟩
    have hx : HashT w1 w.heap.size [] 0 := by rw [hw1]; exact new_hash w
    have hB : Below w.heap.size w w1 := by rw [hw1]; exact (Below.refl _ _).alloc (Nat.le_refl _) _
    have hz : w1.heap.size = w.heap.size + 1 := by rw [hw1]; simp
    have HX := Kept.mk hx
    have HB := Kept.mk hB
    have HZ := Kept.mk hz
    clear hx hB hz hw1
    go_wp2_with fail
    refine (New_any w1).mono ?_
    rintro e w2 ⟨rfl, hw2⟩
    have hx := HX.out.below (show Below w1.heap.size w1 w2 from by rw [hw2]; exact (Below.refl _ _).alloc (Nat.le_refl _) _)
    have hy : HashT w2 w1.heap.size [] 0 := by rw [hw2]; exact new_hash w1
    have hB2 : Below w.heap.size w w2 := HB.out.trans ((show Below w1.heap.size w1 w2 from by rw [hw2]; exact (Below.refl _ _).alloc (Nat.le_refl _) _).mono HB.out.size)
    have hk2 := hk.below hB2
    have hz1 := HZ.out
    obtain ⟨y, hyy⟩ : ∃ y, w1.heap.size = y := ⟨_, rfl⟩
    rw [hyy] at hy hz1 ⊢
    subst hz1
    have HX := Kept.mk hx
    have HY := Kept.mk hy
    have HB := Kept.mk hB2
    have HK := Kept.mk hk2
    clear hx hy hB2 hk2 hw2 HZ hyy hk
    go_wp2_with fail
    refine (write_first w.heap.size a w2 HX.out HK.out hg0 (by omega)).mono ?_
    rintro e w3 ⟨rfl, hx3, hb3⟩
    have hy3 := HY.out.but hb3 (by omega)
    have hB3 := below_but HB.out hb3 (Nat.le_refl _) HB.out.size
    have hk3 := HK.out.but hb3 hg0
    have HX := Kept.mk hx3
    have HY := Kept.mk hy3
    have HB := Kept.mk hB3
    have HK := Kept.mk hk3
    clear hx3 hy3 hB3 hk3 hb3
    go_wp2_with fail
    refine (write_first (w.heap.size + 1) b w3 HY.out HK.out (by omega) (by omega)).mono ?_
    rintro e w4 ⟨rfl, hy4, hb4⟩
    have hx4 := HX.out.but hb4 (by omega)
    have hB4 := below_but HB.out hb4 (by omega) HB.out.size
    have hk4 := HK.out.but hb4 (by omega)
    have HX := Kept.mk hx4
    have HY := Kept.mk hy4
    have HB := Kept.mk hB4
    have HK := Kept.mk hk4
    clear hx4 hy4 hB4 hk4 hb4
    go_wp2_with fail
    refine (write_any w.heap.size a c w4 HX.out HK.out hg0 (by omega)).mono ?_
    rintro e w5 ⟨rfl, hx5, hb5⟩
    rw [← List.length_append] at hx5
    have hy5 := HY.out.but hb5 (by omega)
    have hB5 := below_but HB.out hb5 (Nat.le_refl _) HB.out.size
    have hk5 := HK.out.but hb5 hg0
    have HX := Kept.mk hx5
    have HY := Kept.mk hy5
    have HB := Kept.mk hB5
    have HK := Kept.mk hk5
    clear hx5 hy5 hB5 hk5 hb5
    go_wp2_with fail
    refine (hashSum_any w.heap.size (a ++ c) w5 HX.out HK.out (by rw [List.length_append]; omega)).mono ?_
    rintro e w6 ⟨rfl, hb6⟩
    have hy6 := HY.out.below hb6
    have hB6 := HB.out.trans (hb6.mono HB.out.size)
    have hk6 := HK.out.below hb6
    have HY := Kept.mk hy6
    have HB := Kept.mk hB6
    have HK := Kept.mk hk6
    clear hy6 hB6 hk6 hb6
    go_wp2_with fail
    refine (hashSum_any (w.heap.size + 1) b w6 HY.out HK.out (by omega)).mono ?_
    rintro e w7 ⟨rfl, hb7⟩
    have hB7 := HB.out.trans (hb7.mono HB.out.size)
    have hk7 := HK.out.below hb7
    have HB := Kept.mk hB7
    have HK := Kept.mk hk7
    clear hB7 hk7 hb7 HY
    go_wp2_with fail
    rw [HA.out]
    refine (sum_one (a ++ c) w7 HK.out _ (by rw [List.length_append]; omega)).mono ?_
    rintro e w8 ⟨rfl, hb8⟩
    have hB8 := HB.out.trans (hb8.mono HB.out.size)
    have hk8 := HK.out.below hb8
    have HB := Kept.mk hB8
    have HK := Kept.mk hk8
    clear hB8 hk8 hb8
    go_wp2_with fail
    refine (sum_one b w8 HK.out _ (by omega)).mono ?_
    rintro e w9 ⟨rfl, hb9⟩
    have hB9 := HB.out.trans (hb9.mono HB.out.size)
    have hk9 := HK.out.below hb9
    have HB := Kept.mk hB9
    have HK := Kept.mk hk9
    clear hB9 hk9 hb9
    go_wp2_with fail
    refine (shaAwake_any w9 HK.out).mono ?_
    rintro e w10 ⟨rfl, hb10⟩
    have HB := Kept.mk (HB.out.trans (hb10.mono HB.out.size))
    clear hb10
    go_wp2_with fail
    go_ret
    exact ⟨rfl, HB.out⟩
end Go.Proofs.YtdadjdkacdbajaaDoor
