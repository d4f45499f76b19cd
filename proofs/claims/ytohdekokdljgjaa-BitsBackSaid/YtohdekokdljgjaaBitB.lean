/- bits: the chapter's examples; of a writer and a reader that are none there is nothing: walked. -/
import Derived.Test.YtohdekokdljgjaaBitA
namespace Go.Proofs.Ytohdekokdljgjaa
set_option linter.unusedVariables false
set_option linter.unusedSimpArgs false
open Go.RowKit Go.Lib

theorem limited_any (n : Nat) (w : World) (h : n ≤ 62) : Calls Try.prog 56 #[.int .i64 n] w fun e w' => e = .returned (.int .i64 n) ∧ w = w' := by
  have h1 : (n : Int) ≤ 62 := by omega
  have h2 : (0 : Int) ≤ n := by omega
  have m1 : max (n : Int) 0 = n := by omega
  have m2 : min (n : Int) 62 = n := by omega
  go_enter Try.func56, Try.ntmps56
  go_wp2_with fail
  go_ret
  exact ⟨by first | rfl | (rw [m2]; rfl) | (simp only [m1, m2]; rfl), rfl⟩

set_option maxRecDepth 100000 in
theorem put_a (g : Nat) (w : World) (hg : w.heap[g]? = some (.cells #[.slice none 0 0, .int .i64 0] 25 (0, 0))) :
    Calls Try.prog 41 #[.pointer (some ⟨g, 0, none⟩), .int .i64 5, .int .i64 3] w fun e w' => e = .returned (.tuple #[]) ∧ ∃ gb cap cs, WS w' g gb cap cs 5 3 ∧ w.heap.size ≤ gb ∧ Oth g gb w w' := by
  have HG := Kept.mk hg; clear hg
  have k0 : bits .and .i64 0 1 = 0 := by decide
  have k1 : bits .and .i64 1 1 = 1 := by decide
  have k2 : bits .and .i64 2 1 = 0 := by decide
  have k3 : bits .and .i64 3 1 = 1 := by decide
  have k5 : bits .and .i64 5 1 = 1 := by decide
  have k6 : bits .and .i64 6 1 = 0 := by decide
  go_enter Try.func41, Try.ntmps41
  go_wp2_with fail
  refine (limited_any 3 _ (by decide)).mono ?_
  rintro e w1 ⟨rfl, rfl⟩
  go_wp2_with fail
  go_loopw [11] (fun s wr => (s = .int .i64 0 ∧ wr = w) ∨ (∃ gb cap cs, (w.heap.size ≤ gb ∧ Oth g gb w wr) ∧ ((s = .int .i64 1 ∧ WS wr g gb cap cs 1 1) ∨ (s = .int .i64 2 ∧ WS wr g gb cap cs 1 2) ∨ (s = .int .i64 3 ∧ WS wr g gb cap cs 5 3)))) (fun s _ => 3 - (RowKit.intOf s).toNat)
  case atStart => exact .inl ⟨rfl, rfl⟩
  case round =>
    rcases hrel with ⟨rfl, rfl⟩ | ⟨gb, cap, cs, ⟨hge, ho⟩, ⟨rfl, hs⟩ | ⟨rfl, hs⟩ | ⟨rfl, hs⟩⟩
    · go_wp2_with fail
      refine (bit_first g wr HG.out).mono ?_
      rintro e w2 ⟨rfl, gb, cap, cs, hs2, hge, ho2⟩
      have HS2 := Kept.mk hs2
      have HO2 := Kept.mk ho2
      clear hs2 ho2
      go_wp2_with fail
      exact ⟨.inr ⟨gb, cap, cs, ⟨hge, HO2.out⟩, .inl ⟨rfl, HS2.out⟩⟩, by decide⟩
    · go_wp2_with fail
      refine (bit_1_1_0 g gb cap cs wr hs).mono ?_
      rintro e w2 ⟨rfl, cs2, hs2, ho2⟩
      have HS2 := Kept.mk hs2
      have HO2 := Kept.mk (ho.trans ho2)
      clear hs2 ho2 hs ho
      go_wp2_with fail
      exact ⟨.inr ⟨gb, cap, cs2, ⟨hge, HO2.out⟩, .inr (.inl ⟨rfl, HS2.out⟩)⟩, by decide⟩

    · go_wp2_with fail
      refine (bit_2_1_1 g gb cap cs wr hs).mono ?_
      rintro e w2 ⟨rfl, cs2, hs2, ho2⟩
      have HS2 := Kept.mk hs2
      have HO2 := Kept.mk (ho.trans ho2)
      clear hs2 ho2 hs ho
      go_wp2_with fail
      exact ⟨.inr ⟨gb, cap, cs2, ⟨hge, HO2.out⟩, .inr (.inr ⟨rfl, HS2.out⟩)⟩, by decide⟩

    · go_wp2_with fail
      go_returns
      exact ⟨rfl, gb, cap, cs, hs, hge, ho⟩

set_option maxRecDepth 100000 in
theorem put_b (g gb cap : Nat) (cs : Array Value) (w : World) (hw : WS w g gb cap cs 5 3) :
    Calls Try.prog 41 #[.pointer (some ⟨g, 0, none⟩), .int .i64 1, .int .i64 2] w fun e w' => e = .returned (.tuple #[]) ∧ ∃ cs, WS w' g gb cap cs 13 5 ∧ Oth g gb w w' := by
  have HW := Kept.mk hw; clear hw
  have k0 : bits .and .i64 0 1 = 0 := by decide
  have k1 : bits .and .i64 1 1 = 1 := by decide
  have k2 : bits .and .i64 2 1 = 0 := by decide
  have k3 : bits .and .i64 3 1 = 1 := by decide
  have k5 : bits .and .i64 5 1 = 1 := by decide
  have k6 : bits .and .i64 6 1 = 0 := by decide
  go_enter Try.func41, Try.ntmps41
  go_wp2_with fail
  refine (limited_any 2 _ (by decide)).mono ?_
  rintro e w1 ⟨rfl, rfl⟩
  go_wp2_with fail
  go_loopw [11] (fun s wr => ∃ cs, Oth g gb w wr ∧ ((s = .int .i64 0 ∧ WS wr g gb cap cs 5 3) ∨ (s = .int .i64 1 ∧ WS wr g gb cap cs 13 4) ∨ (s = .int .i64 2 ∧ WS wr g gb cap cs 13 5))) (fun s _ => 2 - (RowKit.intOf s).toNat)
  case atStart => exact ⟨cs, Oth.refl _ _ _, .inl ⟨rfl, HW.out⟩⟩
  case round =>
    clear HW cs
    obtain ⟨cs, ho, ⟨rfl, hs⟩ | ⟨rfl, hs⟩ | ⟨rfl, hs⟩⟩ := hrel
    · go_wp2_with fail
      refine (bit_3_5_1 g gb cap cs wr hs).mono ?_
      rintro e w2 ⟨rfl, cs2, hs2, ho2⟩
      have HS2 := Kept.mk hs2
      have HO2 := Kept.mk (ho.trans ho2)
      clear hs2 ho2 hs ho
      go_wp2_with fail
      exact ⟨⟨cs2, HO2.out, .inr (.inl ⟨rfl, HS2.out⟩)⟩, by decide⟩

    · go_wp2_with fail
      refine (bit_4_13_0 g gb cap cs wr hs).mono ?_
      rintro e w2 ⟨rfl, cs2, hs2, ho2⟩
      have HS2 := Kept.mk hs2
      have HO2 := Kept.mk (ho.trans ho2)
      clear hs2 ho2 hs ho
      go_wp2_with fail
      exact ⟨⟨cs2, HO2.out, .inr (.inr ⟨rfl, HS2.out⟩)⟩, by decide⟩

    · go_wp2_with fail
      go_returns
      exact ⟨rfl, cs, hs, ho⟩

set_option maxRecDepth 100000 in
theorem code_c (g : Nat) (w : World) (hg : w.heap[g]? = some (.cells #[.slice none 0 0, .int .i64 0] 25 (0, 0))) :
    Calls Try.prog 42 #[.pointer (some ⟨g, 0, none⟩), .int .i64 6, .int .i64 3] w fun e w' => e = .returned (.tuple #[]) ∧ ∃ gb cap cs, WS w' g gb cap cs 3 3 ∧ w.heap.size ≤ gb ∧ Oth g gb w w' := by
  have HG := Kept.mk hg; clear hg
  have k0 : bits .and .i64 0 1 = 0 := by decide
  have k1 : bits .and .i64 1 1 = 1 := by decide
  have k2 : bits .and .i64 2 1 = 0 := by decide
  have k3 : bits .and .i64 3 1 = 1 := by decide
  have k5 : bits .and .i64 5 1 = 1 := by decide
  have k6 : bits .and .i64 6 1 = 0 := by decide
  go_enter Try.func42, Try.ntmps42
  go_wp2_with fail
  refine (limited_any 3 _ (by decide)).mono ?_
  rintro e w1 ⟨rfl, rfl⟩
  go_wp2_with fail
  go_loopw [12] (fun s wr => (s = .int .i64 0 ∧ wr = w) ∨ (∃ gb cap cs, (w.heap.size ≤ gb ∧ Oth g gb w wr) ∧ ((s = .int .i64 1 ∧ WS wr g gb cap cs 1 1) ∨ (s = .int .i64 2 ∧ WS wr g gb cap cs 3 2) ∨ (s = .int .i64 3 ∧ WS wr g gb cap cs 3 3)))) (fun s _ => 3 - (RowKit.intOf s).toNat)
  case atStart => exact .inl ⟨rfl, rfl⟩
  case round =>
    rcases hrel with ⟨rfl, rfl⟩ | ⟨gb, cap, cs, ⟨hge, ho⟩, ⟨rfl, hs⟩ | ⟨rfl, hs⟩ | ⟨rfl, hs⟩⟩
    · go_wp2_with fail
      refine (bit_first g wr HG.out).mono ?_
      rintro e w2 ⟨rfl, gb, cap, cs, hs2, hge, ho2⟩
      have HS2 := Kept.mk hs2
      have HO2 := Kept.mk ho2
      clear hs2 ho2
      go_wp2_with fail
      exact ⟨.inr ⟨gb, cap, cs, ⟨hge, HO2.out⟩, .inl ⟨rfl, HS2.out⟩⟩, by decide⟩
    · go_wp2_with fail
      refine (bit_1_1_1 g gb cap cs wr hs).mono ?_
      rintro e w2 ⟨rfl, cs2, hs2, ho2⟩
      have HS2 := Kept.mk hs2
      have HO2 := Kept.mk (ho.trans ho2)
      clear hs2 ho2 hs ho
      go_wp2_with fail
      exact ⟨.inr ⟨gb, cap, cs2, ⟨hge, HO2.out⟩, .inr (.inl ⟨rfl, HS2.out⟩)⟩, by decide⟩

    · go_wp2_with fail
      refine (bit_2_3_0 g gb cap cs wr hs).mono ?_
      rintro e w2 ⟨rfl, cs2, hs2, ho2⟩
      have HS2 := Kept.mk hs2
      have HO2 := Kept.mk (ho.trans ho2)
      clear hs2 ho2 hs ho
      go_wp2_with fail
      exact ⟨.inr ⟨gb, cap, cs2, ⟨hge, HO2.out⟩, .inr (.inr ⟨rfl, HS2.out⟩)⟩, by decide⟩

    · go_wp2_with fail
      go_returns
      exact ⟨rfl, gb, cap, cs, hs, hge, ho⟩

/-- the bytes of a writer of one byte -/
theorem ws_string {W : World} {g gb cap : Nat} {cs : Array Value} {n : Int} (c : UInt8) (h : WS W g gb cap cs (c.toNat : Int) n) :
    (convert 23 9 (.slice (some ⟨gb, 0, none⟩) 1 cap)).run Try.prog W = .ok (.string (str [c])) W :=
  run_convert_bytes_back W _ _ _ ⟨gb, 0, none⟩ cap [c] Try.underlying23 Try.underlying5 Try.underlying9 fun j hj => by
    have : j = 0 := by simp at hj; omega
    subst this
    rw [show (⟨gb, 0, none⟩ : Addr).add 0 = ⟨gb, 0, none⟩ from rfl, cell_of_cellsA h.hb]
    exact h.hx

set_option maxRecDepth 100000 in
set_option maxHeartbeats 1000000 in
theorem bitsAwake_any (w : World) :
    Calls Try.prog 17 #[] w fun e w' => e = .returned (.bool true) ∧ Below w.heap.size w w' := by
  have hz : ∀ W : World, (zeroValue 25).run Try.prog W = .ok (.agg #[.slice none 0 0, .int .i64 0]) W := fun W => by kernel_rfl
  go_enter Try.func17, Try.ntmps17
  go_upto_region 2 with fail
  have h1 : ((w.alloc (.cells #[.slice none 0 0, .int .i64 0] 25)).alloc (.cells #[.slice none 0 0, .int .i64 0] 25)).heap[w.heap.size]? = some (.cells #[.slice none 0 0, .int .i64 0] 25 (0, 0)) := by
    rw [Go.heap_alloc_old (w.alloc _) _ (by simp)]; exact heap_newA _ _ _ rfl
  have h2 : ((w.alloc (.cells #[.slice none 0 0, .int .i64 0] 25)).alloc (.cells #[.slice none 0 0, .int .i64 0] 25)).heap[w.heap.size + 1]? = some (.cells #[.slice none 0 0, .int .i64 0] 25 (0, 0)) := heap_newA _ _ _ (by simp)
  have hB : Below w.heap.size w ((w.alloc (.cells #[.slice none 0 0, .int .i64 0] 25)).alloc (.cells #[.slice none 0 0, .int .i64 0] 25)) := ((Below.refl _ _).alloc (Nat.le_refl _) _).alloc (by simp) _
  have hs : ((w.alloc (.cells #[.slice none 0 0, .int .i64 0] 25)).alloc (.cells #[.slice none 0 0, .int .i64 0] 25)).heap.size = w.heap.size + 2 := by simp
  generalize (w.alloc (.cells #[.slice none 0 0, .int .i64 0] 25)).alloc (.cells #[.slice none 0 0, .int .i64 0] 25) = Z at *
  have H2 := Kept.mk h2
  have HB := Kept.mk hB
  clear h2 hB hz
  go_wp2_with fail
  refine (put_a w.heap.size Z h1).mono ?_
  rintro e w1 ⟨rfl, gb, cap, cs, hs1, hge, ho1⟩
  have hB1 := Oth.below HB.out ho1 (Nat.le_refl _) (by omega) HB.out.size
  have h21 := (ho1.block (w.heap.size + 1) (by omega) (by omega) (by omega)).trans H2.out
  have HS1 := Kept.mk hs1
  have HB1 := Kept.mk hB1
  have H21 := Kept.mk h21
  have hz1 := ho1.size
  clear hs1 hB1 h21 ho1 H2 HB h1
  go_wp2_with fail
  refine (put_b w.heap.size gb cap cs w1 HS1.out).mono ?_
  rintro e w2 ⟨rfl, cs2, hs2, ho2⟩
  have hB2 := Oth.below HB1.out ho2 (Nat.le_refl _) (by omega) HB1.out.size
  have h22 := (ho2.block (w.heap.size + 1) (by omega) (by omega) (by omega)).trans H21.out
  have HS2 := Kept.mk hs2
  have HB2 := Kept.mk hB2
  have hz2 := ho2.size
  have hgb2 := block_ltA hs2.hb
  clear hs2 hB2 ho2 H21 HB1 HS1
  go_wp2_with fail
  refine (code_c (w.heap.size + 1) w2 h22).mono ?_
  rintro e w3 ⟨rfl, gb3, cap3, cs3, hs3, hge3, ho3⟩
  have hB3 := Oth.below HB2.out ho3 (by omega) (by omega) HB2.out.size
  have hsa : WS w3 w.heap.size gb cap cs2 13 5 := ⟨(ho3.block w.heap.size (by omega) (by omega) (by omega)).trans HS2.out.hg, (ho3.block gb (by omega) (by omega) (by omega)).trans HS2.out.hb, HS2.out.hx, HS2.out.ne⟩
  have t1 := ws_string 13 hsa
  have t2 := ws_string 3 hs3
  have d0 := cell_of_cellsA (j := 0) hsa.hg
  have d1 := cell_of_cellsA (j := 1) hsa.hg
  have d2 := cell_of_cellsA (j := 0) hs3.hg
  have HB3 := Kept.mk hB3
  clear HS2 HB2 ho3 hsa hs3 h22 hB3
  have e1 : (str [13]) = ({ data := #[13] } : ByteArray) := rfl
  have e2 : (str [3]) = ({ data := #[3] } : ByteArray) := rfl
  rw [e1] at t1
  rw [e2] at t2
  clear e1 e2
  go_wp2_with (go_in)
  go_ret
  exact ⟨rfl, HB3.out⟩
end Go.Proofs.Ytohdekokdljgjaa
