/- The document's words of a text, by a contract. -/
import Derived.Test.YtabeehljpdehcaaDoorVN
namespace Go.Proofs.YtabeehljpdehcaaDoor
set_option linter.unusedVariables false
set_option linter.unusedSimpArgs false
open Go.RowKit Go.Lib
attribute [local irreducible] str wls ivs le4

set_option maxRecDepth 100000 in
set_option maxHeartbeats 2000000 in
theorem refWords_any (l : List UInt8) (n : Nat) (w : World) (hl : l.length = 4 * n) (hn : n ≤ 8) :
    Calls Tryd.prog 75 #[.string (str l)] w fun e w' => ∃ v, e = .returned v ∧ VB w w' v (ivs (wls l n)) := by
  have hs := str_size l
  have HL := Kept.mk hl
  rw [hl] at hs
  clear hl
  go_enter Tryd.func75, Tryd.ntmps75
  go_wp2_with fail
  go_loopw [3, 4] (fun s3 s4 wr => ∃ t : Nat, t ≤ n ∧ s4 = .int .i64 ((4 * t : Nat) : Int) ∧ VB w wr s3 (ivs (wls l t))) (fun _ s4 _ => 4 * n - (RowKit.intOf s4).toNat)
  case atStart => exact ⟨0, by omega, rfl, (vb_nil w).is (by rw [wls_zero]; unfold ivs; rfl)⟩
  case round =>
    obtain ⟨t, ht, rfl, hb⟩ := hrel
    by_cases hlt : t < n
    · obtain ⟨o, ho⟩ : ∃ o, 4 * t = o := ⟨_, rfl⟩
      have HF := Kept.mk (wls_next l t)
      have HLN := Kept.mk (wls_length l t)
      rw [ho] at HF ⊢
      have l0 : o < l.length := by have := HL.out; omega
      have l1 : o + 1 < l.length := by have := HL.out; omega
      have l2 : o + 2 < l.length := by have := HL.out; omega
      have l3 : o + 3 < l.length := by have := HL.out; omega
      have g0 := str_get l o l0 (by rw [str_size]; omega)
      have g1 := str_get l (o + 1) l1 (by rw [str_size]; omega)
      have g2 := str_get l (o + 2) l2 (by rw [str_size]; omega)
      have g3 := str_get l (o + 3) l3 (by rw [str_size]; omega)
      have E := Kept.mk (show le4 l o = l[o].toNat + l[o + 1].toNat * 256 + l[o + 2].toNat * 65536 + l[o + 3].toNat * 16777216 from by
        unfold le4; rw [gb_at l o l0, gb_at l (o + 1) l1, gb_at l (o + 2) l2, gb_at l (o + 3) l3])
      generalize l[o] = a at *
      generalize l[o + 1] = b at *
      generalize l[o + 2] = c at *
      generalize l[o + 3] = d at *
      obtain ⟨a0, a1⟩ := byte_range a
      obtain ⟨b0, b1⟩ := byte_range b
      obtain ⟨c0, c1⟩ := byte_range c
      obtain ⟨d0, d1⟩ := byte_range d
      have hoi : (o : Int) + 3 < 4 * (n : Int) := by omega
      have hoi2 : (o : Int) + 2 < 4 * (n : Int) := by omega
      have hoi1 : (o : Int) + 1 < 4 * (n : Int) := by omega
      have hoi0 : (o : Int) < 4 * (n : Int) := by omega
      have n1 : ((o : Int) + 1).toNat = o + 1 := by omega
      have n2 : ((o : Int) + 2).toNat = o + 2 := by omega
      have n3 : ((o : Int) + 3).toNat = o + 3 := by omega
      have hn8 : (n : Int) ≤ 8 := by omega
      have p1 : 0 ≤ (o : Int) + 1 := by omega
      have p2 : 0 ≤ (o : Int) + 2 := by omega
      have p3 : 0 ≤ (o : Int) + 3 := by omega
      have W1 := wrap_i64_small ((o : Int) + 1) (by omega) (by omega)
      have W2 := wrap_i64_small ((o : Int) + 2) (by omega) (by omega)
      have W3 := wrap_i64_small ((o : Int) + 3) (by omega) (by omega)
      have va := wrap_i64_small (a.toNat : Int) (by omega) (by omega)
      have vb := wrap_i64_small (b.toNat : Int) (by omega) (by omega)
      have vc := wrap_i64_small (c.toNat : Int) (by omega) (by omega)
      have vd := wrap_i64_small (d.toNat : Int) (by omega) (by omega)
      have ub := wrap_i64_small ((b.toNat : Int) * 256) (by omega) (by omega)
      have uc := wrap_i64_small ((c.toNat : Int) * 65536) (by omega) (by omega)
      have ud := wrap_i64_small ((d.toNat : Int) * 16777216) (by omega) (by omega)
      have z1 := wrap_i64_small ((a.toNat : Int) + (b.toNat : Int) * 256) (by omega) (by omega)
      have z2 := wrap_i64_small ((a.toNat : Int) + (b.toNat : Int) * 256 + (c.toNat : Int) * 65536) (by omega) (by omega)
      have z3 := wrap_i64_small ((a.toNat : Int) + (b.toNat : Int) * 256 + (c.toNat : Int) * 65536 + (d.toNat : Int) * 16777216) (by omega) (by omega)
      have EV := Kept.mk (le4_int a.toNat b.toNat c.toNat d.toNat)
      rw [← E.out] at EV
      have HB := Kept.mk hb
      clear hb
      go_wp2_with fail
      have HLE := Kept.mk (show (wls l t).length + 1 ≤ 1000000 from by rw [HLN.out]; omega)
      go_region_held3 (fun w' => True)
        (first
          | trivial
          | go_keep)
        ((refine int_step (by rfl) _ _ (by rfl) (w := w) (L := wls l t) (by rfl) ((HB.out.alloc _).drew) (b := wr.heap.size) (d := le4 l o) (by rfl) (by rw [← EV.out]; exact cell_of_cells (j := 0) (heap_new wr _ _ rfl)) HLE.out ?_; intro v' w' hq))
      all_goals (go_wp2_with fail)
      all_goals (
        rw [HF.out] at hq
        exact ⟨⟨t + 1, by omega, by rw [← ho]; push_cast; rfl, hq⟩, by show 4 * n - ((o : Int) + 4).toNat < 4 * n - ((o : Nat) : Int).toNat; omega⟩)
    · have hoi : ¬ (((4 * t : Nat) : Int) + 3 < 4 * (n : Int)) := by omega
      obtain rfl : t = n := by omega
      have HB := Kept.mk hb
      clear hb
      have ho3 : ((4 * t : Nat) : Int) + 3 ≤ 1000 := by omega
      have ho4 : 0 ≤ ((4 * t : Nat) : Int) := by omega
      generalize ((4 * t : Nat) : Int) = oi at *
      go_wp2_with fail
      go_returns
      exact ⟨_, rfl, HB.out⟩
end Go.Proofs.YtabeehljpdehcaaDoor
