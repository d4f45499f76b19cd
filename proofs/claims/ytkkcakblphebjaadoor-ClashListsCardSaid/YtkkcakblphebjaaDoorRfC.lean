/- SHA-256 by definition: the words of a group, by a contract. -/
import Derived.Test.YtkkcakblphebjaaDoorRfB
import Derived.Deep.RegionHeld3
import Derived.Deep.AppendLies
import Derived.WalkSpells
namespace Go.Proofs.YtkkcakblphebjaaDoor
set_option linter.unusedVariables false
set_option linter.unusedSimpArgs false
open Go.RowKit Go.Lib
attribute [local irreducible] l16 sW schNext bth nth be4 rot xo ad ss0 ss1 wS nv

theorem z_facts (a b c d : Nat) (ha : a < 4294967296) (hb : b < 4294967296) (hc : c < 4294967296) (hd : d < 4294967296) :
    IntKind.i64.wrap ((a : Int) + (b : Int)) = (a : Int) + (b : Int) ∧ IntKind.i64.wrap ((a : Int) + (b : Int) + (c : Int)) = (a : Int) + (b : Int) + (c : Int) ∧
    IntKind.i64.wrap ((a : Int) + (b : Int) + (c : Int) + (d : Int)) = (a : Int) + (b : Int) + (c : Int) + (d : Int) ∧
    bits .and .i64 ((a : Int) + (b : Int) + (c : Int) + (d : Int)) 4294967295 = ((ad (ad (ad a b) c) d : Nat) : Int) := by
  refine ⟨i64_big _ (by omega) (by omega), i64_big _ (by omega) (by omega), i64_big _ (by omega) (by omega), ?_⟩
  rw [and_word, ad4_int]
theorem refRotr_m (x n m : Nat) (w : World) (h1 : x < 4294967296) (h2 : 2 ≤ n) (h3 : n ≤ 31) (hm : 32 - n = m) :
    Calls Tryd.prog 88 #[.int .i64 (x : Int), .int .i64 (n : Int)] w fun e w' => e = .returned (.int .i64 (rot x m : Nat)) ∧ Below w.heap.size w w' := by
  subst hm
  exact (refRotr_any x n w h1 h2 h3).mono fun e w' h => ⟨h.1, below_of_drew h.2⟩

set_option maxRecDepth 100000 in
set_option maxHeartbeats 4000000 in
theorem refScheduled_any (gr : List UInt8) (gb o : Nat) (c : Nat) (w : World) (hg : gr.length = 64) (hr : RowAt w (some ⟨gb, o, none⟩) (Lib.byteCells gr)) :
    Calls Tryd.prog 87 #[.slice (some ⟨gb, o, none⟩) 64 c] w fun e w' => ∃ g cap, e = .returned (.slice (some ⟨g, 0, none⟩) 64 cap) ∧ RowAt w' (some ⟨g, 0, none⟩) (nv (sW gr 48)) ∧ Below w.heap.size w w' := by
  have HG := Kept.mk hg; clear hg
  have HR := Kept.mk hr; clear hr
  go_enter Tryd.func87, Tryd.ntmps87
  go_wp2_with fail
  go_loopw [3, 4] (fun s3 s4 wr => ∃ t : Nat, t ≤ 64 ∧ s4 = .int .i64 t ∧ NB w wr s3 (wS gr t)) (fun _ s4 _ => 64 - (RowKit.intOf s4).toNat)
  case atStart => exact ⟨0, by omega, rfl, (nb_nil w).is (wS_zero gr).symm⟩
  case round =>
    obtain ⟨t, ht, rfl, hb⟩ := hrel
    have hl := wS_length gr t
    by_cases h16 : t < 16
    · have HN := Kept.mk hb
      have hrw := HR.out.below hb.1
      have c0 := hrw.off (bcell_get (i := 4 * t) (by rw [HG.out]; omega))
      have c1 := hrw.off (bcell_get (i := 4 * t + 1) (by rw [HG.out]; omega))
      have c2 := hrw.off (bcell_get (i := 4 * t + 2) (by rw [HG.out]; omega))
      have c3 := hrw.off (bcell_get (i := 4 * t + 3) (by rw [HG.out]; omega))
      have b0 := byte_lt gr (4 * t)
      have b1 := byte_lt gr (4 * t + 1)
      have b2 := byte_lt gr (4 * t + 2)
      have b3 := byte_lt gr (4 * t + 3)
      have HF := Kept.mk (wS_first gr t h16)
      clear hb hrw
      generalize bth gr (4 * t) = x0 at *
      generalize bth gr (4 * t + 1) = x1 at *
      generalize bth gr (4 * t + 2) = x2 at *
      generalize bth gr (4 * t + 3) = x3 at *
      have E := Kept.mk (be4_int x0 x1 x2 x3)
      have l0 : 0 ≤ 4 * (t : Int) := by omega
      have l1 : 0 ≤ 4 * (t : Int) + 1 := by omega
      have l2 : 0 ≤ 4 * (t : Int) + 2 := by omega
      have l3 : 0 ≤ 4 * (t : Int) + 3 := by omega
      have m0 : 4 * (t : Int) < 64 := by omega
      have m1 : 4 * (t : Int) + 1 < 64 := by omega
      have m2 : 4 * (t : Int) + 2 < 64 := by omega
      have m3 : 4 * (t : Int) + 3 < 64 := by omega
      have n0 : (4 * (t : Int)).toNat = 4 * t := by omega
      have n1 : (4 * (t : Int) + 1).toNat = 4 * t + 1 := by omega
      have n2 : (4 * (t : Int) + 2).toNat = 4 * t + 2 := by omega
      have n3 : (4 * (t : Int) + 3).toNat = 4 * t + 3 := by omega
      have i0 := i64_big (4 * (t : Int)) (by omega) (by omega)
      have i1 := i64_big (4 * (t : Int) + 1) (by omega) (by omega)
      have i2 := i64_big (4 * (t : Int) + 2) (by omega) (by omega)
      have i3 := i64_big (4 * (t : Int) + 3) (by omega) (by omega)
      have v0 := i64_big (x0 : Int) (by omega) (by omega)
      have v1 := i64_big (x1 : Int) (by omega) (by omega)
      have v2 := i64_big (x2 : Int) (by omega) (by omega)
      have v3 := i64_big (x3 : Int) (by omega) (by omega)
      have u0 := i64_big ((x0 : Int) * 16777216) (by omega) (by omega)
      have u1 := i64_big ((x1 : Int) * 65536) (by omega) (by omega)
      have u2 := i64_big ((x2 : Int) * 256) (by omega) (by omega)
      have z1 := i64_big ((x0 : Int) * 16777216 + (x1 : Int) * 65536) (by omega) (by omega)
      have z2 := i64_big ((x0 : Int) * 16777216 + (x1 : Int) * 65536 + (x2 : Int) * 256) (by omega) (by omega)
      have z3 := i64_big ((x0 : Int) * 16777216 + (x1 : Int) * 65536 + (x2 : Int) * 256 + (x3 : Int)) (by omega) (by omega)
      have t64 : (t : Int) < 64 := by omega
      have t16 : (t : Int) < 16 := by omega
      generalize wS gr t = L at *
      have hgb : gb < w.heap.size := by obtain ⟨ad, e, h, _⟩ := HR.out (by rw [Lib.byteCells_length, HG.out]; omega); cases e; exact h
      go_wp2_with fail
      go_region_held3 (fun w' => w'.cell? ⟨gb, o + 4 * t, none⟩ = some (.int .u8 (x0 : Int)) ∧ w'.cell? ⟨gb, o + (4 * t + 1), none⟩ = some (.int .u8 (x1 : Int)) ∧ w'.cell? ⟨gb, o + (4 * t + 2), none⟩ = some (.int .u8 (x2 : Int)) ∧ w'.cell? ⟨gb, o + (4 * t + 3), none⟩ = some (.int .u8 (x3 : Int)))
        (first
          | go_keep
          | (go_split_ands
             refine ⟨?_, ?_, ?_, ?_⟩ <;> (rw [k1 _ _ hgb]; assumption)))
        ((refine step_num (by rfl) _ _ (by rfl) (w := w) (L := L) (by rfl) ((HN.out.alloc _).drew) (b := wr.heap.size) (d := be4 x0 x1 x2 x3) (by rfl) (by rw [← E.out]; exact cell_of_cells (j := 0) (heap_new wr _ _ rfl)) (by omega) ?_; intro v' w' ho k1 k2))
      go_wp2_with fail
      exact ⟨⟨t + 1, by omega, by go_num, ho.is HF.out⟩, by simp [RowKit.intOf]; omega⟩
    · by_cases h64 : t < 64
      · have HL := Kept.mk hl
        obtain ⟨gw, cap, rfl, hgw, hrw⟩ := hb.row (by omega)
        rw [hl] at hb
        have HN := Kept.mk hb
        have HF := Kept.mk (wS_next gr t (by omega))
        have HRW := Kept.mk hrw
        have hc : ∀ i, i < t → wr.cell? ⟨gw, i, none⟩ = some (.int .i64 ((nth (wS gr t) i : Nat) : Int)) := fun i hi => hrw.off0 (nv_get _ i (by omega))
        have b0 := wS_small gr t (t - 16)
        have b1 := wS_small gr t (t - 15)
        have b2 := wS_small gr t (t - 7)
        have b3 := wS_small gr t (t - 2)
        have c0 := hc (t - 16) (by omega)
        have c1 := hc (t - 15) (by omega)
        have c2 := hc (t - 7) (by omega)
        have c3 := hc (t - 2) (by omega)
        have c0' := Kept.mk c0
        have c2' := Kept.mk c2
        clear hb hrw hc c0 c2
        generalize nth (wS gr t) (t - 16) = x0 at *
        generalize nth (wS gr t) (t - 15) = x1 at *
        generalize nth (wS gr t) (t - 7) = x2 at *
        generalize nth (wS gr t) (t - 2) = x3 at *
        generalize wS gr t = L at *
        have r1 := rot_lt x1 25 b1 (by omega)
        have r2 := rot_lt x1 14 b1 (by omega)
        have r3 := rot_lt x3 15 b3 (by omega)
        have r4 := rot_lt x3 13 b3 (by omega)
        have q1 := xor_i64 (rot x1 25) (rot x1 14) r1 r2
        have q2 : bits .xor .i64 ((xo (rot x1 25) (rot x1 14) : Nat) : Int) ((x1 : Int) / 8) = ((ss0 x1 : Nat) : Int) := by
          rw [ss0_eq]; exact xor_i64 (xo (rot x1 25) (rot x1 14)) (x1 / 8) (xo_lt r1 r2) (by omega)
        have q3 := xor_i64 (rot x3 15) (rot x3 13) r3 r4
        have q4 : bits .xor .i64 ((xo (rot x3 15) (rot x3 13) : Nat) : Int) ((x3 : Int) / 1024) = ((ss1 x3 : Nat) : Int) := by
          rw [ss1_eq]; exact xor_i64 (xo (rot x3 15) (rot x3 13)) (x3 / 1024) (xo_lt r3 r4) (by omega)
        have Q := Kept.mk (And.intro q1 (And.intro q2 (And.intro q3 q4)))
        clear q1 q2 q3 q4
        have s0 := ss0_lt x1 b1
        have s1 := ss1_lt x3 b3
        have Z := Kept.mk (z_facts x0 (ss0 x1) x2 (ss1 x3) b0 s0 b2 s1)
        have i0 := i64_big ((t : Int) - 16) (by omega) (by omega)
        have i1 := i64_big ((t : Int) - 15) (by omega) (by omega)
        have i2 := i64_big ((t : Int) - 7) (by omega) (by omega)
        have i3 := i64_big ((t : Int) - 2) (by omega) (by omega)
        have l0 : 0 ≤ (t : Int) - 16 := by omega
        have l1 : 0 ≤ (t : Int) - 15 := by omega
        have l2 : 0 ≤ (t : Int) - 7 := by omega
        have l3 : 0 ≤ (t : Int) - 2 := by omega
        have n0 : ((t : Int) - 16).toNat = t - 16 := by omega
        have n1 : ((t : Int) - 15).toNat = t - 15 := by omega
        have n2 : ((t : Int) - 7).toNat = t - 7 := by omega
        have n3 : ((t : Int) - 2).toNat = t - 2 := by omega
        have t64 : (t : Int) < 64 := by omega
        have p0 : 16 ≤ (t : Int) := by omega
        have p1 : 15 ≤ (t : Int) := by omega
        have p2 : 7 ≤ (t : Int) := by omega
        have p3 : 2 ≤ (t : Int) := by omega
        have o4 : (t : Int) < 80 := by omega
        have o5 : (t : Int) < 79 := by omega
        have o6 : (t : Int) < 71 := by omega
        have o7 : (t : Int) < 66 := by omega
        have o8 : ¬ (t : Int) < 16 := by omega
        go_wp2_with fail
        go_quiet (fail)
        go_wp2_with fail
        refine (refRotr_m x1 7 25 _ b1 (by omega) (by omega) rfl).mono ?_
        rintro e w1 ⟨rfl, hd1⟩
        have HB1 := Kept.mk ((below_drewN (Below.refl wr.heap.size wr) nq).trans (hd1.mono (Nat.le_refl _)))
        clear hd1
        go_wp2_with fail
        refine (refRotr_m x1 18 14 _ b1 (by omega) (by omega) rfl).mono ?_
        rintro e w2 ⟨rfl, hd2⟩
        have HB2 := Kept.mk (HB1.out.trans (hd2.mono HB1.out.size))
        obtain ⟨q1, q2, q3, q4⟩ := Q.out
        clear hd2 HB1
        go_wp2_with fail
        refine (refRotr_m x3 17 15 _ b3 (by omega) (by omega) rfl).mono ?_
        rintro e w3 ⟨rfl, hd3⟩
        have HB3 := Kept.mk (HB2.out.trans (hd3.mono HB2.out.size))
        clear hd3 HB2 q1 q2
        go_wp2_with fail
        refine (refRotr_m x3 19 13 _ b3 (by omega) (by omega) rfl).mono ?_
        rintro e w4 ⟨rfl, hd4⟩
        have HB4 := Kept.mk (HB3.out.trans (hd4.mono HB3.out.size))
        clear hd4 HB3
        have m0 : (t : Int) - 16 < (t : Int) := by omega
        have m2 : (t : Int) - 7 < (t : Int) := by omega
        have k0 : t - 16 < t := by omega
        have k2 : t - 7 < t := by omega
        have hgw2 := block_of_cell c0'.out
        have c0 := (HB4.out.cell (p := ⟨gw, t - 16, none⟩) hgw2).trans c0'.out
        have c2 := (HB4.out.cell (p := ⟨gw, t - 7, none⟩) hgw2).trans c2'.out
        have HN4 := Kept.mk (HN.out.below HB4.out)
        obtain ⟨z1, z2, z3, z4⟩ := Z.out
        have c1q := Kept.mk c1
        have c3q := Kept.mk c3
        clear c1 c3 r1 r2 r3 r4 hgw2 i1 i3 l1 l3 n1 n3 p1 p3 o5 o7
        go_wp2_with fail
        clear q3 q4
        go_region_held3 (fun w' => w'.cell? ⟨gw, t - 16, none⟩ = some (.int .i64 (x0 : Int)) ∧ w'.cell? ⟨gw, t - 7, none⟩ = some (.int .i64 (x2 : Int)))
          (first
            | go_keep
            | (go_split_ands
               refine ⟨?_, ?_⟩ <;> (rw [k2 gw cap (by rw [HL.out]) _ (by rw [HL.out]; omega)]; assumption)))
          ((refine step_num (by rfl) _ _ (by rfl) (w := w) (L := L) (by rfl) ((HN4.out.alloc _).drew) (b := w4.heap.size) (d := ad (ad (ad x0 (ss0 x1)) x2) (ss1 x3)) (by rfl) (by exact cell_of_cells (j := 0) (heap_new w4 _ _ rfl)) (by rw [HL.out]; omega) ?_; intro v' w' ho k1 k2))
        go_wp2_with fail
        exact ⟨⟨t + 1, by omega, by go_num, ho.is HF.out⟩, by simp [RowKit.intOf]; omega⟩
      · have ht64 : t = 64 := by omega
        subst ht64
        have hbl := hb.1
        obtain ⟨gw, cap, rfl, hgw, hrw⟩ := hb.row (by omega)
        rw [hl]
        have HRW := Kept.mk hrw
        have HBL := Kept.mk hbl
        clear hb hrw hbl
        go_wp2_with fail
        go_ret
        exact ⟨gw, cap, rfl, by rw [← wS_all]; exact HRW.out, HBL.out⟩
end Go.Proofs.YtkkcakblphebjaaDoor
