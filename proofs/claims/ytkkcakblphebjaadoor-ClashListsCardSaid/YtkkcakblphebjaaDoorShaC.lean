/- SHA-256: a group's schedule, by a contract. -/
import Derived.Test.YtkkcakblphebjaaDoorShaB
import Derived.Test.YtkkcakblphebjaaDoorBG
namespace Go.Proofs.YtkkcakblphebjaaDoor
set_option linter.unusedVariables false
open Go.RowKit Go.Lib

def wc64 (l : List Nat) : Array Value := ((l.map fun x : Nat => Value.int .u32 (x : Int)) ++ List.replicate (64 - l.length) (Value.int .u32 0)).toArray
theorem wc64_get {l : List Nat} {i : Nat} (h : i < l.length) : (wc64 l)[i]? = some (.int .u32 ((nth l i : Nat) : Int)) := by
  unfold wc64 nth
  rw [List.getElem?_toArray, List.getElem?_append_left (by simpa using h), List.getElem?_map, List.getElem?_eq_getElem h, List.getD_eq_getElem?_getD, List.getElem?_eq_getElem h]
  rfl
theorem wc64_zero {l : List Nat} {i : Nat} (h : l.length ≤ i) (h2 : i < 64) : (wc64 l)[i]? = some (.int .u32 0) := by
  unfold wc64
  rw [List.getElem?_toArray, List.getElem?_append_right (by simpa using h), List.getElem?_replicate, if_pos (by simp; omega)]
theorem wc64_size {l : List Nat} (h : l.length ≤ 64) : (wc64 l).size = 64 := by
  unfold wc64; simp; omega
theorem wc64_one (l : List Nat) : (wc64 l).all (·.oneCell') = true := by
  refine Array.all_eq_true_iff_forall_mem.2 fun v hv => ?_
  unfold wc64 at hv
  simp only [List.mem_toArray, List.mem_append, List.mem_map, List.mem_replicate] at hv
  rcases hv with ⟨x, _, rfl⟩ | ⟨_, rfl⟩ <;> rfl
theorem wc64_set {l : List Nat} {x : Nat} (h : l.length < 64) : (wc64 l).setIfInBounds l.length (.int .u32 (x : Int)) = wc64 (l ++ [x]) := by
  apply Array.ext_getElem?
  intro i
  rw [Array.getElem?_setIfInBounds]
  split
  · rename_i hi
    subst hi
    rw [if_pos (by rw [wc64_size (by omega)]; exact h), wc64_get (by simp), nth_snoc]
  · rename_i hi
    rcases Nat.lt_or_ge i l.length with h1 | h1
    · rw [wc64_get h1, wc64_get (by simp; omega), nth_append_left h1]
    · rcases Nat.lt_or_ge i 64 with h2 | h2
      · rw [wc64_zero h1 h2, wc64_zero (by simp; omega) h2]
      · rw [Array.getElem?_eq_none (by rw [wc64_size (by omega)]; exact h2), Array.getElem?_eq_none (by rw [wc64_size (by simp; omega)]; exact h2)]
theorem bc_get {g : List UInt8} {i : Nat} (h : i < g.length) : (Lib.byteCells g).toArray[i]? = some (.int .u8 ((bth g i : Nat) : Int)) := by
  unfold Lib.byteCells bth
  rw [List.getElem?_toArray, List.getElem?_map, List.getElem?_eq_getElem h, List.getD_eq_getElem?_getD, List.getElem?_eq_getElem h]
  rfl
theorem setCell_other_block (W : World) (g g2 j : Nat) (v : Value) (h : g ≠ g2) : (W.setCell ⟨g, j, none⟩ v).heap[g2]? = W.heap[g2]? :=
  Below.heap_setCell W ⟨g, j, none⟩ v g2 (fun e => h e.symm)
structure Sched (w wr : World) (g : List UInt8) (l : List Nat) : Prop where
  p : wr.heap[w.heap.size]? = some (.cells (Lib.byteCells g).toArray 126 (0, 0))
  r : wr.heap[w.heap.size + 1]? = some (.cells (wc64 []) 130 (0, 0))
  a : wr.heap[w.heap.size + 2]? = some (.cells (wc64 l) 130 (0, 0))
  below : Below w.heap.size w wr
theorem be4_or (a b c d : Nat) (ha : a < 256) (hb : b < 256) (hc : c < 256) (hd : d < 256) : ((a * 16777216 ||| b * 65536) ||| c * 256) ||| d = be4 a b c d := by
  unfold be4
  rw [show a * 16777216 = 2 ^ 24 * a by omega, show b * 65536 = 2 ^ 16 * b by omega, show c * 256 = 2 ^ 8 * c by omega]
  rw [← Nat.two_pow_add_eq_or_of_lt (by omega : 2 ^ 16 * b < 2 ^ 24) a]
  rw [show 2 ^ 24 * a + 2 ^ 16 * b = 2 ^ 16 * (256 * a + b) by omega]
  rw [← Nat.two_pow_add_eq_or_of_lt (by omega : 2 ^ 8 * c < 2 ^ 16) (256 * a + b)]
  rw [show 2 ^ 16 * (256 * a + b) + 2 ^ 8 * c = 2 ^ 8 * (65536 * a + 256 * b + c) by omega]
  rw [← Nat.two_pow_add_eq_or_of_lt (by omega : d < 2 ^ 8) (65536 * a + 256 * b + c)]
  try omega
theorem or_word (a b c d : Nat) (ha : a < 256) (hb : b < 256) (hc : c < 256) (hd : d < 256) :
    bits .or .u32 (bits .or .u32 (bits .or .u32 ((a : Int) * 16777216) ((b : Int) * 65536)) ((c : Int) * 256)) (d : Int) = ((be4 a b c d : Nat) : Int) := by
  have h := be4_or a b c d ha hb hc hd
  have h1 : a * 16777216 ||| b * 65536 < 2 ^ 32 := Nat.or_lt_two_pow (by omega) (by omega)
  have h2 : (a * 16777216 ||| b * 65536) ||| c * 256 < 2 ^ 32 := Nat.or_lt_two_pow h1 (by omega)
  have e1 := or_u32 (a * 16777216) (b * 65536) (by omega) (by omega)
  have e2 := or_u32 (a * 16777216 ||| b * 65536) (c * 256) h1 (by omega)
  have e3 := or_u32 ((a * 16777216 ||| b * 65536) ||| c * 256) d h2 (by omega)
  rw [h] at e3
  rw [← e3, ← e2, ← e1]
  rfl
theorem Sched.set {w wr : World} {g : List UInt8} {l : List Nat} (h : Sched w wr g l) (hl : l.length < 64) (x : Nat) :
    Sched w (wr.setCell ⟨w.heap.size + 2, l.length, none⟩ (.int .u32 (x : Int))) g (l ++ [x]) :=
  ⟨(setCell_other_block _ _ _ _ _ (by omega)).trans h.p, (setCell_other_block _ _ _ _ _ (by omega)).trans h.r, by rw [Joins.block_setCell h.a, wc64_set hl], h.below.setCell (by show w.heap.size ≤ w.heap.size + 2; omega) _⟩
theorem Sched.drewN {w wr : World} {g : List UInt8} {l : List Nat} (h : Sched w wr g l) (n : Nat) : Sched w (wr.drewN n) g l := ⟨h.p, h.r, h.a, below_drewN h.below n⟩
theorem Sched.drew {w wr : World} {g : List UInt8} {l : List Nat} (h : Sched w wr g l) : Sched w wr.drew g l := ⟨h.p, h.r, h.a, h.below.drew⟩
theorem l16_next (g : List UInt8) (t : Nat) : l16 g (t + 1) = l16 g t ++ [be4 (bth g (4 * t)) (bth g (4 * t + 1)) (bth g (4 * t + 2)) (bth g (4 * t + 3))] := rfl
theorem sW_next (g : List UInt8) (n : Nat) : sW g (n + 1) = sW g n ++ [schNext (sW g n)] := rfl
theorem ss0_eq (x : Nat) : ss0 x = xo (xo (rot x 25) (rot x 14)) (x / 8) := rfl
theorem ss1_eq (x : Nat) : ss1 x = xo (xo (rot x 15) (rot x 13)) (x / 1024) := rfl
theorem sW_zero (g : List UInt8) : sW g 0 = l16 g 16 := rfl
theorem wrap_u32_nat (x : Nat) (h : x < 4294967296) : IntKind.u32.wrap (x : Int) = (x : Int) := by rw [IntKind.wrap_u32]; omega
theorem wrap_u32_ad (x y : Nat) : IntKind.u32.wrap ((x : Int) + (y : Int)) = ((ad x y : Nat) : Int) := by rw [IntKind.wrap_u32]; unfold ad; omega
theorem mod_u32_ad (x y : Nat) : ((x : Int) + (y : Int)) % 4294967296 = ((ad x y : Nat) : Int) := by unfold ad; omega
theorem i64_in (n : Int) (h0 : 0 ≤ n) (h1 : n < 1000000) : IntKind.i64.wrap n = n := wrap_i64_small _ (by omega) (by omega)
theorem zero64 : (#[.int .u32 0, .int .u32 0, .int .u32 0, .int .u32 0, .int .u32 0, .int .u32 0, .int .u32 0, .int .u32 0, .int .u32 0, .int .u32 0, .int .u32 0, .int .u32 0, .int .u32 0, .int .u32 0, .int .u32 0, .int .u32 0, .int .u32 0, .int .u32 0, .int .u32 0, .int .u32 0, .int .u32 0, .int .u32 0, .int .u32 0, .int .u32 0, .int .u32 0, .int .u32 0, .int .u32 0, .int .u32 0, .int .u32 0, .int .u32 0, .int .u32 0, .int .u32 0, .int .u32 0, .int .u32 0, .int .u32 0, .int .u32 0, .int .u32 0, .int .u32 0, .int .u32 0, .int .u32 0, .int .u32 0, .int .u32 0, .int .u32 0, .int .u32 0, .int .u32 0, .int .u32 0, .int .u32 0, .int .u32 0, .int .u32 0, .int .u32 0, .int .u32 0, .int .u32 0, .int .u32 0, .int .u32 0, .int .u32 0, .int .u32 0, .int .u32 0, .int .u32 0, .int .u32 0, .int .u32 0, .int .u32 0, .int .u32 0, .int .u32 0, .int .u32 0] : Array Value) = wc64 [] := rfl
theorem l16_zero (g : List UInt8) : l16 g 0 = [] := rfl
attribute [local irreducible] wc64 l16 sW schNext bth nth be4 Lib.byteCells rot xo ad ss0 ss1

set_option maxRecDepth 100000 in
set_option maxHeartbeats 4000000 in
theorem schedule_any (g : List UInt8) (w : World) (hg : g.length = 64) :
    Calls Tryd.prog 100 #[.agg (Lib.byteCells g).toArray] w fun e w' => e = .returned (.agg (wc64 (sW g 48))) ∧ Below w.heap.size w w' := by
  have HG := Kept.mk hg; clear hg
  go_enter Tryd.func100, Tryd.ntmps100
  go_wp2_with fail
  rw [zero64]
  go_loopw [8] (fun i wr => ∃ t : Nat, t ≤ 16 ∧ i = .int .i64 t ∧ Sched w wr g (l16 g t)) (fun i _ => 16 - (intOf i).toNat)
  case atStart =>
    refine ⟨0, by omega, rfl, ?_⟩
    rw [l16_zero]
    exact ⟨block_old (block_old (heap_new _ _ _ rfl) _) _, block_old (heap_new (w.alloc _) _ (w.heap.size + 1) (by simp)) _, heap_new ((w.alloc _).alloc _) _ (w.heap.size + 2) (by simp), (((Below.refl _ _).alloc (Nat.le_refl _) _).alloc (by simp) _).alloc (by simp; omega) _⟩
  case round =>
    obtain ⟨t, ht, rfl, hs⟩ := hrel
    have HS := Kept.mk hs
    by_cases hlt : t < 16
    · have hf := HS.out.set (by rw [l16_length]; omega) (be4 (bth g (4 * t)) (bth g (4 * t + 1)) (bth g (4 * t + 2)) (bth g (4 * t + 3)))
      rw [l16_length, ← l16_next] at hf
      have HF := Kept.mk hf
      clear hf
      have c0 := (Joins.cell_of_block hs.p (4 * t)).trans (bc_get (by rw [HG.out]; omega))
      have c1 := (Joins.cell_of_block hs.p (4 * t + 1)).trans (bc_get (by rw [HG.out]; omega))
      have c2 := (Joins.cell_of_block hs.p (4 * t + 2)).trans (bc_get (by rw [HG.out]; omega))
      have c3 := (Joins.cell_of_block hs.p (4 * t + 3)).trans (bc_get (by rw [HG.out]; omega))
      have c4 := (Joins.cell_of_block hs.a t).trans (wc64_zero (by rw [l16_length]; omega) (by omega))
      have nf := Joins.unfrozen_of_block hs.a t
      have b0 := byte_lt g (4 * t)
      have b1 := byte_lt g (4 * t + 1)
      have b2 := byte_lt g (4 * t + 2)
      have b3 := byte_lt g (4 * t + 3)
      clear hs
      generalize bth g (4 * t) = x0 at *
      generalize bth g (4 * t + 1) = x1 at *
      generalize bth g (4 * t + 2) = x2 at *
      generalize bth g (4 * t + 3) = x3 at *
      have v0 := wrap_u32_nat x0 (by omega)
      have v1 := wrap_u32_nat x1 (by omega)
      have v2 := wrap_u32_nat x2 (by omega)
      have v3 := wrap_u32_nat x3 (by omega)
      have u0 : IntKind.u32.wrap ((x0 : Int) * 16777216) = (x0 : Int) * 16777216 := by rw [IntKind.wrap_u32]; omega
      have u1 : IntKind.u32.wrap ((x1 : Int) * 65536) = (x1 : Int) * 65536 := by rw [IntKind.wrap_u32]; omega
      have u2 : IntKind.u32.wrap ((x2 : Int) * 256) = (x2 : Int) * 256 := by rw [IntKind.wrap_u32]; omega
      have E := or_word x0 x1 x2 x3 b0 b1 b2 b3
      have i0 := i64_in (4 * (t : Int)) (by omega) (by omega)
      have i1 := i64_in (4 * (t : Int) + 1) (by omega) (by omega)
      have i2 := i64_in (4 * (t : Int) + 2) (by omega) (by omega)
      have i3 := i64_in (4 * (t : Int) + 3) (by omega) (by omega)
      have l0 : 0 ≤ 4 * (t : Int) := by omega
      have l1 : 0 ≤ 4 * (t : Int) + 1 := by omega
      have l2 : 0 ≤ 4 * (t : Int) + 2 := by omega
      have l3 : 0 ≤ 4 * (t : Int) + 3 := by omega
      have m0 : 4 * (t : Int) < 64 := by omega
      have m1 : 4 * (t : Int) + 1 < 64 := by omega
      have m2 : 4 * (t : Int) + 2 < 64 := by omega
      have m3 : 4 * (t : Int) + 3 < 64 := by omega
      have n0 : (4 * (t : Int)).toNat = 4 * t := by omega
      have n1 : (4 * (t : Int) + 1).toNat = 4 * t + 1 := by omega
      have n2 : (4 * (t : Int) + 2).toNat = 4 * t + 2 := by omega
      have n3 : (4 * (t : Int) + 3).toNat = 4 * t + 3 := by omega
      have t64 : (t : Int) < 64 := by omega
      go_wp2_with fail
      go_still_tail 31, (by kernel_rfl)
      change wpList _ _ _ _ _ (World.drew _)
      go_wp2
      exact ⟨⟨t + 1, by omega, by go_num, HF.out.drew⟩, by simp [intOf]; omega⟩
    · have ht16 : t = 16 := by omega
      subst ht16
      have hs0 : Sched w wr g (sW g 0) := by rw [sW_zero]; exact HS.out
      have HS0 := Kept.mk hs0
      clear HS hs hs0
      go_wp2_with fail
      rw [show ((16 : Nat) : Int) = 16 from rfl]
      go_loopw [5] (fun i wr => ∃ t : Nat, 16 ≤ t ∧ t ≤ 64 ∧ i = .int .i64 t ∧ Sched w wr g (sW g (t - 16))) (fun i _ => 64 - (intOf i).toNat)
      case atStart => exact ⟨16, by omega, by omega, rfl, HS0.out⟩
      case round =>
        obtain ⟨t, ht, ht2, rfl, hs⟩ := hrel
        have HS := Kept.mk hs
        have hll := sW_length g (t - 16)
        by_cases hlt2 : t < 64
        · have ht3 : ¬ 64 ≤ t := by omega
          have hL : (sW g (t - 16)).length = t := by rw [hll]; omega
          clear hll
          have hf : ∀ wx, Sched w wx g (sW g (t - 16)) → Sched w (wx.setCell ⟨w.heap.size + 2, t, none⟩ (.int .u32 ((schNext (sW g (t - 16)) : Nat) : Int))) g (sW g (t + 1 - 16)) := fun wx hx => by
            have h1 := hx.set (by rw [hL]; exact hlt2) (schNext (sW g (t - 16)))
            rwa [hL, ← sW_next, show t - 16 + 1 = t + 1 - 16 by omega] at h1
          have hn : schNext (sW g (t - 16)) = ad (ad (ad (nth (sW g (t - 16)) (t - 16)) (ss0 (nth (sW g (t - 16)) (t - 15)))) (nth (sW g (t - 16)) (t - 7))) (ss1 (nth (sW g (t - 16)) (t - 2))) := by
            unfold schNext; rw [hL]
          rw [hn] at hf
          have HF := Kept.mk hf
          clear hf hn
          have hc : ∀ wx, Sched w wx g (sW g (t - 16)) → ∀ i, i < t → wx.cell? ⟨w.heap.size + 2, i, none⟩ = some (.int .u32 ((nth (sW g (t - 16)) i : Nat) : Int)) := fun wx hx i hi => (Joins.cell_of_block hx.a i).trans (wc64_get (by rw [hL]; omega))
          have hz : ∀ wx, Sched w wx g (sW g (t - 16)) → wx.cell? ⟨w.heap.size + 2, t, none⟩ = some (.int .u32 0) := fun wx hx => (Joins.cell_of_block hx.a t).trans (wc64_zero (by rw [hL]; omega) hlt2)
          have HC := Kept.mk hc
          have HZ := Kept.mk hz
          clear hc hz
          have c1 := HC.out wr hs (t - 15) (by omega)
          have b0 := sW_small g (t - 16) (t - 16)
          have b1 := sW_small g (t - 16) (t - 15)
          have b2 := sW_small g (t - 16) (t - 7)
          have b3 := sW_small g (t - 16) (t - 2)
          clear hs hL
          generalize h0 : nth (sW g (t - 16)) (t - 16) = x0 at *
          generalize h1 : nth (sW g (t - 16)) (t - 15) = x1 at *
          generalize h2 : nth (sW g (t - 16)) (t - 7) = x2 at *
          generalize h3 : nth (sW g (t - 16)) (t - 2) = x3 at *
          have H0 := Kept.mk h0; clear h0
          have H1 := Kept.mk h1; clear h1
          have H2 := Kept.mk h2; clear h2
          have H3 := Kept.mk h3; clear h3
          have r1 := rot_lt x1 25 b1 (by omega)
          have r2 := rot_lt x1 14 b1 (by omega)
          have r3 := rot_lt x3 15 b3 (by omega)
          have r4 := rot_lt x3 13 b3 (by omega)
          have q1 := xor_u32 (rot x1 25) (rot x1 14) r1 r2
          have q2 : bits .xor .u32 ((xo (rot x1 25) (rot x1 14) : Nat) : Int) ((x1 : Int) / 8) = ((ss0 x1 : Nat) : Int) := by
            rw [ss0_eq]; exact xor_u32 (xo (rot x1 25) (rot x1 14)) (x1 / 8) (xo_lt r1 r2) (by omega)
          have q3 := xor_u32 (rot x3 15) (rot x3 13) r3 r4
          have q4 : bits .xor .u32 ((xo (rot x3 15) (rot x3 13) : Nat) : Int) ((x3 : Int) / 1024) = ((ss1 x3 : Nat) : Int) := by
            rw [ss1_eq]; exact xor_u32 (xo (rot x3 15) (rot x3 13)) (x3 / 1024) (xo_lt r3 r4) (by omega)
          have a1 := wrap_u32_ad
          have a2 := mod_u32_ad
          have i0 := i64_in ((t : Int) - 16) (by omega) (by omega)
          have i1 := i64_in ((t : Int) - 15) (by omega) (by omega)
          have i2 := i64_in ((t : Int) - 7) (by omega) (by omega)
          have i3 := i64_in ((t : Int) - 2) (by omega) (by omega)
          have l0 : 0 ≤ (t : Int) - 16 := by omega
          have l1 : 0 ≤ (t : Int) - 15 := by omega
          have l2 : 0 ≤ (t : Int) - 7 := by omega
          have l3 : 0 ≤ (t : Int) - 2 := by omega
          have m0 : (t : Int) - 16 < 64 := by omega
          have m1 : (t : Int) - 15 < 64 := by omega
          have m2 : (t : Int) - 7 < 64 := by omega
          have m3 : (t : Int) - 2 < 64 := by omega
          have n0 : ((t : Int) - 16).toNat = t - 16 := by omega
          have n1 : ((t : Int) - 15).toNat = t - 15 := by omega
          have n2 : ((t : Int) - 7).toNat = t - 7 := by omega
          have n3 : ((t : Int) - 2).toNat = t - 2 := by omega
          have t64 : (t : Int) < 64 := by omega
          have p0 : 16 ≤ (t : Int) := by omega
          have p1 : 15 ≤ (t : Int) := by omega
          have p2 : 7 ≤ (t : Int) := by omega
          have p3 : 2 ≤ (t : Int) := by omega
          have o4 : (t : Int) < 80 := by omega
          have o5 : (t : Int) < 79 := by omega
          have o6 : (t : Int) < 71 := by omega
          have o7 : (t : Int) < 66 := by omega
          go_upto_region 10 with fail
          go_cut [6] (fun s6 wx => s6 = .int .u32 ((ss0 x1 : Nat) : Int) ∧ Sched w wx g (sW g (t - 16)))
          case first =>
            go_quiet ((first | (go_at_call_of 109 (Value.int .i64 7); exact Calls.quiet_of (rotr_any x1 7 _ b1 (by omega) (by omega))) | (go_at_call_of 109 (Value.int .i64 18); exact Calls.quiet_of (rotr_any x1 18 _ b1 (by omega) (by omega)))))
            go_wp2_with fail
            go_meet
            exact ⟨rfl, HS.out.drewN _⟩
          case rest =>
            obtain ⟨rfl, hs⟩ := hcut
            clear HS c1
            have HS := Kept.mk hs
            have c3 := (HC.out wc hs (t - 2) (by omega)).trans (by rw [H3.out])
            clear hs
            go_upto_region 11 with fail
            go_cut [7] (fun s7 wx => s7 = .int .u32 ((ss1 x3 : Nat) : Int) ∧ Sched w wx g (sW g (t - 16)))
            case first =>
              go_quiet ((first | (go_at_call_of 109 (Value.int .i64 17); exact Calls.quiet_of (rotr_any x3 17 _ b3 (by omega) (by omega))) | (go_at_call_of 109 (Value.int .i64 19); exact Calls.quiet_of (rotr_any x3 19 _ b3 (by omega) (by omega)))))
              go_wp2_with fail
              go_meet
              exact ⟨rfl, HS.out.drewN _⟩
            case rest =>
              obtain ⟨rfl, hs⟩ := hcut
              clear HS c3 q1 q2 q3 q4 r1 r2 r3 r4
              have HS := Kept.mk hs
              have c0 := (HC.out wc hs (t - 16) (by omega)).trans (by rw [H0.out])
              have c2 := (HC.out wc hs (t - 7) (by omega)).trans (by rw [H2.out])
              have c4 := HZ.out wc hs
              have nf := Joins.unfrozen_of_block hs.a t
              clear hs
              go_wp2_with fail
              go_still_tail 15, (by kernel_rfl)
              change wpList _ _ _ _ _ (World.drew _)
              go_wp2
              exact ⟨⟨t + 1, by omega, by omega, by go_num, (HF.out _ HS.out).drew⟩, by simp [intOf]; omega⟩
        · have ht64 : t = 64 := by omega
          subst ht64
          have hi : ∀ l : List Nat, l.length ≤ 64 → (Tryd.prog.info? 130).map (·.size) = some (wc64 l).size := fun l hl => by
            rw [wc64_size hl]; kernel_rfl
          have hi1 := hi (sW g (64 - 16)) (by rw [sW_length]; omega)
          have ho : (wc64 []).size = (wc64 (sW g (64 - 16))).size := by rw [wc64_size (by simp), wc64_size (by rw [sW_length]; omega)]
          have h1 := wc64_one (sW g (64 - 16))
          have ha := hs.a
          have hr := hs.r
          have hp := hs.p
          have hbel := hs.below
          have HA := Kept.mk ha
          have HR := Kept.mk hr
          have HI := Kept.mk hi1
          have HO := Kept.mk ho
          have H1 := Kept.mk h1
          have HB := Kept.mk hbel
          clear hi hi1 ho h1 ha hr hp hbel hs HS hll HS0
          go_wp2_with (first | (with_reducible refine wpList_load_row rfl 130 (.tmp 3) rfl (w.heap.size + 2) rfl _ _ _ _ HA.out Tryd.underlying130 rfl HI.out ?_) | (with_reducible refine wpList_store_row rfl 130 (.tmp 2) (.tmp 96) rfl (w.heap.size + 1) (wc64 (sW g (64 - 16))) rfl rfl _ _ HR.out HI.out HO.out H1.out ?_))
          refine bodyPost_ret (results_cell_row rfl _ _ (w.heap.size + 1) _ (wc64 (sW g (64 - 16))) (0, 0) _ rfl (setRow_heap _ _ _ _ _ _ HR.out) Tryd.underlying130 rfl HI.out) rfl ⟨rfl, ?_⟩
          exact below_setRow HB.out (by omega) _
end Go.Proofs.YtkkcakblphebjaaDoor
