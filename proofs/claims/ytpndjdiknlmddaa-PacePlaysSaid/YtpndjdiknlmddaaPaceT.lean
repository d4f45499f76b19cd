/- The law that waits and rates are the document's at each moment, walked by the contracts. -/
import Derived.Test.YtpndjdiknlmddaaPaceS
import Derived.Deep.CutBlock
namespace Go.Proofs.Ytpndjdiknlmddaa
set_option linter.unusedVariables false
open Go.RowKit Go.Lib

structure PQ (w wr : World) (g : Nat) (p : PS) : Prop where
  a : wr.heap[w.heap.size]? = some (.cells #[.int .i64 p.t, .int .i64 p.v, .bool p.c, .int .i64 p.d, .int .i64 p.m, .int .i64 p.o] 24 (0, 0))
  b : wr.heap[g]? = some (.cells #[.int .i64 p.t, .int .i64 p.v, .int .i64 p.d, .int .i64 (16 + p.m), .int .i64 (thrO p.o), .bool p.c] 26 (0, 0))
  below : Below w.heap.size w wr
theorem PQ.kept {w wr w' : World} {g : Nat} {p : PS} (h : PQ w wr g p) (hb : Below wr.heap.size wr w') : PQ w w' g p :=
  ⟨block_kept h.a hb, block_kept h.b hb, h.below.trans (hb.mono h.below.size)⟩
theorem PQ.drew {w wr : World} {g : Nat} {p : PS} (h : PQ w wr g p) : PQ w wr.drew g p := ⟨h.a, h.b, h.below.drew⟩
theorem PQ.alloc {w wr : World} {g : Nat} {p : PS} (h : PQ w wr g p) (o : Obj) : PQ w (wr.alloc o) g p :=
  ⟨block_old h.a o, block_old h.b o, h.below.alloc h.below.size o⟩
theorem thr_range {o : Int} (h0 : o = 0 ∨ 32 ≤ o) (h1 : o ≤ 512) : 32 ≤ thrO o ∧ thrO o ≤ 1024 := by
  rcases h0 with rfl | h
  · rw [th_0]; omega
  · rw [th_1 o h]; omega
theorem grown_same {m o : Int} (m0 : 0 ≤ m) (m1 : m ≤ 1008) : grownR (16 + m) (thrO o) = 16 + cameM m o := by
  have hq := quo_range m m0
  have h1 : 256 < 16 + m → 256 / (16 + m) = 0 := fun h => Int.ediv_eq_zero_of_lt (by omega) h
  have h2 : ¬ 256 < 16 + m → 1 ≤ 256 / (16 + m) := fun h => by
    rw [Int.le_ediv_iff_mul_le (by omega)]; omega
  unfold grownR cameM
  by_cases a : 16 + m < thrO o
  · rw [if_pos a, if_pos a]; omega
  · rw [if_neg a, if_neg a]
    by_cases b : 256 < 16 + m
    · rw [if_pos b, h1 b]; omega
    · rw [if_neg b]; have := h2 b; omega
theorem refCame_b (p : PS) (n : Int) (w : World) (h : p.Ok) :
    Calls Try.prog 9 #[.agg #[.int .i64 p.t, .int .i64 p.v, .int .i64 p.d, .int .i64 (16 + p.m), .int .i64 (thrO p.o), .bool p.c], .int .i64 n] w fun e w' => e = .returned (.agg #[.int .i64 (p.came n).t, .int .i64 (p.came n).v, .int .i64 (p.came n).d, .int .i64 (16 + (p.came n).m), .int .i64 (thrO (p.came n).o), .bool (p.came n).c]) ∧ Below w.heap.size w w' := by
  have ht := thr_range h.o0 h.o1
  have hm0 := h.m0
  have hm1 := h.m1
  refine (cameR_any p.t p.v p.d (16 + p.m) (thrO p.o) n p.c w h.t0 h.t1 h.v0 h.v1 (by omega) (by omega) ht.1 ht.2).mono fun e w' hh => ?_
  obtain ⟨he, hb⟩ := hh
  refine ⟨he.trans ?_, hb⟩
  rw [grown_same hm0 hm1]; rfl
theorem refLost_b (p : PS) (w : World) (h : p.Ok) :
    Calls Try.prog 10 #[.agg #[.int .i64 p.t, .int .i64 p.v, .int .i64 p.d, .int .i64 (16 + p.m), .int .i64 (thrO p.o), .bool p.c]] w fun e w' => e = .returned (.agg #[.int .i64 p.lost.t, .int .i64 p.lost.v, .int .i64 p.lost.d, .int .i64 (16 + p.lost.m), .int .i64 (thrO p.lost.o), .bool p.lost.c]) ∧ Below w.heap.size w w' := by
  have hm0 := h.m0
  have hm1 := h.m1
  refine (lostR_any p.t p.v p.d (16 + p.m) (thrO p.o) p.c w (by omega) (by omega) h.d0 h.d1).mono fun e w' hh => ?_
  obtain ⟨he, hb⟩ := hh
  refine ⟨he.trans ?_, hb⟩
  have e1 : thrO p.lost.o = max ((16 + p.m) / 2) 32 := th_1 _ (by show 32 ≤ max ((16 + p.m) / 2) 32; omega)
  rw [e1]; rfl
theorem refGap_b (p : PS) (w : World) (h : p.Ok) :
    Calls Try.prog 11 #[.agg #[.int .i64 p.t, .int .i64 p.v, .int .i64 p.d, .int .i64 (16 + p.m), .int .i64 (thrO p.o), .bool p.c]] w fun e w' => e = .returned (.agg #[.int .i64 p.gap.t, .int .i64 p.gap.v, .int .i64 p.gap.d, .int .i64 (16 + p.gap.m), .int .i64 (thrO p.gap.o), .bool p.gap.c]) ∧ Below w.heap.size w w' := by
  have hm0 := h.m0
  have hm1 := h.m1
  refine (gapR_any p.t p.v p.d (16 + p.m) (thrO p.o) p.c w (by omega) (by omega)).mono fun e w' hh => ?_
  obtain ⟨he, o1, o2, rfl⟩ := hh
  refine ⟨he.trans ?_, ((Below.refl _ _).alloc (Nat.le_refl _) _).alloc (by simp) _⟩
  have e1 : thrO p.gap.o = max ((16 + p.m) / 2) 32 := th_1 _ (by show 32 ≤ max ((16 + p.m) / 2) 32; omega)
  have e2 : 16 + p.gap.m = max ((16 + p.m) / 2) 32 := by show 16 + (max ((16 + p.m) / 2) 32 - 16) = _; omega
  rw [e1, e2]; rfl
theorem refWait_b (p : PS) (w : World) (h : p.Ok) :
    Calls Try.prog 13 #[.agg #[.int .i64 p.t, .int .i64 p.v, .int .i64 p.d, .int .i64 (16 + p.m), .int .i64 (thrO p.o), .bool p.c]] w fun e w' => e = .returned (.int .i64 p.wait) ∧ Below w.heap.size w w' :=
  waitR_any p.t p.v p.d (16 + p.m) (thrO p.o) p.c w h.t0 h.t1 h.v0 h.v1 h.d0 h.d1


def pcells (p : PS) : Array Value := #[.int .i64 p.t, .int .i64 p.v, .bool p.c, .int .i64 p.d, .int .i64 p.m, .int .i64 p.o]
theorem does_c {p p2 : PS} {k n : Int} (hs : p.step k n = p2) (w : World) (h : p.Ok) :
    Calls Try.prog 8 #[.agg #[.int .i64 p.t, .int .i64 p.v, .bool p.c, .int .i64 p.d, .int .i64 p.m, .int .i64 p.o], .agg #[.int .i64 k, .int .i64 n]] w fun e w' => e = .returned (.agg #[.int .i64 p2.t, .int .i64 p2.v, .bool p2.c, .int .i64 p2.d, .int .i64 p2.m, .int .i64 p2.o]) ∧ Below w.heap.size w w' := by
  subst hs; exact does_b p k n w h
theorem refCame_c {p p2 : PS} {n : Int} (hs : p.came n = p2) (w : World) (h : p.Ok) :
    Calls Try.prog 9 #[.agg #[.int .i64 p.t, .int .i64 p.v, .int .i64 p.d, .int .i64 (16 + p.m), .int .i64 (thrO p.o), .bool p.c], .int .i64 n] w fun e w' => e = .returned (.agg #[.int .i64 p2.t, .int .i64 p2.v, .int .i64 p2.d, .int .i64 (16 + p2.m), .int .i64 (thrO p2.o), .bool p2.c]) ∧ Below w.heap.size w w' := by
  subst hs; exact refCame_b p n w h
theorem refLost_c {p p2 : PS} (hs : p.lost = p2) (w : World) (h : p.Ok) :
    Calls Try.prog 10 #[.agg #[.int .i64 p.t, .int .i64 p.v, .int .i64 p.d, .int .i64 (16 + p.m), .int .i64 (thrO p.o), .bool p.c]] w fun e w' => e = .returned (.agg #[.int .i64 p2.t, .int .i64 p2.v, .int .i64 p2.d, .int .i64 (16 + p2.m), .int .i64 (thrO p2.o), .bool p2.c]) ∧ Below w.heap.size w w' := by
  subst hs; exact refLost_b p w h
theorem refGap_c {p p2 : PS} (hs : p.gap = p2) (w : World) (h : p.Ok) :
    Calls Try.prog 11 #[.agg #[.int .i64 p.t, .int .i64 p.v, .int .i64 p.d, .int .i64 (16 + p.m), .int .i64 (thrO p.o), .bool p.c]] w fun e w' => e = .returned (.agg #[.int .i64 p2.t, .int .i64 p2.v, .int .i64 p2.d, .int .i64 (16 + p2.m), .int .i64 (thrO p2.o), .bool p2.c]) ∧ Below w.heap.size w w' := by
  subst hs; exact refGap_b p w h
theorem rate_c (p : PS) (w : World) (h : p.Ok) :
    Calls Try.prog 14 #[.agg #[.int .i64 p.t, .int .i64 p.v, .bool p.c, .int .i64 p.d, .int .i64 p.m, .int .i64 p.o]] w fun e w' => e = .returned (.int .i64 ((16 + p.m) / 16)) ∧ Below w.heap.size w w' := rate_b p w h
structure PR (w wr : World) (g gd : Nat) (p p2 : PS) (qk qn : Int) : Prop where
  a : wr.heap[w.heap.size]? = some (.cells #[.int .i64 p2.t, .int .i64 p2.v, .bool p2.c, .int .i64 p2.d, .int .i64 p2.m, .int .i64 p2.o] 24 (0, 0))
  b : wr.heap[g]? = some (.cells #[.int .i64 p.t, .int .i64 p.v, .int .i64 p.d, .int .i64 (16 + p.m), .int .i64 (thrO p.o), .bool p.c] 26 (0, 0))
  d : wr.heap[gd]? = some (.cells #[.int .i64 qk, .int .i64 qn] 29 (0, 0))
  below : Below w.heap.size w wr
theorem PR.of {w w2 : World} {g gd : Nat} {p p2 : PS} {qk qn : Int} (hq : PQ w w2 g p) (hd : w2.heap[gd]? = some (.cells #[.int .i64 qk, .int .i64 qn] 29 (0, 0))) (hg : g ≠ w.heap.size) (hgd : gd ≠ w.heap.size) :
    PR w ((((((w2.setCell ⟨w.heap.size, 0, none⟩ (.int .i64 p2.t)).setCell ⟨w.heap.size, 1, none⟩ (.int .i64 p2.v)).setCell ⟨w.heap.size, 2, none⟩ (.bool p2.c)).setCell ⟨w.heap.size, 3, none⟩ (.int .i64 p2.d)).setCell ⟨w.heap.size, 4, none⟩ (.int .i64 p2.m)).setCell ⟨w.heap.size, 5, none⟩ (.int .i64 p2.o)) g gd p p2 qk qn :=
  ⟨six_cells w2 w.heap.size _ _ _ _ _ _ _ _ _ _ _ _ _ hq.a, (six_other w2 _ _ _ _ _ _ _ _ (Ne.symm hg)).trans hq.b, (six_other w2 _ _ _ _ _ _ _ _ (Ne.symm hgd)).trans hd,
    ((((((hq.below.setCell (Nat.le_refl _) _).setCell (Nat.le_refl _) _).setCell (Nat.le_refl _) _).setCell (Nat.le_refl _) _).setCell (Nat.le_refl _) _).setCell (Nat.le_refl _) _)⟩
theorem PR.kept {w wr w' : World} {g gd : Nat} {p p2 : PS} {qk qn : Int} (h : PR w wr g gd p p2 qk qn) (hb : Below wr.heap.size wr w') : PR w w' g gd p p2 qk qn :=
  ⟨block_kept h.a hb, block_kept h.b hb, block_kept h.d hb, h.below.trans (hb.mono h.below.size)⟩
theorem PR.pq {w wr : World} {g gd : Nat} {p p2 : PS} {qk qn : Int} (h : PR w wr g gd p p2 qk qn) (hg : g ≠ w.heap.size) (hgl : w.heap.size ≤ g) :
    PQ w ((((((wr.setCell ⟨g, 0, none⟩ (.int .i64 p2.t)).setCell ⟨g, 1, none⟩ (.int .i64 p2.v)).setCell ⟨g, 2, none⟩ (.int .i64 p2.d)).setCell ⟨g, 3, none⟩ (.int .i64 (16 + p2.m))).setCell ⟨g, 4, none⟩ (.int .i64 (thrO p2.o))).setCell ⟨g, 5, none⟩ (.bool p2.c)) g p2 :=
  ⟨(six_other wr _ _ _ _ _ _ _ _ hg).trans h.a, six_cells wr g _ _ _ _ _ _ _ _ _ _ _ _ _ h.b,
    ((((((h.below.setCell hgl _).setCell hgl _).setCell hgl _).setCell hgl _).setCell hgl _).setCell hgl _)⟩

set_option maxRecDepth 100000 in
set_option maxHeartbeats 4000000 in
theorem pacePlays_walk (A : Option Addr) (c : Nat) (l : List (Int × Int)) (w : World) (hl : l.length ≤ 9223372036854775807) (hr : DeedsAt w A l) :
    Calls Try.prog 3 #[.slice A l.length c] w fun e w' => e = .returned (.bool true) ∧ Below w.heap.size w w' := by
  go_enter Try.func3, Try.ntmps3
  go_wp2_with fail
  refine (newR_any _).mono ?_
  rintro e w1 ⟨rfl, hb1⟩
  have hA := block_kept (heap_new w (.cells #[.int .i64 0, .int .i64 0, .bool false, .int .i64 0, .int .i64 0, .int .i64 0] 24) w.heap.size rfl) hb1
  have hbel : Below w.heap.size w w1 := ((Below.refl _ _).alloc (Nat.le_refl _) _).trans (hb1.mono (by simp))
  have hgl := block_lt hA
  have HA := Kept.mk hA
  have HBel := Kept.mk hbel
  clear hA hb1 hbel
  go_wp2_with fail
  obtain ⟨g, hg⟩ : ∃ g, w1.heap.size = g := ⟨_, rfl⟩
  have HN : Kept (PQ w (w1.alloc (.cells #[.int .i64 0, .int .i64 0, .int .i64 0, .int .i64 16, .int .i64 1024, .bool false] 26)) g PS.zero) := ⟨block_old HA.out _, heap_new _ _ _ hg.symm, HBel.out.alloc (Nat.le_of_lt hgl) _⟩
  rw [hg] at hgl ⊢
  generalize w1.alloc (.cells #[.int .i64 0, .int .i64 0, .int .i64 0, .int .i64 16, .int .i64 1024, .bool false] 26) = X at *
  clear HA HBel hg w1
  go_loopw [5] (fun i wr => ∃ (k : Nat) (p : PS), k ≤ l.length ∧ k ≤ 300 ∧ i = .int .i64 k ∧ p.Ok ∧ PQ w wr g p) (fun i _ => 300 - (intOf i).toNat)
  case atStart => exact ⟨0, PS.zero, by omega, by omega, rfl, PS.zero_ok, HN.out⟩
  case round =>
    clear HN
    obtain ⟨k, p, hk, hk2, rfl, hp, hq⟩ := hrel
    obtain ⟨c0, c1, c2, c3, c4, c5⟩ := six_at hq.a
    have hgl0 := block_lt hq.a
    have HQ := Kept.mk hq
    have HP := Kept.mk hp
    by_cases hgo : k < l.length ∧ k < 300
    · obtain ⟨hlt, hlt2⟩ := hgo
      obtain ⟨ad, rfl, had, d1, d2⟩ := (hr.below hq.below).get hlt
      obtain ⟨qk, qn, hqq⟩ : ∃ qk qn, l[k] = (qk, qn) := ⟨_, _, rfl⟩
      rw [hqq] at d1 d2
      clear hqq
      dsimp only at d1 d2
      rw [add_next] at d2
      clear hq hp
      have ca : ∀ (ob : Obj) (j : Nat), (wr.alloc ob).cell? ⟨w.heap.size, j, none⟩ = wr.cell? ⟨w.heap.size, j, none⟩ := fun ob j => World.cell?_alloc_lt wr ob ⟨w.heap.size, j, none⟩ hgl0
      have hok := PS.step_ok HP.out qk qn
      obtain ⟨p2, hp2⟩ : ∃ p2, p.step qk qn = p2 := ⟨_, rfl⟩
      rw [hp2] at hok
      have HP2 := Kept.mk hok
      have HS := Kept.mk hp2
      have hm0 := hok.m0
      have hm1 := hok.m1
      clear hok hp2
      go_upto_region 8 with (go_at_call 8; refine (does_c HS.out _ HP.out).mono ?_; rintro e w2 ⟨rfl, hb2⟩; have hQ := (HQ.out.alloc (.cells #[.int .i64 qk, .int .i64 qn] 29)).kept hb2; have hD := block_kept (heap_new wr (.cells #[.int .i64 qk, .int .i64 qn] 29) wr.heap.size rfl) hb2; clear c0 c1 c2 c3 c4 c5 ca d1 d2 had; obtain ⟨c0, c1, c2, c3, c4, c5⟩ := six_at hQ.a; have nf := fun j => Joins.unfrozen_of_block hQ.a j; have e0 := Joins.cell_of_block hD 0; have e1 := Joins.cell_of_block hD 1; have HQ := Kept.mk hQ; have HD := Kept.mk hD; clear hb2 hQ hD)
      have HG : w.heap.size < g := hgl
      have hne : wr.heap.size ≠ w.heap.size := by omega
      go_cut [26] (fun s26 wx => s26 = .int .i64 qk ∧ PR w wx g wr.heap.size p p2 qk qn)
      case first =>
        go_wp2_with fail
        go_meet
        exact ⟨rfl, PR.of HQ.out HD.out (by omega) hne⟩
      case rest =>
        obtain ⟨rfl, hpr⟩ := hcut
        clear HQ HD nf c0 c1 c2 c3 c4 c5 e0 e1
        go_upto_block 2 with fail
        go_cut [] (fun wx => PQ w wx g p2)
        case first =>
          obtain ⟨f0, f1, f2, f3, f4, f5⟩ := six_at hpr.b
          have nf := fun j => Joins.unfrozen_of_block hpr.b j
          have e0 := Joins.cell_of_block hpr.d 0
          have e1 := Joins.cell_of_block hpr.d 1
          have HR := Kept.mk hpr
          clear hpr
          have hkind : ((qk = 0 ∨ qk = 1 ∨ qk = 2 ∨ qk = 3) ∧ p.came qn = p2) ∨ (qk = 4 ∧ p.lost = p2) ∨ (((qk == 0) = false ∧ (qk == 1) = false ∧ (qk == 2) = false ∧ (qk == 3) = false ∧ (qk == 4) = false) ∧ p.gap = p2) := by
            have hs := HS.out
            by_cases h1 : 0 ≤ qk ∧ qk ≤ 3
            · rw [PS.step, if_pos h1] at hs
              exact .inl ⟨by omega, hs⟩
            · by_cases h4 : qk = 4
              · rw [PS.step, if_neg h1, if_pos h4] at hs
                exact .inr (.inl ⟨h4, hs⟩)
              · rw [PS.step, if_neg h1, if_neg h4] at hs
                refine .inr (.inr ⟨⟨?_, ?_, ?_, ?_, ?_⟩, hs⟩) <;> (rw [beq_eq_false_iff_ne]; omega)
          rcases hkind with ⟨rfl | rfl | rfl | rfl, hc⟩ | ⟨rfl, hc⟩ | ⟨⟨k0, k1, k2, k3, k4⟩, hc⟩
          all_goals
            have HC := Kept.mk hc
            clear hc
            go_wp2_with (first | (go_at_call 9; refine (refCame_c HC.out _ HP.out).mono ?_; rintro e w3 ⟨rfl, hb3⟩; have hR := HR.out.kept hb3; clear f0 f1 f2 f3 f4 f5 e0 e1 nf HR hb3; obtain ⟨f0, f1, f2, f3, f4, f5⟩ := six_at hR.b; have nf := fun j => Joins.unfrozen_of_block hR.b j; have HR := Kept.mk hR; clear hR) | (go_at_call 10; refine (refLost_c HC.out _ HP.out).mono ?_; rintro e w3 ⟨rfl, hb3⟩; have hR := HR.out.kept hb3; clear f0 f1 f2 f3 f4 f5 e0 e1 nf HR hb3; obtain ⟨f0, f1, f2, f3, f4, f5⟩ := six_at hR.b; have nf := fun j => Joins.unfrozen_of_block hR.b j; have HR := Kept.mk hR; clear hR) | (go_at_call 11; refine (refGap_c HC.out _ HP.out).mono ?_; rintro e w3 ⟨rfl, hb3⟩; have hR := HR.out.kept hb3; clear f0 f1 f2 f3 f4 f5 e0 e1 nf HR hb3; obtain ⟨f0, f1, f2, f3, f4, f5⟩ := six_at hR.b; have nf := fun j => Joins.unfrozen_of_block hR.b j; have HR := Kept.mk hR; clear hR))
            go_meet
            exact HR.out.pq (by omega) (by omega)
        case rest =>
          have hq0 := hcut
          clear hcut HS
          go_upto_region 17 with fail
          go_cut [54] (fun s54 wx => s54 = .bool false ∧ PQ w wx g p2)
          case first =>
            have hq2 := hq0
            clear hq0
            obtain ⟨c0, c1, c2, c3, c4, c5⟩ := six_at hq2.a
            obtain ⟨f0, f1, f2, f3, f4, f5⟩ := six_at hq2.b
            have HQ2 := Kept.mk hq2
            clear hq2
            have e2 : (16 + p2.m).tdiv 16 = (16 + p2.m) / 16 := Int.tdiv_eq_ediv_of_nonneg (by omega)
            have e3 : IntKind.i64.wrap ((16 + p2.m) / 16) = (16 + p2.m) / 16 := wrap_i64_small _ (by omega) (by omega)
            go_region_with (first | (go_at_call 12; refine (waitp_b p2 _ HP2.out).mono ?_; rintro e wa ⟨rfl, hba⟩; have hQ := PQ.kept (g := g) (p := p2) (by first | exact HQ2.out | exact HQ2.out.drew) hba; clear HQ2 hba c0 c1 c2 c3 c4 c5 f0 f1 f2 f3 f4 f5; obtain ⟨c0, c1, c2, c3, c4, c5⟩ := six_at hQ.a; obtain ⟨f0, f1, f2, f3, f4, f5⟩ := six_at hQ.b; have HQ2 := Kept.mk hQ; clear hQ) | (go_at_call 13; refine (refWait_b p2 _ HP2.out).mono ?_; rintro e wa ⟨rfl, hba⟩; have hQ := PQ.kept (g := g) (p := p2) (by first | exact HQ2.out | exact HQ2.out.drew) hba; clear HQ2 hba c0 c1 c2 c3 c4 c5 f0 f1 f2 f3 f4 f5; obtain ⟨c0, c1, c2, c3, c4, c5⟩ := six_at hQ.a; obtain ⟨f0, f1, f2, f3, f4, f5⟩ := six_at hQ.b; have HQ2 := Kept.mk hQ; clear hQ) | (go_at_call 14; refine (rate_c p2 _ HP2.out).mono ?_; rintro e wa ⟨rfl, hba⟩; have hQ := PQ.kept (g := g) (p := p2) (by first | exact HQ2.out | exact HQ2.out.drew) hba; clear HQ2 hba c0 c1 c2 c3 c4 c5 f0 f1 f2 f3 f4 f5; obtain ⟨c0, c1, c2, c3, c4, c5⟩ := six_at hQ.a; obtain ⟨f0, f1, f2, f3, f4, f5⟩ := six_at hQ.b; have HQ2 := Kept.mk hQ; clear hQ))
            all_goals
              go_wp2_with fail
              first | go_meet | skip
              exact ⟨by simp [e2, e3], by first | exact HQ2.out | exact HQ2.out.drew⟩
          case rest =>
            obtain ⟨rfl, hq2⟩ := hcut
            go_wp2_with fail
            exact ⟨⟨k + 1, p2, by omega, by omega, by go_num, HP2.out, hq2⟩, by simp [intOf]; omega⟩
    · clear hp
      by_cases hlt : k < l.length
      · have hk3 : ¬ k < 300 := by omega
        clear hgo
        go_wp2_with fail
        refine (awake_any _).mono ?_
        rintro e wz ⟨rfl, hbz⟩
        go_wp2
        go_ret
        exact ⟨rfl, HQ.out.below.trans (hbz.mono HQ.out.below.size)⟩
      · clear hgo
        go_wp2_with fail
        refine (awake_any _).mono ?_
        rintro e wz ⟨rfl, hbz⟩
        go_wp2
        go_ret
        exact ⟨rfl, HQ.out.below.trans (hbz.mono HQ.out.below.size)⟩

theorem pacePlays_w {w : World} (A : Option Addr) (c : Nat) (l : List (Int × Int)) (hl : l.length ≤ 9223372036854775807) (hr : DeedsAt w A l) :
    Calls Try.prog 3 #[.slice A l.length c] w fun e w' => e = .returned (.bool true) ∧ Below w.heap.size w w' :=
  pacePlays_walk A c l w hl hr
end Go.Proofs.Ytpndjdiknlmddaa
