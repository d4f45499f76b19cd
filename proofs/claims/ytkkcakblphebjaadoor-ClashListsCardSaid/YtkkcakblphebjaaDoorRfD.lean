/- SHA-256 by definition: the sum of a text, by a contract. -/
import Derived.Test.YtkkcakblphebjaaDoorRfC
namespace Go.Proofs.YtkkcakblphebjaaDoor
set_option linter.unusedVariables false
set_option linter.unusedSimpArgs false
open Go.RowKit Go.Lib

theorem refStart_w (w : World) : Calls Tryd.prog 85 #[] w fun e w' => e = .returned (.slice (some ⟨w.heap.size, 0, none⟩) 8 8) ∧ w' = w.alloc (.cells (nv sInit.list).toArray 3) := by
  go_enter Tryd.func85, Tryd.ntmps85
  go_wp2_with fail
  go_ret
  exact ⟨rfl, rfl⟩
theorem refRounds_w (w : World) : Calls Tryd.prog 86 #[] w fun e w' => e = .returned (.slice (some ⟨w.heap.size, 0, none⟩) 64 64) ∧ w' = w.alloc (.cells (nv sK).toArray 3) := by
  go_enter Tryd.func86, Tryd.ntmps86
  go_wp2_with fail
  go_ret
  exact ⟨rfl, rfl⟩
theorem refStart_any (w : World) : Calls Tryd.prog 85 #[] w fun e w' => e = .returned (.slice (some ⟨w.heap.size, 0, none⟩) 8 8) ∧ w'.heap[w.heap.size]? = some (.cells (nv sInit.list).toArray 3 (0, 0)) ∧ w'.heap.size = w.heap.size + 1 ∧ Below w.heap.size w w' :=
  (refStart_w w).mono fun e w' h => ⟨h.1, by rw [h.2]; exact heap_new w _ _ rfl, by rw [h.2]; simp, by rw [h.2]; exact (Below.refl _ _).alloc (Nat.le_refl _) _⟩
theorem refRounds_any (w : World) : Calls Tryd.prog 86 #[] w fun e w' => e = .returned (.slice (some ⟨w.heap.size, 0, none⟩) 64 64) ∧ w'.heap[w.heap.size]? = some (.cells (nv sK).toArray 3 (0, 0)) ∧ Below w.heap.size w w' :=
  (refRounds_w w).mono fun e w' h => ⟨h.1, by rw [h.2]; exact heap_new w _ _ rfl, by rw [h.2]; exact (Below.refl _ _).alloc (Nat.le_refl _) _⟩
theorem RowAt.but {g : Nat} {w w' : World} {ad : Addr} {xs : List Value} (h : RowAt w (some ad) xs) (hb : But g w w') (hne : ad.block ≠ g) : RowAt w' (some ad) xs := by
  intro hx
  obtain ⟨a2, e, hl, hc⟩ := h hx
  cases e
  exact ⟨ad, rfl, Nat.lt_of_lt_of_le hl hb.size, fun j u hu => (World.cell?_of_block (w := w) (a := ad.add j) (by rw [add_block]; exact hb.block _ hl hne)).trans (hc j u hu)⟩
theorem RowAt.part {w : World} {g n m : Nat} {l : List UInt8} (h : RowAt w (some ⟨g, 0, none⟩) (Lib.byteCells l)) (hn : n + m ≤ l.length) (hm : 0 < m) : RowAt w (some ⟨g, n, none⟩) (Lib.byteCells ((l.drop n).take m)) := by
  obtain ⟨a2, e, hl, _⟩ := h (by rw [Lib.byteCells_length]; omega)
  cases e
  refine fun _ => ⟨_, rfl, hl, fun j u hu => ?_⟩
  rw [at_off]
  refine h.off0 (j := n + j) ?_
  have hj : j < m := by
    have := (List.getElem?_eq_some_iff.1 hu).1
    rw [Lib.byteCells_length, List.length_take] at this; omega
  unfold Lib.byteCells at hu ⊢
  rw [List.map_take, List.getElem?_take_of_lt hj, List.map_drop, List.getElem?_drop] at hu
  exact hu
/-- what the sum's loop holds: the words, the table, the text -/
structure SumR (w wr : World) (gh gp : Nat) (s : St) (l : List UInt8) : Prop where
  h : wr.heap[gh]? = some (.cells (nv s.list).toArray 3 (0, 0))
  k : wr.heap[gh + 1]? = some (.cells (nv sK).toArray 3 (0, 0))
  p : RowAt wr (some ⟨gp, 0, none⟩) (Lib.byteCells l)
  ne : gp < gh
  ge : w.heap.size ≤ gh
  below : Below w.heap.size w wr
theorem SumR.keep {w wr wx : World} {gh gp : Nat} {s : St} {l : List UInt8} (h : SumR w wr gh gp s l) (hb : Below wr.heap.size wr wx) : SumR w wx gh gp s l :=
  ⟨block_kept h.h hb, block_kept h.k hb, h.p.below hb, h.ne, h.ge, h.below.trans (hb.mono h.below.size)⟩
theorem SumR.set {w wr : World} {gh gp : Nat} {s s' : St} {l : List UInt8} (h : SumR w wr gh gp s l) {i x : Nat} (hx : (nv s.list).toArray.setIfInBounds i (.int .i64 (x : Int)) = (nv s'.list).toArray) : SumR w (wr.setCell ⟨gh, i, none⟩ (.int .i64 (x : Int))) gh gp s' l :=
  ⟨by rw [Joins.block_setCell h.h, hx], (setCell_other_block _ _ _ _ _ (by omega)).trans h.k, h.p.but (But.setCell gh wr i _) (by have := h.ne; show gp ≠ gh; omega), h.ne, h.ge, h.below.setCell h.ge _⟩
theorem sFold_zero (l : List UInt8) : sFold l 0 = sInit := rfl
theorem nk_get (i : Nat) (h : i < 64) : (nv sK).toArray[i]? = some (.int .i64 ((nth sK i : Nat) : Int)) := by
  rw [List.getElem?_toArray]; exact nv_get sK i h
theorem list_at (s : St) : (nv s.list).toArray[0]? = some (.int .i64 (s.a : Int)) ∧ (nv s.list).toArray[1]? = some (.int .i64 (s.b : Int)) ∧ (nv s.list).toArray[2]? = some (.int .i64 (s.c : Int)) ∧ (nv s.list).toArray[3]? = some (.int .i64 (s.d : Int)) ∧ (nv s.list).toArray[4]? = some (.int .i64 (s.e : Int)) ∧ (nv s.list).toArray[5]? = some (.int .i64 (s.f : Int)) ∧ (nv s.list).toArray[6]? = some (.int .i64 (s.g : Int)) ∧ (nv s.list).toArray[7]? = some (.int .i64 (s.h : Int)) := ⟨rfl, rfl, rfl, rfl, rfl, rfl, rfl, rfl⟩
theorem seven_adds (a b c d : Nat) (ha : a < 4294967296) (hb : b < 4294967296) (hc : c < 4294967296) (hd : d < 4294967296) (e : Nat) (he : e < 4294967296) :
    IntKind.i64.wrap ((a : Int) + (b : Int)) = (a : Int) + (b : Int) ∧ IntKind.i64.wrap ((a : Int) + (b : Int) + (c : Int)) = (a : Int) + (b : Int) + (c : Int) ∧
    IntKind.i64.wrap ((a : Int) + (b : Int) + (c : Int) + (d : Int)) = (a : Int) + (b : Int) + (c : Int) + (d : Int) ∧ IntKind.i64.wrap ((a : Int) + (b : Int) + (c : Int) + (d : Int) + (e : Int)) = (a : Int) + (b : Int) + (c : Int) + (d : Int) + (e : Int) ∧
    bits .and .i64 ((a : Int) + (b : Int) + (c : Int) + (d : Int) + (e : Int)) 4294967295 = ((ad (ad (ad (ad a b) c) d) e : Nat) : Int) := by
  refine ⟨i64_big _ (by omega) (by omega), i64_big _ (by omega) (by omega), i64_big _ (by omega) (by omega), i64_big _ (by omega) (by omega), ?_⟩
  rw [and_word]
  unfold ad; omega
theorem refRotr_q (x n m : Nat) (w : World) (h1 : x < 4294967296) (h2 : 2 ≤ n) (h3 : n ≤ 31) (hm : 32 - n = m) :
    Calls Tryd.prog 88 #[.int .i64 (x : Int), .int .i64 (n : Int)] w fun e w' => e = .returned (.int .i64 (rot x m : Nat)) ∧ ∃ k, w' = w.drewN k := by
  subst hm; exact refRotr_any x n w h1 h2 h3
theorem sS0_lt (a : Nat) (h : a < 4294967296) : sS0 a < 4294967296 := by rw [sS0_eq]; exact xo_lt (xo_lt (rot_lt _ _ h (by omega)) (rot_lt _ _ h (by omega))) (rot_lt _ _ h (by omega))
theorem sS1_lt (a : Nat) (h : a < 4294967296) : sS1 a < 4294967296 := by rw [sS1_eq]; exact xo_lt (xo_lt (rot_lt _ _ h (by omega)) (rot_lt _ _ h (by omega))) (rot_lt _ _ h (by omega))
theorem sch_lt (e f g : Nat) (h : e < 4294967296) : sch e f g < 4294967296 := by rw [sch_eq]; exact xo_lt (and_lt32 _ _ h) (and_lt32 _ _ (by omega))
theorem smaj_lt (a b c : Nat) (h : a < 4294967296) (hb : b < 4294967296) : smaj a b c < 4294967296 := by rw [smaj_eq]; exact xo_lt (xo_lt (and_lt32 _ _ h) (and_lt32 _ _ h)) (and_lt32 _ _ hb)
theorem rnd_eq (v : St) (k w : Nat) : v.rnd k w = ⟨ad (st1 v k w) (st2 v), v.a, v.b, v.c, ad v.d (st1 v k w), v.e, v.f, v.g⟩ := rfl
theorem sch_facts (e f g : Nat) (oe : e < 4294967296) (of : f < 4294967296) (og : g < 4294967296) :
    bits .and .i64 (e : Int) (f : Int) = ((e &&& f : Nat) : Int) ∧ IntKind.i64.wrap (4294967295 - (e : Int)) = 4294967295 - (e : Int) ∧ bits .and .i64 (4294967295 - (e : Int)) (g : Int) = (((4294967295 - e) &&& g : Nat) : Int) ∧
    bits .xor .i64 ((e &&& f : Nat) : Int) (((4294967295 - e) &&& g : Nat) : Int) = ((sch e f g : Nat) : Int) := by
  refine ⟨and_i64 e f oe of, i64_big _ (by omega) (by omega), ?_, ?_⟩
  · rw [show (4294967295 - (e : Int)) = ((4294967295 - e : Nat) : Int) by omega]; exact and_i64 _ _ (by omega) og
  · rw [sch_eq]; exact xor_i64 _ _ (and_lt32 _ _ oe) (and_lt32 _ _ (by omega))
theorem smaj_facts (a b c : Nat) (oa : a < 4294967296) (ob : b < 4294967296) (oc : c < 4294967296) :
    bits .and .i64 (a : Int) (b : Int) = ((a &&& b : Nat) : Int) ∧ bits .and .i64 (a : Int) (c : Int) = ((a &&& c : Nat) : Int) ∧ bits .and .i64 (b : Int) (c : Int) = ((b &&& c : Nat) : Int) ∧
    bits .xor .i64 ((a &&& b : Nat) : Int) ((a &&& c : Nat) : Int) = ((xo (a &&& b) (a &&& c) : Nat) : Int) ∧ bits .xor .i64 ((xo (a &&& b) (a &&& c) : Nat) : Int) ((b &&& c : Nat) : Int) = ((smaj a b c : Nat) : Int) := by
  refine ⟨and_i64 _ _ oa ob, and_i64 _ _ oa oc, and_i64 _ _ ob oc, xor_i64 _ _ (and_lt32 _ _ oa) (and_lt32 _ _ oa), ?_⟩
  rw [smaj_eq]; exact xor_i64 _ _ (xo_lt (and_lt32 _ _ oa) (and_lt32 _ _ oa)) (and_lt32 _ _ ob)
theorem sS_facts (e : Nat) (oe : e < 4294967296) :
    bits .xor .i64 ((rot e 26 : Nat) : Int) ((rot e 21 : Nat) : Int) = ((xo (rot e 26) (rot e 21) : Nat) : Int) ∧ bits .xor .i64 ((xo (rot e 26) (rot e 21) : Nat) : Int) ((rot e 7 : Nat) : Int) = ((sS1 e : Nat) : Int) ∧
    bits .xor .i64 ((rot e 30 : Nat) : Int) ((rot e 19 : Nat) : Int) = ((xo (rot e 30) (rot e 19) : Nat) : Int) ∧ bits .xor .i64 ((xo (rot e 30) (rot e 19) : Nat) : Int) ((rot e 10 : Nat) : Int) = ((sS0 e : Nat) : Int) := by
  have h := fun n (hn : n ≤ 31) => rot_lt e n oe (show n ≤ 32 by omega)
  refine ⟨xor_i64 _ _ (h 26 (by omega)) (h 21 (by omega)), ?_, xor_i64 _ _ (h 30 (by omega)) (h 19 (by omega)), ?_⟩
  · rw [sS1_eq]; exact xor_i64 _ _ (xo_lt (h 26 (by omega)) (h 21 (by omega))) (h 7 (by omega))
  · rw [sS0_eq]; exact xor_i64 _ _ (xo_lt (h 30 (by omega)) (h 19 (by omega))) (h 10 (by omega))
theorem sFold_next (X : List UInt8) (n : Nat) : sFold X (n + 1) = sMix (sFold X n) ((X.drop (64 * n)).take 64) := rfl
theorem sMix_eq (S : St) (g : List UInt8) : sMix S g = S.add (rnds S (sW g 48) 64) := rfl
theorem pn_0 (s v : St) : (nv (paddS s v 0).list).toArray[0]? = some (.int .i64 (s.a : Int)) := rfl
theorem pm_0 (s v : St) : (nv (paddS s v 0).list).toArray.setIfInBounds 0 (.int .i64 ((ad s.a v.a : Nat) : Int)) = (nv (paddS s v 1).list).toArray := rfl
theorem pn_1 (s v : St) : (nv (paddS s v 1).list).toArray[1]? = some (.int .i64 (s.b : Int)) := rfl
theorem pm_1 (s v : St) : (nv (paddS s v 1).list).toArray.setIfInBounds 1 (.int .i64 ((ad s.b v.b : Nat) : Int)) = (nv (paddS s v 2).list).toArray := rfl
theorem pn_2 (s v : St) : (nv (paddS s v 2).list).toArray[2]? = some (.int .i64 (s.c : Int)) := rfl
theorem pm_2 (s v : St) : (nv (paddS s v 2).list).toArray.setIfInBounds 2 (.int .i64 ((ad s.c v.c : Nat) : Int)) = (nv (paddS s v 3).list).toArray := rfl
theorem pn_3 (s v : St) : (nv (paddS s v 3).list).toArray[3]? = some (.int .i64 (s.d : Int)) := rfl
theorem pm_3 (s v : St) : (nv (paddS s v 3).list).toArray.setIfInBounds 3 (.int .i64 ((ad s.d v.d : Nat) : Int)) = (nv (paddS s v 4).list).toArray := rfl
theorem pn_4 (s v : St) : (nv (paddS s v 4).list).toArray[4]? = some (.int .i64 (s.e : Int)) := rfl
theorem pm_4 (s v : St) : (nv (paddS s v 4).list).toArray.setIfInBounds 4 (.int .i64 ((ad s.e v.e : Nat) : Int)) = (nv (paddS s v 5).list).toArray := rfl
theorem pn_5 (s v : St) : (nv (paddS s v 5).list).toArray[5]? = some (.int .i64 (s.f : Int)) := rfl
theorem pm_5 (s v : St) : (nv (paddS s v 5).list).toArray.setIfInBounds 5 (.int .i64 ((ad s.f v.f : Nat) : Int)) = (nv (paddS s v 6).list).toArray := rfl
theorem pn_6 (s v : St) : (nv (paddS s v 6).list).toArray[6]? = some (.int .i64 (s.g : Int)) := rfl
theorem pm_6 (s v : St) : (nv (paddS s v 6).list).toArray.setIfInBounds 6 (.int .i64 ((ad s.g v.g : Nat) : Int)) = (nv (paddS s v 7).list).toArray := rfl
theorem pn_7 (s v : St) : (nv (paddS s v 7).list).toArray[7]? = some (.int .i64 (s.h : Int)) := rfl
theorem pm_7 (s v : St) : (nv (paddS s v 7).list).toArray.setIfInBounds 7 (.int .i64 ((ad s.h v.h : Nat) : Int)) = (nv (paddS s v 8).list).toArray := rfl
theorem paddS_zero (s v : St) : paddS s v 0 = s := rfl
theorem vrow_new (W : World) (v : St) : (W.alloc (.cells #[.int .i64 (v.a : Int), .int .i64 (v.b : Int), .int .i64 (v.c : Int), .int .i64 (v.d : Int), .int .i64 (v.e : Int), .int .i64 (v.f : Int), .int .i64 (v.g : Int), .int .i64 (v.h : Int)] 3)).heap[W.heap.size]? = some (.cells (nv v.list).toArray 3 (0, 0)) := heap_new _ _ _ rfl
theorem list_length (s : St) : s.list.length = 8 := rfl
theorem two_adds (a b : Nat) (ha : a < 4294967296) (hb : b < 4294967296) : IntKind.i64.wrap ((a : Int) + (b : Int)) = (a : Int) + (b : Int) ∧ bits .and .i64 ((a : Int) + (b : Int)) 4294967295 = ((ad a b : Nat) : Int) := by
  refine ⟨i64_big _ (by omega) (by omega), ?_⟩
  rw [and_word]
  unfold ad; omega
attribute [local irreducible] nv sFold sSum sOut sPad sMix sW rnds St.rnd St.add St.list sK paddS nth rot xo ad sS0 sS1 sch smaj st1 st2 str Lib.byteCells

set_option maxRecDepth 100000 in
set_option maxHeartbeats 4000000 in
theorem refSum_any (l : List UInt8) (w : World) (hl : l.length ≤ 900000000) :
    Calls Tryd.prog 55 #[.string (str l)] w fun e w' => e = .returned (.string (str (sSum l))) ∧ Below w.heap.size w w' := by
  have hpl := sPad_length l.length
  have hle : (l ++ sPad l.length).length = l.length + (sPad l.length).length := List.length_append
  have HE := Kept.mk (sSum_eq l)
  go_enter Tryd.func55, Tryd.ntmps55
  go_wp2_with fail
  refine (refPadded_any l w hl).mono ?_
  rintro e w1 ⟨gp, cap, rfl, hcap, hrow, hb1⟩
  have hgp : gp < w1.heap.size := by obtain ⟨ad, e, h, _⟩ := hrow (by rw [Lib.byteCells_length]; omega); cases e; exact h
  have HR := Kept.mk hrow
  have HB := Kept.mk hb1
  clear hrow hb1
  generalize hX : l ++ sPad l.length = X at *
  have HX := Kept.mk hX; clear hX
  have hX64 : X.length % 64 = 0 := by omega
  have hXl : X.length ≤ 900000072 := by omega
  clear hle hpl
  go_wp2_with fail
  refine (refStart_any w1).mono ?_
  rintro e w2 ⟨rfl, hh2, hs2, hb2⟩
  have HH2 := Kept.mk hh2
  have HB2 := Kept.mk hb2
  clear hh2 hb2
  go_wp2_with fail
  refine (refRounds_any w2).mono ?_
  rintro e w3 ⟨rfl, hh3, hb3⟩
  have hS : SumR w w3 w1.heap.size gp (sFold X 0) X := by
    rw [sFold_zero]
    exact ⟨block_kept HH2.out hb3, by rw [← hs2]; exact hh3, (HR.out.below HB2.out).below hb3, hgp, HB.out.size, (HB.out.trans (HB2.out.mono HB.out.size)).trans (hb3.mono (Nat.le_trans HB.out.size HB2.out.size))⟩
  have HS := Kept.mk hS
  clear hS hh3 hb3 HR HB HH2 HB2
  rw [hs2]
  clear hs2
  generalize w1.heap.size = gh at *
  go_wp2_with fail
  go_loopw [6] (fun s6 wr => ∃ n : Nat, 64 * n ≤ X.length ∧ s6 = .int .i64 (64 * n : Nat) ∧ SumR w wr gh gp (sFold X n) X) (fun s6 _ => X.length - (RowKit.intOf s6).toNat)
  case atStart => exact ⟨0, by omega, rfl, HS.out⟩
  case round =>
    clear HS
    obtain ⟨n, hn, rfl, hs⟩ := hrel
    by_cases hlt : 64 * n < X.length
    · have hx64 : 64 * n + 64 ≤ X.length := by omega
      have hg : ((X.drop (64 * n)).take 64).length = 64 := by rw [List.length_take, List.length_drop]; omega
      have hpp := hs.p.part (n := 64 * n) (m := 64) hx64 (by omega)
      have HG := Kept.mk hg
      have HP := Kept.mk hpp
      have HS := Kept.mk hs
      have hi0 := i64_big (64 * (n : Int) + 64) (by omega) (by omega)
      have hi1 : (0 : Int) ≤ 64 * (n : Int) := by omega
      have hi2 : 64 * (n : Int) ≤ 64 * (n : Int) + 64 := by omega
      have hi3 : 64 * (n : Int) + 64 ≤ (cap : Int) := by omega
      have hi4 : (64 * (n : Int)).toNat = 64 * n := by omega
      have hi5 : (64 * (n : Int) + 64).toNat = 64 * n + 64 := by omega
      have hi6 : 64 * n + 64 ≤ cap := by omega
      have hi7 : (0 : Int) ≤ 64 * (n : Int) + 64 := by omega
      have hi8 : 64 * (n : Int) < (X.length : Int) := by omega
      have hi9 : ¬ cap = 64 * n := by omega
      clear hg hpp hs
      go_wp2_with fail
      refine (refScheduled_any ((X.drop (64 * n)).take 64) gp (64 * n) (cap - 64 * n) wr HG.out HP.out).mono ?_
      rintro e w4 ⟨gw, capw, rfl, hrow, hb4⟩
      have HS4 := Kept.mk (HS.out.keep hb4)
      have HW := Kept.mk hrow
      clear HS HP hrow hb4 hi0 hi1 hi2 hi3 hi4 hi5 hi6 hi7 hi8 hi9
      have hok := sFold_ok X n
      generalize hSS : sFold X n = S at *
      have HSS := Kept.mk hSS; clear hSS
      obtain ⟨a0, a1, a2, a3, a4, a5, a6, a7⟩ := list_at S
      have c0 := (Joins.cell_of_block HS4.out.h 0).trans a0
      have c1 := (Joins.cell_of_block HS4.out.h 1).trans a1
      have c2 := (Joins.cell_of_block HS4.out.h 2).trans a2
      have c3 := (Joins.cell_of_block HS4.out.h 3).trans a3
      have c4 := (Joins.cell_of_block HS4.out.h 4).trans a4
      have c5 := (Joins.cell_of_block HS4.out.h 5).trans a5
      have c6 := (Joins.cell_of_block HS4.out.h 6).trans a6
      have c7 := (Joins.cell_of_block HS4.out.h 7).trans a7
      clear a0 a1 a2 a3 a4 a5 a6 a7
      generalize hWW : sW ((X.drop (64 * n)).take 64) 48 = W at *
      have hWl : W.length = 64 := by rw [← hWW, sW_length]
      have hWs : ∀ i, nth W i < 4294967296 := fun i => by rw [← hWW]; exact sW_small _ _ i
      have HWW := Kept.mk hWW
      have HWl := Kept.mk hWl
      have HWs := Kept.mk hWs
      have HOK := Kept.mk hok
      clear hWW hWl hWs hok
      go_wp2_with fail
      go_quiet (fail)
      go_wp2_with fail
      clear c0 c1 c2 c3 c4 c5 c6 c7
      go_loopw [8, 9, 10, 11, 12, 13, 14, 15, 16] (fun s8 s9 s10 s11 s12 s13 s14 s15 s16 wx => ∃ t : Nat, t ≤ 64 ∧ s16 = .int .i64 t ∧ s8 = .int .i64 ((rnds S W t).a : Int) ∧ s9 = .int .i64 ((rnds S W t).b : Int) ∧ s10 = .int .i64 ((rnds S W t).c : Int) ∧ s11 = .int .i64 ((rnds S W t).d : Int) ∧ s12 = .int .i64 ((rnds S W t).e : Int) ∧ s13 = .int .i64 ((rnds S W t).f : Int) ∧ s14 = .int .i64 ((rnds S W t).g : Int) ∧ s15 = .int .i64 ((rnds S W t).h : Int) ∧ SumR w wx gh gp S X ∧ RowAt wx (some ⟨gw, 0, none⟩) (nv W)) (fun _ _ _ _ _ _ _ _ s16 _ => 64 - (RowKit.intOf s16).toNat)
      case atStart =>
        have hd := below_drewN (Below.refl w4.heap.size w4) nq
        refine ⟨0, by omega, rfl, ?_⟩
        rw [rnds_zero]
        exact ⟨rfl, rfl, rfl, rfl, rfl, rfl, rfl, rfl, HS4.out.keep hd, HW.out.below hd⟩
      case round =>
        clear HS4 HW nq w4
        obtain ⟨t, ht, rfl, rfl, rfl, rfl, rfl, rfl, rfl, rfl, rfl, hs, hw⟩ := hrel
        have hvok := rnds_ok HOK.out W t
        have HNX := Kept.mk (rnds_next S W t)
        by_cases ht64 : t < 64
        · generalize rnds S W t = v at *
          have ck := (Joins.cell_of_block hs.k t).trans (nk_get t ht64)
          have cw := hw.off0 (nv_get W t (by rw [HWl.out]; exact ht64))
          have kl := sK_small t
          have wl := HWs.out t
          generalize hk0 : nth sK t = k0 at *
          generalize hw0 : nth W t = w0 at *
          have HK0 := Kept.mk hk0; clear hk0
          have HW0 := Kept.mk hw0; clear hw0
          obtain ⟨oa, ob, oc, od, oe, of, og, oh⟩ := hvok
          have HS := Kept.mk hs
          have HW := Kept.mk hw
          clear hs hw
          have t64 : (t : Int) < 64 := by omega
          have HV1 := Kept.mk (st1_eq v k0 w0)
          have HV2 := Kept.mk (st2_eq v)
          have HRN := Kept.mk (rnd_eq v k0 w0)
          have l1 : st1 v k0 w0 < 4294967296 := by rw [st1_eq]; exact ad_lt _ _
          have l2 : st2 v < 4294967296 := by rw [st2_eq]; exact ad_lt _ _
          have F1 := Kept.mk (sS_facts v.e oe)
          have F2 := Kept.mk (sch_facts v.e v.f v.g oe of og)
          have F3 := Kept.mk (seven_adds v.h (sS1 v.e) (sch v.e v.f v.g) k0 oh (sS1_lt _ oe) (sch_lt _ _ _ oe) kl w0 wl)
          have F4 := Kept.mk (sS_facts v.a oa)
          have F5 := Kept.mk (smaj_facts v.a v.b v.c oa ob oc)
          have F6 := Kept.mk (two_adds (sS0 v.a) (smaj v.a v.b v.c) (sS0_lt _ oa) (smaj_lt _ _ _ oa ob))
          have F7 := Kept.mk (two_adds v.d (st1 v k0 w0) od l1)
          have F8 := Kept.mk (two_adds (st1 v k0 w0) (st2 v) l1 l2)
          go_wp2_with fail
          obtain ⟨q1, q2, _, _⟩ := F1.out
          obtain ⟨q3, q4, q5, q6⟩ := F2.out
          obtain ⟨z1, z2, z3, z4, z5⟩ := F3.out
          rw [← HV1.out] at z5
          go_quiet ((first | (go_at_call_of 88 (Value.int .i64 6); exact Calls.quiet_of (refRotr_q v.e 6 26 _ oe (by omega) (by omega) rfl)) | (go_at_call_of 88 (Value.int .i64 11); exact Calls.quiet_of (refRotr_q v.e 11 21 _ oe (by omega) (by omega) rfl)) | (go_at_call_of 88 (Value.int .i64 25); exact Calls.quiet_of (refRotr_q v.e 25 7 _ oe (by omega) (by omega) rfl))))
          clear ck cw q1 q2 q3 q4 q5 q6 z1 z2 z3 z4 z5
          obtain ⟨_, _, p1, p2⟩ := F4.out
          obtain ⟨p3, p4, p5, p6, p7⟩ := F5.out
          obtain ⟨y1, y2⟩ := F6.out
          rw [← HV2.out] at y2
          go_wp2_with fail
          refine (refRotr_m v.a 2 30 _ oa (by omega) (by omega) rfl).mono ?_
          rintro e w5 ⟨rfl, hd5⟩
          have HB5 := Kept.mk ((below_drewN (Below.refl wr.heap.size wr) nq).trans (hd5.mono (Nat.le_refl _)))
          clear hd5
          go_wp2_with fail
          refine (refRotr_m v.a 13 19 _ oa (by omega) (by omega) rfl).mono ?_
          rintro e w6 ⟨rfl, hd6⟩
          have HB6 := Kept.mk (HB5.out.trans (hd6.mono HB5.out.size))
          clear hd6 HB5
          go_wp2_with fail
          refine (refRotr_m v.a 22 10 _ oa (by omega) (by omega) rfl).mono ?_
          rintro e w7 ⟨rfl, hd7⟩
          have HB7 := Kept.mk (HB6.out.trans (hd7.mono HB6.out.size))
          clear hd7 HB6
          obtain ⟨x1, x2⟩ := F7.out
          obtain ⟨x3, x4⟩ := F8.out
          go_wp2_with fail
          refine ⟨⟨t + 1, by omega, by go_num, ?_⟩, by simp [RowKit.intOf]; omega⟩
          rw [HNX.out, HRN.out]
          exact ⟨rfl, rfl, rfl, rfl, rfl, rfl, rfl, rfl, HS.out.keep HB7.out, HW.out.below HB7.out⟩
        · have h64 : t = 64 := by omega
          subst h64
          have hmx : sFold X (n + 1) = S.add (rnds S W 64) := by rw [sFold_next, HSS.out, sMix_eq, HWW.out]
          have HMX := Kept.mk hmx; clear hmx
          generalize rnds S W 64 = v at *
          have HS := Kept.mk hs
          clear hs hw
          go_upto_region 23 with fail
          have hb := HS.out.below
          have hs2 := HS.out.keep ((Below.refl wr.heap.size wr).alloc (Nat.le_refl _) (.cells #[.int .i64 (v.a : Int), .int .i64 (v.b : Int), .int .i64 (v.c : Int), .int .i64 (v.d : Int), .int .i64 (v.e : Int), .int .i64 (v.f : Int), .int .i64 (v.g : Int), .int .i64 (v.h : Int)] 3))
          have hv2 := vrow_new wr v
          have hgl := block_lt HS.out.h
          generalize wr.alloc (.cells #[.int .i64 (v.a : Int), .int .i64 (v.b : Int), .int .i64 (v.c : Int), .int .i64 (v.d : Int), .int .i64 (v.e : Int), .int .i64 (v.f : Int), .int .i64 (v.g : Int), .int .i64 (v.h : Int)] 3) = wv at *
          rw [← paddS_zero S v] at hs2
          have HS2 := Kept.mk hs2
          have HV2 := Kept.mk hv2
          clear hs2 hv2 HS hb
          generalize wr.heap.size = gv at *
          go_wp2_with fail
          rw [show ((64 : Nat) : Int) = 64 from rfl]
          go_loopw [20] (fun s20 wx => ∃ i : Nat, i ≤ 8 ∧ s20 = .int .i64 i ∧ SumR w wx gh gp (paddS S v i) X ∧ wx.heap[gv]? = some (.cells (nv v.list).toArray 3 (0, 0))) (fun s20 _ => 8 - (RowKit.intOf s20).toNat)
          case atStart => exact ⟨0, by omega, rfl, HS2.out, HV2.out⟩
          case round =>
            clear HS2 HV2 wv
            obtain ⟨i, hi, rfl, hs, hv⟩ := hrel
            obtain ⟨oa, ob, oc, od, oe, of, og, oh⟩ := HOK.out
            obtain ⟨ua, ub, uc, ud, ue, uf, ug, uh⟩ := hvok
            obtain ⟨e0, e1, e2, e3, e4, e5, e6, e7⟩ := list_at v
            have hcs : i = 0 ∨ i = 1 ∨ i = 2 ∨ i = 3 ∨ i = 4 ∨ i = 5 ∨ i = 6 ∨ i = 7 ∨ i = 8 := by omega
            rcases hcs with rfl | rfl | rfl | rfl | rfl | rfl | rfl | rfl | rfl
            · have c0 := (Joins.cell_of_block hs.h 0).trans (pn_0 S v)
              have d0 := (Joins.cell_of_block hv 0).trans e0
              have nf := Joins.unfrozen_of_block hs.h 0
              obtain ⟨x1, x2⟩ := two_adds S.a v.a oa ua
              have HN := Kept.mk (hs.set (pm_0 S v))
              have HV := Kept.mk ((setCell_other_block wr gh gv 0 (.int .i64 ((ad S.a v.a : Nat) : Int)) (by omega)).trans hv)
              clear hs hv e0 e1 e2 e3 e4 e5 e6 e7
              go_wp2_with fail
              go_still_tail 13, (by kernel_rfl)
              change wpList _ _ _ _ _ (World.drew _)
              go_wp2
              exact ⟨⟨1, by omega, rfl, HN.out.keep (Below.refl _ _).drew, HV.out⟩, by decide⟩
            · have c0 := (Joins.cell_of_block hs.h 1).trans (pn_1 S v)
              have d0 := (Joins.cell_of_block hv 1).trans e1
              have nf := Joins.unfrozen_of_block hs.h 1
              obtain ⟨x1, x2⟩ := two_adds S.b v.b ob ub
              have HN := Kept.mk (hs.set (pm_1 S v))
              have HV := Kept.mk ((setCell_other_block wr gh gv 1 (.int .i64 ((ad S.b v.b : Nat) : Int)) (by omega)).trans hv)
              clear hs hv e0 e1 e2 e3 e4 e5 e6 e7
              go_wp2_with fail
              go_still_tail 13, (by kernel_rfl)
              change wpList _ _ _ _ _ (World.drew _)
              go_wp2
              exact ⟨⟨2, by omega, rfl, HN.out.keep (Below.refl _ _).drew, HV.out⟩, by decide⟩
            · have c0 := (Joins.cell_of_block hs.h 2).trans (pn_2 S v)
              have d0 := (Joins.cell_of_block hv 2).trans e2
              have nf := Joins.unfrozen_of_block hs.h 2
              obtain ⟨x1, x2⟩ := two_adds S.c v.c oc uc
              have HN := Kept.mk (hs.set (pm_2 S v))
              have HV := Kept.mk ((setCell_other_block wr gh gv 2 (.int .i64 ((ad S.c v.c : Nat) : Int)) (by omega)).trans hv)
              clear hs hv e0 e1 e2 e3 e4 e5 e6 e7
              go_wp2_with fail
              go_still_tail 13, (by kernel_rfl)
              change wpList _ _ _ _ _ (World.drew _)
              go_wp2
              exact ⟨⟨3, by omega, rfl, HN.out.keep (Below.refl _ _).drew, HV.out⟩, by decide⟩
            · have c0 := (Joins.cell_of_block hs.h 3).trans (pn_3 S v)
              have d0 := (Joins.cell_of_block hv 3).trans e3
              have nf := Joins.unfrozen_of_block hs.h 3
              obtain ⟨x1, x2⟩ := two_adds S.d v.d od ud
              have HN := Kept.mk (hs.set (pm_3 S v))
              have HV := Kept.mk ((setCell_other_block wr gh gv 3 (.int .i64 ((ad S.d v.d : Nat) : Int)) (by omega)).trans hv)
              clear hs hv e0 e1 e2 e3 e4 e5 e6 e7
              go_wp2_with fail
              go_still_tail 13, (by kernel_rfl)
              change wpList _ _ _ _ _ (World.drew _)
              go_wp2
              exact ⟨⟨4, by omega, rfl, HN.out.keep (Below.refl _ _).drew, HV.out⟩, by decide⟩
            · have c0 := (Joins.cell_of_block hs.h 4).trans (pn_4 S v)
              have d0 := (Joins.cell_of_block hv 4).trans e4
              have nf := Joins.unfrozen_of_block hs.h 4
              obtain ⟨x1, x2⟩ := two_adds S.e v.e oe ue
              have HN := Kept.mk (hs.set (pm_4 S v))
              have HV := Kept.mk ((setCell_other_block wr gh gv 4 (.int .i64 ((ad S.e v.e : Nat) : Int)) (by omega)).trans hv)
              clear hs hv e0 e1 e2 e3 e4 e5 e6 e7
              go_wp2_with fail
              go_still_tail 13, (by kernel_rfl)
              change wpList _ _ _ _ _ (World.drew _)
              go_wp2
              exact ⟨⟨5, by omega, rfl, HN.out.keep (Below.refl _ _).drew, HV.out⟩, by decide⟩
            · have c0 := (Joins.cell_of_block hs.h 5).trans (pn_5 S v)
              have d0 := (Joins.cell_of_block hv 5).trans e5
              have nf := Joins.unfrozen_of_block hs.h 5
              obtain ⟨x1, x2⟩ := two_adds S.f v.f of uf
              have HN := Kept.mk (hs.set (pm_5 S v))
              have HV := Kept.mk ((setCell_other_block wr gh gv 5 (.int .i64 ((ad S.f v.f : Nat) : Int)) (by omega)).trans hv)
              clear hs hv e0 e1 e2 e3 e4 e5 e6 e7
              go_wp2_with fail
              go_still_tail 13, (by kernel_rfl)
              change wpList _ _ _ _ _ (World.drew _)
              go_wp2
              exact ⟨⟨6, by omega, rfl, HN.out.keep (Below.refl _ _).drew, HV.out⟩, by decide⟩
            · have c0 := (Joins.cell_of_block hs.h 6).trans (pn_6 S v)
              have d0 := (Joins.cell_of_block hv 6).trans e6
              have nf := Joins.unfrozen_of_block hs.h 6
              obtain ⟨x1, x2⟩ := two_adds S.g v.g og ug
              have HN := Kept.mk (hs.set (pm_6 S v))
              have HV := Kept.mk ((setCell_other_block wr gh gv 6 (.int .i64 ((ad S.g v.g : Nat) : Int)) (by omega)).trans hv)
              clear hs hv e0 e1 e2 e3 e4 e5 e6 e7
              go_wp2_with fail
              go_still_tail 13, (by kernel_rfl)
              change wpList _ _ _ _ _ (World.drew _)
              go_wp2
              exact ⟨⟨7, by omega, rfl, HN.out.keep (Below.refl _ _).drew, HV.out⟩, by decide⟩
            · have c0 := (Joins.cell_of_block hs.h 7).trans (pn_7 S v)
              have d0 := (Joins.cell_of_block hv 7).trans e7
              have nf := Joins.unfrozen_of_block hs.h 7
              obtain ⟨x1, x2⟩ := two_adds S.h v.h oh uh
              have HN := Kept.mk (hs.set (pm_7 S v))
              have HV := Kept.mk ((setCell_other_block wr gh gv 7 (.int .i64 ((ad S.h v.h : Nat) : Int)) (by omega)).trans hv)
              clear hs hv e0 e1 e2 e3 e4 e5 e6 e7
              go_wp2_with fail
              go_still_tail 13, (by kernel_rfl)
              change wpList _ _ _ _ _ (World.drew _)
              go_wp2
              exact ⟨⟨8, by omega, rfl, HN.out.keep (Below.refl _ _).drew, HV.out⟩, by decide⟩
            · rw [paddS_8, ← HMX.out] at hs
              have HS := Kept.mk hs
              clear hs hv e0 e1 e2 e3 e4 e5 e6 e7
              have hi0 := i64_big (64 * (n : Int) + 64) (by omega) (by omega)
              go_wp2_with fail
              refine ⟨⟨n + 1, by omega, by go_num, HS.out⟩, by simp [RowKit.intOf]; omega⟩
    · have hnx : 64 * n = X.length := by omega
      have hfin : sSum l = sOut (sFold X n).list 8 := by rw [HE.out]; rw [show X.length / 64 = n by omega]
      have HF := Kept.mk hfin; clear hfin
      have hok := sFold_ok X n
      generalize sFold X n = F at *
      have HS := Kept.mk hs
      clear hs
      have hlt2 : ¬ (64 * (n : Int) < (X.length : Int)) := by omega
      go_upto_region 28 with fail
      obtain ⟨W9, hW⟩ : ∃ W9, W9 = wr := ⟨wr, rfl⟩
      subst hW
      obtain ⟨i0, hi, hz0, hz1, hz2⟩ := info_parts infoByte
      go_wp2_with fail
      go_loopw [21, 22] (fun s21 s22 wr => ∃ i : Nat, i ≤ 8 ∧ s22 = .int .i64 i ∧ Buf W9 wr s21 (sOut F.list i)) (fun _ s22 _ => 8 - (RowKit.intOf s22).toNat)
      case atStart => exact ⟨0, by omega, rfl, (buf_nil (Below.refl _ _)).is (sOut_zero _).symm⟩
      case round =>
        obtain ⟨i, hi8, rfl, hbf⟩ := hrel
        by_cases hi9 : i < 8
        · have HNX := Kept.mk (sOut_next F.list i)
          have hol := sOut_length F.list i
          have cx : ∀ wx, Below W9.heap.size W9 wx → wx.cell? ⟨gh, i, none⟩ = some (.int .i64 ((nth F.list i : Nat) : Int)) := fun wx hb => (Joins.cell_of_block (block_kept HS.out.h hb) i).trans (by rw [List.getElem?_toArray]; exact nv_get _ i (by rw [list_length]; exact hi9))
          have HC := Kept.mk cx; clear cx
          have HBF := Kept.mk hbf; clear hbf
          have hi10 : (i : Int) < 8 := by omega
          generalize nth F.list i = x at *
          generalize sOut F.list i = O at *
          go_wp2_with fail
          go_loopw [21, 23] (fun s21 s23 wr => ∃ j : Nat, j ≤ 4 ∧ s23 = .int .i64 (3 - (j : Int)) ∧ Buf W9 wr s21 (O ++ (by4 x).take j)) (fun _ s23 _ => (RowKit.intOf s23 + 1).toNat)
          case atStart => exact ⟨0, by omega, rfl, HBF.out.is (by simp)⟩
          case round =>
            clear HBF
            obtain ⟨j, hj, rfl, hbf⟩ := hrel
            have hcs : j = 0 ∨ j = 1 ∨ j = 2 ∨ j = 3 ∨ j = 4 := by omega
            have cx := HC.out _ hbf.2.1
            rcases hcs with rfl | rfl | rfl | rfl | rfl
            · have HN := Kept.mk (show (O ++ (by4 x).take 0) ++ [byt ((x : Int) / 16777216)] = O ++ (by4 x).take (0 + 1) by rw [List.append_assoc]; rfl)
              have hlen : (O ++ (by4 x).take 0).length ≤ 100 := by rw [List.length_append, List.length_take]; omega
              have h255 := and_255 ((x : Int) / 16777216)
              have HY := Kept.mk (byt_toNat ((x : Int) / 16777216))
              have hbf : OwnBuf W9.heap.size 5 _ (O ++ (by4 x).take 0).length (Lib.byteCells (O ++ (by4 x).take 0)) W9 wr := hbf
              generalize O ++ (by4 x).take 0 = M at *
              go_wp2_with (at_builtin; refine Lib.wpList_append_byte rfl (.tmp 167) (.tmp 177) 107 rfl W9.heap.size 5 i0 Tryd.underlying107 hi hz0 hz1 hz2 _ _ _ rfl W9 _ _ hbf rfl ?_ ?_; omega; intro v' w' ho)
              exact ⟨⟨0 + 1, by omega, rfl, Buf.is (Buf.byte (d := byt ((x : Int) / 16777216)) ho HY.out.symm) HN.out⟩, by decide⟩
            · have HN := Kept.mk (show (O ++ (by4 x).take 1) ++ [byt ((x : Int) / 65536)] = O ++ (by4 x).take (1 + 1) by rw [List.append_assoc]; rfl)
              have hlen : (O ++ (by4 x).take 1).length ≤ 100 := by rw [List.length_append, List.length_take]; omega
              have h255 := and_255 ((x : Int) / 65536)
              have HY := Kept.mk (byt_toNat ((x : Int) / 65536))
              have hbf : OwnBuf W9.heap.size 5 _ (O ++ (by4 x).take 1).length (Lib.byteCells (O ++ (by4 x).take 1)) W9 wr := hbf
              generalize O ++ (by4 x).take 1 = M at *
              go_wp2_with (at_builtin; refine Lib.wpList_append_byte rfl (.tmp 167) (.tmp 177) 107 rfl W9.heap.size 5 i0 Tryd.underlying107 hi hz0 hz1 hz2 _ _ _ rfl W9 _ _ hbf rfl ?_ ?_; omega; intro v' w' ho)
              exact ⟨⟨1 + 1, by omega, rfl, Buf.is (Buf.byte (d := byt ((x : Int) / 65536)) ho HY.out.symm) HN.out⟩, by decide⟩
            · have HN := Kept.mk (show (O ++ (by4 x).take 2) ++ [byt ((x : Int) / 256)] = O ++ (by4 x).take (2 + 1) by rw [List.append_assoc]; rfl)
              have hlen : (O ++ (by4 x).take 2).length ≤ 100 := by rw [List.length_append, List.length_take]; omega
              have h255 := and_255 ((x : Int) / 256)
              have HY := Kept.mk (byt_toNat ((x : Int) / 256))
              have hbf : OwnBuf W9.heap.size 5 _ (O ++ (by4 x).take 2).length (Lib.byteCells (O ++ (by4 x).take 2)) W9 wr := hbf
              generalize O ++ (by4 x).take 2 = M at *
              go_wp2_with (at_builtin; refine Lib.wpList_append_byte rfl (.tmp 167) (.tmp 177) 107 rfl W9.heap.size 5 i0 Tryd.underlying107 hi hz0 hz1 hz2 _ _ _ rfl W9 _ _ hbf rfl ?_ ?_; omega; intro v' w' ho)
              exact ⟨⟨2 + 1, by omega, rfl, Buf.is (Buf.byte (d := byt ((x : Int) / 256)) ho HY.out.symm) HN.out⟩, by decide⟩
            · have HN := Kept.mk (show (O ++ (by4 x).take 3) ++ [byt ((x : Int))] = O ++ (by4 x).take (3 + 1) by rw [List.append_assoc]; rfl)
              have hlen : (O ++ (by4 x).take 3).length ≤ 100 := by rw [List.length_append, List.length_take]; omega
              have h255 := and_255 ((x : Int))
              have HY := Kept.mk (byt_toNat ((x : Int)))
              have hbf : OwnBuf W9.heap.size 5 _ (O ++ (by4 x).take 3).length (Lib.byteCells (O ++ (by4 x).take 3)) W9 wr := hbf
              generalize O ++ (by4 x).take 3 = M at *
              go_wp2_with (at_builtin; refine Lib.wpList_append_byte rfl (.tmp 167) (.tmp 177) 107 rfl W9.heap.size 5 i0 Tryd.underlying107 hi hz0 hz1 hz2 _ _ _ rfl W9 _ _ hbf rfl ?_ ?_; omega; intro v' w' ho)
              exact ⟨⟨3 + 1, by omega, rfl, Buf.is (Buf.byte (d := byt ((x : Int))) ho HY.out.symm) HN.out⟩, by decide⟩
            · have hbf := hbf.is (show O ++ (by4 x).take 4 = O ++ by4 x from rfl)
              rw [← HNX.out] at hbf
              have HBF := Kept.mk hbf; clear hbf cx
              go_wp2_with fail
              exact ⟨⟨i + 1, by omega, by go_num, HBF.out⟩, by simp [RowKit.intOf]; omega⟩
        · have h8 : i = 8 := by omega
          subst h8
          have hst := hbf.string
          have HBB := Kept.mk (HS.out.below.trans (hbf.2.1.mono HS.out.below.size))
          clear hbf
          rw [← HF.out] at hst
          go_wp2_with fail
          go_ret
          exact ⟨rfl, HBB.out⟩
end Go.Proofs.YtkkcakblphebjaaDoor
