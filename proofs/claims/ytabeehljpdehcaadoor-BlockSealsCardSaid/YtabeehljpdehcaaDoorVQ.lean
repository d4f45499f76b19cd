/- The document's quarter round: it draws and does no more. The rows of indices, and what a quarter round does to small words. -/
import Derived.Test.YtabeehljpdehcaaDoorVX
import Derived.Test.YtabeehljpdehcaaDoorChaQ
namespace Go.Proofs.YtabeehljpdehcaaDoor
set_option linter.unusedVariables false
set_option linter.unusedSimpArgs false
open Go.RowKit Go.Lib
section
attribute [local irreducible] quart quartBack low
set_option maxRecDepth 100000 in
set_option maxHeartbeats 1000000 in
theorem refQuarter_n (a b c d : Int) (w : World) :
    Calls Tryd.prog 76 #[.int .i64 a, .int .i64 b, .int .i64 c, .int .i64 d] w fun e w' => e = .returned (.tuple #[.int .i64 (quart (low a) (low b) (low c) (low d)).1, .int .i64 (quart (low a) (low b) (low c) (low d)).2.1, .int .i64 (quart (low a) (low b) (low c) (low d)).2.2.1, .int .i64 (quart (low a) (low b) (low c) (low d)).2.2.2]) ∧ ∃ n, w' = w.drewN n := by
  have ea : bits .and .i64 a 4294967295 = (low a : Int) := (and_word a).trans (low_eq a)
  have eb : bits .and .i64 b 4294967295 = (low b : Int) := (and_word b).trans (low_eq b)
  have ec : bits .and .i64 c 4294967295 = (low c : Int) := (and_word c).trans (low_eq c)
  have ed : bits .and .i64 d 4294967295 = (low d : Int) := (and_word d).trans (low_eq d)
  have la := low_lt a
  have lb := low_lt b
  have lc := low_lt c
  have ld := low_lt d
  generalize hlA : low a = A at *
  have LA := Kept.mk hlA; clear hlA
  generalize hlB : low b = B at *
  have LB := Kept.mk hlB; clear hlB
  generalize hlC : low c = C at *
  have LC := Kept.mk hlC; clear hlC
  generalize hlD : low d = D at *
  have LD := Kept.mk hlD; clear hlD
  have lA1 := ad_lt A B
  have eA1 := (and_word ((A : Int) + (B : Int))).trans (mod_ad A B)
  generalize hA1 : ad A B = A1 at *
  have HA1 := Kept.mk hA1; clear hA1
  have lX1 := xo_lt ld lA1
  have eX1 := xor_i64 D A1 ld lA1
  generalize hX1 : xo D A1 = X1 at *
  have HX1 := Kept.mk hX1; clear hX1
  have lD1 := rot_lt X1 16 lX1 (by omega)
  generalize hD1 : rot X1 16 = D1 at *
  have HD1 := Kept.mk hD1; clear hD1
  have lC1 := ad_lt C D1
  have eC1 := (and_word ((C : Int) + (D1 : Int))).trans (mod_ad C D1)
  generalize hC1 : ad C D1 = C1 at *
  have HC1 := Kept.mk hC1; clear hC1
  have lX2 := xo_lt lb lC1
  have eX2 := xor_i64 B C1 lb lC1
  generalize hX2 : xo B C1 = X2 at *
  have HX2 := Kept.mk hX2; clear hX2
  have lB1 := rot_lt X2 12 lX2 (by omega)
  generalize hB1 : rot X2 12 = B1 at *
  have HB1 := Kept.mk hB1; clear hB1
  have lA2 := ad_lt A1 B1
  have eA2 := (and_word ((A1 : Int) + (B1 : Int))).trans (mod_ad A1 B1)
  generalize hA2 : ad A1 B1 = A2 at *
  have HA2 := Kept.mk hA2; clear hA2
  have lX3 := xo_lt lD1 lA2
  have eX3 := xor_i64 D1 A2 lD1 lA2
  generalize hX3 : xo D1 A2 = X3 at *
  have HX3 := Kept.mk hX3; clear hX3
  have lD2 := rot_lt X3 8 lX3 (by omega)
  generalize hD2 : rot X3 8 = D2 at *
  have HD2 := Kept.mk hD2; clear hD2
  have lC2 := ad_lt C1 D2
  have eC2 := (and_word ((C1 : Int) + (D2 : Int))).trans (mod_ad C1 D2)
  generalize hC2 : ad C1 D2 = C2 at *
  have HC2 := Kept.mk hC2; clear hC2
  have lX4 := xo_lt lB1 lC2
  have eX4 := xor_i64 B1 C2 lB1 lC2
  generalize hX4 : xo B1 C2 = X4 at *
  have HX4 := Kept.mk hX4; clear hX4
  have lB2 := rot_lt X4 7 lX4 (by omega)
  generalize hB2 : rot X4 7 = B2 at *
  have HB2 := Kept.mk hB2; clear hB2
  go_enter Tryd.func76, Tryd.ntmps76
  go_wp2_with fail
  refine (refRotl_any X1 16 _ lX1 (by omega) (by omega)).mono ?_
  rintro e w1 ⟨rfl, k16, rfl⟩
  rw [HD1.out]
  go_wp2_with fail
  refine (refRotl_any X2 12 _ lX2 (by omega) (by omega)).mono ?_
  rintro e w1 ⟨rfl, k12, rfl⟩
  rw [HB1.out]
  go_wp2_with fail
  refine (refRotl_any X3 8 _ lX3 (by omega) (by omega)).mono ?_
  rintro e w1 ⟨rfl, k8, rfl⟩
  rw [HD2.out]
  go_wp2_with fail
  refine (refRotl_any X4 7 _ lX4 (by omega) (by omega)).mono ?_
  rintro e w1 ⟨rfl, k7, rfl⟩
  rw [HB2.out]
  go_wp2_with fail
  refine bodyPost_of4 rfl ⟨_, by simp [results, Tryd.results76, go_sem]; rfl, ?_, ?_⟩
  · rw [quart_eq HA1.out HX1.out HD1.out HC1.out HX2.out HB1.out HA2.out HX3.out HD2.out HC2.out HX4.out HB2.out]
  · exact ⟨_, rfl⟩
end
theorem refQuarter_q (a b c d : Nat) (w : World) (ha : a < 4294967296) (hb : b < 4294967296) (hc : c < 4294967296) (hd : d < 4294967296) :
    Calls Tryd.prog 76 #[.int .i64 (a : Int), .int .i64 (b : Int), .int .i64 (c : Int), .int .i64 (d : Int)] w fun e w' => e = .returned (.tuple #[.int .i64 (quart a b c d).1, .int .i64 (quart a b c d).2.1, .int .i64 (quart a b c d).2.2.1, .int .i64 (quart a b c d).2.2.2]) ∧ ∃ n, w' = w.drewN n := by
  have h := refQuarter_n a b c d w
  rw [low_word a ha, low_word b hb, low_word c hc, low_word d hd] at h
  exact h
theorem wat_set (xs : List Nat) (i v j : Nat) (h : ∀ k, wat xs k < 4294967296) (hv : v < 4294967296) : wat (xs.set i v) j < 4294967296 := by
  unfold wat
  rw [List.getD_eq_getElem?_getD, List.getElem?_set]
  by_cases e : i = j
  · rw [if_pos e]
    by_cases e2 : i < xs.length
    · rw [if_pos e2]; exact hv
    · rw [if_neg e2]; show 0 < _; decide
  · rw [if_neg e, ← List.getD_eq_getElem?_getD]; exact h j
theorem rq_small (xs : List Nat) (a b c d : Nat) (h : ∀ k, wat xs k < 4294967296) : ∀ k, wat (rq xs a b c d) k < 4294967296 := by
  obtain ⟨q0, q1, q2, q3⟩ := quart_lt (wat xs a) (wat xs b) (wat xs c) (wat xs d) (h a) (h b) (h c) (h d)
  intro k
  exact wat_set _ _ _ _ (fun k => wat_set _ _ _ _ (fun k => wat_set _ _ _ _ (fun k => wat_set _ _ _ _ h q0) q1) q2) q3
theorem rqs_small (xs : List Nat) (h : ∀ k, wat xs k < 4294967296) (r : Nat) : ∀ k, wat (rqs xs r) k < 4294967296 := by
  induction r with
  | zero => exact h
  | succ r ih => exact rq_small _ _ _ _ _ ih
theorem wat_mem (xs : List Nat) (h : ∀ x ∈ xs, x < 4294967296) (k : Nat) : wat xs k < 4294967296 := by
  unfold wat
  rw [List.getD_eq_getElem?_getD]
  by_cases e : k < xs.length
  · rw [List.getElem?_eq_getElem e]; exact h _ (List.getElem_mem e)
  · rw [List.getElem?_eq_none (by omega)]; show 0 < _; decide
theorem wls_mem (l : List UInt8) (n : Nat) : ∀ x ∈ wls l n, x < 4294967296 := by
  intro x hx
  obtain ⟨i, _, rfl⟩ := List.mem_map.1 hx
  exact le4_lt _ _
theorem stW_small (key nonce : List UInt8) (c : Nat) (hc : c < 4294967296) : ∀ k, wat (stW key nonce c) k < 4294967296 := by
  rw [← stW_words]
  refine wat_mem _ fun x hx => ?_
  simp only [List.mem_append] at hx
  rcases hx with ((hx | hx) | hx) | hx
  · simp only [List.mem_cons, List.not_mem_nil, or_false] at hx
    omega
  · exact wls_mem _ _ x hx
  · simp only [List.mem_cons, List.not_mem_nil, or_false] at hx
    omega
  · exact wls_mem _ _ x hx
/-- the rows of indices in memory -/
structure Rounds (h : Nat) (W : World) : Prop where
  sl : ∀ r, r < 8 → W.cell? ⟨h + 8, r, none⟩ = some (.slice (some ⟨h + r, 0, none⟩) 4 4)
  ix : ∀ r i, r < 8 → i < 4 → W.cell? ⟨h + r, i, none⟩ = some (.int .i64 ((wat (qt r) i : Nat) : Int))
  lt : h + 8 < W.heap.size
theorem cell_block {a b : World} {p : Addr} (h : b.heap[p.block]? = a.heap[p.block]?) : b.cell? p = a.cell? p := World.cell?_of_block (w := a) (a := p) h
theorem Rounds.but {h g : Nat} {a b : World} (r : Rounds h a) (hb : ButB g a b) (hg : g < h) : Rounds h b where
  sl i hi := (cell_block (hb.block (h + 8) r.lt (by omega))).trans (r.sl i hi)
  ix i j hi hj := (cell_block (hb.block (h + i) (by have := r.lt; omega) (by omega))).trans (r.ix i j hi hj)
  lt := Nat.lt_of_lt_of_le r.lt hb.size
def alR (w : World) (T : TypeId) : Nat → World
  | 0 => w
  | r + 1 => (alR w T r).alloc (.cells (ivs (qt r)).toArray T)
theorem alR_size (w : World) (T : TypeId) (r : Nat) : (alR w T r).heap.size = w.heap.size + r := by
  induction r with
  | zero => rfl
  | succ r ih =>
    have e : ∀ (W : World) (o : Obj), (W.alloc o).heap.size = W.heap.size + 1 := fun W o => by simp
    rw [alR, e, ih]; rfl
theorem alR_at (w : World) (T : TypeId) (n r : Nat) (h : r < n) : (alR w T n).heap[w.heap.size + r]? = some (.cells (ivs (qt r)).toArray T (0, 0)) := by
  induction n with
  | zero => omega
  | succ n ih =>
    by_cases e : r = n
    · subst e; exact heap_new _ _ _ (alR_size w T r).symm
    · exact block_old (ih (by omega)) _
theorem alR_below (w : World) (T : TypeId) (n : Nat) : Below w.heap.size w (alR w T n) := by
  induction n with
  | zero => exact Below.refl _ _
  | succ n ih => exact ih.alloc ih.size _
theorem rounds_new (w : World) (T T2 : TypeId) (cs : Array Value) (hcs : ∀ r, r < 8 → cs[r]? = some (.slice (some ⟨w.heap.size + r, 0, none⟩) 4 4)) :
    Rounds w.heap.size ((alR w T 8).alloc (.cells cs T2)) ∧ Below w.heap.size w ((alR w T 8).alloc (.cells cs T2)) := by
  have hn : ((alR w T 8).alloc (.cells cs T2)).heap[w.heap.size + 8]? = some (.cells cs T2 (0, 0)) := heap_new _ _ _ (alR_size w T 8).symm
  refine ⟨⟨fun r hr => ?_, fun r i hr hi => ?_, ?_⟩, (alR_below w T 8).alloc (alR_below w T 8).size _⟩
  · rw [cell_of_cells hn]; exact hcs r hr
  · rw [cell_of_cells (block_old (alR_at w T 8 r hr) (.cells cs T2)), List.getElem?_toArray]
    exact ivs_get _ _ (by rw [qt_length]; exact hi)
  · exact block_lt hn
/-- the words worked on, and nothing else, have turned -/
def PX (w6 W8 : World) (gx cap : Nat) (wr : World) (X : List Nat) : Prop := VB w6 wr (.slice (some ⟨gx, 0, none⟩) 16 cap) (ivs X) ∧ ButB gx W8 wr ∧ X.length = 16 ∧ ∀ k, wat X k < 4294967296
theorem PX.drewN {w6 W8 wr : World} {gx cap : Nat} {X : List Nat} (h : PX w6 W8 gx cap wr X) (n : Nat) : PX w6 W8 gx cap (wr.drewN n) X :=
  ⟨h.1.below (below_drewN (Below.refl _ _) n), ⟨h.2.1.os, h.2.1.tape, h.2.1.output, h.2.1.size, h.2.1.block⟩, h.2.2⟩
theorem PX.cell {w6 W8 wr : World} {gx cap : Nat} {X : List Nat} (h : PX w6 W8 gx cap wr X) {i : Nat} (hi : i < 16) : wr.cell? ⟨gx, i, none⟩ = some (.int .i64 ((wat X i : Nat) : Int)) := by
  have hl : i < (ivs X).length := by rw [ivs_length, h.2.2.1]; exact hi
  rw [(h.1.place hl).1, ivs_at]
theorem PX.free {w6 W8 wr : World} {gx cap : Nat} {X : List Nat} (h : PX w6 W8 gx cap wr X) {i : Nat} (hi : i < 16) : wr.frozen? ⟨gx, i, none⟩ = false :=
  (h.1.place (i := i) (by rw [ivs_length, h.2.2.1]; exact hi)).2.1
theorem PX.set {w6 W8 wr : World} {gx cap : Nat} {X : List Nat} (h : PX w6 W8 gx cap wr X) {i v : Nat} (hi : i < 16) (hv : v < 4294967296) : PX w6 W8 gx cap (wr.setCell ⟨gx, i, none⟩ (.int .i64 (v : Int))) (X.set i v) :=
  ⟨by rw [← ivs_set]; exact (h.1.place (i := i) (by rw [ivs_length, h.2.2.1]; exact hi)).2.2 _, h.2.1.trans (ButB.set gx wr i _), by rw [List.length_set]; exact h.2.2.1, fun k => wat_set _ _ _ _ h.2.2.2 hv⟩
theorem row_but {g gx : Nat} {a b : World} {xs : List Value} (h : RowAt a (some ⟨g, 0, none⟩) xs) (hb : ButB gx a b) (hne : g ≠ gx) : RowAt b (some ⟨g, 0, none⟩) xs := fun h0 => by
  obtain ⟨ad, e, hl, hc⟩ := h h0
  cases e
  refine ⟨_, rfl, Nat.lt_of_lt_of_le hl hb.size, fun j u hj => ?_⟩
  rw [← hc j u hj]
  exact cell_block (by rw [add_block]; exact hb.block g hl hne)
theorem row_cell {g : Nat} {a : World} {L : List Nat} (h : RowAt a (some ⟨g, 0, none⟩) (ivs L)) {i : Nat} (hi : i < L.length) : g < a.heap.size ∧ a.cell? ⟨g, i, none⟩ = some (.int .i64 ((wat L i : Nat) : Int)) := by
  obtain ⟨ad, e, hl, hc⟩ := h (by rw [ivs_length]; omega)
  cases e
  have := hc i _ (ivs_get L i hi)
  rw [at_add] at this
  exact ⟨hl, this⟩
/-- the first bytes of a block -/
def kbs (B : List Nat) (n : Nat) : List UInt8 := (List.range n).map (kb B)
theorem kbs_zero (B : List Nat) : kbs B 0 = [] := rfl
theorem kbs_next (B : List Nat) (n : Nat) : kbs B n ++ [kb B n] = kbs B (n + 1) := by simp [kbs, List.range_succ]
theorem kbs_length (B : List Nat) (n : Nat) : (kbs B n).length = n := by simp [kbs]
theorem wat_blk (S : List Nat) (i : Nat) (hi : i < 16) : wat (blk S) i = ad (wat (dbls 10 S) i) (wat S i) := by
  rw [blk, wat_adk _ _ _ _ hi, if_pos hi]
theorem rounds_here (w : World) : Rounds w.heap.size (((((((((w.alloc (.cells #[.int .i64 0, .int .i64 4, .int .i64 8, .int .i64 12] 3)).alloc (.cells #[.int .i64 1, .int .i64 5, .int .i64 9, .int .i64 13] 3)).alloc (.cells #[.int .i64 2, .int .i64 6, .int .i64 10, .int .i64 14] 3)).alloc (.cells #[.int .i64 3, .int .i64 7, .int .i64 11, .int .i64 15] 3)).alloc (.cells #[.int .i64 0, .int .i64 5, .int .i64 10, .int .i64 15] 3)).alloc (.cells #[.int .i64 1, .int .i64 6, .int .i64 11, .int .i64 12] 3)).alloc (.cells #[.int .i64 2, .int .i64 7, .int .i64 8, .int .i64 13] 3)).alloc (.cells #[.int .i64 3, .int .i64 4, .int .i64 9, .int .i64 14] 3)).alloc (.cells #[.slice (some ⟨w.heap.size, 0, none⟩) 4 4, .slice (some ⟨w.heap.size + 1, 0, none⟩) 4 4, .slice (some ⟨w.heap.size + 1 + 1, 0, none⟩) 4 4, .slice (some ⟨w.heap.size + 1 + 1 + 1, 0, none⟩) 4 4, .slice (some ⟨w.heap.size + 1 + 1 + 1 + 1, 0, none⟩) 4 4, .slice (some ⟨w.heap.size + 1 + 1 + 1 + 1 + 1, 0, none⟩) 4 4, .slice (some ⟨w.heap.size + 1 + 1 + 1 + 1 + 1 + 1, 0, none⟩) 4 4, .slice (some ⟨w.heap.size + 1 + 1 + 1 + 1 + 1 + 1 + 1, 0, none⟩) 4 4] 72)) ∧ Below w.heap.size w (((((((((w.alloc (.cells #[.int .i64 0, .int .i64 4, .int .i64 8, .int .i64 12] 3)).alloc (.cells #[.int .i64 1, .int .i64 5, .int .i64 9, .int .i64 13] 3)).alloc (.cells #[.int .i64 2, .int .i64 6, .int .i64 10, .int .i64 14] 3)).alloc (.cells #[.int .i64 3, .int .i64 7, .int .i64 11, .int .i64 15] 3)).alloc (.cells #[.int .i64 0, .int .i64 5, .int .i64 10, .int .i64 15] 3)).alloc (.cells #[.int .i64 1, .int .i64 6, .int .i64 11, .int .i64 12] 3)).alloc (.cells #[.int .i64 2, .int .i64 7, .int .i64 8, .int .i64 13] 3)).alloc (.cells #[.int .i64 3, .int .i64 4, .int .i64 9, .int .i64 14] 3)).alloc (.cells #[.slice (some ⟨w.heap.size, 0, none⟩) 4 4, .slice (some ⟨w.heap.size + 1, 0, none⟩) 4 4, .slice (some ⟨w.heap.size + 1 + 1, 0, none⟩) 4 4, .slice (some ⟨w.heap.size + 1 + 1 + 1, 0, none⟩) 4 4, .slice (some ⟨w.heap.size + 1 + 1 + 1 + 1, 0, none⟩) 4 4, .slice (some ⟨w.heap.size + 1 + 1 + 1 + 1 + 1, 0, none⟩) 4 4, .slice (some ⟨w.heap.size + 1 + 1 + 1 + 1 + 1 + 1, 0, none⟩) 4 4, .slice (some ⟨w.heap.size + 1 + 1 + 1 + 1 + 1 + 1 + 1, 0, none⟩) 4 4] 72)) :=
  rounds_new w 3 72 #[.slice (some ⟨w.heap.size, 0, none⟩) 4 4, .slice (some ⟨w.heap.size + 1, 0, none⟩) 4 4, .slice (some ⟨w.heap.size + 1 + 1, 0, none⟩) 4 4, .slice (some ⟨w.heap.size + 1 + 1 + 1, 0, none⟩) 4 4, .slice (some ⟨w.heap.size + 1 + 1 + 1 + 1, 0, none⟩) 4 4, .slice (some ⟨w.heap.size + 1 + 1 + 1 + 1 + 1, 0, none⟩) 4 4, .slice (some ⟨w.heap.size + 1 + 1 + 1 + 1 + 1 + 1, 0, none⟩) 4 4, .slice (some ⟨w.heap.size + 1 + 1 + 1 + 1 + 1 + 1 + 1, 0, none⟩) 4 4] fun r hr => by
    match r, hr with
    | 0, _ => rfl
    | 1, _ => rfl
    | 2, _ => rfl
    | 3, _ => rfl
    | 4, _ => rfl
    | 5, _ => rfl
    | 6, _ => rfl
    | 7, _ => rfl
    | r + 8, h => omega
end Go.Proofs.YtabeehljpdehcaaDoor
