/- (Beside the sums.) A slice that a call has grown itself, of elements of one cell: append of whatever stands behind, cells, stores, the string of bytes. -/
import Derived.Test.YtkkcakblphebjaaDoorRfB
import Derived.Lib.SlicesS
import Derived.Deep.CutBlock
import Derived.StillTailTactics
import Derived.Deep.AppendSrc
import Derived.Lib.BufferWrite
import Derived.Deep.DrawnRows
import Derived.Deep.WholeRow
import Derived.WalkSpells
import Derived.Deep.RegionHeld3
import Derived.Deep.AppendLies
namespace Go.Proofs.YtkkcakblphebjaaDoor
set_option linter.unusedVariables false
set_option linter.unusedSimpArgs false
open Go.RowKit Go.Lib
def putMany : Array Value → Nat → List Value → Array Value
  | cs, _, [] => cs
  | cs, o, v :: r => putMany (cs.setIfInBounds o v) (o + 1) r
theorem putMany_size (vs : List Value) : ∀ (cs : Array Value) (o : Nat), (putMany cs o vs).size = cs.size := by
  induction vs with
  | nil => intro cs o; rfl
  | cons v r ih => intro cs o; rw [putMany, ih, Array.size_setIfInBounds]
theorem putMany_take (vs : List Value) : ∀ (cs : Array Value) (o : Nat), o + vs.length ≤ cs.size → (putMany cs o vs).toList.take (o + vs.length) = cs.toList.take o ++ vs := by
  induction vs with
  | nil => intro cs o _; simp [putMany]
  | cons v r ih =>
    intro cs o h
    rw [List.length_cons] at h
    have hl : o < cs.toList.length := by rw [Array.length_toList]; omega
    rw [putMany, List.length_cons, show o + (r.length + 1) = o + 1 + r.length from by omega, ih _ _ (by rw [Array.size_setIfInBounds]; omega), Array.toList_setIfInBounds, List.take_succ_eq_append_getElem (by rw [List.length_set]; exact hl), List.getElem_set_self, List.take_set_of_le (Nat.le_refl _)]
    simp
theorem block_setCells {T : TypeId} {f : Nat × Nat} {g : Nat} (vs : List Value) : ∀ (W : World) (cs : Array Value) (o : Nat), W.heap[g]? = some (.cells cs T f) → (W.setCells g o vs).heap[g]? = some (.cells (putMany cs o vs) T f) := by
  induction vs with
  | nil => intro W cs o h; exact h
  | cons v r ih => intro W cs o h; exact ih _ _ _ (Joins.block_setCell h v)
theorem setCells_other (g : Nat) (vs : List Value) : ∀ (W : World) (o k : Nat), k ≠ g → (W.setCells g o vs).heap[k]? = W.heap[k]? := by
  induction vs with
  | nil => intro W o k _; rfl
  | cons v r ih => intro W o k hk; exact (ih _ _ _ hk).trans (Below.heap_setCell W ⟨g, o, none⟩ v k hk)
theorem below_setMany {B g : Nat} {a : World} (hg : B ≤ g) (vs : List Value) : ∀ (W : World) (o : Nat), Below B a W → Below B a (W.setCells g o vs) := by
  induction vs with
  | nil => intro W o h; exact h
  | cons v r ih => intro W o h; exact ih _ _ (h.setCell hg v)
theorem heapsize_setCells (g : Nat) (vs : List Value) : ∀ (W : World) (o : Nat), (W.setCells g o vs).heap.size = W.heap.size := by
  induction vs with
  | nil => intro W o; rfl
  | cons v r ih => intro W o; rw [World.setCells, ih]; simp [World.setCell]
/-- a slice that the call has grown itself, with these elements -/
def VB (w wr : World) (v : Value) (vs : List Value) : Prop :=
  Below w.heap.size w wr ∧ ((v = .slice none 0 0 ∧ vs = []) ∨ ∃ g cap cs T f0 f1, v = .slice (some ⟨g, 0, none⟩) vs.length cap ∧ w.heap.size ≤ g ∧ wr.heap[g]? = some (.cells cs T (f0, f1)) ∧ vs.length ≤ cap ∧ cap ≤ cs.size ∧ (cap ≤ f0 ∨ f1 = 0) ∧ cs.toList.take vs.length = vs)
theorem VB.is {w wr : World} {v : Value} {l m : List Value} (h : VB w wr v l) (e : l = m) : VB w wr v m := by rw [← e]; exact h
theorem VB.drew {w wr : World} {v : Value} {l : List Value} (h : VB w wr v l) : VB w wr.drew v l := ⟨h.1.drew, h.2⟩
theorem VB.below {w wr wx : World} {v : Value} {l : List Value} (h : VB w wr v l) (hb : Below wr.heap.size wr wx) : VB w wx v l :=
  ⟨h.1.trans (hb.mono h.1.size), h.2.imp id fun ⟨g, cap, cs, T, f0, f1, h1, h2, h3, h4⟩ => ⟨g, cap, cs, T, f0, f1, h1, h2, block_kept h3 hb, h4⟩⟩
theorem VB.alloc {w wr : World} {v : Value} {l : List Value} (h : VB w wr v l) (o : Obj) : VB w (wr.alloc o) v l := h.below ((Below.refl _ _).alloc (Nat.le_refl _) _)
theorem VB.base {w w1 wr : World} {v : Value} {l : List Value} (h : VB w1 wr v l) (hb : Below w.heap.size w w1) : VB w wr v l :=
  ⟨hb.trans (h.1.mono hb.size), h.2.imp id fun ⟨g, cap, cs, T, f0, f1, h1, h2, h3⟩ => ⟨g, cap, cs, T, f0, f1, h1, Nat.le_trans hb.size h2, h3⟩⟩
theorem vb_nil (w : World) : VB w w (.slice none 0 0) [] := ⟨Below.refl _ _, .inl ⟨rfl, rfl⟩⟩
theorem VB.len {w wr : World} {v : Value} {l : List Value} (h : VB w wr v l) : ∃ A cap, v = .slice A l.length cap ∧ l.length ≤ cap := by
  rcases h.2 with ⟨rfl, rfl⟩ | ⟨g, cap, cs, T, f0, f1, rfl, _, _, h1, _⟩
  · exact ⟨none, 0, rfl, by simp⟩
  · exact ⟨_, cap, rfl, h1⟩
theorem VB.row {w wr : World} {v : Value} {l : List Value} (h : VB w wr v l) (h0 : 0 < l.length) : ∃ g cap, v = .slice (some ⟨g, 0, none⟩) l.length cap ∧ w.heap.size ≤ g ∧ g < wr.heap.size ∧ l.length ≤ cap ∧ RowAt wr (some ⟨g, 0, none⟩) l := by
  obtain ⟨hb, h⟩ := h
  rcases h with ⟨_, rfl⟩ | ⟨g, cap, cs, T, f0, f1, rfl, hg, hh, h1, h2, h3, h4⟩
  · simp at h0
  · refine ⟨g, cap, rfl, hg, block_lt hh, h1, fun _ => ⟨_, rfl, block_lt hh, fun j u hu => ?_⟩⟩
    rw [at_add, cell_of_cells hh]
    exact take_get h4 hu
/-- a place: it reads, it may be written, and what is written stands there -/
theorem VB.place {w wr : World} {g m cap : Nat} {l : List Value} (h : VB w wr (.slice (some ⟨g, 0, none⟩) m cap) l) {i : Nat} (hi : i < l.length) :
    wr.cell? ⟨g, i, none⟩ = some l[i] ∧ wr.frozen? ⟨g, i, none⟩ = false ∧ ∀ u, VB w (wr.setCell ⟨g, i, none⟩ u) (.slice (some ⟨g, 0, none⟩) m cap) (l.set i u) := by
  obtain ⟨h1, h⟩ := h
  rcases h with ⟨e, _⟩ | ⟨g', cap', cs, T, f0, f1, e, hg, hh, h2, h3, h4, h5⟩
  · cases e
  · cases e
    refine ⟨?_, ?_, fun u => ⟨h1.setCell hg _, .inr ⟨g, cap, cs.setIfInBounds i u, T, f0, f1, by rw [List.length_set], hg, Joins.block_setCell hh _, by rw [List.length_set]; exact h2, by rw [Array.size_setIfInBounds]; exact h3, h4, ?_⟩⟩⟩
    · rw [cell_of_cells hh]
      exact take_get h5 (List.getElem?_eq_getElem hi)
    · simp only [World.frozen?, hh, Bool.and_eq_false_iff, decide_eq_false_iff_not]
      omega
    · rw [List.length_set, Array.toList_setIfInBounds, List.take_set, h5]
/-- append, whatever comes behind -/
theorem vb_step2 {P : Program} {o : Oper} {a : Act} {K : Act → World → Prop} {Q : Exit → Act → World → Prop} (s x : Operand) {tS tX tE : TypeId} (hu : P.underlying tS = some (.slice tE))
    {i0 : TypeInfo} (hi : P.info? tE = some i0) {z : Value} (hz : i0.zero = some z) (hz1 : i0.size = 1) (hzc : z.cells.size = 1) (hby : i0.bytes ≤ 64)
    (ho : o.op = .call { callee := .builtin .append, args := #[s, x], argTypes := #[tS, tX] })
    {w X : World} {vs ms : List Value} {v xv : Value} (hs : a.eval s = v) (hb : VB w X v vs) (hx : a.eval x = xv) (hS : Src P 1 tX xv ms.length ms X) (hne : 0 < ms.length) (hlen : vs.length + ms.length ≤ 1000000000)
    (h : ∀ v' w', VB w w' v' (vs ++ ms) → Below w.heap.size w w' → X.heap.size ≤ w'.heap.size → (∀ g, g < X.heap.size → (∀ m cap, v ≠ .slice (some ⟨g, 0, none⟩) m cap) → w'.heap[g]? = X.heap[g]? ∧ ∀ m cap, v' ≠ .slice (some ⟨g, 0, none⟩) m cap) → K (a.put o.dst v') w') : Oper.wp P o a X K Q := by
  rw [← hz1] at hS
  have grow : ∀ (base : Option Addr) (cap : Nat), v = .slice base vs.length cap → ¬ (vs.length + ms.length ≤ cap) → ((Builtin.firstCells i0.size vs.length (.slice base vs.length cap)).run P X.drew = .ok vs.toArray X.drew) → Oper.wp P o a X K Q := by
    intro base cap hv hroom hold
    have hr := run_append_grow_src (P := P) X tS tX o.type tE i0 z hu hi hz base vs.length cap vs hold xv ms.length ms hS (by omega) (by omega) (growslice_fits (by omega) (Nat.le_trans (Nat.mul_le_mul_left _ hby) (by omega)))
    have hge := grownCap_ge X (vs.length + ms.length) cap tE
    generalize grownCap X (vs.length + ms.length) cap tE = G at *
    have hB' : Below w.heap.size w (X.drew.alloc (.cells ((vs ++ ms).toArray ++ Builtin.zeroCells z.cells (G - (vs.length + ms.length))) tE)) := hb.1.drew.alloc (by have := hb.1.size; exact this) _
    subst hv
    unfold Oper.wp execOp
    simp only [ho, resolve, invoke, builtin, Sem.run_bind, Sem.run_pure, Result.andThen_ok, List.map_toArray, List.map_cons, List.map_nil, hs, hx, hr]
    refine h _ _ ⟨hB', .inr ⟨X.heap.size, G, _, tE, 0, 0, by rw [List.length_append], hb.1.size, heap_alloc_new X.drew _, by rw [List.length_append]; exact hge, ?_, .inr rfl, ?_⟩⟩ hB' ?_ ?_
    · simp only [Array.size_append, List.size_toArray, size_zeroCells, List.length_append, hzc]
      omega
    · simp only [Array.toList_append]
      show ((vs ++ ms) ++ _).take (vs ++ ms).length = _
      exact List.take_left
    · have e : (X.drew.alloc (.cells ((vs ++ ms).toArray ++ Builtin.zeroCells z.cells (G - (vs.length + ms.length))) tE)).heap.size = X.heap.size + 1 := by simp
      omega
    · intro g hg _
      refine ⟨Go.heap_alloc_old X.drew _ hg, fun m cap e => ?_⟩
      cases e
      omega
  rcases hb.2 with ⟨rfl, hL⟩ | ⟨g, cap, cs, T, f0, f1, hv, hg, hh, hl1, hl2, hl3, hl4⟩
  · subst hL
    exact grow none 0 rfl (by show ¬ (0 + ms.length ≤ 0); omega) (run_firstCells_none _ _ _ _ _)
  · by_cases hroom : vs.length + ms.length ≤ cap
    · have hr := run_append_room_src (P := P) X tS tX o.type tE i0 hu hi g 0 vs.length cap xv ms.length ms hS hroom
        (by intro j hj
            rw [cell_of_cells hh, hz1, Array.getElem?_eq_getElem (by omega)]; rfl)
        (by intro j hj
            simp only [World.frozen?, hh, hz1, Bool.and_eq_false_iff, decide_eq_false_iff_not]
            omega)
      rw [hz1, Nat.mul_one, Nat.zero_add] at hr
      have hB' : Below w.heap.size w (X.setCells g vs.length ms) := below_setMany hg ms X vs.length hb.1
      subst hv
      unfold Oper.wp execOp
      simp only [ho, resolve, invoke, builtin, Sem.run_bind, Sem.run_pure, Result.andThen_ok, List.map_toArray, List.map_cons, List.map_nil, hs, hx, hr]
      refine h _ _ ⟨hB', .inr ⟨g, cap, _, T, f0, f1, by rw [List.length_append], hg, block_setCells ms X cs vs.length hh, by rw [List.length_append]; exact hroom, by rw [putMany_size]; exact hl2, hl3, ?_⟩⟩ hB' ?_ ?_
      · rw [List.length_append, putMany_take ms cs vs.length (by omega), hl4]
      · rw [heapsize_setCells]; exact Nat.le_refl _
      · intro k hk hap
        refine ⟨setCells_other g ms X vs.length k (fun e => hap vs.length cap (by rw [e])), fun m c2 e => ?_⟩
        cases e
        exact hap vs.length cap rfl
    · refine grow (some ⟨g, 0, none⟩) cap hv hroom (run_firstCells_some X.drew i0.size vs.length ⟨g, 0, none⟩ vs.length cap vs (by rw [hz1, Nat.mul_one]) fun j u hu2 => ?_)
      rw [at_add]
      exact (cell_of_cells (W := X.drew) hh).trans (take_get hl4 hu2)
/-- the slice does not lie in the block g -/
def Apart (v : Value) (g : Nat) : Prop := ∀ m cap, v ≠ .slice (some ⟨g, 0, none⟩) m cap
theorem apart_nil (g : Nat) : Apart (.slice none 0 0) g := fun m cap e => by cases e
theorem VB.apart {w wr : World} {v : Value} {l : List Value} (h : VB w wr v l) {g : Nat} (hg : wr.heap.size ≤ g) : Apart v g := fun m cap e => by
  rcases h.2 with ⟨rfl, _⟩ | ⟨g2, cap2, cs, T, f0, f1, rfl, _, hh, _⟩
  · cases e
  · cases e
    have := block_lt hh
    omega
theorem vb_append2 {P : Program} {ops : Array Oper} {rest : List Oper} {o : Oper} {a : Act} {Q : Exit → Act → World → Prop} (hgd : o.guard = none) (s x : Operand) {tS tX tE : TypeId} (hu : P.underlying tS = some (.slice tE))
    {i0 : TypeInfo} (hi : P.info? tE = some i0) {z : Value} (hz : i0.zero = some z) (hz1 : i0.size = 1) (hzc : z.cells.size = 1) (hby : i0.bytes ≤ 64)
    (ho : o.op = .call { callee := .builtin .append, args := #[s, x], argTypes := #[tS, tX] })
    {w X : World} {vs ms : List Value} {v xv : Value} (hs : a.eval s = v) (hb : VB w X v vs) (hx : a.eval x = xv) (hS : Src P 1 tX xv ms.length ms X) (hne : 0 < ms.length) (hlen : vs.length + ms.length ≤ 1000000000)
    (h : ∀ v' w', VB w w' v' (vs ++ ms) → Below w.heap.size w w' → X.heap.size ≤ w'.heap.size → (∀ g, g < X.heap.size → Apart v g → w'.heap[g]? = X.heap[g]? ∧ Apart v' g) → wpList P ops Q rest (a.put o.dst v') w') : wpList P ops Q (o :: rest) a X :=
  wpList_plain hgd fun K hK => vb_step2 s x hu hi hz hz1 hzc hby ho hs hb hx hS hne hlen fun v' w' h1 h2 h3 h4 => hK _ _ (h v' w' h1 h2 h3 h4)
/-- one element more, that stands in a block of its own -/
theorem src_one {P : Program} {tX e' : TypeId} (hk : P.underlying tX = some (.slice e')) (w : World) (u : Value) (T : TypeId) (h1 : u.oneCell' = true) : Src P 1 tX (.slice (some ⟨w.heap.size, 0, none⟩) 1 1) [u].length [u] (w.alloc (.cells #[u] T)) :=
  Src.ofSlice _ hk _ 1 1 _ rfl (fun j u2 hj => by
    match j, hj with
    | 0, hj => simp at hj; subst hj; simp [Addr.add]
    | (j + 1), hj => simp at hj) (fun u2 hu2 => by simp at hu2; subst hu2; exact h1)
/-- a row's elements -/
theorem src_row {P : Program} {tX e' : TypeId} (hk : P.underlying tX = some (.slice e')) {w : World} {g c : Nat} {ms : List Value} (hr : RowAt w (some ⟨g, 0, none⟩) ms) (h1 : ∀ u ∈ ms, u.oneCell' = true) : Src P 1 tX (.slice (some ⟨g, 0, none⟩) ms.length c) ms.length ms w :=
  Src.ofSlice _ hk _ _ c _ (by rw [Nat.mul_one]) (fun j u hj => by
    have hx : 0 < ms.length := by
      have := (List.getElem?_eq_some_iff.1 hj).1; omega
    obtain ⟨ad2, e, _, hc⟩ := hr hx
    cases e; exact hc j u hj) h1
theorem VB.string {w wr : World} {v : Value} {l : List UInt8} (h : VB w wr v (Lib.byteCells l)) : (convert 107 9 v).run Tryd.prog wr = .ok (.string (str l)) wr := by
  obtain ⟨h1, h⟩ := h
  rcases h with ⟨rfl, h2⟩ | ⟨g, cap, cs, T, f0, f1, rfl, hg, hh, h2, h3, h4, h5⟩
  · obtain rfl : l = [] := by
      have := congrArg List.length h2
      rw [Lib.byteCells_length] at this
      exact List.length_eq_zero_iff.1 this
    rw [run_convert_bytes_nil wr _ _ Tryd.underlying107 Tryd.underlying5 0 0 _ Tryd.underlying9]; rfl
  · rw [Lib.byteCells_length]
    rw [Lib.byteCells_length] at h5
    refine run_convert_bytes_back wr _ _ _ ⟨g, 0, none⟩ cap l Tryd.underlying107 Tryd.underlying5 Tryd.underlying9 fun j hj => ?_
    rw [at_add, cell_of_cells hh]
    exact take_get h5 (by simp [Lib.byteCells, List.getElem?_eq_getElem hj])
end Go.Proofs.YtkkcakblphebjaaDoor
