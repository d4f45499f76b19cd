/- append, with where the new slice lies, for seats without chacha: numbers and bytes; a box whose first cell is a grown slice, and what a step on it leaves alone. -/
import Derived.Test.YtohdekokdljgjaaVB
import Derived.WalkSpells
import Derived.Deep.RegionHeld3
import Derived.Deep.AppendLies
namespace Go.Proofs.Ytohdekokdljgjaa
set_option linter.unusedVariables false
set_option linter.unusedSimpArgs false
open Go.RowKit Go.Lib
/-- append, whatever comes behind -/
theorem vb_step2 {P : Program} {o : Oper} {a : Act} {K : Act → World → Prop} {Q : Exit → Act → World → Prop} (s x : Operand) {tS tX tE : TypeId} (hu : P.underlying tS = some (.slice tE))
    {i0 : TypeInfo} (hi : P.info? tE = some i0) {z : Value} (hz : i0.zero = some z) (hz1 : i0.size = 1) (hzc : z.cells.size = 1) (hby : i0.bytes ≤ 64)
    (ho : o.op = .call { callee := .builtin .append, args := #[s, x], argTypes := #[tS, tX] })
    {w X : World} {vs ms : List Value} {v xv : Value} (hs : a.eval s = v) (hb : VB w X v vs) (hx : a.eval x = xv) (hS : Src P 1 tX xv ms.length ms X) (hne : 0 < ms.length) (hlen : vs.length + ms.length ≤ 1000000000)
    (h : ∀ v' w', VB w w' v' (vs ++ ms) → Below w.heap.size w w' → X.heap.size ≤ w'.heap.size → (∀ g, g < X.heap.size → (∀ m cap, v ≠ .slice (some ⟨g, 0, none⟩) m cap) → w'.heap[g]? = X.heap[g]? ∧ ∀ m cap, v' ≠ .slice (some ⟨g, 0, none⟩) m cap) → K (a.put o.dst v') w') : Oper.wp P o a X K Q := by
  rw [← hz1] at hS
  have grow : ∀ (base : Option Addr) (cap : Nat), v = .slice base vs.length cap → ¬ (vs.length + ms.length ≤ cap) → ((Builtin.firstCells i0.size vs.length (.slice base vs.length cap)).run P X.drew = .ok vs.toArray X.drew) → Oper.wp P o a X K Q := by
    intro base cap hv hroom hold
    have hr := run_append_grow_src (P := P) X tS tX o.type tE i0 z hu hi hz base vs.length cap vs hold xv ms.length ms hS (by omega) (by omega) (growslice_fits (by omega) (Nat.le_trans (Nat.mul_le_mul_left _ hby) (by omega)))
    have hge := grownCap_ge X (vs.length + ms.length) cap tE
    generalize grownCap X (vs.length + ms.length) cap tE = G at *
    have hB' : Below w.heap.size w (X.drew.alloc (.cells ((vs ++ ms).toArray ++ Builtin.zeroCells z.cells (G - (vs.length + ms.length))) tE)) := hb.1.drew.alloc (by have := hb.1.size; exact this) _
    subst hv
    unfold Oper.wp execOp
    simp only [ho, resolve, invoke, builtin, Sem.run_bind, Sem.run_pure, Result.andThen_ok, List.map_toArray, List.map_cons, List.map_nil, hs, hx, hr]
    refine h _ _ ⟨hB', .inr ⟨X.heap.size, G, _, tE, 0, 0, by rw [List.length_append], hb.1.size, heap_alloc_new X.drew _, by rw [List.length_append]; exact hge, ?_, .inr rfl, ?_⟩⟩ hB' ?_ ?_
    · simp only [Array.size_append, List.size_toArray, size_zeroCells, List.length_append, hzc]
      omega
    · simp only [Array.toList_append]
      show ((vs ++ ms) ++ _).take (vs ++ ms).length = _
      exact List.take_left
    · have e : (X.drew.alloc (.cells ((vs ++ ms).toArray ++ Builtin.zeroCells z.cells (G - (vs.length + ms.length))) tE)).heap.size = X.heap.size + 1 := by simp
      omega
    · intro g hg _
      refine ⟨Go.heap_alloc_old X.drew _ hg, fun m cap e => ?_⟩
      cases e
      omega
  rcases hb.2 with ⟨rfl, hL⟩ | ⟨g, cap, cs, T, f0, f1, hv, hg, hh, hl1, hl2, hl3, hl4⟩
  · subst hL
    exact grow none 0 rfl (by show ¬ (0 + ms.length ≤ 0); omega) (run_firstCells_none _ _ _ _ _)
  · by_cases hroom : vs.length + ms.length ≤ cap
    · have hr := run_append_room_src (P := P) X tS tX o.type tE i0 hu hi g 0 vs.length cap xv ms.length ms hS hroom
        (by intro j hj
            rw [cell_of_cells hh, hz1, Array.getElem?_eq_getElem (by omega)]; rfl)
        (by intro j hj
            simp only [World.frozen?, hh, hz1, Bool.and_eq_false_iff, decide_eq_false_iff_not]
            omega)
      rw [hz1, Nat.mul_one, Nat.zero_add] at hr
      have hB' : Below w.heap.size w (X.setCells g vs.length ms) := below_setMany hg ms X vs.length hb.1
      subst hv
      unfold Oper.wp execOp
      simp only [ho, resolve, invoke, builtin, Sem.run_bind, Sem.run_pure, Result.andThen_ok, List.map_toArray, List.map_cons, List.map_nil, hs, hx, hr]
      refine h _ _ ⟨hB', .inr ⟨g, cap, _, T, f0, f1, by rw [List.length_append], hg, block_setCells ms X cs vs.length hh, by rw [List.length_append]; exact hroom, by rw [putMany_size]; exact hl2, hl3, ?_⟩⟩ hB' ?_ ?_
      · rw [List.length_append, putMany_take ms cs vs.length (by omega), hl4]
      · rw [heapsize_setCells]; exact Nat.le_refl _
      · intro k hk hap
        refine ⟨setCells_other g ms X vs.length k (fun e => hap vs.length cap (by rw [e])), fun m c2 e => ?_⟩
        cases e
        exact hap vs.length cap rfl
    · refine grow (some ⟨g, 0, none⟩) cap hv hroom (run_firstCells_some X.drew i0.size vs.length ⟨g, 0, none⟩ vs.length cap vs (by rw [hz1, Nat.mul_one]) fun j u hu2 => ?_)
      rw [at_add]
      exact (cell_of_cells (W := X.drew) hh).trans (take_get hl4 hu2)
/-- the slice does not lie in the block g -/
def Apart (v : Value) (g : Nat) : Prop := ∀ m cap, v ≠ .slice (some ⟨g, 0, none⟩) m cap
theorem apart_nil (g : Nat) : Apart (.slice none 0 0) g := fun m cap e => by cases e
theorem VB.apart {w wr : World} {v : Value} {l : List Value} (h : VB w wr v l) {g : Nat} (hg : wr.heap.size ≤ g) : Apart v g := fun m cap e => by
  rcases h.2 with ⟨rfl, _⟩ | ⟨g2, cap2, cs, T, f0, f1, rfl, _, hh, _⟩
  · cases e
  · cases e
    have := block_lt hh
    omega
theorem vb_append2 {P : Program} {ops : Array Oper} {rest : List Oper} {o : Oper} {a : Act} {Q : Exit → Act → World → Prop} (hgd : o.guard = none) (s x : Operand) {tS tX tE : TypeId} (hu : P.underlying tS = some (.slice tE))
    {i0 : TypeInfo} (hi : P.info? tE = some i0) {z : Value} (hz : i0.zero = some z) (hz1 : i0.size = 1) (hzc : z.cells.size = 1) (hby : i0.bytes ≤ 64)
    (ho : o.op = .call { callee := .builtin .append, args := #[s, x], argTypes := #[tS, tX] })
    {w X : World} {vs ms : List Value} {v xv : Value} (hs : a.eval s = v) (hb : VB w X v vs) (hx : a.eval x = xv) (hS : Src P 1 tX xv ms.length ms X) (hne : 0 < ms.length) (hlen : vs.length + ms.length ≤ 1000000000)
    (h : ∀ v' w', VB w w' v' (vs ++ ms) → Below w.heap.size w w' → X.heap.size ≤ w'.heap.size → (∀ g, g < X.heap.size → Apart v g → w'.heap[g]? = X.heap[g]? ∧ Apart v' g) → wpList P ops Q rest (a.put o.dst v') w') : wpList P ops Q (o :: rest) a X :=
  wpList_plain hgd fun K hK => vb_step2 s x hu hi hz hz1 hzc hby ho hs hb hx hS hne hlen fun v' w' h1 h2 h3 h4 => hK _ _ (h v' w' h1 h2 h3 h4)
/-- numbers as cells -/
def ivs (L : List Nat) : List Value := L.map fun x : Nat => Value.int .i64 (x : Int)
theorem ivs_length (L : List Nat) : (ivs L).length = L.length := by simp [ivs]
theorem ivs_append (L M : List Nat) : ivs (L ++ M) = ivs L ++ ivs M := by simp [ivs]
theorem ivs_get (L : List Nat) (i : Nat) (h : i < L.length) : (ivs L)[i]? = some (.int .i64 ((L.getD i 0 : Nat) : Int)) := by
  unfold ivs
  rw [List.getElem?_map, List.getElem?_eq_getElem h, List.getD_eq_getElem?_getD, List.getElem?_eq_getElem h]; rfl
theorem infoIntP : (Try.prog.info? 3).map (fun i => (i.zero, i.size, i.bytes)) = some (some (.int .i64 0), 1, 8) := by kernel_rfl
/-- only the box g, the block in which v lies, and what is new, have turned -/
structure Tn (g : Nat) (v : Value) (W : World) (v' : Value) (W' : World) : Prop where
  size : W.heap.size ≤ W'.heap.size
  keep : ∀ k, k < W.heap.size → k ≠ g → Apart v k → W'.heap[k]? = W.heap[k]? ∧ Apart v' k
theorem Tn.refl (g : Nat) (v : Value) (W : World) : Tn g v W v W := ⟨Nat.le_refl _, fun _ _ _ h => ⟨rfl, h⟩⟩
theorem Tn.trans {g : Nat} {u v x : Value} {A B C : World} (h : Tn g u A v B) (k : Tn g v B x C) : Tn g u A x C :=
  ⟨Nat.le_trans h.size k.size, fun i hi hne ha => by
    obtain ⟨h1, h2⟩ := h.keep i hi hne ha
    obtain ⟨k1, k2⟩ := k.keep i (Nat.lt_of_lt_of_le hi h.size) hne h2
    exact ⟨k1.trans h1, k2⟩⟩
theorem Tn.drew {g : Nat} {v v' : Value} {A B : World} (h : Tn g v A v' B) : Tn g v A v' B.drew := ⟨h.size, h.keep⟩
theorem size_setCell (W : World) (a : Addr) (u : Value) : (W.setCell a u).heap.size = W.heap.size := by simp [World.setCell]
theorem tn_box (g i : Nat) (v u : Value) (W : World) : Tn g v W v (W.setCell ⟨g, i, none⟩ u) :=
  ⟨Nat.le_of_eq (size_setCell _ _ _).symm, fun k _ hne ha => ⟨Below.heap_setCell W ⟨g, i, none⟩ u k hne, ha⟩⟩
theorem tn_buf (g b i m c : Nat) (u : Value) (W : World) : Tn g (.slice (some ⟨b, 0, none⟩) m c) W (.slice (some ⟨b, 0, none⟩) m c) (W.setCell ⟨b, i, none⟩ u) :=
  ⟨Nat.le_of_eq (size_setCell _ _ _).symm, fun k _ _ ha => ⟨Below.heap_setCell W ⟨b, i, none⟩ u k (fun e => ha m c (by rw [e])), ha⟩⟩
theorem tn_alloc (g : Nat) (v : Value) (W : World) (o : Obj) : Tn g v W v (W.alloc o) :=
  ⟨by simp, fun k hk _ ha => ⟨Below.heap_alloc W o k hk, ha⟩⟩
/-- a box in which a grown slice stands first -/
structure St (w W : World) (T : TypeId) (g : Nat) (xs : Array Value) (v : Value) (cs : List Value) : Prop where
  ge : w.heap.size ≤ g
  box : W.heap[g]? = some (.cells xs T (0, 0))
  vb : VB w W v cs
  ap : Apart v g
theorem VB.off {w W : World} {v : Value} {cs : List Value} (h : VB w W v cs) {g : Nat} (hg : w.heap.size ≤ g) (ha : Apart v g) (i : Nat) (u : Value) : VB w (W.setCell ⟨g, i, none⟩ u) v cs :=
  ⟨h.1.setCell hg _, h.2.imp id fun ⟨k, cap, ds, T, f0, f1, h1, h2, h3, h4⟩ => ⟨k, cap, ds, T, f0, f1, h1, h2, (Below.heap_setCell W ⟨g, i, none⟩ u k (fun e => ha cs.length cap (by rw [h1, show k = g from e]))).trans h3, h4⟩⟩
/-- what another box's step leaves of this one's slice -/
theorem VB.kept {w W W' : World} {v u u' : Value} {cs : List Value} (h : VB w W v cs) {g : Nat} (hb : Below w.heap.size w W') (hT : Tn g u W u' W') (ha : Apart v g) (hd : ∀ k, ¬ Apart v k → Apart u k) : VB w W' v cs :=
  ⟨hb, h.2.imp id fun ⟨k, cap, ds, T, f0, f1, h1, h2, h3, h4⟩ => ⟨k, cap, ds, T, f0, f1, h1, h2, (hT.keep k (block_lt h3) (fun e => ha _ _ (by rw [h1, ← e])) (hd k (fun hn => hn _ _ h1))).1.trans h3, h4⟩⟩
/-- two boxes, and their slices, apart -/
structure Two (ga gb : Nat) (va vb : Value) : Prop where
  ne : ga ≠ gb
  ab : Apart va gb
  ba : Apart vb ga
  dis : ∀ k, ¬ Apart va k → Apart vb k
theorem Two.swap {ga gb : Nat} {va vb : Value} (h : Two ga gb va vb) : Two gb ga vb va :=
  ⟨fun e => h.ne e.symm, h.ba, h.ab, fun k hk => Classical.byContradiction fun hn => hk (h.dis k hn)⟩
theorem VB.lt {w W : World} {v : Value} {cs : List Value} (h : VB w W v cs) {k : Nat} (hk : ¬ Apart v k) : k < W.heap.size := by
  rcases Nat.lt_or_ge k W.heap.size with h1 | h1
  · exact h1
  · exact absurd (h.apart h1) hk
/-- a step on the first box leaves the second one as it was, and the two apart -/
theorem Two.step {w W W' : World} {Ta Tb : TypeId} {ga gb : Nat} {xb xa' : Array Value} {va vb va' : Value} {cb ca' : List Value} (h : Two ga gb va vb) (ha' : St w W' Ta ga xa' va' ca') (hb : St w W Tb gb xb vb cb) (hT : Tn ga va W va' W') :
    St w W' Tb gb xb vb cb ∧ Two ga gb va' vb := by
  have hgb := block_lt hb.box
  obtain ⟨k1, k2⟩ := hT.keep gb hgb (fun e => h.ne e.symm) h.ab
  refine ⟨⟨hb.ge, k1.trans hb.box, hb.vb.kept ha'.vb.1 hT h.ba h.swap.dis, hb.ap⟩, h.ne, k2, h.ba, fun k hk => Classical.byContradiction fun hn => hk ?_⟩
  exact (hT.keep k (hb.vb.lt hn) (fun e => hn (by rw [e]; exact h.ba)) (Classical.byContradiction fun hm => hn (h.dis k hm))).2
end Go.Proofs.Ytohdekokdljgjaa
