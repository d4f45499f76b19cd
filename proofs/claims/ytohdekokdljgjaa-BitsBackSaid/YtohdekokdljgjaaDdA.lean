/- Deeds of layer 6 in memory: opened as one list; a slice of them that a call has grown itself. -/
import Derived.Test.YtohdekokdljgjaaXA
import Derived.Test.YtohdekokdljgjaaBitB
import Derived.Deep.Slices
import Derived.Deep.Fields
import Derived.WideShapes
namespace Go.Proofs.Ytohdekokdljgjaa
set_option linter.unusedVariables false
set_option linter.unusedSimpArgs false
open Go.RowKit Go.Lib
structure Dd where
  k : Int
  v : Int
  n : Int
  s : List UInt8
def dcells (d : Dd) : List Value := [.int .i64 d.k, .int .i64 d.v, .int .i64 d.n, .string (str d.s)]
def dflat (ls : List Dd) : List Value := ls.flatMap dcells
theorem dflat_length (ls : List Dd) : (dflat ls).length = 4 * ls.length := by
  induction ls with
  | nil => rfl
  | cons d r ih => 
    show (dcells d ++ dflat r).length = _
    rw [List.length_append, ih, List.length_cons]; simp [dcells]; omega
theorem dflat_append (a b : List Dd) : dflat (a ++ b) = dflat a ++ dflat b := by simp [dflat]
theorem dflat_get : ∀ (ls : List Dd) (i : Nat) (h : i < ls.length) (j : Nat), j < 4 → (dflat ls)[4 * i + j]? = (dcells ls[i])[j]?
  | d :: r, 0, _, j, hj => by
    show (dcells d ++ dflat r)[4 * 0 + j]? = _
    rw [List.getElem?_append_left (by simp [dcells]; omega)]; simp
  | d :: r, i + 1, h, j, hj => by
    show (dcells d ++ dflat r)[4 * (i + 1) + j]? = _
    rw [List.getElem?_append_right (by simp [dcells]; omega)]
    have := dflat_get r i (by simpa using h) j hj
    rw [show 4 * (i + 1) + j - (dcells d).length = 4 * i + j by simp [dcells]; omega, this]
    simp
/-- the four cells of the i-th -/
structure DAt (W : World) (ad : Addr) (i : Nat) (d : Dd) : Prop where
  c0 : W.cell? (ad.add (i * 4)) = some (.int .i64 d.k)
  c1 : W.cell? (ad.add (i * 4 + 1)) = some (.int .i64 d.v)
  c2 : W.cell? (ad.add (i * 4 + 2)) = some (.int .i64 d.n)
  c3 : W.cell? (ad.add (i * 4 + 3)) = some (.string (str d.s))
theorem add_plus (ad : Addr) (n j : Nat) (hj : 0 < j) : ad.add (n + j) = ⟨(ad.add n).block, (ad.add n).off + j, none⟩ := by
  unfold Addr.add
  by_cases h : n = 0
  · subst h; simp [show j ≠ 0 by omega]
  · simp [h, show n + j ≠ 0 by omega, Nat.add_assoc]
theorem DAt.near {W : World} {ad : Addr} {i : Nat} {d : Dd} (h : DAt W ad i d) : W.cell? ⟨(ad.add (i * 4)).block, (ad.add (i * 4)).off + 1, none⟩ = some (.int .i64 d.v) ∧ W.cell? ⟨(ad.add (i * 4)).block, (ad.add (i * 4)).off + 2, none⟩ = some (.int .i64 d.n) ∧ W.cell? ⟨(ad.add (i * 4)).block, (ad.add (i * 4)).off + 3, none⟩ = some (.string (str d.s)) := by
  rw [← add_plus _ _ 1 (by decide), ← add_plus _ _ 2 (by decide), ← add_plus _ _ 3 (by decide)]
  exact ⟨h.c1, h.c2, h.c3⟩
def DdsAt (W : World) (A : Option Addr) (ls : List Dd) : Prop :=
  0 < ls.length → ∃ ad : Addr, A = some ad ∧ ad.block < W.heap.size ∧ ∀ i d, ls[i]? = some d → DAt W ad i d
theorem DAt.below {W W' : World} {ad : Addr} {i : Nat} {d : Dd} (h : DAt W ad i d) (hl : ad.block < W.heap.size) (hb : Below W.heap.size W W') : DAt W' ad i d := by
  have k : ∀ j, W'.cell? (ad.add j) = W.cell? (ad.add j) := fun j => hb.cell (p := ad.add j) (by rw [add_block]; exact hl)
  exact ⟨(k _).trans h.c0, (k _).trans h.c1, (k _).trans h.c2, (k _).trans h.c3⟩
theorem DdsAt.below {W W' : World} {A : Option Addr} {ls : List Dd} (h : DdsAt W A ls) (hb : Below W.heap.size W W') : DdsAt W' A ls := by
  intro h0
  obtain ⟨ad, e, hl, hc⟩ := h h0
  exact ⟨ad, e, Nat.lt_of_lt_of_le hl hb.size, fun i d hi => (hc i d hi).below hl hb⟩
theorem DdsAt.get {W : World} {A : Option Addr} {ls : List Dd} (h : DdsAt W A ls) {i : Nat} (hi : i < ls.length) :
    ∃ ad : Addr, A = some ad ∧ ad.block < W.heap.size ∧ DAt W ad i ls[i] := by
  obtain ⟨ad, e, hl, hc⟩ := h (by omega)
  exact ⟨ad, e, hl, hc i _ (List.getElem?_eq_getElem hi)⟩
set_option maxRecDepth 100000 in
theorem open_dds {H : Type} {enc : TypeId × Value → H} {W : World} {fuel : Nat} {cs : List Value} {x : DataW H × List MemPlace}
    (h : DataW.trod enc Try.prog W 0 (fun _ => true) true fuel 22 cs = some x) :
    ∃ (A : Option Addr) (ls : List Dd) (cap : Nat), cs = [.slice A ls.length cap] ∧ ls.length ≤ 9223372036854775807 ∧ (DdsAt W A ls ∧ ∀ d ∈ ls, d.s.length ≤ 9223372036854775807) := by
  have hC : Try.prog.cellsOf 34 = 4 := by kernel_rfl
  have hI : Try.prog.cellsOf 3 = 1 := by kernel_rfl
  have hS : Try.prog.cellsOf 9 = 1 := by kernel_rfl
  rcases Deep.open_slice Try.underlying22 h with ⟨hcs, _⟩ | ⟨a, len, cap, m, n, D, Pl, hcs, _, hl, hm, hmm, _, hi⟩
  · exact ⟨none, [], 0, hcs, by decide, fun h => absurd h (by simp), by simp⟩
  · have hlm : len ≤ m := by rw [hmm]; simpa using hl
    have hex : ∀ i : Nat, ∃ d : Dd, (i < m → DAt W a i d) ∧ d.s.length ≤ 9223372036854775807 := by
      intro i
      by_cases him : i < m
      · obtain ⟨cs', hc, ht⟩ := hi i him
        rw [hC] at hc
        obtain ⟨_, hlen, hcell⟩ := World.cells?_some hc
        obtain ⟨xs, n', _, _, _, hlx, hg⟩ := DataW.trod_struct Try.underlying34 ht
        match cs', hlen with
        | [c0, c1, c2, c3], _ =>
          have hxl : xs.length = 4 := hlx
          have g0 : DataW.trod enc Try.prog W 0 (fun _ => true) true n' 3 (([c0, c1, c2, c3].drop 0).take (Try.prog.cellsOf 3)) = xs[0]? := hg 0 _ rfl
          have g1 : DataW.trod enc Try.prog W 0 (fun _ => true) true n' 3 (([c0, c1, c2, c3].drop 1).take (Try.prog.cellsOf 3)) = xs[1]? := hg 1 _ rfl
          have g2 : DataW.trod enc Try.prog W 0 (fun _ => true) true n' 3 (([c0, c1, c2, c3].drop 2).take (Try.prog.cellsOf 3)) = xs[2]? := hg 2 _ rfl
          have g3 : DataW.trod enc Try.prog W 0 (fun _ => true) true n' 9 (([c0, c1, c2, c3].drop 3).take (Try.prog.cellsOf 9)) = xs[3]? := hg 3 _ rfl
          rw [hI] at g0 g1 g2
          rw [hS] at g3
          simp only [List.drop_zero, List.take_succ_cons, List.take_zero, List.drop_succ_cons] at g0 g1 g2 g3
          have e0 := hcell 0 (by decide)
          have e1 := hcell 1 (by decide)
          have e2 := hcell 2 (by decide)
          have e3 := hcell 3 (by decide)
          simp only [List.getElem?_cons_zero, List.getElem?_cons_succ] at e0 e1 e2 e3
          rw [Go.Deep.add_add] at e0 e1 e2 e3
          rw [List.getElem?_eq_getElem (by omega)] at g0 g1 g2 g3
          obtain ⟨z0, h0, _, _⟩ := DataW.trod_int Try.underlying3 g0
          obtain ⟨z1, h1, _, _⟩ := DataW.trod_int Try.underlying3 g1
          obtain ⟨z2, h2, _, _⟩ := DataW.trod_int Try.underlying3 g2
          obtain ⟨z3, h3, _, hz3⟩ := DataW.trod_string Try.underlying9 g3
          simp only [List.cons.injEq, and_true] at h0 h1 h2 h3
          subst h0 h1 h2 h3
          have hb3 : z3.data.toList.length ≤ 9223372036854775807 := by
            rw [Array.length_toList]; unfold maxLen at hz3; exact hz3
          exact ⟨⟨z0, z1, z2, z3.data.toList⟩, fun _ => ⟨e0, e1, e2, by rw [e3, str_eta]⟩, hb3⟩
      · exact ⟨⟨0, 0, 0, []⟩, fun h => absurd h him, by simp⟩
    obtain ⟨f, hf⟩ := Classical.axiomOfChoice hex
    have hfl : ((List.range len).map f).length = len := by simp
    refine ⟨some a, (List.range len).map f, cap, ?_, ?_, ?_, fun d hd => ?_⟩
    · rw [hfl]; exact hcs
    · unfold maxLen at hm; rw [hfl]; omega
    · intro h0
      rw [hfl] at h0
      refine ⟨a, rfl, ?_, fun i n2 hi2 => ?_⟩
      · have := block_of_cell ((hf 0).1 (by omega)).c0
        rwa [add_block] at this
      · have hil : i < len := by
          have := (List.getElem?_eq_some_iff.1 hi2).1
          rwa [hfl] at this
        rw [List.getElem?_map, List.getElem?_range hil] at hi2
        simp only [Option.map_some, Option.some.injEq] at hi2
        subst hi2
        exact (hf i).1 (by omega)
    · obtain ⟨i, _, rfl⟩ := List.mem_map.1 hd
      exact (hf i).2
/-- a slice of deeds that the call has grown itself -/
def VD (w wr : World) (v : Value) (ls : List Dd) : Prop :=
  Below w.heap.size w wr ∧ ((v = .slice none 0 0 ∧ ls = []) ∨ ∃ g cap cs f0 f1, v = .slice (some ⟨g, 0, none⟩) ls.length cap ∧ w.heap.size ≤ g ∧ wr.heap[g]? = some (.cells cs 34 (f0, f1)) ∧ ls.length ≤ cap ∧ 4 * cap ≤ cs.size ∧ (4 * cap ≤ f0 ∨ f1 = 0) ∧ cs.toList.take (4 * ls.length) = dflat ls)
theorem vd_nil (w : World) : VD w w (.slice none 0 0) [] := ⟨Below.refl _ _, .inl ⟨rfl, rfl⟩⟩
theorem VD.len {w wr : World} {v : Value} {l : List Dd} (h : VD w wr v l) : ∃ A cap, v = .slice A l.length cap ∧ l.length ≤ cap := by
  rcases h.2 with ⟨rfl, rfl⟩ | ⟨g, cap, cs, f0, f1, rfl, _, _, h1, _⟩
  · exact ⟨none, 0, rfl, by simp⟩
  · exact ⟨_, cap, rfl, h1⟩
theorem VD.drew {w wr : World} {v : Value} {l : List Dd} (h : VD w wr v l) : VD w wr.drew v l := ⟨h.1.drew, h.2⟩
theorem VD.below {w wr wx : World} {v : Value} {l : List Dd} (h : VD w wr v l) (hb : Below wr.heap.size wr wx) : VD w wx v l :=
  ⟨h.1.trans (hb.mono h.1.size), h.2.imp id fun ⟨g, cap, cs, f0, f1, h1, h2, h3, h4⟩ => ⟨g, cap, cs, f0, f1, h1, h2, block_kept h3 hb, h4⟩⟩
theorem VD.alloc {w wr : World} {v : Value} {l : List Dd} (h : VD w wr v l) (o : Obj) : VD w (wr.alloc o) v l := h.below ((Below.refl _ _).alloc (Nat.le_refl _) _)
theorem VD.lt {w W : World} {v : Value} {cs : List Dd} (h : VD w W v cs) {k : Nat} (hk : ¬ ∀ m cap, v ≠ .slice (some ⟨k, 0, none⟩) m cap) : k < W.heap.size := by
  rcases h.2 with ⟨rfl, _⟩ | ⟨g, cap, cs, f0, f1, rfl, _, hh, _⟩
  · exact absurd (fun m cap e => by cases e) hk
  · rcases Nat.lt_or_ge k W.heap.size with h1 | h1
    · exact h1
    · refine absurd (fun m cap e => ?_) hk
      cases e
      have := block_lt hh
      omega
theorem infoDeed : (Try.prog.info? 34).map (fun i => (i.zero, i.size, i.bytes)) = some (some (.agg #[.int .i64 0, .int .i64 0, .int .i64 0, .string ByteArray.empty]), 4, 40) := by kernel_rfl
/-- one deed more -/
theorem deed_append {ops : Array Oper} {rest : List Oper} {o : Oper} {a : Act} {Q : Exit → Act → World → Prop} (hgd : o.guard = none) (s x : Operand)
    (ho : o.op = .call { callee := .builtin .append, args := #[s, x], argTypes := #[22, 22] })
    {w wr : World} {ls : List Dd} {d : Dd} {v : Value} (hs : a.eval s = v) (hb : VD w wr v ls) (hx : a.eval x = .slice (some ⟨wr.heap.size, 0, none⟩) 1 1) (hlen : ls.length + 1 ≤ 100000)
    (h : ∀ v' w', VD w w' v' (ls ++ [d]) → wpList Try.prog ops Q rest (a.put o.dst v') w') : wpList Try.prog ops Q (o :: rest) a (wr.alloc (.cells #[.int .i64 d.k, .int .i64 d.v, .int .i64 d.n, .string (str d.s)] 34)) := by
  obtain ⟨i0, hi, hz, hz1, hby⟩ := info_parts infoDeed
  have hu := Try.underlying22
  have hb2 := hb.alloc (.cells #[.int .i64 d.k, .int .i64 d.v, .int .i64 d.n, .string (str d.s)] 34)
  have hS : Src Try.prog i0.size 22 (.slice (some ⟨wr.heap.size, 0, none⟩) 1 1) 1 (dcells d) (wr.alloc (.cells #[.int .i64 d.k, .int .i64 d.v, .int .i64 d.n, .string (str d.s)] 34)) :=
    Src.ofSlice _ hu _ 1 1 _ (by rw [hz1]; rfl) (fun j u hj => by
      rw [at_add, cell_of_cells (heap_new wr _ _ rfl)]
      show (dcells d).toArray[j]? = _
      rw [List.getElem?_toArray]; exact hj) (fun u hu2 => by
      simp only [dcells, List.mem_cons, List.not_mem_nil, or_false] at hu2
      rcases hu2 with rfl | rfl | rfl | rfl <;> rfl)
  generalize wr.alloc (.cells #[.int .i64 d.k, .int .i64 d.v, .int .i64 d.n, .string (str d.s)] 34) = X at *
  have hd4 : (dcells d).length = 4 := rfl
  have hdf : dflat (ls ++ [d]) = dflat ls ++ dcells d := by rw [dflat_append]; simp [dflat]
  have hfl := dflat_length ls
  have grow : ∀ (base : Option Addr) (cap : Nat), v = .slice base ls.length cap → ¬ (ls.length + 1 ≤ cap) → ((Builtin.firstCells i0.size ls.length (.slice base ls.length cap)).run Try.prog X.drew = .ok (dflat ls).toArray X.drew) → wpList Try.prog ops Q (o :: rest) a X := by
    intro base cap hv hroom hold
    have hr := run_append_grow_src (P := Try.prog) X 22 22 o.type 34 i0 _ hu hi hz base ls.length cap (dflat ls) hold _ 1 (dcells d) hS (by omega) (by omega) (growslice_fits (by omega) (by rw [hby]; omega))
    have hge := grownCap_ge X (ls.length + 1) cap 34
    generalize grownCap X (ls.length + 1) cap 34 = G at *
    subst hv
    refine wpList_plain hgd fun K hK => ?_
    unfold Oper.wp execOp
    simp only [ho, resolve, invoke, builtin, Sem.run_bind, Sem.run_pure, Result.andThen_ok, List.map_toArray, List.map_cons, List.map_nil, hs, hx, hr]
    refine hK _ _ (h _ _ ⟨hb2.1.drew.alloc (by have := hb2.1.size; exact this) _, .inr ⟨X.heap.size, G, _, 0, 0, by rw [List.length_append, List.length_singleton], hb2.1.size, heap_alloc_new X.drew _, by rw [List.length_append, List.length_singleton]; exact hge, ?_, .inr rfl, ?_⟩⟩)
    · simp only [Array.size_append, List.size_toArray, size_zeroCells, List.length_append, hfl, hd4]
      show 4 * G ≤ 4 * ls.length + 4 + (G - (ls.length + 1)) * 4
      omega
    · simp only [Array.toList_append]
      rw [hdf]
      show ((dflat ls ++ dcells d) ++ _).take _ = _
      rw [List.take_append_of_le_length (by rw [List.length_append, List.length_append, hfl, hd4, List.length_singleton]; omega), List.take_of_length_le (by rw [List.length_append, List.length_append, hfl, hd4, List.length_singleton]; omega)]
  rcases hb2.2 with ⟨rfl, hL⟩ | ⟨g, cap, cs, f0, f1, hv, hg, hh, hl1, hl2, hl3, hl4⟩
  · subst hL
    exact grow none 0 rfl (by simp) (run_firstCells_none _ _ _ _ _)
  · by_cases hroom : ls.length + 1 ≤ cap
    · have hr := run_append_room_src (P := Try.prog) X 22 22 o.type 34 i0 hu hi g 0 ls.length cap _ 1 (dcells d) hS hroom
        (by intro j hj
            rw [hd4] at hj
            rw [cell_of_cells hh, hz1, Array.getElem?_eq_getElem (by omega)]; rfl)
        (by intro j hj
            rw [hd4] at hj
            simp only [World.frozen?, hh, hz1, Bool.and_eq_false_iff, decide_eq_false_iff_not]
            omega)
      rw [hz1, Nat.zero_add] at hr
      have hB' : Below w.heap.size w (X.setCells g (ls.length * 4) (dcells d)) := below_setMany hg (dcells d) X _ hb2.1
      subst hv
      refine wpList_plain hgd fun K hK => ?_
      unfold Oper.wp execOp
      simp only [ho, resolve, invoke, builtin, Sem.run_bind, Sem.run_pure, Result.andThen_ok, List.map_toArray, List.map_cons, List.map_nil, hs, hx, hr]
      refine hK _ _ (h _ _ ⟨hB', .inr ⟨g, cap, _, f0, f1, by rw [List.length_append, List.length_singleton], hg, block_setCells (dcells d) X cs _ hh, by rw [List.length_append, List.length_singleton]; exact hroom, by rw [putMany_size]; exact hl2, hl3, ?_⟩⟩)
      rw [hdf, List.length_append, List.length_singleton, show 4 * (ls.length + 1) = ls.length * 4 + (dcells d).length by rw [hd4]; omega, putMany_take (dcells d) cs _ (by rw [hd4]; omega), Nat.mul_comm ls.length 4, hl4]
    · refine grow (some ⟨g, 0, none⟩) cap hv hroom (run_firstCells_some X.drew i0.size ls.length ⟨g, 0, none⟩ ls.length cap (dflat ls) (by rw [hz1, hfl]; omega) fun j u hu2 => ?_)
      rw [at_add]
      exact (cell_of_cells (W := X.drew) hh).trans (take_get hl4 hu2)
end Go.Proofs.Ytohdekokdljgjaa
