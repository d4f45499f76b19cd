/- Blocks known whole; a buffer of bytes that a conversion of a string began: append, stores, the string. For seats without the sums of layer 2. -/
import Derived.Test.YtkkcakblphebjaaDoorBuf
import Derived.Lib.SlicesS
import Derived.Deep.CutBlock
import Derived.StillTailTactics
import Derived.Deep.AppendSrc
import Derived.Lib.BufferWrite
import Derived.Deep.DrawnRows
import Derived.Deep.WholeRow
namespace Go.Proofs.YtkkcakblphebjaaDoor
set_option linter.unusedVariables false
set_option linter.unusedSimpArgs false
open Go.RowKit Go.Lib
theorem heap_new (W : World) (o : Obj) (g : Nat) (hg : g = W.heap.size) : (W.alloc o).heap[g]? = some o := by
  subst hg
  show (W.heap.push o)[W.heap.size]? = _
  simp
theorem block_lt {W : World} {g : Nat} {o : Obj} (h : W.heap[g]? = some o) : g < W.heap.size := (Array.getElem?_eq_some_iff.1 h).1
theorem block_kept {W w1 : World} {g : Nat} {o : Obj} (h : W.heap[g]? = some o) (hb : Below W.heap.size W w1) : w1.heap[g]? = some o := by
  rw [hb.block g (block_lt h), h]
theorem block_old {W : World} {g : Nat} {o : Obj} (h : W.heap[g]? = some o) (ob : Obj) : (W.alloc ob).heap[g]? = some o := by
  rw [Below.heap_alloc W ob g (block_lt h), h]
theorem below_setRow {B : Nat} {a w : World} (h : Below B a w) {g : Nat} (hg : B ≤ g) (cs : Array Value) : Below B a (w.setRow g cs) :=
  ⟨h.os, h.tape, h.output, Nat.le_trans h.size (Nat.le_of_eq (by simp)), fun k hk => (setRow_other w g k cs (by omega)).trans (h.block k hk)⟩
/-- the block g holds these bytes first, and its first cap cells are free -/
def BG (w wr : World) (v : Value) (l : List UInt8) : Prop :=
  Below w.heap.size w wr ∧ ∃ g cap cs T f0 f1, v = .slice (some ⟨g, 0, none⟩) l.length cap ∧ w.heap.size ≤ g ∧ wr.heap[g]? = some (.cells cs T (f0, f1)) ∧ l.length ≤ cap ∧ cap ≤ cs.size ∧ (cap ≤ f0 ∨ f1 = 0) ∧ cs.toList.take l.length = Lib.byteCells l
theorem BG.is {w wr : World} {v : Value} {l m : List UInt8} (h : BG w wr v l) (e : l = m) : BG w wr v m := by rw [← e]; exact h
theorem at_add (g n : Nat) : (⟨g, 0, none⟩ : Addr).add n = ⟨g, n, none⟩ := by unfold Addr.add; split <;> simp_all
theorem cell_of_cells {W : World} {g j : Nat} {cs : Array Value} {T : TypeId} {f : Nat × Nat} (h : W.heap[g]? = some (.cells cs T f)) : W.cell? ⟨g, j, none⟩ = cs[j]? := by simp [World.cell?, h]
theorem take_get {cs : Array Value} {n : Nat} {xs : List Value} (h : cs.toList.take n = xs) {j : Nat} {u : Value} (hu : xs[j]? = some u) : cs[j]? = some u := by
  subst h
  rw [List.getElem?_take] at hu
  split at hu
  · simpa using hu
  · cases hu
theorem BG.row {w wr : World} {v : Value} {l : List UInt8} (h : BG w wr v l) : ∃ g cap, v = .slice (some ⟨g, 0, none⟩) l.length cap ∧ w.heap.size ≤ g ∧ l.length ≤ cap ∧ RowAt wr (some ⟨g, 0, none⟩) (Lib.byteCells l) := by
  obtain ⟨hb, g, cap, cs, T, f0, f1, rfl, hg, hh, h1, h2, h3, h4⟩ := h
  refine ⟨g, cap, rfl, hg, h1, fun _ => ⟨_, rfl, block_lt hh, fun j u hu => ?_⟩⟩
  rw [at_add, cell_of_cells hh]
  exact take_get h4 hu
theorem bg_append {ops : Array Oper} {rest : List Oper} {o : Oper} {a : Act} {Q : Exit → Act → World → Prop} (hgd : o.guard = none) (s x : Operand)
    (ho : o.op = .call { callee := .builtin .append, args := #[s, x], argTypes := #[107, 107] })
    {w wr : World} {l : List UInt8} {v : Value} (hs : a.eval s = v) (hb : BG w wr v l) {c : Int} {d : UInt8}
    (hx : a.eval x = .slice (some ⟨wr.heap.size, 0, none⟩) 1 1) (h0 : c = d.toNat) (hlen : l.length + 1 ≤ 1000000000)
    (h : ∀ v' w', BG w w' v' (l ++ [d]) → wpList Tryd.prog ops Q rest (a.put o.dst v') w') : wpList Tryd.prog ops Q (o :: rest) a (wr.alloc (.cells #[.int .u8 c] 5)) := by
  subst h0
  obtain ⟨i0, hi, hz0, hz1, hz2⟩ := info_parts infoByte
  obtain ⟨hbl, g, cap, cs, T, f0, f1, rfl, hg, hh, hl1, hl2, hl3, hl4⟩ := hb
  have hgl := block_lt hh
  have hX : (wr.alloc (.cells #[.int .u8 (d.toNat : Int)] 5)).heap[g]? = some (.cells cs T (f0, f1)) := block_old hh _
  have hXs : (wr.alloc (.cells #[.int .u8 (d.toNat : Int)] 5)).heap.size = wr.heap.size + 1 := by simp
  have hBX : Below w.heap.size w (wr.alloc (.cells #[.int .u8 (d.toNat : Int)] 5)) := hbl.alloc hbl.size _
  have hnews : ∀ j u, [Value.int .u8 (d.toNat : Int)][j]? = some u → (wr.alloc (.cells #[.int .u8 (d.toNat : Int)] 5)).cell? ((⟨wr.heap.size, 0, none⟩ : Addr).add j) = some u := by
    intro j u hj
    match j, hj with
    | 0, hj => simp at hj; subst hj; simp [Addr.add]
    | (j + 1), hj => simp at hj
  have h1 : ∀ u ∈ [Value.int .u8 (d.toNat : Int)], u.oneCell' = true := by intro u hu; simp at hu; subst hu; rfl
  generalize wr.alloc (.cells #[.int .u8 (d.toNat : Int)] 5) = X at *
  have hbl4 : (Lib.byteCells l).length = l.length := Lib.byteCells_length l
  refine wpList_plain hgd fun K hK => ?_
  by_cases hroom : l.length + 1 ≤ cap
  · have hS : Src Tryd.prog i0.size 107 (.slice (some ⟨wr.heap.size, 0, none⟩) 1 1) 1 [.int .u8 (d.toNat : Int)] X := Src.ofSlice X Tryd.underlying107 _ 1 1 _ (by rw [hz1]; rfl) hnews h1
    have hr := run_append_room_src (P := Tryd.prog) X 107 107 o.type 5 i0 Tryd.underlying107 hi g 0 l.length cap _ 1 _ hS hroom
      (by intro j hj
          have : j = 0 := by simp at hj; omega
          subst this
          rw [cell_of_cells hX, hz1, Array.getElem?_eq_getElem (by omega)]; rfl)
      (by intro j hj
          have : j = 0 := by simp at hj; omega
          subst this
          simp only [World.frozen?, hX, hz1, Bool.and_eq_false_iff, decide_eq_false_iff_not]
          omega)
    rw [hz1, Nat.mul_one, Nat.zero_add] at hr
    have hset : X.setCells g l.length [.int .u8 (d.toNat : Int)] = X.setCell ⟨g, l.length, none⟩ (.int .u8 (d.toNat : Int)) := rfl
    rw [hset] at hr
    unfold Oper.wp execOp
    simp only [ho, resolve, invoke, builtin, Sem.run_bind, Sem.run_pure, Result.andThen_ok, List.map_toArray, List.map_cons, List.map_nil, hs, hx, hr]
    refine hK _ _ (h _ _ ⟨hBX.setCell hg _, g, cap, cs.setIfInBounds l.length (.int .u8 (d.toNat : Int)), T, f0, f1, by rw [List.length_append]; rfl, hg, ?_, by rw [List.length_append]; exact hroom, ?_, hl3, ?_⟩)
    · rw [setCell_eq_setRow X g l.length cs T (f0, f1) _ hX]
      exact setRow_heap X g cs _ T _ hX
    · rw [Array.size_setIfInBounds]; exact hl2
    · rw [List.length_append, Array.toList_setIfInBounds, byteCells_append, ← hl4]
      have hcl : l.length < cs.toList.length := by
        have e : cs.toList.length = cs.size := Array.length_toList
        omega
      show (cs.toList.set l.length _).take (l.length + 1) = cs.toList.take l.length ++ [Value.int .u8 (d.toNat : Int)]
      rw [List.take_succ_eq_append_getElem (by rw [List.length_set]; exact hcl), List.getElem_set_self, List.take_set_of_le (Nat.le_refl _)]
  · have holds : ∀ j u, (Lib.byteCells l)[j]? = some u → X.cell? ((⟨g, 0, none⟩ : Addr).add j) = some u := by
      intro j u hu
      rw [at_add, cell_of_cells hX]
      exact take_get hl4 hu
    have hr := run_append_grow (P := Tryd.prog) X 107 o.type 5 i0 (.int .u8 0) Tryd.underlying107 hi hz0 ⟨g, 0, none⟩ l.length cap (Lib.byteCells l) (by rw [hz1, hbl4]; omega) holds ⟨wr.heap.size, 0, none⟩ 1 1 _ (by rw [hz1]; rfl) hnews (by omega) (by omega) (growslice_fits (by omega) (by rw [hz2]; omega))
    have hge := grownCap_ge X (l.length + 1) cap 5
    generalize grownCap X (l.length + 1) cap 5 = G at *
    unfold Oper.wp execOp
    simp only [ho, resolve, invoke, builtin, Sem.run_bind, Sem.run_pure, Result.andThen_ok, List.map_toArray, List.map_cons, List.map_nil, hs, hx, hr]
    refine hK _ _ (h _ _ ⟨hBX.drew.alloc (by have := hBX.size; exact this) _, X.heap.size, G, _, 5, 0, 0, by rw [List.length_append]; rfl, hBX.size, heap_alloc_new X.drew _, by rw [List.length_append]; exact hge, ?_, .inr rfl, ?_⟩)
    · simp only [Array.size_append, List.size_toArray, size_zeroCells, hbl4]
      show G ≤ l.length + 1 + (G - (l.length + 1)) * 1
      omega
    · rw [byteCells_append, List.length_append]
      have hl5 : (Lib.byteCells l ++ Lib.byteCells [d]).length = l.length + 1 := by rw [List.length_append, hbl4]; rfl
      simp only [Array.toList_append]
      show ((Lib.byteCells l ++ Lib.byteCells [d]) ++ _).take (l.length + 1) = _
      rw [← hl5]
      exact List.take_left

theorem bg_start (w : World) (l : List UInt8) : BG w (bytesWorld w 5 (str l)) (.slice (some ⟨w.heap.size, 0, none⟩) l.length (grownCap w l.length 0 5)) l := by
  have hge := grownCap_ge w l.length 0 5
  have hss := str_size l
  have hsz : (bytesCells w 5 (str l)).size = grownCap w l.length 0 5 := by
    unfold bytesCells
    rw [hss]
    rw [Array.size_append, Array.size_map, Array.size_replicate]
    show l.length + _ = _
    omega
  refine ⟨⟨rfl, rfl, rfl, by rw [bytesWorld_size]; omega, fun k hk => bytesWorld_at_old w _ _ k hk⟩, w.heap.size, _, _, _, _, _, rfl, Nat.le_refl _, bytesWorld_at_new w _ _, hge, by rw [hsz]; exact Nat.le_refl _, .inl (by rw [hsz]; exact Nat.le_refl _), ?_⟩
  unfold bytesCells
  rw [Array.toList_append]
  have e : ((str l).data.map fun b => Value.int .u8 (b.toNat : Int)).toList = Lib.byteCells l := by
    rw [Array.toList_map]; rfl
  rw [e, List.take_append_of_le_length (by rw [Lib.byteCells_length]; exact Nat.le_refl _), List.take_of_length_le (by rw [Lib.byteCells_length]; exact Nat.le_refl _)]

theorem BG.base {w w1 wr : World} {v : Value} {l : List UInt8} (h : BG w1 wr v l) (hb : Below w.heap.size w w1) : BG w wr v l := by
  obtain ⟨h1, g, cap, cs, T, f0, f1, e, hg, r⟩ := h
  exact ⟨hb.trans (h1.mono hb.size), g, cap, cs, T, f0, f1, e, Nat.le_trans hb.size hg, r⟩
/-- a place of the buffer: it reads, it may be written, and what is written stands there -/
theorem BG.place {w wr : World} {v : Value} {l : List UInt8} (h : BG w wr v l) {i : Nat} (hi : i < l.length) :
    ∃ g cap, v = .slice (some ⟨g, 0, none⟩) l.length cap ∧ wr.cell? ⟨g, i, none⟩ = some (.int .u8 ((l[i]).toNat : Int)) ∧ wr.frozen? ⟨g, i, none⟩ = false ∧
      ∀ c : UInt8, BG w (wr.setCell ⟨g, i, none⟩ (.int .u8 (c.toNat : Int))) v (l.set i c) := by
  obtain ⟨h1, g, cap, cs, T, f0, f1, rfl, hg, hh, h2, h3, h4, h5⟩ := h
  refine ⟨g, cap, rfl, ?_, ?_, fun c => ⟨h1.setCell hg _, g, cap, cs.setIfInBounds i (.int .u8 (c.toNat : Int)), T, f0, f1, by rw [List.length_set], hg, ?_, by rw [List.length_set]; exact h2, by rw [Array.size_setIfInBounds]; exact h3, h4, ?_⟩⟩
  · rw [cell_of_cells hh]
    exact take_get h5 (by simp [Lib.byteCells, List.getElem?_eq_getElem hi])
  · simp only [World.frozen?, hh, Bool.and_eq_false_iff, decide_eq_false_iff_not]
    omega
  · rw [setCell_eq_setRow wr g i cs T (f0, f1) _ hh]
    exact setRow_heap wr g cs _ T _ hh
  · rw [List.length_set, Array.toList_setIfInBounds, List.take_set, h5]
    simp [Lib.byteCells]
theorem BG.string {w wr : World} {v : Value} {l : List UInt8} (h : BG w wr v l) : (convert 107 9 v).run Tryd.prog wr = .ok (.string (str l)) wr := by
  obtain ⟨h1, g, cap, cs, T, f0, f1, rfl, hg, hh, h2, h3, h4, h5⟩ := h
  refine run_convert_bytes_back wr _ _ _ ⟨g, 0, none⟩ cap l Tryd.underlying107 Tryd.underlying5 Tryd.underlying9 fun j hj => ?_
  rw [at_add, cell_of_cells hh]
  exact take_get h5 (by simp [Lib.byteCells, List.getElem?_eq_getElem hj])
theorem conv_bytes (W : World) (l : List UInt8) : (convert 9 107 (.string (str l))).run Tryd.prog W = .ok (.slice (some ⟨W.heap.size, 0, none⟩) l.length (grownCap W l.length 0 5)) (bytesWorld W 5 (str l)) := by
  have h := Go.Lib.run_convert_string_bytes (P := Tryd.prog) W 9 107 5 (str l) Tryd.underlying9 Tryd.underlying107 Tryd.underlying5
  rw [str_size] at h
  exact h
end Go.Proofs.YtkkcakblphebjaaDoor
