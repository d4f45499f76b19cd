/- SHA-256: a hash in memory, what is written to it, by a contract. -/
import Derived.Test.YtkkcakblphebjaaDoorShaD
import Derived.Lib.BufferWrite
import Derived.Deep.DrawnRows
namespace Go.Proofs.YtkkcakblphebjaaDoor
set_option linter.unusedSimpArgs false
set_option linter.unusedVariables false
set_option linter.unusedVariables false
open Go.RowKit Go.Lib

/-- block g, and what is new, has turned; nothing else -/
structure But (g : Nat) (w w' : World) : Prop where
  os : w'.os = w.os
  tape : w'.tape = w.tape
  output : w'.output = w.output
  size : w.heap.size ≤ w'.heap.size
  block : ∀ k, k < w.heap.size → k ≠ g → w'.heap[k]? = w.heap[k]?
theorem But.refl (g : Nat) (w : World) : But g w w := ⟨rfl, rfl, rfl, Nat.le_refl _, fun _ _ _ => rfl⟩
theorem But.trans {g : Nat} {a b c : World} (h : But g a b) (k : But g b c) : But g a c :=
  ⟨k.os.trans h.os, k.tape.trans h.tape, k.output.trans h.output, Nat.le_trans h.size k.size, fun i hi hne => (k.block i (Nat.lt_of_lt_of_le hi h.size) hne).trans (h.block i hi hne)⟩
theorem But.of {g : Nat} {a b : World} (h : Below a.heap.size a b) : But g a b := ⟨h.os, h.tape, h.output, h.size, fun k hk _ => h.block k hk⟩
theorem But.setCell (g : Nat) (w : World) (j : Nat) (v : Value) : But g w (w.setCell ⟨g, j, none⟩ v) :=
  ⟨rfl, rfl, rfl, by simp [World.setCell], fun k _ hk => Below.heap_setCell w ⟨g, j, none⟩ v k hk⟩
theorem But.setRow (g : Nat) (w : World) (cs : Array Value) : But g w (w.setRow g cs) := ⟨rfl, rfl, rfl, by simp, fun k _ hk => setRow_other w g k cs hk⟩
theorem But.drew {g : Nat} {a w : World} (h : But g a w) : But g a w.drew := ⟨h.os, h.tape, h.output, h.size, h.block⟩
theorem But.drewN {g : Nat} {a w : World} (h : But g a w) (n : Nat) : But g a (w.drewN n) := ⟨h.os, h.tape, h.output, h.size, h.block⟩
theorem But.below {g B : Nat} {a b c : World} (h : Below B a b) (k : But g b c) (hg : B ≤ g) (hB : B ≤ b.heap.size) : Below B a c :=
  ⟨k.os.trans h.os, k.tape.trans h.tape, k.output.trans h.output, Nat.le_trans h.size k.size, fun i hi => (k.block i (by omega) (by omega)).trans (h.block i hi)⟩

theorem KAt.but {g : Nat} {w w' : World} (h : KAt w) (hb : But g w w') (hg : 0 < g) : KAt w' :=
  ⟨Nat.lt_of_lt_of_le h.lt hb.size, fun i hi => (World.cell?_of_block (w := w) (a := ⟨0, i, none⟩) (hb.block 0 h.lt (by omega))).trans (h.cell i hi)⟩
def eightL (s : St) : List Value := [.int .u32 (s.a : Int), .int .u32 (s.b : Int), .int .u32 (s.c : Int), .int .u32 (s.d : Int), .int .u32 (s.e : Int), .int .u32 (s.f : Int), .int .u32 (s.g : Int), .int .u32 (s.h : Int)]
theorem eightL_length (s : St) : (eightL s).length = 8 := rfl
def hcells (s : St) (gr : List UInt8) (held total : Int) : Array Value :=
  (eightL s ++ Lib.byteCells gr ++ [Value.int .i64 held, Value.int .i64 total]).toArray
theorem hcells_size (s : St) {gr : List UInt8} (h : gr.length = 64) (held total : Int) : (hcells s gr held total).size = 74 := by
  simp [hcells, Lib.byteCells_length, eightL_length, h]
theorem hcells_held (s : St) {gr : List UInt8} (h : gr.length = 64) (held total : Int) : (hcells s gr held total)[72]? = some (.int .i64 held) := by
  unfold hcells
  rw [List.getElem?_toArray, List.getElem?_append_right (by simp [Lib.byteCells_length, eightL_length, h])]
  simp [Lib.byteCells_length, eightL_length, h]
theorem hcells_total (s : St) {gr : List UInt8} (h : gr.length = 64) (held total : Int) : (hcells s gr held total)[73]? = some (.int .i64 total) := by
  unfold hcells
  rw [List.getElem?_toArray, List.getElem?_append_right (by simp [Lib.byteCells_length, eightL_length, h])]
  simp [Lib.byteCells_length, eightL_length, h]
theorem hcells_set_held (s : St) {gr : List UInt8} (h : gr.length = 64) (held total x : Int) : (hcells s gr held total).setIfInBounds 72 (.int .i64 x) = hcells s gr x total := by
  apply Array.toList_inj.1
  rw [Array.toList_setIfInBounds]
  unfold hcells
  simp only [List.toList_toArray]
  rw [List.set_append_right _ _ (by simp [Lib.byteCells_length, eightL_length, h])]
  simp [Lib.byteCells_length, eightL_length, h]
theorem hcells_set_total (s : St) {gr : List UInt8} (h : gr.length = 64) (held total x : Int) : (hcells s gr held total).setIfInBounds 73 (.int .i64 x) = hcells s gr held x := by
  apply Array.toList_inj.1
  rw [Array.toList_setIfInBounds]
  unfold hcells
  simp only [List.toList_toArray]
  rw [List.set_append_right _ _ (by simp [Lib.byteCells_length, eightL_length, h])]
  simp [Lib.byteCells_length, eightL_length, h]
/-- the group behind the copying of l at place k -/
def gput (gr : List UInt8) (k : Nat) (l : List UInt8) : List UInt8 := gr.take k ++ l ++ gr.drop (k + l.length)
theorem gput_length {gr : List UInt8} {k : Nat} {l : List UInt8} (h : gr.length = 64) (hk : k + l.length ≤ 64) : (gput gr k l).length = 64 := by
  unfold gput; simp [h]; omega
theorem mid_take (P G R : List Value) (k : Nat) (hP : P.length = 8) (hk : k ≤ G.length) : (P ++ G ++ R).take (8 + k) = P ++ G.take k := by
  rw [List.append_assoc, List.take_append, List.take_of_length_le (by omega), show 8 + k - P.length = k by omega, List.take_append_of_le_length hk]
theorem mid_drop (P G R : List Value) (m : Nat) (hP : P.length = 8) (hm : m ≤ G.length) : (P ++ G ++ R).drop (8 + m) = G.drop m ++ R := by
  rw [List.append_assoc, List.drop_append, List.drop_of_length_le (by omega), List.nil_append, show 8 + m - P.length = m by omega, List.drop_append_of_le_length hm]
theorem hcells_copy (s : St) {gr : List UInt8} (h : gr.length = 64) (held total : Int) (k : Nat) (l : List UInt8) (hk : k + l.length ≤ 64) :
    ((hcells s gr held total).toList.take (8 + k) ++ Lib.byteCells l ++ (hcells s gr held total).toList.drop (8 + k + l.length)).toArray = hcells s (gput gr k l) held total := by
  unfold hcells gput
  have hg : (Lib.byteCells gr).length = 64 := by rw [Lib.byteCells_length]; exact h
  rw [List.toList_toArray, mid_take _ _ _ _ rfl (by omega), Nat.add_assoc, mid_drop _ _ _ _ rfl (by omega)]
  simp only [Lib.byteCells, List.map_append, List.map_take, List.map_drop, List.append_assoc]
theorem run_copy_some_string {P : Program} (w : World) (dT sT ty elem : TypeId) (g o dLen dCap n : Nat) (s : ByteArray) (cur : Array Value) (t : TypeId)
    (hu : P.underlying dT = some (.slice elem)) (hs : (P.info? elem).map (·.size) = some 1) (hg : w.heap[g]? = some (.cells cur t (0, 0))) (hn : Nat.min s.size dLen = n) (hfit : o + n ≤ cur.size) :
    (Builtin.copy_ #[dT, sT] ty #[.slice (some ⟨g, o, none⟩) dLen dCap, .string s]).run P w =
      .ok (goInt n) (w.setRow g (cur.toList.take o ++ Lib.byteCells (s.data.toList.take n) ++ cur.toList.drop (o + n)).toArray) := by
  have hns : n ≤ s.size := by rw [← hn]; exact Nat.min_le_left _ _
  have hlen : (Lib.byteCells (s.data.toList.take n)).length = n := by
    rw [Lib.byteCells_length, List.length_take, Array.length_toList]
    exact Nat.min_eq_left hns
  have hst := run_storeCells_at P g o t (Lib.byteCells (s.data.toList.take n)) 0 cur w hg (by rw [hlen]; omega) (byteCells_one _)
  have htk : List.take n (List.map (fun b : UInt8 => Value.int IntKind.u8 (b.toNat : Int)) s.data.toList) = Lib.byteCells (s.data.toList.take n) := by
    unfold Lib.byteCells; rw [List.map_take]
  rw [hlen] at hst
  simp only [Nat.add_zero] at hst
  cases hq : P.info? elem with
  | none => simp [hq] at hs
  | some i =>
    simp [Builtin.copy_, run_underlying hu, Builtin.lenOf, Builtin.firstCells, sizeOf, typeInfo, hq, hn]
    rw [htk, hst]
    simp [Result.andThen]
theorem slice_group (g held : Nat) (h : held < 64) (W : World) :
    (Instr.sliceAt 126 (.pointer (some ⟨g, 8, none⟩)) (some (.int .i64 (held : Int))) none none).run Tryd.prog W = .ok (.slice (some ⟨g, 8 + held, none⟩) (64 - held) (64 - held)) W := by
  have hal : Tryd.prog.arrayLen 126 = 64 := by kernel_rfl
  have hel : Tryd.prog.elem 126 = 5 := by kernel_rfl
  have hu : Tryd.prog.underlying 126 = some (.array (Tryd.prog.arrayLen 126) (Tryd.prog.elem 126)) := by kernel_rfl
  have hsz : ∀ W, (Go.sizeOf 5).run Tryd.prog W = .ok 1 W := fun W => by kernel_rfl
  have ha : (⟨g, 8, none⟩ : Addr).add held = ⟨g, 8 + held, none⟩ := by unfold Addr.add; split <;> simp_all
  rw [run_sliceAt_array_l W _ _ hu .i64 _ (by omega) (by rw [hal]; omega), hel, hsz, hal]
  simp only [Result.andThen, slicedAt, Nat.mul_one, show ¬ 64 = held from by omega, if_false, Int.toNat_natCast, ha]

theorem gput_take {gr : List UInt8} {k : Nat} {l : List UInt8} (h : gr.length = 64) (hk : k + l.length ≤ 64) : (gput gr k l).take (k + l.length) = gr.take k ++ l := by
  unfold gput
  rw [List.take_append_of_le_length (by simp; omega), List.take_of_length_le (by simp; omega)]
/-- a part that does not fill the group -/
theorem part_open {x p gr : List UInt8} (hg : gr.length = 64) (ht : gr.take (x.length % 64) = x.drop (64 * (x.length / 64))) (hp : x.length % 64 + p.length < 64) :
    (x ++ p).length / 64 = x.length / 64 ∧ (x ++ p).length % 64 = x.length % 64 + p.length ∧ sFold (x ++ p) ((x ++ p).length / 64) = sFold x (x.length / 64) ∧
      (gput gr (x.length % 64) p).take ((x ++ p).length % 64) = (x ++ p).drop (64 * ((x ++ p).length / 64)) := by
  have e1 : (x ++ p).length / 64 = x.length / 64 := by rw [List.length_append]; omega
  have e2 : (x ++ p).length % 64 = x.length % 64 + p.length := by rw [List.length_append]; omega
  refine ⟨e1, e2, ?_, ?_⟩
  · rw [e1, sFold_append _ _ _ (by omega)]
  · rw [e1, e2, gput_take hg (by omega), ht, List.drop_append_of_le_length (by omega)]
/-- a part that fills it -/
theorem part_full {x p gr : List UInt8} (hg : gr.length = 64) (ht : gr.take (x.length % 64) = x.drop (64 * (x.length / 64))) (hp : x.length % 64 + p.length = 64) :
    (x ++ p).length % 64 = 0 ∧ sFold (x ++ p) ((x ++ p).length / 64) = sMix (sFold x (x.length / 64)) (gput gr (x.length % 64) p) ∧
      (gput gr (x.length % 64) p).take ((x ++ p).length % 64) = (x ++ p).drop (64 * ((x ++ p).length / 64)) := by
  have e1 : (x ++ p).length / 64 = x.length / 64 + 1 := by rw [List.length_append]; omega
  have e2 : (x ++ p).length % 64 = 0 := by rw [List.length_append]; omega
  have e3 : gput gr (x.length % 64) p = (x ++ p).drop (64 * (x.length / 64)) := by
    have h := gput_take hg (show x.length % 64 + p.length ≤ 64 by omega)
    rw [hp, List.take_of_length_le (by rw [gput_length hg (by omega)]; omega), ht] at h
    rw [h, List.drop_append_of_le_length (by omega)]
  refine ⟨e2, ?_, ?_⟩
  · rw [e1]
    show sMix (sFold (x ++ p) (x.length / 64)) (((x ++ p).drop (64 * (x.length / 64))).take 64) = _
    rw [sFold_append _ _ _ (by omega), ← e3, List.take_of_length_le (by rw [gput_length hg (by omega)]; omega)]
  · rw [e2, e1, List.take_zero, List.drop_of_length_le (by rw [List.length_append]; omega)]
theorem hcells_words (s s' : St) (gr : List UInt8) (held total : Int) :
    ((((((((hcells s gr held total).setIfInBounds 0 (.int .u32 (s'.a : Int))).setIfInBounds 1 (.int .u32 (s'.b : Int))).setIfInBounds 2 (.int .u32 (s'.c : Int))).setIfInBounds 3 (.int .u32 (s'.d : Int))).setIfInBounds 4 (.int .u32 (s'.e : Int))).setIfInBounds 5 (.int .u32 (s'.f : Int))).setIfInBounds 6 (.int .u32 (s'.g : Int))).setIfInBounds 7 (.int .u32 (s'.h : Int)) = hcells s' gr held total := by
  apply Array.toList_inj.1
  simp only [Array.toList_setIfInBounds]
  unfold hcells eightL
  simp only [List.toList_toArray, List.cons_append, List.nil_append, List.set_cons_zero, List.set_cons_succ]
theorem words_heap {W : World} {g : Nat} {T : TypeId} {s : St} (s' : St) {gr : List UInt8} {held total : Int} (h : W.heap[g]? = some (.cells (hcells s gr held total) T (0, 0))) :
    (W.setCells g 0 (eightL s')).heap[g]? = some (.cells (hcells s' gr held total) T (0, 0)) := by
  have h8 := Joins.block_setCell (i := 7) (Joins.block_setCell (i := 6) (Joins.block_setCell (i := 5) (Joins.block_setCell (i := 4) (Joins.block_setCell (i := 3) (Joins.block_setCell (i := 2) (Joins.block_setCell (i := 1) (Joins.block_setCell (i := 0) h (.int .u32 (s'.a : Int))) (.int .u32 (s'.b : Int))) (.int .u32 (s'.c : Int))) (.int .u32 (s'.d : Int))) (.int .u32 (s'.e : Int))) (.int .u32 (s'.f : Int))) (.int .u32 (s'.g : Int))) (.int .u32 (s'.h : Int))
  rw [hcells_words] at h8
  exact h8
theorem words_but (W : World) (g : Nat) (s' : St) : But g W (W.setCells g 0 (eightL s')) :=
  (((((((But.setCell g W 0 _).trans (But.setCell g _ 1 _)).trans (But.setCell g _ 2 _)).trans (But.setCell g _ 3 _)).trans (But.setCell g _ 4 _)).trans (But.setCell g _ 5 _)).trans (But.setCell g _ 6 _)).trans (But.setCell g _ 7 _)
/-- what the mixing reads -/
structure HW (g : Nat) (s : St) (gr : List UInt8) (held total : Int) (W : World) : Prop where
  b : W.heap[g]? = some (.cells (hcells s gr held total) 128 (0, 0))
  k : KAt W
theorem HW.below {g : Nat} {s : St} {gr : List UInt8} {held total : Int} {W W' : World} (h : HW g s gr held total W) (hb : Below W.heap.size W W') : HW g s gr held total W' :=
  ⟨block_kept h.b hb, h.k.below hb⟩
theorem HW.drew {g : Nat} {s : St} {gr : List UInt8} {held total : Int} {W : World} (h : HW g s gr held total W) : HW g s gr held total W.drew := ⟨h.b, h.k.lt, h.k.cell⟩
theorem HW.words {g : Nat} {s : St} {gr : List UInt8} {held total : Int} {W : World} (h : HW g s gr held total W) : W.rangeAt g 0 (eightL s) := fun j u hu => by
  have hj : j < 8 := by have := (List.getElem?_eq_some_iff.1 hu).1; rwa [eightL_length] at this
  rw [Joins.cell_of_block h.b (0 + j), Nat.zero_add]
  unfold hcells
  rw [List.getElem?_toArray, List.append_assoc, List.getElem?_append_left (by rw [eightL_length]; exact hj), hu]
theorem HW.group {g : Nat} {s : St} {gr : List UInt8} {held total : Int} {W : World} (h : HW g s gr held total W) : W.rangeAt g 8 (Lib.byteCells gr) := fun j u hu => by
  have hj := (List.getElem?_eq_some_iff.1 hu).1
  rw [Joins.cell_of_block h.b (8 + j)]
  unfold hcells
  rw [List.getElem?_toArray, List.append_assoc, List.getElem?_append_right (by rw [eightL_length]; omega), eightL_length, show 8 + j - 8 = j by omega, List.getElem?_append_left hj, hu]
theorem HW.there {g : Nat} {s : St} {gr : List UInt8} {held total : Int} {W : World} (h : HW g s gr held total W) : W.there g 0 8 := fun j hj => by
  constructor
  · rw [h.words j _ (List.getElem?_eq_getElem (by rw [eightL_length]; exact hj))]; rfl
  · exact Joins.unfrozen_of_block h.b _

/-- a hash at block g to which l has been written; 'total' says what its last cell says -/
structure HashT (w : World) (g : Nat) (l : List UInt8) (total : Int) : Prop where
  ex : ∃ gr : List UInt8, gr.length = 64 ∧ w.heap[g]? = some (.cells (hcells (sFold l (l.length / 64)) gr ((l.length % 64 : Nat) : Int) total) 128 (0, 0)) ∧ gr.take (l.length % 64) = l.drop (64 * (l.length / 64))
theorem HW.c0 {g : Nat} {s : St} {gr : List UInt8} {held total : Int} {W : World} (h : HW g s gr held total W) : W.cell? ⟨g, 0, none⟩ = some (.int .u32 (s.a : Int)) := h.words 0 _ rfl
theorem HW.c1 {g : Nat} {s : St} {gr : List UInt8} {held total : Int} {W : World} (h : HW g s gr held total W) : W.cell? ⟨g, 1, none⟩ = some (.int .u32 (s.b : Int)) := h.words 1 _ rfl
theorem HW.c2 {g : Nat} {s : St} {gr : List UInt8} {held total : Int} {W : World} (h : HW g s gr held total W) : W.cell? ⟨g, 2, none⟩ = some (.int .u32 (s.c : Int)) := h.words 2 _ rfl
theorem HW.c3 {g : Nat} {s : St} {gr : List UInt8} {held total : Int} {W : World} (h : HW g s gr held total W) : W.cell? ⟨g, 3, none⟩ = some (.int .u32 (s.d : Int)) := h.words 3 _ rfl
theorem HW.c4 {g : Nat} {s : St} {gr : List UInt8} {held total : Int} {W : World} (h : HW g s gr held total W) : W.cell? ⟨g, 4, none⟩ = some (.int .u32 (s.e : Int)) := h.words 4 _ rfl
theorem HW.c5 {g : Nat} {s : St} {gr : List UInt8} {held total : Int} {W : World} (h : HW g s gr held total W) : W.cell? ⟨g, 5, none⟩ = some (.int .u32 (s.f : Int)) := h.words 5 _ rfl
theorem HW.c6 {g : Nat} {s : St} {gr : List UInt8} {held total : Int} {W : World} (h : HW g s gr held total W) : W.cell? ⟨g, 6, none⟩ = some (.int .u32 (s.g : Int)) := h.words 6 _ rfl
theorem HW.c7 {g : Nat} {s : St} {gr : List UInt8} {held total : Int} {W : World} (h : HW g s gr held total W) : W.cell? ⟨g, 7, none⟩ = some (.int .u32 (s.h : Int)) := h.words 7 _ rfl
theorem HW.nf {g : Nat} {s : St} {gr : List UInt8} {held total : Int} {W : World} (h : HW g s gr held total W) (j : Nat) : W.frozen? ⟨g, j, none⟩ = false := Joins.unfrozen_of_block h.b j
def grpOk (w : World) (v : Value) : Prop := ∃ (g o : Nat) (cs : List Value), v = .pointer (some ⟨g, o, none⟩) ∧ w.rangeAt g o cs ∧ cs.length = 64
noncomputable def grp (w : World) (v : Value) : Array Value := by
  classical
  exact if h : grpOk w v then (Classical.choose (Classical.choose_spec (Classical.choose_spec h))).toArray else #[]
theorem grp_spec {w : World} {v : Value} (h : grpOk w v) : ∃ (g o : Nat) (cs : List Value), v = .pointer (some ⟨g, o, none⟩) ∧ w.rangeAt g o cs ∧ cs.length = 64 ∧ grp w v = cs.toArray := by
  have hs := Classical.choose_spec (Classical.choose_spec (Classical.choose_spec h))
  refine ⟨_, _, _, hs.1, hs.2.1, hs.2.2, ?_⟩
  unfold grp
  rw [dif_pos h]
theorem grp_is {w : World} {g o : Nat} {cs : List Value} (h : w.rangeAt g o cs) (hl : cs.length = 64) : grp w (.pointer (some ⟨g, o, none⟩)) = cs.toArray := by
  obtain ⟨g', o', cs', hv, hr, hl', he⟩ := grp_spec (w := w) (v := .pointer (some ⟨g, o, none⟩)) ⟨g, o, cs, rfl, h, hl⟩
  rw [he]
  simp only [Value.pointer.injEq, Option.some.injEq, Addr.mk.injEq, and_true] at hv
  obtain ⟨rfl, rfl⟩ := hv
  congr 1
  apply List.ext_getElem (by rw [hl, hl'])
  intro i h1 h2
  have e1 := h i _ (List.getElem?_eq_getElem h2)
  have e2 := hr i _ (List.getElem?_eq_getElem h1)
  rw [e1] at e2
  exact (Option.some.inj e2).symm
theorem wp_load_grp {d : Option Tmp} {x : Operand} {ty : TypeId} {pos : String} {af : Array Edge} {gd : Option (Nat × Bool)} {a : Act} {w : World} {K : Act → World → Prop} {Q : Exit → Act → World → Prop} (h : grpOk w (a.eval x)) :
    Oper.wp Tryd.prog { dst := d, op := .load 126 x, type := ty, pos := pos, after := af, guard := gd } a w K Q = K (a.put d (.agg (grp w (a.eval x)))) w := by
  obtain ⟨g, o, cs, hv, hr, hl, he⟩ := grp_spec h
  have hi : (Tryd.prog.info? 126).map (·.size) = some cs.length := by rw [hl]; kernel_rfl
  unfold Oper.wp execOp
  rw [he]
  simp only [hv, Instr.loadAt, Instr.sureAddr, Sem.run_bind, Sem.run_pure, Result.andThen_ok, run_loadVar_mid w g o 126 cs _ hr Tryd.underlying126 rfl hi]
  rfl
theorem HW.grpOk {g : Nat} {s : St} {gr : List UInt8} {held total : Int} {W : World} (h : HW g s gr held total W) (hg : gr.length = 64) : grpOk W (.pointer (some ⟨g, 8, none⟩)) :=
  ⟨g, 8, Lib.byteCells gr, rfl, h.group, by rw [Lib.byteCells_length]; exact hg⟩
theorem HW.grpIs {g : Nat} {s : St} {gr : List UInt8} {held total : Int} {W : World} (h : HW g s gr held total W) (hg : gr.length = 64) : grp W (.pointer (some ⟨g, 8, none⟩)) = (Lib.byteCells gr).toArray :=
  grp_is h.group (by rw [Lib.byteCells_length]; exact hg)
structure HX (w : World) (g : Nat) (s : St) (gr : List UInt8) (held total : Int) (W : World) : Prop where
  hw : HW g s gr held total W
  but : But g w W
theorem HX.below {w : World} {g : Nat} {s : St} {gr : List UInt8} {held total : Int} {W W' : World} (h : HX w g s gr held total W) (hb : Below W.heap.size W W') : HX w g s gr held total W' := ⟨h.hw.below hb, h.but.trans (But.of hb)⟩
theorem HX.drew {w : World} {g : Nat} {s : St} {gr : List UInt8} {held total : Int} {W : World} (h : HX w g s gr held total W) : HX w g s gr held total W.drew := ⟨h.hw.drew, h.but.drew⟩
theorem HX.words {w : World} {g : Nat} {s : St} {gr : List UInt8} {held total : Int} {W : World} (h : HX w g s gr held total W) (hg : 0 < g) (s' : St) : HX w g s' gr held total (W.setCells g 0 (eightL s')) :=
  ⟨⟨words_heap s' h.hw.b, h.hw.k.but (words_but W g s') hg⟩, h.but.trans (words_but W g s')⟩
theorem HX.chain {w : World} {g : Nat} {s : St} {gr : List UInt8} {held total : Int} {W : World} (h : HX w g s gr held total W) (hg : 0 < g) (s' : St) : HX w g s' gr held total ((((((((W.setCell ⟨g, 0, none⟩ (.int .u32 (s'.a : Int))).setCell ⟨g, 1, none⟩ (.int .u32 (s'.b : Int))).setCell ⟨g, 2, none⟩ (.int .u32 (s'.c : Int))).setCell ⟨g, 3, none⟩ (.int .u32 (s'.d : Int))).setCell ⟨g, 4, none⟩ (.int .u32 (s'.e : Int))).setCell ⟨g, 5, none⟩ (.int .u32 (s'.f : Int))).setCell ⟨g, 6, none⟩ (.int .u32 (s'.g : Int))).setCell ⟨g, 7, none⟩ (.int .u32 (s'.h : Int))) := h.words hg s'
theorem eightL_one (s : St) : (eightL s).toArray.all (·.oneCell') = true := eight_one s
theorem mix_b (s : St) (W : List Nat) (w : World) (hs : s.Ok) (hW : W.length = 64) (hWs : ∀ i, nth W i < 4294967296) (hk : KAt w) :
    Calls Tryd.prog 99 #[.agg (eightL s).toArray, .agg (wc64 W)] w fun e w' => e = .returned (.agg (eightL (s.add (rnds s W 64))).toArray) ∧ Below w.heap.size w w' := mix_any s W w hs hW hWs hk
theorem str_drop (r : List UInt8) (n : Nat) (h : n ≤ r.length) : (str r).extract n r.length = str (r.drop n) := by
  apply ByteArray.ext
  apply Array.toList_inj.1
  rw [ByteArray.data_extract, Array.toList_extract]
  show (r.drop n).take (r.length - n) = r.drop n
  rw [List.take_of_length_le (by simp)]
theorem mixS (s : St) (gr : List UInt8) : s.add (rnds s (sW gr 48) 64) = sMix s gr := rfl
attribute [local go_sem ↓] wp_load_grp Go.wp_at_zero Go.wp_at_succ
attribute [local irreducible] grpOk grp hcells sFold Lib.byteCells eightL gput sMix str sW rnds St.add wc64

set_option maxRecDepth 100000 in
set_option maxHeartbeats 4000000 in
theorem write_any (g : Nat) (l m : List UInt8) (w : World) (hh : HashT w g l l.length) (hk : KAt w) (hg : 0 < g) (hl : l.length + m.length ≤ 1000000000) :
    Calls Tryd.prog 82 #[.pointer (some ⟨g, 0, none⟩), .string (str m)] w fun e w' => e = .returned (.tuple #[]) ∧ HashT w' g (l ++ m) (l.length + m.length : Nat) ∧ But g w w' := by
  obtain ⟨gr, hgr, hb, htk⟩ := hh.ex
  have hS : HashT (w.setCell ⟨g, 73, none⟩ (.int .i64 ((l.length : Int) + (m.length : Int)))) g l ((l.length + m.length : Nat) : Int) :=
    ⟨gr, hgr, by rw [Joins.block_setCell hb, hcells_set_total _ hgr]; rfl, htk⟩
  have HS := Kept.mk hS
  have c73 := (Joins.cell_of_block hb 73).trans (hcells_total _ hgr _ _)
  have nf := Joins.unfrozen_of_block hb
  have hsz := str_size m
  clear hb hgr htk hh hS
  go_enter Tryd.func82, Tryd.ntmps82
  go_wp2_with fail
  have hB1 := But.setCell g w 73 (.int .i64 ((l.length : Int) + (m.length : Int)))
  have hK1 := hk.but hB1 hg
  have HK1 := Kept.mk hK1
  have HB1 := Kept.mk hB1
  clear c73 nf hsz hK1 hB1
  go_loopw [1] (fun s1 wr => ∃ x r : List UInt8, l ++ m = x ++ r ∧ s1 = .string (str r) ∧ HashT wr g x ((l.length + m.length : Nat) : Int) ∧ KAt wr ∧ But g w wr) (fun s1 _ => match s1 with | .string t => t.size | _ => 0)
  case atStart => exact ⟨l, m, rfl, rfl, HS.out, HK1.out, HB1.out⟩
  case round =>
    clear HS HK1 HB1
    obtain ⟨x, r, hxr, rfl, hh, hkr, hbr⟩ := hrel
    have hlen := congrArg List.length hxr
    rw [List.length_append, List.length_append] at hlen
    have HXR := Kept.mk hxr
    clear hxr
    have hsz := str_size r
    by_cases h0 : 0 < r.length
    · obtain ⟨gr, hgr, hb, htk⟩ := hh.ex
      generalize hT : ((l.length + m.length : Nat) : Int) = T at *
      have HT := Kept.mk hT
      clear hT hh
      have hhlt : x.length % 64 < 64 := Nat.mod_lt _ (by decide)
      have hn : ∃ n, n = min r.length (64 - x.length % 64) := ⟨_, rfl⟩
      obtain ⟨n, hn⟩ := hn
      have hn1 : 1 ≤ n := by omega
      have hn2 : n ≤ r.length := by omega
      have hn3 : x.length % 64 + n ≤ 64 := by omega
      have hn4 : x.length % 64 + n < 64 → n = r.length := by omega
      have hpl : (r.take n).length = n := by rw [List.length_take]; omega
      have c72 := (Joins.cell_of_block hb 72).trans (hcells_held _ hgr _ _)
      have hsl := slice_group g (x.length % 64) hhlt
      have hcp := run_copy_some_string (P := Tryd.prog) wr.drew 107 9 3 5 g (8 + x.length % 64) (64 - x.length % 64) (64 - x.length % 64) n (str r) _ 128 Tryd.underlying107 (by kernel_rfl) hb (by rw [hsz, hn]) (by rw [hcells_size _ hgr]; omega)
      have hcc := hcells_copy (sFold x (x.length / 64)) hgr ((x.length % 64 : Nat) : Int) T (x.length % 64) (r.take n) (by rw [hpl]; omega)
      rw [hpl] at hcc
      have hdt := str_data r
      rw [hdt, hcc] at hcp
      have hb2 := setRow_heap wr.drew g _ (hcells (sFold x (x.length / 64)) (gput gr (x.length % 64) (r.take n)) ((x.length % 64 : Nat) : Int) T) _ _ hb
      have hlg := gput_length (k := x.length % 64) (l := r.take n) hgr (by rw [hpl]; omega)
      have hopen : x.length % 64 + n < 64 → _ := fun h => part_open (x := x) (p := r.take n) hgr htk (by rw [hpl]; exact h)
      have hfull : x.length % 64 + n = 64 → _ := fun h => part_full (x := x) (p := r.take n) hgr htk (by rw [hpl]; exact h)
      have HO := Kept.mk hopen
      have HF := Kept.mk hfull
      have HCP := Kept.mk hcp
      have HB2 := Kept.mk hb2
      have HBR := Kept.mk hbr
      have HKR := Kept.mk hkr
      have HLG := Kept.mk hlg
      have HN := Kept.mk hn
      have HPL := Kept.mk hpl
      have HOK := Kept.mk (sFold_ok x (x.length / 64))
      have HSD := Kept.mk (str_drop r n hn2)
      clear hopen hfull hcp hcc hb2 hbr hkr hlg hn hb htk hgr hdt hpl
      generalize sFold x (x.length / 64) = S at *
      generalize gput gr (x.length % 64) (r.take n) = gr2 at *
      generalize hh : x.length % 64 = h at *
      have HH := Kept.mk hh; clear hh
      have hi1 : (h : Int) ≤ 64 := by omega
      have hi2 : (0 : Int) ≤ (h : Int) := by omega
      go_upto_region 3 with fail
      go_cut [4] (fun s4 wx => s4 = .int .i64 n ∧ wx.heap[g]? = some (.cells (hcells S gr2 (h : Int) T) 128 (0, 0)) ∧ KAt wx ∧ But g w wx)
      case first =>
        go_still_tail 9, (by kernel_rfl)
        change wpList _ _ _ _ _ (World.drew _)
        refine wpList_copy_run _ rfl (.tmp 26) (.tmp 27) 107 9 rfl _ _ rfl rfl HCP.out ?_
        go_wp2_with fail
        go_meet
        exact ⟨rfl, HB2.out, HKR.out.but ((But.refl g _).drew.trans (But.setRow g _ _)) hg, HBR.out.drew.trans (But.setRow g _ _)⟩
      case rest =>
        obtain ⟨rfl, hb, hkr, hbr⟩ := hcut
        clear c72
        have c72 := (Joins.cell_of_block hb 72).trans (hcells_held _ HLG.out _ _)
        have nf := Joins.unfrozen_of_block hb 72
        have HB := Kept.mk hb
        have HKR := Kept.mk hkr
        have HBR := Kept.mk hbr
        clear hb hkr hbr hsl
        by_cases hf : h + n = 64
        · have hf2 : ((h : Int) + (n : Int) == 64) = true := by simp; omega
          have hX : HX w g S gr2 64 T (wc.setCell ⟨g, 72, none⟩ (.int .i64 ((h : Int) + (n : Int)))) :=
            ⟨⟨by rw [Joins.block_setCell HB.out, hcells_set_held _ HLG.out, show (h : Int) + (n : Int) = 64 by omega], HKR.out.but (But.setCell g _ 72 _) hg⟩, HBR.out.trans (But.setCell g _ 72 _)⟩
          have HQ := Kept.mk hX
          clear hX
          go_upto_region 7 with fail
          clear c72 nf HB HKR HBR
          generalize wc.setCell ⟨g, 72, none⟩ (.int .i64 ((h : Int) + (n : Int))) = X at *
          go_cut [] (fun wx => HX w g (sMix S gr2) gr2 64 T wx)
          case first =>
            have d0 := HQ.out.hw.c0
            have d1 := HQ.out.hw.c1
            have d2 := HQ.out.hw.c2
            have d3 := HQ.out.hw.c3
            have d4 := HQ.out.hw.c4
            have d5 := HQ.out.hw.c5
            have d6 := HQ.out.hw.c6
            have d7 := HQ.out.hw.c7
            have dn := HQ.out.hw.nf
            have dk := HQ.out.drew.hw.grpOk HLG.out
            have dv := HQ.out.drew.hw.grpIs HLG.out
            go_region_with (first | (go_at_call 100; refine (schedule_any gr2 _ HLG.out).mono ?_; rintro e w1 ⟨rfl, hb1⟩; have hQ := HX.below (w := w) (g := g) (s := S) (gr := gr2) (held := 64) (total := T) (by first | exact HQ.out | exact HQ.out.drew) hb1; clear HQ hb1 d0 d1 d2 d3 d4 d5 d6 d7 dn dk dv; have HQ := Kept.mk hQ; have d0 := hQ.hw.c0; have d1 := hQ.hw.c1; have d2 := hQ.hw.c2; have d3 := hQ.hw.c3; have d4 := hQ.hw.c4; have d5 := hQ.hw.c5; have d6 := hQ.hw.c6; have d7 := hQ.hw.c7; have dn := hQ.hw.nf; clear hQ) | (go_at_call 99; refine (mix_any S (sW gr2 48) _ HOK.out (sW_length gr2 48) (sW_small gr2 48) (by first | exact HQ.out.hw.k | exact HQ.out.drew.hw.k)).mono ?_; rintro e w1 ⟨rfl, hb1⟩; have hQ := HX.below (w := w) (g := g) (s := S) (gr := gr2) (held := 64) (total := T) (by first | exact HQ.out | exact HQ.out.drew) hb1; clear HQ hb1 d0 d1 d2 d3 d4 d5 d6 d7 dn; have HQ := Kept.mk hQ; have d0 := hQ.hw.c0; have d1 := hQ.hw.c1; have d2 := hQ.hw.c2; have d3 := hQ.hw.c3; have d4 := hQ.hw.c4; have d5 := hQ.hw.c5; have d6 := hQ.hw.c6; have d7 := hQ.hw.c7; have dn := hQ.hw.nf; clear hQ))
            all_goals
              go_wp2_with fail
              first | go_meet | skip
              rw [← mixS]
              exact HQ.out.chain hg _
          case rest =>
            obtain ⟨⟨hb, hk3⟩, hbr⟩ := hcut
            clear HQ
            have c72 := (Joins.cell_of_block hb 72).trans (hcells_held _ HLG.out _ _)
            have nf := Joins.unfrozen_of_block hb 72
            have HB := Kept.mk hb
            have HKR := Kept.mk hk3
            have HBR := Kept.mk hbr
            clear hb hk3 hbr
            go_wp2_with fail
            obtain ⟨f1, f2, f3⟩ := HF.out hf
            refine ⟨⟨x ++ r.take n, r.drop n, by rw [HXR.out, List.append_assoc, List.take_append_drop], by rw [HSD.out], ⟨gr2, HLG.out, ?_, f3⟩, HKR.out.but (But.setCell g _ 72 _) hg, HBR.out.trans (But.setCell g _ 72 _)⟩, ?_⟩
            · rw [Joins.block_setCell HB.out, hcells_set_held _ HLG.out, f2, f1]; rfl
            · rw [HSD.out]
              show (str (r.drop n)).size < (str r).size
              rw [str_size, str_size, List.length_drop]; omega
        · have hf2 : ((h : Int) + (n : Int) == 64) = false := by simp; omega
          go_wp2_with fail
          obtain ⟨f0, f1, f2, f3⟩ := HO.out (by omega)
          refine ⟨⟨x ++ r.take n, r.drop n, by rw [HXR.out, List.append_assoc, List.take_append_drop], by rw [HSD.out], ⟨gr2, HLG.out, ?_, f3⟩, HKR.out.but (But.setCell g _ 72 _) hg, HBR.out.trans (But.setCell g _ 72 _)⟩, ?_⟩
          · rw [Joins.block_setCell HB.out, hcells_set_held _ HLG.out, f2, f1, HPL.out]; rfl
          · rw [HSD.out]
            show (str (r.drop n)).size < (str r).size
            rw [str_size, str_size, List.length_drop]; omega
    · have hr0 : r = [] := List.eq_nil_of_length_eq_zero (by omega)
      subst hr0
      have HH := Kept.mk hh
      have HBR := Kept.mk hbr
      clear hh hbr hkr
      go_wp2_with fail
      go_end0
      refine ⟨rfl, ?_, HBR.out⟩
      rw [HXR.out, List.append_nil]
      exact HH.out
end Go.Proofs.YtkkcakblphebjaaDoor
