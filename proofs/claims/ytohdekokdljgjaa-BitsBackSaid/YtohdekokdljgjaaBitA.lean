/- bits: a writer of one byte, bit by bit; the chapter's examples; of a writer and a reader that are none there is nothing. -/
import Derived.Test.YtohdekokdljgjaaKit
import Derived.Deep.AppendSrc
import Derived.Deep.CutBlock
import Derived.StillTailTactics
import Derived.ChangeOld
import Derived.Handy
namespace Go.Proofs.Ytohdekokdljgjaa
set_option linter.unusedVariables false
set_option linter.unusedSimpArgs false
open Go.RowKit Go.Lib
theorem infoByteA : (Try.prog.info? 5).map (fun i => (i.zero, i.size, i.bytes)) = some (some (.int .u8 0), 1, 1) := by kernel_rfl
theorem block_ltA {W : World} {g : Nat} {o : Obj} (h : W.heap[g]? = some o) : g < W.heap.size := (Array.getElem?_eq_some_iff.1 h).1
theorem heap_newA (W : World) (o : Obj) (g : Nat) (hg : g = W.heap.size) : (W.alloc o).heap[g]? = some o := by
  subst hg; exact heap_alloc_new W o
theorem cell_of_cellsA {W : World} {g j : Nat} {cs : Array Value} {T : TypeId} {f : Nat × Nat} (h : W.heap[g]? = some (.cells cs T f)) : W.cell? ⟨g, j, none⟩ = cs[j]? := by simp [World.cell?, h]
/-- blocks g and gb, and what is new, have turned; nothing else -/
structure Oth (g gb : Nat) (w w' : World) : Prop where
  os : w'.os = w.os
  tape : w'.tape = w.tape
  output : w'.output = w.output
  size : w.heap.size ≤ w'.heap.size
  block : ∀ k, k < w.heap.size → k ≠ g → k ≠ gb → w'.heap[k]? = w.heap[k]?
theorem Oth.refl (g gb : Nat) (w : World) : Oth g gb w w := ⟨rfl, rfl, rfl, Nat.le_refl _, fun _ _ _ _ => rfl⟩
theorem Oth.trans {g gb : Nat} {a b c : World} (h : Oth g gb a b) (k : Oth g gb b c) : Oth g gb a c :=
  ⟨k.os.trans h.os, k.tape.trans h.tape, k.output.trans h.output, Nat.le_trans h.size k.size, fun i hi h1 h2 => (k.block i (Nat.lt_of_lt_of_le hi h.size) h1 h2).trans (h.block i hi h1 h2)⟩
theorem Oth.below {g gb B : Nat} {a b c : World} (h : Below B a b) (k : Oth g gb b c) (hg : B ≤ g) (hgb : B ≤ gb) (hB : B ≤ b.heap.size) : Below B a c :=
  ⟨k.os.trans h.os, k.tape.trans h.tape, k.output.trans h.output, Nat.le_trans h.size k.size, fun i hi => (k.block i (by omega) (by omega) (by omega)).trans (h.block i hi)⟩
theorem Oth.setg (g gb : Nat) (w : World) (j : Nat) (v : Value) : Oth g gb w (w.setCell ⟨g, j, none⟩ v) :=
  ⟨rfl, rfl, rfl, by simp [World.setCell], fun k _ hk _ => Below.heap_setCell w ⟨g, j, none⟩ v k hk⟩
theorem Oth.setb (g gb : Nat) (w : World) (j : Nat) (v : Value) : Oth g gb w (w.setCell ⟨gb, j, none⟩ v) :=
  ⟨rfl, rfl, rfl, by simp [World.setCell], fun k _ _ hk => Below.heap_setCell w ⟨gb, j, none⟩ v k hk⟩
theorem Oth.drew {g gb : Nat} {a w : World} (h : Oth g gb a w) : Oth g gb a w.drew := ⟨h.os, h.tape, h.output, h.size, h.block⟩
theorem Oth.alloc (g gb : Nat) (w : World) (o : Obj) : Oth g gb w (w.alloc o) := ⟨rfl, rfl, rfl, by simp, fun k hk _ _ => heap_alloc_old w o hk⟩
/-- a writer of one byte that holds n bits -/
structure WS (W : World) (g gb cap : Nat) (cs : Array Value) (x n : Int) : Prop where
  hg : W.heap[g]? = some (.cells #[.slice (some ⟨gb, 0, none⟩) 1 cap, .int .i64 n] 25 (0, 0))
  hb : W.heap[gb]? = some (.cells cs 5 (0, 0))
  hx : cs[0]? = some (.int .u8 x)
  ne : gb ≠ g
theorem WS.drew {W : World} {g gb cap : Nat} {cs : Array Value} {x n : Int} (h : WS W g gb cap cs x n) : WS W.drew g gb cap cs x n := ⟨h.hg, h.hb, h.hx, h.ne⟩
theorem setCell_other (W : World) (g g2 j : Nat) (v : Value) (h : g2 ≠ g) : (W.setCell ⟨g, j, none⟩ v).heap[g2]? = W.heap[g2]? := Below.heap_setCell W ⟨g, j, none⟩ v g2 h
theorem WS.put {W : World} {g gb cap : Nat} {cs : Array Value} {x n : Int} (h : WS W g gb cap cs x n) (y : Int) : WS (W.setCell ⟨gb, 0, none⟩ (.int .u8 y)) g gb cap (cs.setIfInBounds 0 (.int .u8 y)) y n :=
  ⟨by rw [setCell_other _ _ _ _ _ (Ne.symm h.ne)]; exact h.hg, Joins.block_setCell h.hb _, by
    have := (Array.getElem?_eq_some_iff.1 h.hx).1
    simp [this], h.ne⟩
theorem WS.count {W : World} {g gb cap : Nat} {cs : Array Value} {x n : Int} (h : WS W g gb cap cs x n) (m : Int) : WS (W.setCell ⟨g, 1, none⟩ (.int .i64 m)) g gb cap cs x m :=
  ⟨Joins.block_setCell h.hg _, by rw [setCell_other _ _ _ _ _ h.ne]; exact h.hb, h.hx, h.ne⟩
theorem append_zero {ops : Array Oper} {rest : List Oper} {o : Oper} {a : Act} {Q : Exit → Act → World → Prop} (hgd : o.guard = none) (s x : Operand)
    (ho : o.op = .call { callee := .builtin .append, args := #[s, x], argTypes := #[23, 23] }) {wr : World} (hs : a.eval s = .slice none 0 0)
    (hx : a.eval x = .slice (some ⟨wr.heap.size, 0, none⟩) 1 1)
    (h : ∀ cap cs, cs[0]? = some (.int .u8 0) → wpList Try.prog ops Q rest (a.put o.dst (.slice (some ⟨wr.heap.size + 1, 0, none⟩) 1 cap)) ((wr.alloc (.cells #[.int .u8 0] 5)).drew.alloc (.cells cs 5))) :
    wpList Try.prog ops Q (o :: rest) a (wr.alloc (.cells #[.int .u8 0] 5)) := by
  obtain ⟨i0, hi, hz0, hz1, hz2⟩ := info_parts infoByteA
  have hXs : (wr.alloc (.cells #[.int .u8 0] 5)).heap.size = wr.heap.size + 1 := by simp
  have hnews : ∀ j u, [Value.int .u8 0][j]? = some u → (wr.alloc (.cells #[.int .u8 0] 5)).cell? ((⟨wr.heap.size, 0, none⟩ : Addr).add j) = some u := by
    intro j u hj
    match j, hj with
    | 0, hj => simp at hj; subst hj; simp [Addr.add]
    | (j + 1), hj => simp at hj
  generalize wr.alloc (.cells #[.int .u8 0] 5) = X at *
  have h1 : ∀ u ∈ [Value.int .u8 0], u.oneCell' = true := by intro u hu; simp at hu; subst hu; rfl
  have hS : Src Try.prog i0.size 23 (.slice (some ⟨wr.heap.size, 0, none⟩) 1 1) 1 [.int .u8 0] X := Src.ofSlice X Try.underlying23 _ 1 1 _ (by rw [hz1]; rfl) hnews h1
  have hr := run_append_grow_src (P := Try.prog) X 23 23 o.type 5 i0 (.int .u8 0) Try.underlying23 hi hz0 none 0 0 [] (run_firstCells_none _ _ _ _ _) _ 1 _ hS (by omega) (by omega) (growslice_fits (by omega) (by rw [hz2]; omega))
  rw [hXs] at hr
  refine wpList_plain hgd fun K hK => ?_
  unfold Oper.wp execOp
  simp only [ho, resolve, invoke, builtin, Sem.run_bind, Sem.run_pure, Result.andThen_ok, List.map_toArray, List.map_cons, List.map_nil, hs, hx, hr]
  exact hK _ _ (h _ _ (by rw [Array.getElem?_append_left (by simp)]; rfl))

theorem ws_first (g cap : Nat) (cs : Array Value) (w : World) (hg : w.heap[g]? = some (.cells #[.slice none 0 0, .int .i64 0] 25 (0, 0))) (hgl : g < w.heap.size) (hcs : cs[0]? = some (.int .u8 0)) :
    WS (((w.setCell ⟨g, 0, none⟩ (.slice (some ⟨w.heap.size + 1, 0, none⟩) 1 cap)).alloc (.cells #[.int .u8 0] 5)).alloc (.cells cs 5)).drew g (w.heap.size + 1) cap cs 0 0 := by
  have hs : (w.setCell ⟨g, 0, none⟩ (.slice (some ⟨w.heap.size + 1, 0, none⟩) 1 cap)).heap.size = w.heap.size := by simp [World.setCell]
  have h1 := Joins.block_setCell (i := 0) hg (.slice (some ⟨w.heap.size + 1, 0, none⟩) 1 cap)
  generalize w.setCell ⟨g, 0, none⟩ (.slice (some ⟨w.heap.size + 1, 0, none⟩) 1 cap) = X at *
  refine ⟨?_, heap_newA _ _ _ (by simp [hs]), hcs, by omega⟩
  show ((X.alloc _).alloc _).heap[g]? = _
  rw [Go.heap_alloc_old (X.alloc _) _ (by simp; omega), Go.heap_alloc_old X _ (by omega), h1]
  rfl
theorem oth_first (g gb cap : Nat) (cs : Array Value) (w : World) : Oth g gb w (((w.setCell ⟨g, 0, none⟩ (.slice (some ⟨w.heap.size + 1, 0, none⟩) 1 cap)).alloc (.cells #[.int .u8 0] 5)).alloc (.cells cs 5)).drew :=
  (((Oth.setg g gb w 0 _).trans (Oth.alloc g gb _ _)).trans (Oth.alloc g gb _ _)).drew

set_option maxRecDepth 100000 in
theorem bit_first (g : Nat) (w : World) (hg : w.heap[g]? = some (.cells #[.slice none 0 0, .int .i64 0] 25 (0, 0))) :
    Calls Try.prog 57 #[.pointer (some ⟨g, 0, none⟩), .int .i64 1] w fun e w' => e = .returned (.tuple #[]) ∧ ∃ gb cap cs, WS w' g gb cap cs 1 1 ∧ w.heap.size ≤ gb ∧ Oth g gb w w' := by
  have hgl := block_ltA hg
  have c0 := cell_of_cellsA (j := 0) hg
  have c1 := cell_of_cellsA (j := 1) hg
  have nf := fun j => Joins.unfrozen_of_block hg j
  have HG := Kept.mk hg
  clear hg
  go_enter Try.func57, Try.ntmps57
  go_upto_region 2 with (at_builtin; refine append_zero rfl (.tmp 14) (.tmp 15) rfl rfl rfl ?_; intro cap cs hcs)
  clear c0 c1 nf
  have hY := ws_first g cap cs w HG.out hgl hcs
  have hO := oth_first g (w.heap.size + 1) cap cs w
  generalize (((w.setCell ⟨g, 0, none⟩ (.slice (some ⟨w.heap.size + 1, 0, none⟩) 1 cap)).alloc (.cells #[.int .u8 0] 5)).alloc (.cells cs 5)).drew = Y at *
  have hgb : w.heap.size ≤ w.heap.size + 1 := Nat.le_succ _
  generalize w.heap.size + 1 = gb at *
  have w0 := wrap_i64_small 0 (by decide) (by decide)
  have w1 := wrap_i64_small 1 (by decide) (by decide)
  have w2 := wrap_i64_small 2 (by decide) (by decide)
  have w3 := wrap_i64_small 3 (by decide) (by decide)
  have w4 := wrap_i64_small 4 (by decide) (by decide)
  have w5 := wrap_i64_small 5 (by decide) (by decide)
  have w8 := wrap_i64_small 8 (by decide) (by decide)
  have w13 := wrap_i64_small 13 (by decide) (by decide)
  have w16 := wrap_i64_small 16 (by decide) (by decide)
  have d0 := cell_of_cellsA (j := 0) hY.hg
  have d1 := cell_of_cellsA (j := 1) hY.hg
  have e0 := (cell_of_cellsA (j := 0) hY.hb).trans hY.hx
  have nf := fun j => Joins.unfrozen_of_block hY.hg j
  have nb := fun j => Joins.unfrozen_of_block hY.hb j
  have hne : ¬ gb = g := hY.ne
  have HP := Kept.mk ((hY.put 1).drew.count 1)
  have HO := Kept.mk ((hO.trans ((Oth.setb g gb Y 0 (.int .u8 1)).drew)).trans (Oth.setg g gb _ 1 (.int .i64 1)))
  clear hY hO
  go_wp2_with fail
  go_still_tail 21, (by kernel_rfl)
  change wpList _ _ _ _ _ (World.drew _)
  go_wp2_with fail
  go_returns
  exact ⟨rfl, gb, cap, _, HP.out, hgb, HO.out⟩

set_option maxRecDepth 100000 in
theorem bit_1_1_0 (g gb cap : Nat) (cs : Array Value) (Y : World) (hY : WS Y g gb cap cs 1 1) :
    Calls Try.prog 57 #[.pointer (some ⟨g, 0, none⟩), .int .i64 0] Y fun e w' => e = .returned (.tuple #[]) ∧ ∃ cs2, WS w' g gb cap cs2 1 2 ∧ Oth g gb Y w' := by
  have hO := Oth.refl g gb Y
  have h0 := cell_of_cellsA (j := 1) hY.hg
  go_enter Try.func57, Try.ntmps57
  go_upto_region 2 with fail
  clear h0
  have w0 := wrap_i64_small 0 (by decide) (by decide)
  have w1 := wrap_i64_small 1 (by decide) (by decide)
  have w2 := wrap_i64_small 2 (by decide) (by decide)
  have w3 := wrap_i64_small 3 (by decide) (by decide)
  have w4 := wrap_i64_small 4 (by decide) (by decide)
  have w5 := wrap_i64_small 5 (by decide) (by decide)
  have w8 := wrap_i64_small 8 (by decide) (by decide)
  have w13 := wrap_i64_small 13 (by decide) (by decide)
  have w16 := wrap_i64_small 16 (by decide) (by decide)
  have d0 := cell_of_cellsA (j := 0) hY.hg
  have d1 := cell_of_cellsA (j := 1) hY.hg
  have e0 := (cell_of_cellsA (j := 0) hY.hb).trans hY.hx
  have nf := fun j => Joins.unfrozen_of_block hY.hg j
  have nb := fun j => Joins.unfrozen_of_block hY.hb j
  have hne : ¬ gb = g := hY.ne
  have HP := Kept.mk ((hY.put 1).drew.count 2)
  have HO := Kept.mk ((hO.trans ((Oth.setb g gb Y 0 (.int .u8 1)).drew)).trans (Oth.setg g gb _ 1 (.int .i64 2)))
  clear hY hO
  go_wp2_with fail
  go_still_tail 21, (by kernel_rfl)
  change wpList _ _ _ _ _ (World.drew _)
  go_wp2_with fail
  go_returns
  exact ⟨rfl, _, HP.out, HO.out⟩

set_option maxRecDepth 100000 in
theorem bit_2_1_1 (g gb cap : Nat) (cs : Array Value) (Y : World) (hY : WS Y g gb cap cs 1 2) :
    Calls Try.prog 57 #[.pointer (some ⟨g, 0, none⟩), .int .i64 1] Y fun e w' => e = .returned (.tuple #[]) ∧ ∃ cs2, WS w' g gb cap cs2 5 3 ∧ Oth g gb Y w' := by
  have hO := Oth.refl g gb Y
  have h0 := cell_of_cellsA (j := 1) hY.hg
  go_enter Try.func57, Try.ntmps57
  go_upto_region 2 with fail
  clear h0
  have w0 := wrap_i64_small 0 (by decide) (by decide)
  have w1 := wrap_i64_small 1 (by decide) (by decide)
  have w2 := wrap_i64_small 2 (by decide) (by decide)
  have w3 := wrap_i64_small 3 (by decide) (by decide)
  have w4 := wrap_i64_small 4 (by decide) (by decide)
  have w5 := wrap_i64_small 5 (by decide) (by decide)
  have w8 := wrap_i64_small 8 (by decide) (by decide)
  have w13 := wrap_i64_small 13 (by decide) (by decide)
  have w16 := wrap_i64_small 16 (by decide) (by decide)
  have d0 := cell_of_cellsA (j := 0) hY.hg
  have d1 := cell_of_cellsA (j := 1) hY.hg
  have e0 := (cell_of_cellsA (j := 0) hY.hb).trans hY.hx
  have nf := fun j => Joins.unfrozen_of_block hY.hg j
  have nb := fun j => Joins.unfrozen_of_block hY.hb j
  have hne : ¬ gb = g := hY.ne
  have HP := Kept.mk ((hY.put 5).drew.count 3)
  have HO := Kept.mk ((hO.trans ((Oth.setb g gb Y 0 (.int .u8 5)).drew)).trans (Oth.setg g gb _ 1 (.int .i64 3)))
  clear hY hO
  go_wp2_with fail
  go_still_tail 21, (by kernel_rfl)
  change wpList _ _ _ _ _ (World.drew _)
  go_wp2_with fail
  go_returns
  exact ⟨rfl, _, HP.out, HO.out⟩

set_option maxRecDepth 100000 in
theorem bit_3_5_1 (g gb cap : Nat) (cs : Array Value) (Y : World) (hY : WS Y g gb cap cs 5 3) :
    Calls Try.prog 57 #[.pointer (some ⟨g, 0, none⟩), .int .i64 1] Y fun e w' => e = .returned (.tuple #[]) ∧ ∃ cs2, WS w' g gb cap cs2 13 4 ∧ Oth g gb Y w' := by
  have hO := Oth.refl g gb Y
  have h0 := cell_of_cellsA (j := 1) hY.hg
  go_enter Try.func57, Try.ntmps57
  go_upto_region 2 with fail
  clear h0
  have w0 := wrap_i64_small 0 (by decide) (by decide)
  have w1 := wrap_i64_small 1 (by decide) (by decide)
  have w2 := wrap_i64_small 2 (by decide) (by decide)
  have w3 := wrap_i64_small 3 (by decide) (by decide)
  have w4 := wrap_i64_small 4 (by decide) (by decide)
  have w5 := wrap_i64_small 5 (by decide) (by decide)
  have w8 := wrap_i64_small 8 (by decide) (by decide)
  have w13 := wrap_i64_small 13 (by decide) (by decide)
  have w16 := wrap_i64_small 16 (by decide) (by decide)
  have d0 := cell_of_cellsA (j := 0) hY.hg
  have d1 := cell_of_cellsA (j := 1) hY.hg
  have e0 := (cell_of_cellsA (j := 0) hY.hb).trans hY.hx
  have nf := fun j => Joins.unfrozen_of_block hY.hg j
  have nb := fun j => Joins.unfrozen_of_block hY.hb j
  have hne : ¬ gb = g := hY.ne
  have HP := Kept.mk ((hY.put 13).drew.count 4)
  have HO := Kept.mk ((hO.trans ((Oth.setb g gb Y 0 (.int .u8 13)).drew)).trans (Oth.setg g gb _ 1 (.int .i64 4)))
  clear hY hO
  go_wp2_with fail
  go_still_tail 21, (by kernel_rfl)
  change wpList _ _ _ _ _ (World.drew _)
  go_wp2_with fail
  go_returns
  exact ⟨rfl, _, HP.out, HO.out⟩

set_option maxRecDepth 100000 in
theorem bit_4_13_0 (g gb cap : Nat) (cs : Array Value) (Y : World) (hY : WS Y g gb cap cs 13 4) :
    Calls Try.prog 57 #[.pointer (some ⟨g, 0, none⟩), .int .i64 0] Y fun e w' => e = .returned (.tuple #[]) ∧ ∃ cs2, WS w' g gb cap cs2 13 5 ∧ Oth g gb Y w' := by
  have hO := Oth.refl g gb Y
  have h0 := cell_of_cellsA (j := 1) hY.hg
  go_enter Try.func57, Try.ntmps57
  go_upto_region 2 with fail
  clear h0
  have w0 := wrap_i64_small 0 (by decide) (by decide)
  have w1 := wrap_i64_small 1 (by decide) (by decide)
  have w2 := wrap_i64_small 2 (by decide) (by decide)
  have w3 := wrap_i64_small 3 (by decide) (by decide)
  have w4 := wrap_i64_small 4 (by decide) (by decide)
  have w5 := wrap_i64_small 5 (by decide) (by decide)
  have w8 := wrap_i64_small 8 (by decide) (by decide)
  have w13 := wrap_i64_small 13 (by decide) (by decide)
  have w16 := wrap_i64_small 16 (by decide) (by decide)
  have d0 := cell_of_cellsA (j := 0) hY.hg
  have d1 := cell_of_cellsA (j := 1) hY.hg
  have e0 := (cell_of_cellsA (j := 0) hY.hb).trans hY.hx
  have nf := fun j => Joins.unfrozen_of_block hY.hg j
  have nb := fun j => Joins.unfrozen_of_block hY.hb j
  have hne : ¬ gb = g := hY.ne
  have HP := Kept.mk ((hY.put 13).drew.count 5)
  have HO := Kept.mk ((hO.trans ((Oth.setb g gb Y 0 (.int .u8 13)).drew)).trans (Oth.setg g gb _ 1 (.int .i64 5)))
  clear hY hO
  go_wp2_with fail
  go_still_tail 21, (by kernel_rfl)
  change wpList _ _ _ _ _ (World.drew _)
  go_wp2_with fail
  go_returns
  exact ⟨rfl, _, HP.out, HO.out⟩

set_option maxRecDepth 100000 in
theorem bit_1_1_1 (g gb cap : Nat) (cs : Array Value) (Y : World) (hY : WS Y g gb cap cs 1 1) :
    Calls Try.prog 57 #[.pointer (some ⟨g, 0, none⟩), .int .i64 1] Y fun e w' => e = .returned (.tuple #[]) ∧ ∃ cs2, WS w' g gb cap cs2 3 2 ∧ Oth g gb Y w' := by
  have hO := Oth.refl g gb Y
  have h0 := cell_of_cellsA (j := 1) hY.hg
  go_enter Try.func57, Try.ntmps57
  go_upto_region 2 with fail
  clear h0
  have w0 := wrap_i64_small 0 (by decide) (by decide)
  have w1 := wrap_i64_small 1 (by decide) (by decide)
  have w2 := wrap_i64_small 2 (by decide) (by decide)
  have w3 := wrap_i64_small 3 (by decide) (by decide)
  have w4 := wrap_i64_small 4 (by decide) (by decide)
  have w5 := wrap_i64_small 5 (by decide) (by decide)
  have w8 := wrap_i64_small 8 (by decide) (by decide)
  have w13 := wrap_i64_small 13 (by decide) (by decide)
  have w16 := wrap_i64_small 16 (by decide) (by decide)
  have d0 := cell_of_cellsA (j := 0) hY.hg
  have d1 := cell_of_cellsA (j := 1) hY.hg
  have e0 := (cell_of_cellsA (j := 0) hY.hb).trans hY.hx
  have nf := fun j => Joins.unfrozen_of_block hY.hg j
  have nb := fun j => Joins.unfrozen_of_block hY.hb j
  have hne : ¬ gb = g := hY.ne
  have HP := Kept.mk ((hY.put 3).drew.count 2)
  have HO := Kept.mk ((hO.trans ((Oth.setb g gb Y 0 (.int .u8 3)).drew)).trans (Oth.setg g gb _ 1 (.int .i64 2)))
  clear hY hO
  go_wp2_with fail
  go_still_tail 21, (by kernel_rfl)
  change wpList _ _ _ _ _ (World.drew _)
  go_wp2_with fail
  go_returns
  exact ⟨rfl, _, HP.out, HO.out⟩

set_option maxRecDepth 100000 in
theorem bit_2_3_0 (g gb cap : Nat) (cs : Array Value) (Y : World) (hY : WS Y g gb cap cs 3 2) :
    Calls Try.prog 57 #[.pointer (some ⟨g, 0, none⟩), .int .i64 0] Y fun e w' => e = .returned (.tuple #[]) ∧ ∃ cs2, WS w' g gb cap cs2 3 3 ∧ Oth g gb Y w' := by
  have hO := Oth.refl g gb Y
  have h0 := cell_of_cellsA (j := 1) hY.hg
  go_enter Try.func57, Try.ntmps57
  go_upto_region 2 with fail
  clear h0
  have w0 := wrap_i64_small 0 (by decide) (by decide)
  have w1 := wrap_i64_small 1 (by decide) (by decide)
  have w2 := wrap_i64_small 2 (by decide) (by decide)
  have w3 := wrap_i64_small 3 (by decide) (by decide)
  have w4 := wrap_i64_small 4 (by decide) (by decide)
  have w5 := wrap_i64_small 5 (by decide) (by decide)
  have w8 := wrap_i64_small 8 (by decide) (by decide)
  have w13 := wrap_i64_small 13 (by decide) (by decide)
  have w16 := wrap_i64_small 16 (by decide) (by decide)
  have d0 := cell_of_cellsA (j := 0) hY.hg
  have d1 := cell_of_cellsA (j := 1) hY.hg
  have e0 := (cell_of_cellsA (j := 0) hY.hb).trans hY.hx
  have nf := fun j => Joins.unfrozen_of_block hY.hg j
  have nb := fun j => Joins.unfrozen_of_block hY.hb j
  have hne : ¬ gb = g := hY.ne
  have HP := Kept.mk ((hY.put 3).drew.count 3)
  have HO := Kept.mk ((hO.trans ((Oth.setb g gb Y 0 (.int .u8 3)).drew)).trans (Oth.setg g gb _ 1 (.int .i64 3)))
  clear hY hO
  go_wp2_with fail
  go_still_tail 21, (by kernel_rfl)
  change wpList _ _ _ _ _ (World.drew _)
  go_wp2_with fail
  go_returns
  exact ⟨rfl, _, HP.out, HO.out⟩

end Go.Proofs.Ytohdekokdljgjaa
