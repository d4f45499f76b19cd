/- SHA-256 by definition: the words of a group, by a contract. -/
import Derived.Test.YtkkcakblphebjaaDoorRfA
import Derived.Deep.CutBlock
import Derived.StillTailTactics
namespace Go.Proofs.YtkkcakblphebjaaDoor
set_option linter.unusedVariables false
set_option linter.unusedSimpArgs false
open Go.RowKit Go.Lib

/-- numbers as cells -/
def nv (L : List Nat) : List Value := L.map fun x : Nat => Value.int .i64 (x : Int)
theorem nv_length (L : List Nat) : (nv L).length = L.length := by simp [nv]
theorem nv_get (L : List Nat) (i : Nat) (h : i < L.length) : (nv L)[i]? = some (.int .i64 ((nth L i : Nat) : Int)) := by
  unfold nv nth
  rw [List.getElem?_map, List.getElem?_eq_getElem h, List.getD_eq_getElem?_getD, List.getElem?_eq_getElem h]; rfl
theorem infoInt : (Tryd.prog.info? 3).map (fun i => (i.zero, i.size, i.bytes)) = some (some (.int .i64 0), 1, 8) := by kernel_rfl
/-- a slice of numbers that the call has grown itself -/
def NB (w wr : World) (v : Value) (L : List Nat) : Prop :=
  Below w.heap.size w wr ∧ ((v = .slice none 0 0 ∧ L = []) ∨ ∃ g cap cs T, v = .slice (some ⟨g, 0, none⟩) L.length cap ∧ w.heap.size ≤ g ∧ wr.heap[g]? = some (.cells cs T (0, 0)) ∧ L.length ≤ cap ∧ cap ≤ cs.size ∧ cs.toList.take L.length = nv L)
theorem NB.is {w wr : World} {v : Value} {l m : List Nat} (h : NB w wr v l) (e : l = m) : NB w wr v m := by rw [← e]; exact h
theorem NB.drew {w wr : World} {v : Value} {l : List Nat} (h : NB w wr v l) : NB w wr.drew v l := ⟨h.1.drew, h.2⟩
theorem NB.below {w wr wx : World} {v : Value} {l : List Nat} (h : NB w wr v l) (hb : Below wr.heap.size wr wx) : NB w wx v l :=
  ⟨h.1.trans (hb.mono h.1.size), h.2.imp id fun ⟨g, cap, cs, T, h1, h2, h3, h4⟩ => ⟨g, cap, cs, T, h1, h2, block_kept h3 hb, h4⟩⟩
theorem nb_nil (w : World) : NB w w (.slice none 0 0) [] := ⟨Below.refl _ _, .inl ⟨rfl, rfl⟩⟩
theorem NB.row {w wr : World} {v : Value} {L : List Nat} (h : NB w wr v L) (h0 : 0 < L.length) : ∃ g cap, v = .slice (some ⟨g, 0, none⟩) L.length cap ∧ w.heap.size ≤ g ∧ RowAt wr (some ⟨g, 0, none⟩) (nv L) := by
  obtain ⟨hb, h⟩ := h
  rcases h with ⟨_, rfl⟩ | ⟨g, cap, cs, T, rfl, hg, hh, h1, h2, h4⟩
  · simp at h0
  · refine ⟨g, cap, rfl, hg, fun _ => ⟨_, rfl, block_lt hh, fun j u hu => ?_⟩⟩
    rw [at_add, cell_of_cells hh]
    exact take_get h4 hu
theorem num_step {o : Oper} {a : Act} {K : Act → World → Prop} {Q : Exit → Act → World → Prop} (s x : Operand)
    (ho : o.op = .call { callee := .builtin .append, args := #[s, x], argTypes := #[109, 109] })
    {w X : World} {L : List Nat} {v : Value} (hs : a.eval s = v) (hb : NB w X v L) {b : Nat} {d : Nat}
    (hx : a.eval x = .slice (some ⟨b, 0, none⟩) 1 1) (hc : X.cell? ⟨b, 0, none⟩ = some (.int .i64 (d : Int))) (hlen : L.length + 1 ≤ 1000000)
    (h : ∀ v' w', NB w w' v' (L ++ [d]) → (∀ g i, g < w.heap.size → w'.cell? ⟨g, i, none⟩ = X.cell? ⟨g, i, none⟩) →
      (∀ g cap, v = .slice (some ⟨g, 0, none⟩) L.length cap → ∀ i, i < L.length → w'.cell? ⟨g, i, none⟩ = X.cell? ⟨g, i, none⟩) → K (a.put o.dst v') w') : Oper.wp Tryd.prog o a X K Q := by
  obtain ⟨i0, hi, hz0, hz1, hz2⟩ := info_parts infoInt
  have hnl : (nv L).length = L.length := nv_length L
  have hnews : ∀ j u, [Value.int .i64 (d : Int)][j]? = some u → X.cell? ((⟨b, 0, none⟩ : Addr).add j) = some u := by
    intro j u hj
    match j, hj with
    | 0, hj => simp at hj; subst hj; exact hc
    | (j + 1), hj => simp at hj
  have h1 : ∀ u ∈ [Value.int .i64 (d : Int)], u.oneCell' = true := by intro u hu; simp at hu; subst hu; rfl
  have hS : Src Tryd.prog i0.size 109 (.slice (some ⟨b, 0, none⟩) 1 1) 1 [.int .i64 (d : Int)] X := Src.ofSlice X Tryd.underlying109 _ 1 1 _ (by rw [hz1]; rfl) hnews h1
  have hkept : ∀ {w' : World}, Below w.heap.size w w' → ∀ g i, g < w.heap.size → w'.cell? ⟨g, i, none⟩ = X.cell? ⟨g, i, none⟩ := fun hb' g i hg => (hb'.cell (p := ⟨g, i, none⟩) hg).trans (hb.1.cell (p := ⟨g, i, none⟩) hg).symm
  have grow : ∀ (base : Option Addr) (cap : Nat), v = .slice base L.length cap → ¬ (L.length + 1 ≤ cap) → ((Builtin.firstCells i0.size L.length (.slice base L.length cap)).run Tryd.prog X.drew = .ok (nv L).toArray X.drew) → Oper.wp Tryd.prog o a X K Q := by
    intro base cap hv hroom hold
    have hr := run_append_grow_src (P := Tryd.prog) X 109 109 o.type 3 i0 (.int .i64 0) Tryd.underlying109 hi hz0 base L.length cap (nv L) hold _ 1 _ hS (by omega) (by omega) (growslice_fits (by omega) (by rw [hz2]; omega))
    have hge := grownCap_ge X (L.length + 1) cap 3
    generalize grownCap X (L.length + 1) cap 3 = G at *
    have hB' : Below w.heap.size w (X.drew.alloc (.cells ((nv L ++ [Value.int .i64 (d : Int)]).toArray ++ Builtin.zeroCells (Value.int .i64 0).cells (G - (L.length + 1))) 3)) := hb.1.drew.alloc (by have := hb.1.size; exact this) _
    subst hv
    unfold Oper.wp execOp
    simp only [ho, resolve, invoke, builtin, Sem.run_bind, Sem.run_pure, Result.andThen_ok, List.map_toArray, List.map_cons, List.map_nil, hs, hx, hr]
    refine h _ _ ⟨hB', .inr ⟨X.heap.size, G, _, 3, by rw [List.length_append]; rfl, hb.1.size, heap_alloc_new X.drew _, by rw [List.length_append]; exact hge, ?_, ?_⟩⟩ (hkept hB') ?_
    · simp only [Array.size_append, List.size_toArray, size_zeroCells, List.length_append, hnl]
      show G ≤ L.length + 1 + (G - (L.length + 1)) * 1
      omega
    · have e : nv (L ++ [d]) = nv L ++ [.int .i64 (d : Int)] := by simp [nv]
      have hl5 : (nv L ++ [Value.int .i64 (d : Int)]).length = L.length + 1 := by rw [List.length_append, hnl]; rfl
      rw [e, List.length_append]
      simp only [Array.toList_append]
      show ((nv L ++ [Value.int .i64 (d : Int)]) ++ _).take (L.length + 1) = _
      rw [← hl5]
      exact List.take_left
    · intro g cap2 hv2 i hi2
      have hgl : g < X.heap.size := by
        rcases hb.2 with ⟨hq, _⟩ | ⟨g2, cap3, cs, T, hq, hg, hh, _⟩
        · rw [hq] at hv2; cases hv2
        · rw [hq] at hv2; cases hv2; exact block_lt hh
      exact World.cell?_of_block (w := X) (a := ⟨g, i, none⟩) (Go.heap_alloc_old X.drew _ hgl)
  rcases hb.2 with ⟨rfl, hL⟩ | ⟨g, cap, cs, T, hv, hg, hh, hl1, hl2, hl4⟩
  · subst hL
    exact grow none 0 rfl (by simp) (run_firstCells_none _ _ _ _ _)
  · by_cases hroom : L.length + 1 ≤ cap
    · have hr := run_append_room_src (P := Tryd.prog) X 109 109 o.type 3 i0 Tryd.underlying109 hi g 0 L.length cap _ 1 _ hS hroom
        (by intro j hj
            have : j = 0 := by simp at hj; omega
            subst this
            rw [cell_of_cells hh, hz1, Array.getElem?_eq_getElem (by omega)]; rfl)
        (by intro j hj
            have : j = 0 := by simp at hj; omega
            subst this
            simp only [World.frozen?, hh, Bool.and_eq_false_iff, decide_eq_false_iff_not]
            omega)
      rw [hz1, Nat.mul_one, Nat.zero_add] at hr
      have hset : X.setCells g L.length [.int .i64 (d : Int)] = X.setCell ⟨g, L.length, none⟩ (.int .i64 (d : Int)) := rfl
      rw [hset] at hr
      have hh2 : (X.setCell ⟨g, L.length, none⟩ (.int .i64 (d : Int))).heap[g]? = some (.cells (cs.setIfInBounds L.length (.int .i64 (d : Int))) T (0, 0)) := Joins.block_setCell hh _
      have hB' : Below w.heap.size w (X.setCell ⟨g, L.length, none⟩ (.int .i64 (d : Int))) := hb.1.setCell hg _
      subst hv
      unfold Oper.wp execOp
      simp only [ho, resolve, invoke, builtin, Sem.run_bind, Sem.run_pure, Result.andThen_ok, List.map_toArray, List.map_cons, List.map_nil, hs, hx, hr]
      refine h _ _ ⟨hB', .inr ⟨g, cap, cs.setIfInBounds L.length (.int .i64 (d : Int)), T, by rw [List.length_append]; rfl, hg, hh2, by rw [List.length_append]; exact hroom, ?_, ?_⟩⟩ (hkept hB') ?_
      · rw [Array.size_setIfInBounds]; exact hl2
      · have e : nv (L ++ [d]) = nv L ++ [.int .i64 (d : Int)] := by simp [nv]
        have hcl : L.length < cs.toList.length := by
          have e : cs.toList.length = cs.size := Array.length_toList
          omega
        rw [e, List.length_append, Array.toList_setIfInBounds, ← hl4]
        show (cs.toList.set L.length _).take (L.length + 1) = cs.toList.take L.length ++ [Value.int .i64 (d : Int)]
        rw [List.take_succ_eq_append_getElem (by rw [List.length_set]; exact hcl), List.getElem_set_self, List.take_set_of_le (Nat.le_refl _)]
      · intro g2 cap2 hv2 i hi2
        cases hv2
        rw [cell_of_cells hh2, cell_of_cells hh, Array.getElem?_setIfInBounds_ne (by omega)]
    · refine grow (some ⟨g, 0, none⟩) cap hv hroom (run_firstCells_some X.drew i0.size L.length ⟨g, 0, none⟩ L.length cap (nv L) (by rw [hz1, hnl]; omega) fun j u hu => ?_)
      · rw [at_add]
        exact (cell_of_cells (W := X.drew) hh).trans (take_get hl4 hu)
theorem step_num {ops : Array Oper} {E : Prop} {o : Oper} {a : Act} {K : Act → World → Prop} {Q : Exit → Act → World → Prop} (hgd : o.guard = none) (s x : Operand)
    (ho : o.op = .call { callee := .builtin .append, args := #[s, x], argTypes := #[109, 109] })
    {w X : World} {L : List Nat} {v : Value} (hs : a.eval s = v) (hb : NB w X v L) {b : Nat} {d : Nat}
    (hx : a.eval x = .slice (some ⟨b, 0, none⟩) 1 1) (hc : X.cell? ⟨b, 0, none⟩ = some (.int .i64 (d : Int))) (hlen : L.length + 1 ≤ 1000000)
    (h : ∀ v' w', NB w w' v' (L ++ [d]) → (∀ g i, g < w.heap.size → w'.cell? ⟨g, i, none⟩ = X.cell? ⟨g, i, none⟩) →
      (∀ g cap, v = .slice (some ⟨g, 0, none⟩) L.length cap → ∀ i, i < L.length → w'.cell? ⟨g, i, none⟩ = X.cell? ⟨g, i, none⟩) → K (a.put o.dst v') w') :
    if Region.wanted o (yielded ops a.tmps) = true then Oper.wp Tryd.prog o a X K Q else E := by
  have hw : Region.wanted o (yielded ops a.tmps) = true := by simp [Region.wanted, hgd]
  rw [if_pos hw]
  exact num_step s x ho hs hb hx hc hlen h
theorem at_off (g o n : Nat) : (⟨g, o, none⟩ : Addr).add n = ⟨g, o + n, none⟩ := by unfold Addr.add; split <;> simp_all
theorem RowAt.cells {w : World} {ad : Addr} {xs : List Value} (h : RowAt w (some ad) xs) {j : Nat} {u : Value} (hu : xs[j]? = some u) : w.cell? (ad.add j) = some u := by
  have hx : 0 < xs.length := by
    have := (List.getElem?_eq_some_iff.1 hu).1; omega
  obtain ⟨ad2, e, _, hc⟩ := h hx
  cases e; exact hc j u hu
theorem RowAt.off {w : World} {g o : Nat} {xs : List Value} (h : RowAt w (some ⟨g, o, none⟩) xs) {j : Nat} {u : Value} (hu : xs[j]? = some u) : w.cell? ⟨g, o + j, none⟩ = some u := by
  rw [← at_off]; exact h.cells hu
theorem RowAt.off0 {w : World} {g : Nat} {xs : List Value} (h : RowAt w (some ⟨g, 0, none⟩) xs) {j : Nat} {u : Value} (hu : xs[j]? = some u) : w.cell? ⟨g, j, none⟩ = some u := by
  rw [← at_add]; exact h.cells hu
theorem bcell_get {g : List UInt8} {i : Nat} (h : i < g.length) : (Lib.byteCells g)[i]? = some (.int .u8 ((bth g i : Nat) : Int)) := by
  have := bc_get h
  rwa [List.getElem?_toArray] at this

def wS (g : List UInt8) (t : Nat) : List Nat := if t ≤ 16 then l16 g t else sW g (t - 16)
theorem wS_length (g : List UInt8) (t : Nat) : (wS g t).length = t := by
  unfold wS; split
  · exact l16_length g t
  · rw [sW_length]; omega
theorem wS_small (g : List UInt8) (t i : Nat) : nth (wS g t) i < 4294967296 := by
  unfold wS; split
  · exact l16_small g t i
  · exact sW_small g _ i
theorem wS_zero (g : List UInt8) : wS g 0 = [] := rfl
theorem wS_all (g : List UInt8) : wS g 64 = sW g 48 := rfl
theorem wS_first (g : List UInt8) (t : Nat) (h : t < 16) : wS g t ++ [be4 (bth g (4 * t)) (bth g (4 * t + 1)) (bth g (4 * t + 2)) (bth g (4 * t + 3))] = wS g (t + 1) := by
  unfold wS; rw [if_pos (by omega), if_pos (by omega)]; rfl
theorem wS_eq (g : List UInt8) (t : Nat) (h : 16 ≤ t) : wS g t = sW g (t - 16) := by
  unfold wS; split
  · have : t = 16 := by omega
    subst this; rfl
  · rfl
theorem wS_next (g : List UInt8) (t : Nat) (h : 16 ≤ t) : wS g t ++ [ad (ad (ad (nth (wS g t) (t - 16)) (ss0 (nth (wS g t) (t - 15)))) (nth (wS g t) (t - 7))) (ss1 (nth (wS g t) (t - 2)))] = wS g (t + 1) := by
  rw [wS_eq g t h, wS_eq g (t + 1) (by omega), show t + 1 - 16 = t - 16 + 1 by omega, sW_next]
  unfold schNext
  rw [sW_length, show 16 + (t - 16) = t by omega]
theorem ss0_lt (x : Nat) (h : x < 4294967296) : ss0 x < 4294967296 := by
  rw [ss0_eq]; exact xo_lt (xo_lt (rot_lt x 25 h (by omega)) (rot_lt x 14 h (by omega))) (by omega)
theorem ss1_lt (x : Nat) (h : x < 4294967296) : ss1 x < 4294967296 := by
  rw [ss1_eq]; exact xo_lt (xo_lt (rot_lt x 15 h (by omega)) (rot_lt x 13 h (by omega))) (by omega)
theorem be4_int (a b c d : Nat) : (a : Int) * 16777216 + (b : Int) * 65536 + (c : Int) * 256 + (d : Int) = ((be4 a b c d : Nat) : Int) := by unfold be4; omega
theorem i64_big (n : Int) (h0 : 0 ≤ n) (h1 : n < 4611686018427387904) : IntKind.i64.wrap n = n := wrap_i64_small _ (by omega) (by omega)
theorem ad4_int (a b c d : Nat) : ((a : Int) + (b : Int) + (c : Int) + (d : Int)) % 4294967296 = ((ad (ad (ad a b) c) d : Nat) : Int) := by unfold ad; omega
theorem NB.alloc {w wr : World} {v : Value} {l : List Nat} (h : NB w wr v l) (o : Obj) : NB w (wr.alloc o) v l := h.below ((Below.refl _ _).alloc (Nat.le_refl _) _)
end Go.Proofs.YtkkcakblphebjaaDoor
