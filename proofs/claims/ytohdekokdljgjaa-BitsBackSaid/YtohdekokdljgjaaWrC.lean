/- bits: a writer's Text; the document's writer, whatever it holds: each call by a contract. -/
import Derived.Test.YtohdekokdljgjaaWrB
import Derived.Deep.Upon
import Derived.Deep.RegionHeld3
namespace Go.Proofs.Ytohdekokdljgjaa
set_option linter.unusedVariables false
set_option linter.unusedSimpArgs false
open Go.RowKit Go.Lib
theorem text_append {ops : Array Oper} {rest : List Oper} {o : Oper} {a : Act} {Q : Exit → Act → World → Prop} (hgd : o.guard = none) (s x : Operand)
    (ho : o.op = .call { callee := .builtin .append, args := #[s, x], argTypes := #[23, 9] })
    {w wr : World} {l m : List UInt8} {v : Value} (hs : a.eval s = v) (hb : VB w wr v (Lib.byteCells l)) (hx : a.eval x = .string (str m)) (hlen : l.length + m.length ≤ 100000000)
    (h : ∀ v' w', VB w w' v' (Lib.byteCells (l ++ m)) → (∀ g, g < wr.heap.size → Apart v g → w'.heap[g]? = wr.heap[g]? ∧ Apart v' g) → wr.heap.size ≤ w'.heap.size → wpList Try.prog ops Q rest (a.put o.dst v') w') : wpList Try.prog ops Q (o :: rest) a wr := by
  obtain ⟨i0, hi, hz0, hz1, hz2⟩ := info_parts infoByte
  have hS := Src.ofString (P := Try.prog) (w := wr) Try.underlying9 (str m)
  rw [str_size] at hS
  have hBC : Go.byteCells (str m) = Lib.byteCells m := rfl
  rw [hBC] at hS
  by_cases hm : m = []
  · subst hm
    obtain ⟨A, cap, rfl, hcap⟩ := hb.len
    have hr := run_append_nothing (P := Try.prog) wr 23 9 o.type 5 i0 Try.underlying23 hi A _ cap hcap _ (by rw [hz1]; exact hS)
    refine wpList_plain hgd fun K hK => ?_
    unfold Oper.wp execOp
    simp only [ho, resolve, invoke, builtin, Sem.run_bind, Sem.run_pure, Result.andThen_ok, List.map_toArray, List.map_cons, List.map_nil, hs, hx, hr]
    exact hK _ _ (h _ _ (by rw [List.append_nil]; exact hb) (fun g _ ha => ⟨rfl, ha⟩) (Nat.le_refl _))
  · have hm0 : 0 < m.length := List.length_pos_iff.2 hm
    refine vb_append2 hgd s x Try.underlying23 hi hz0 hz1 rfl (by rw [hz2]; decide) ho hs hb hx (ms := Lib.byteCells m) (by rw [Lib.byteCells_length]; exact hS) (by rw [Lib.byteCells_length]; exact hm0) (by rw [Lib.byteCells_length, Lib.byteCells_length]; omega) fun v' w' h1 _ h3 h4 => h v' w' ?_ h4 h3
    rw [byteCells_append]; exact h1
attribute [local irreducible] pk lowB highB vb1 alg upTo txB str
set_option maxRecDepth 100000 in
theorem text_any (w W : World) (g : Nat) (v : Value) (L : List Nat) (s : List UInt8) (hs : WA w W g v L) (hL : L.length ≤ 900000) (hsl : s.length ≤ 1000) :
    Calls Try.prog 44 #[.pointer (some ⟨g, 0, none⟩), .string (str s)] W fun e W' => e = .returned (.tuple #[]) ∧ ∃ v', WA w W' g v' (alg L ++ txB s) ∧ Tn g v W v' W' := by
  have hss := str_size s
  have HS := Kept.mk hs
  clear hs
  go_enter Try.func44, Try.ntmps44
  go_wp2_with fail
  with_reducible refine (align_any w W g v L HS.out hL).mono ?_
  rintro e w1 ⟨rfl, hs1, ht1⟩
  have hal : (alg L).length ≤ 900008 := by rw [alg_length]; unfold upTo; omega
  have ha8 : (alg L).length % 8 = 0 := by rw [alg_length]; unfold upTo; omega
  have HPT := Kept.mk (pk_text s (alg L) ha8)
  have HTL := Kept.mk (txB_length s)
  have HAL := Kept.mk (show ((alg L ++ txB s).length : Int) = (alg L).length + (s.length : Int) * 8 from by rw [List.length_append, HTL.out]; omega)
  generalize hme : alg L = M at *
  have HME := Kept.mk hme
  clear hme
  clear HS ha8
  have HPL := Kept.mk (pk_length M)
  obtain ⟨A, cap, rfl, hcap⟩ := hs1.vb.len
  have c0 := Joins.cell_of_block hs1.box 0
  have nf := fun j => Joins.unfrozen_of_block hs1.box j
  have hgl := hs1.lt
  have HS := Kept.mk hs1
  have HT := Kept.mk ht1
  clear hs1 ht1
  rw [Lib.byteCells_length] at *
  have hw8 := wrap_i64_small ((s.length : Int) * 8) (by omega) (by omega)
  have hwn := wrap_i64_small ((M.length : Int) + (s.length : Int) * 8) (by omega) (by omega)
  go_wp2_with (at_builtin; (refine text_append rfl _ _ (by rfl) (w := w) (l := pk M) (m := s) (by rfl) HS.out.vb (by rfl) (by rw [HPL.out]; omega) ?_; intro v1 w2 hv1 hk1 hz1; obtain ⟨A1, cap1, rfl, hcap1⟩ := hv1.len; rw [Lib.byteCells_length] at hv1 hcap1 hk1 ⊢; have hbx := (hk1 g hgl HS.out.ap).1.trans HS.out.box; have d0 := Joins.cell_of_block hbx 0; have d1 := Joins.cell_of_block hbx 1; have ng := fun j => Joins.unfrozen_of_block hbx j))
  go_returns
  have ha1 := (hk1 g hgl HS.out.ap).2
  rw [← List.length_append, HME.out, Lib.byteCells_length]
  refine ⟨rfl, .slice A1 (pk M ++ s).length cap1, ⟨HS.out.ge, ?_, ?_, ha1⟩, ((HT.out.trans ⟨hz1, fun k hk hne ha => hk1 k hk ha⟩).trans (tn_box g 0 _ _ w2)).trans (tn_box g 1 _ _ _)⟩
  · rw [Joins.block_setCell (i := 1) (Joins.block_setCell (i := 0) hbx _), HAL.out]; rfl
  · rw [HPT.out]; exact (hv1.off HS.out.ge ha1 0 _).off HS.out.ge ha1 1 _
/-- the document's writer that holds these bits -/
def WR (w W : World) (g : Nat) (v : Value) (L : List Nat) : Prop := St w W 29 g #[v] v (ivs L)
theorem WR.lt {w W : World} {g : Nat} {v : Value} {L : List Nat} (h : WR w W g v L) : g < W.heap.size := block_lt h.box
theorem WR.drewN {w W : World} {g : Nat} {v : Value} {L : List Nat} (h : WR w W g v L) (n : Nat) : WR w (W.drewN n) g v L := ⟨h.ge, h.box, ⟨below_drewN h.vb.1 n, h.vb.2⟩, h.ap⟩
theorem ivs_snoc (L : List Nat) (d : Nat) : ivs (L ++ [d]) = ivs L ++ [.int .i64 (d : Int)] := ivs_append L [d]
/-- append of one number, where the block of it stands somewhere: what is left alone -/
theorem int_step2 {ops : Array Oper} {E : Prop} {o : Oper} {a : Act} {K : Act → World → Prop} {Q : Exit → Act → World → Prop} (hgd : o.guard = none) (s x : Operand)
    (ho : o.op = .call { callee := .builtin .append, args := #[s, x], argTypes := #[27, 27] })
    {w X : World} {L : List Nat} {v : Value} (hs : a.eval s = v) (hb : VB w X v (ivs L)) {b : Nat} {d : Nat}
    (hx : a.eval x = .slice (some ⟨b, 0, none⟩) 1 1) (hc : X.cell? ⟨b, 0, none⟩ = some (.int .i64 (d : Int))) (hlen : L.length + 1 ≤ 1000000)
    (h : ∀ v' w', VB w w' v' (ivs (L ++ [d])) → X.heap.size ≤ w'.heap.size → (∀ g, g < X.heap.size → Apart v g → w'.heap[g]? = X.heap[g]? ∧ Apart v' g) → K (a.put o.dst v') w') :
    if Region.wanted o (yielded ops a.tmps) = true then Oper.wp Try.prog o a X K Q else E := by
  have hw : Region.wanted o (yielded ops a.tmps) = true := by simp [Region.wanted, hgd]
  rw [if_pos hw]
  obtain ⟨i0, hi, hz0, hz1, hz2⟩ := info_parts infoIntP
  have hS : Src Try.prog 1 27 (.slice (some ⟨b, 0, none⟩) 1 1) [Value.int .i64 (d : Int)].length [Value.int .i64 (d : Int)] X :=
    Src.ofSlice _ Try.underlying27 _ 1 1 _ rfl (fun j u2 hj => by
      match j, hj with
      | 0, hj => simp at hj; subst hj; exact hc
      | (j + 1), hj => simp at hj) (fun u2 hu2 => by simp at hu2; subst hu2; rfl)
  refine vb_step2 s x Try.underlying27 hi hz0 hz1 rfl (by rw [hz2]; decide) ho hs hb hx hS (Nat.zero_lt_one) (by rw [ivs_length]; show L.length + 1 ≤ _; omega) fun v' w' h1 _ h3 h4 => h v' w' ?_ h3 h4
  rw [ivs_snoc]; exact h1
theorem one_append {ops : Array Oper} {rest : List Oper} {o : Oper} {a : Act} {Q : Exit → Act → World → Prop} (hgd : o.guard = none) (s x : Operand)
    (ho : o.op = .call { callee := .builtin .append, args := #[s, x], argTypes := #[27, 27] })
    {w wr : World} {L : List Nat} {v : Value} (hs : a.eval s = v) (hb : VB w wr v (ivs L)) {c : Int} {d : Nat}
    (hx : a.eval x = .slice (some ⟨wr.heap.size, 0, none⟩) 1 1) (h0 : c = (d : Int)) (hlen : L.length + 1 ≤ 1000000)
    (h : ∀ v' w', VB w w' v' (ivs (L ++ [d])) → (∀ g, g < wr.heap.size → Apart v g → w'.heap[g]? = wr.heap[g]? ∧ Apart v' g) → wr.heap.size ≤ w'.heap.size → wpList Try.prog ops Q rest (a.put o.dst v') w') : wpList Try.prog ops Q (o :: rest) a (wr.alloc (.cells #[.int .i64 c] 3)) := by
  subst h0
  obtain ⟨i0, hi, hz0, hz1, hz2⟩ := info_parts infoIntP
  refine vb_append2 hgd s x Try.underlying27 hi hz0 hz1 rfl (by rw [hz2]; decide) ho hs (hb.alloc _) hx (src_one Try.underlying27 wr (.int .i64 (d : Int)) 3 rfl) (Nat.zero_lt_one) (by rw [ivs_length]; show L.length + 1 ≤ _; omega) fun v' w' h1 _ h3 h4 => h v' w' ?_ ?_ ?_
  · rw [ivs_snoc]; exact h1
  · intro g hg ha
    obtain ⟨k1, k2⟩ := h4 g (by simp; omega) ha
    exact ⟨k1.trans (Below.heap_alloc wr _ g hg), k2⟩
  · exact Nat.le_trans (by simp) h3
theorem refCut_any (n : Int) (w : World) : Calls Try.prog 58 #[.int .i64 n] w fun e w' => e = .returned (.int .i64 ((ct n : Nat) : Int)) ∧ w = w' := by
  by_cases h0 : n < 0
  · have HC := Kept.mk (show ((ct n : Nat) : Int) = 0 from by unfold ct; rw [if_pos h0]; rfl)
    go_enter Try.func58, Try.ntmps58
    go_wp2_with fail
    go_ret
    exact ⟨by rw [HC.out]; rfl, rfl⟩
  · by_cases h1 : 62 < n
    · have HC := Kept.mk (show ((ct n : Nat) : Int) = 62 from by unfold ct; rw [if_neg h0, if_pos h1]; rfl)
      go_enter Try.func58, Try.ntmps58
      go_wp2_with fail
      go_ret
      exact ⟨by rw [HC.out]; rfl, rfl⟩
    · have HC := Kept.mk (show ((ct n : Nat) : Int) = n from by unfold ct; rw [if_neg h0, if_neg h1]; omega)
      go_enter Try.func58, Try.ntmps58
      go_wp2_with fail
      go_ret
      exact ⟨by rw [HC.out]; rfl, rfl⟩
set_option maxRecDepth 100000 in
theorem refWAlign_any (w W : World) (g : Nat) (v : Value) (L : List Nat) (hs : WR w W g v L) (hL : L.length ≤ 900000) :
    Calls Try.prog 47 #[.pointer (some ⟨g, 0, none⟩)] W fun e W' => e = .returned (.tuple #[]) ∧ ∃ v', WR w W' g v' (alg L) ∧ Tn g v W v' W' := by
  have HS := Kept.mk hs
  have hN := alg_length L
  have hL8 : (alg L).length ≤ 900008 := by rw [hN]; unfold upTo; omega
  clear hs hN
  go_enter Try.func47, Try.ntmps47
  go_wp2_with fail
  go_loopg [] (8 - (L.length + 7) % 8) (fun k wr => ∃ (M : List Nat) (v' : Value), k = 8 - (M.length + 7) % 8 ∧ alg M = alg L ∧ M.length ≤ 900008 ∧ WR w wr g v' M ∧ Tn g v W v' wr)
  case atStart => exact ⟨L, v, rfl, rfl, by omega, HS.out, Tn.refl _ _ _⟩
  case round =>
    clear HS
    obtain ⟨M, v', hk, hal, hml, hs, ht⟩ := hrel
    obtain ⟨A, cap, rfl, hcap⟩ := hs.vb.len
    have c0 := Joins.cell_of_block hs.box 0
    have nf := fun j => Joins.unfrozen_of_block hs.box j
    have hgl := hs.lt
    have HA := Kept.mk hal
    have HS2 := Kept.mk hs
    have HT := Kept.mk ht
    clear hs ht hal
    rw [ivs_length] at *
    have hm9 : (M.length : Int) ≤ 900008 := by omega
    by_cases hz : M.length % 8 = 0
    · have hz2 : (M.length : Int) % 8 = 0 := by omega
      have HE := Kept.mk (alg_end M hz)
      clear hk hz
      go_wp2_with fail
      go_returns
      exact ⟨rfl, _, by rw [← HA.out, HE.out]; exact HS2.out, HT.out⟩
    · have hz2 : ¬ (M.length : Int) % 8 = 0 := by omega
      have HE := Kept.mk (alg_step M hz)
      have HM := Kept.mk (show 8 - ((M ++ [0]).length + 7) % 8 < gk ∧ (M ++ [0]).length ≤ 900008 from by rw [hk, List.length_append, List.length_singleton]; omega)
      clear hk hz
      go_wp2_with (at_builtin; refine one_append rfl _ _ (by rfl) (w := w) (L := M) (d := 0) (by rfl) HS2.out.vb (by rfl) rfl (by omega) ?_; intro v1 w2 hv1 hk1 hz1; obtain ⟨A1, cap1, rfl, hcap1⟩ := hv1.len; rw [ivs_length] at hv1 hcap1 hk1 ⊢; have hbx := (hk1 g hgl HS2.out.ap).1.trans HS2.out.box; have d0 := Joins.cell_of_block hbx 0; have ng := fun j => Joins.unfrozen_of_block hbx j)
      go_roundg (8 - ((M ++ [0]).length + 7) % 8)
      case measure => exact HM.out.1
      case rel =>
        have ha1 := (hk1 g hgl HS2.out.ap).2
        rw [List.length_append, List.length_singleton] at hv1 hk1 ha1
        exact ⟨M ++ [0], _, rfl, by rw [HE.out, HA.out], HM.out.2, ⟨HS2.out.ge, (Joins.block_setCell (i := 0) hbx _).trans rfl, hv1.off HS2.out.ge ha1 0 _, ha1⟩, (HT.out.trans ⟨hz1, fun k hk hne ha => hk1 k hk ha⟩).trans (tn_box g 0 _ _ w2)⟩
end Go.Proofs.Ytohdekokdljgjaa
