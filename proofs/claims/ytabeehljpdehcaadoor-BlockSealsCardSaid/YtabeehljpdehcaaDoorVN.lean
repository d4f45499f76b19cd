/- Grown slices of ints and of bytes; the document's words of a text, by a contract. -/
import Derived.Test.YtabeehljpdehcaaDoorVB
import Derived.Test.YtabeehljpdehcaaDoorChG
import Derived.WalkSpells
import Derived.Deep.RegionHeld3
import Derived.Deep.AppendLies
namespace Go.Proofs.YtabeehljpdehcaaDoor
set_option linter.unusedVariables false
set_option linter.unusedSimpArgs false
open Go.RowKit Go.Lib
/-- numbers as cells -/
def ivs (L : List Nat) : List Value := L.map fun x : Nat => Value.int .i64 (x : Int)
theorem ivs_length (L : List Nat) : (ivs L).length = L.length := by simp [ivs]
theorem ivs_append (L M : List Nat) : ivs (L ++ M) = ivs L ++ ivs M := by simp [ivs]
theorem ivs_one (L : List Nat) : ∀ u ∈ ivs L, u.oneCell' = true := by
  intro u hu; obtain ⟨x, _, rfl⟩ := List.mem_map.1 hu; rfl
theorem ivs_get (L : List Nat) (i : Nat) (h : i < L.length) : (ivs L)[i]? = some (.int .i64 ((wat L i : Nat) : Int)) := by
  unfold ivs wat
  rw [List.getElem?_map, List.getElem?_eq_getElem h, List.getD_eq_getElem?_getD, List.getElem?_eq_getElem h]; rfl
theorem ivs_at (L : List Nat) (i : Nat) (h : i < (ivs L).length) : (ivs L)[i] = .int .i64 ((wat L i : Nat) : Int) := by
  have h2 := ivs_get L i (by rw [ivs_length] at h; exact h)
  rw [List.getElem?_eq_getElem h] at h2
  exact Option.some.inj h2
theorem ivs_set (L : List Nat) (i d : Nat) : (ivs L).set i (.int .i64 (d : Int)) = ivs (L.set i d) := by
  unfold ivs; rw [List.map_set]
theorem infoIntP : (Tryd.prog.info? 3).map (fun i => (i.zero, i.size, i.bytes)) = some (some (.int .i64 0), 1, 8) := by kernel_rfl
theorem int_append {ops : Array Oper} {rest : List Oper} {o : Oper} {a : Act} {Q : Exit → Act → World → Prop} (hgd : o.guard = none) (s x : Operand)
    (ho : o.op = .call { callee := .builtin .append, args := #[s, x], argTypes := #[72, 72] })
    {w wr : World} {L : List Nat} {v : Value} (hs : a.eval s = v) (hb : VB w wr v (ivs L)) {c : Int} {d : Nat}
    (hx : a.eval x = .slice (some ⟨wr.heap.size, 0, none⟩) 1 1) (h0 : c = (d : Int)) (hlen : L.length + 1 ≤ 1000000)
    (h : ∀ v' w', VB w w' v' (ivs (L ++ [d])) → wpList Tryd.prog ops Q rest (a.put o.dst v') w') : wpList Tryd.prog ops Q (o :: rest) a (wr.alloc (.cells #[.int .i64 c] 3)) := by
  subst h0
  obtain ⟨i0, hi, hz0, hz1, hz2⟩ := info_parts infoIntP
  refine vb_append hgd s x Tryd.underlying72 hi hz0 hz1 rfl (by rw [hz2]; decide) ho hs (hb.alloc _) hx (src_one Tryd.underlying72 wr (.int .i64 (d : Int)) 3 rfl) (Nat.zero_lt_one) (by rw [ivs_length]; show L.length + 1 ≤ _; omega) fun v' w' h1 _ _ _ => h v' w' ?_
  rw [ivs_append]; exact h1
theorem int_spread {ops : Array Oper} {rest : List Oper} {o : Oper} {a : Act} {Q : Exit → Act → World → Prop} (hgd : o.guard = none) (s x : Operand)
    (ho : o.op = .call { callee := .builtin .append, args := #[s, x], argTypes := #[72, 72] })
    {w X : World} {L M : List Nat} {v : Value} (hs : a.eval s = v) (hb : VB w X v (ivs L)) {g c : Nat}
    (hx : a.eval x = .slice (some ⟨g, 0, none⟩) M.length c) (hr : RowAt X (some ⟨g, 0, none⟩) (ivs M)) (hM : 0 < M.length) (hlen : L.length + M.length ≤ 1000000)
    (h : ∀ v' w', VB w w' v' (ivs (L ++ M)) → X.heap.size ≤ w'.heap.size → (∀ g, g < X.heap.size → (∀ m cap, v ≠ .slice (some ⟨g, 0, none⟩) m cap) → w'.heap[g]? = X.heap[g]?) → wpList Tryd.prog ops Q rest (a.put o.dst v') w') : wpList Tryd.prog ops Q (o :: rest) a X := by
  obtain ⟨i0, hi, hz0, hz1, hz2⟩ := info_parts infoIntP
  have hS := src_row (P := Tryd.prog) (c := c) Tryd.underlying72 hr (ivs_one M)
  rw [ivs_length] at hS
  refine vb_append hgd s x Tryd.underlying72 hi hz0 hz1 rfl (by rw [hz2]; decide) ho hs hb hx (ms := ivs M) (by rw [ivs_length]; exact hS) (by rw [ivs_length]; exact hM) (by rw [ivs_length, ivs_length]; omega) fun v' w' h1 _ h3 h4 => h v' w' ?_ h3 h4
  rw [ivs_append]; exact h1
theorem int_step {ops : Array Oper} {E : Prop} {o : Oper} {a : Act} {K : Act → World → Prop} {Q : Exit → Act → World → Prop} (hgd : o.guard = none) (s x : Operand)
    (ho : o.op = .call { callee := .builtin .append, args := #[s, x], argTypes := #[72, 72] })
    {w X : World} {L : List Nat} {v : Value} (hs : a.eval s = v) (hb : VB w X v (ivs L)) {b : Nat} {d : Nat}
    (hx : a.eval x = .slice (some ⟨b, 0, none⟩) 1 1) (hc : X.cell? ⟨b, 0, none⟩ = some (.int .i64 (d : Int))) (hlen : L.length + 1 ≤ 1000000)
    (h : ∀ v' w', VB w w' v' (ivs (L ++ [d])) → K (a.put o.dst v') w') :
    if Region.wanted o (yielded ops a.tmps) = true then Oper.wp Tryd.prog o a X K Q else E := by
  have hw : Region.wanted o (yielded ops a.tmps) = true := by simp [Region.wanted, hgd]
  rw [if_pos hw]
  obtain ⟨i0, hi, hz0, hz1, hz2⟩ := info_parts infoIntP
  have hS : Src Tryd.prog 1 72 (.slice (some ⟨b, 0, none⟩) 1 1) [Value.int .i64 (d : Int)].length [Value.int .i64 (d : Int)] X :=
    Src.ofSlice _ Tryd.underlying72 _ 1 1 _ rfl (fun j u2 hj => by
      match j, hj with
      | 0, hj => simp at hj; subst hj; exact hc
      | (j + 1), hj => simp at hj) (fun u2 hu2 => by simp at hu2; subst hu2; rfl)
  refine vb_step s x Tryd.underlying72 hi hz0 hz1 rfl (by rw [hz2]; decide) ho hs hb hx hS (Nat.zero_lt_one) (by rw [ivs_length]; show L.length + 1 ≤ _; omega) fun v' w' h1 _ _ _ => h v' w' ?_
  rw [ivs_append]; exact h1
theorem byte_append {ops : Array Oper} {rest : List Oper} {o : Oper} {a : Act} {Q : Exit → Act → World → Prop} (hgd : o.guard = none) (s x : Operand)
    (ho : o.op = .call { callee := .builtin .append, args := #[s, x], argTypes := #[33, 33] })
    {w wr : World} {l : List UInt8} {v : Value} (hs : a.eval s = v) (hb : VB w wr v (Lib.byteCells l)) {c : Int} {d : UInt8}
    (hx : a.eval x = .slice (some ⟨wr.heap.size, 0, none⟩) 1 1) (h0 : c = (d.toNat : Int)) (hlen : l.length + 1 ≤ 100000000)
    (h : ∀ v' w', VB w w' v' (Lib.byteCells (l ++ [d])) → wpList Tryd.prog ops Q rest (a.put o.dst v') w') : wpList Tryd.prog ops Q (o :: rest) a (wr.alloc (.cells #[.int .u8 c] 5)) := by
  subst h0
  obtain ⟨i0, hi, hz0, hz1, hz2⟩ := info_parts infoByte
  refine vb_append hgd s x Tryd.underlying33 hi hz0 hz1 rfl (by rw [hz2]; decide) ho hs (hb.alloc _) hx (src_one Tryd.underlying33 wr (.int .u8 (d.toNat : Int)) 5 rfl) (Nat.zero_lt_one) (by rw [Lib.byteCells_length]; show l.length + 1 ≤ _; omega) fun v' w' h1 _ _ _ => h v' w' ?_
  rw [byteCells_append]; exact h1
/-- the first words of a text -/
def wls (l : List UInt8) (n : Nat) : List Nat := (List.range n).map fun i => le4 l (4 * i)
theorem wls_length (l : List UInt8) (n : Nat) : (wls l n).length = n := by simp [wls]
theorem wls_zero (l : List UInt8) : wls l 0 = [] := rfl
theorem wls_next (l : List UInt8) (n : Nat) : wls l n ++ [le4 l (4 * n)] = wls l (n + 1) := by simp [wls, List.range_succ]
theorem le4_int (a b c d : Nat) : (a : Int) + (b : Int) * 256 + (c : Int) * 65536 + (d : Int) * 16777216 = ((a + b * 256 + c * 65536 + d * 16777216 : Nat) : Int) := by omega
end Go.Proofs.YtabeehljpdehcaaDoor
