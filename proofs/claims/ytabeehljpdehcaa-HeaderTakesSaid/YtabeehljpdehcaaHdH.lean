/- header.Take, by a contract. -/
import Derived.Test.YtabeehljpdehcaaHdG
import Derived.Test.YtabeehljpdehcaaHdE
import Derived.Deep.RegionHeld3
import Derived.Deep.Cut
import Derived.Lib.SlicesS
namespace Go.Proofs.Ytabeehljpdehcaa
set_option linter.unusedVariables false
set_option linter.unusedSimpArgs false
open Go.RowKit Go.Lib
/-- the header that bytes are read as -/
def tkVal (s : List UInt8) : Value := .agg #[.int .i64 (pId s), .string (str (pSalt s)), .int .i64 (pN s), .int .i64 (pB s), .int .i64 (pRaw s), .string (str (pRoot s)), .string (str (pTag s))]
def noHdr : Value := .agg #[.int .i64 0, .string (ByteArray.mk #[]), .int .i64 0, .int .i64 0, .int .i64 0, .string (ByteArray.mk #[]), .string (ByteArray.mk #[])]
theorem seven_cells (W : World) (g : Nat) (T : TypeId) (c0 c1 c2 c3 c4 c5 c6 a0 a1 a2 a3 a4 a5 a6 : Value) (h : W.heap[g]? = some (.cells #[c0, c1, c2, c3, c4, c5, c6] T (0, 0))) :
    (((((((W.setCell ⟨g, 0, none⟩ a0).setCell ⟨g, 1, none⟩ a1).setCell ⟨g, 2, none⟩ a2).setCell ⟨g, 3, none⟩ a3).setCell ⟨g, 4, none⟩ a4).setCell ⟨g, 5, none⟩ a5).setCell ⟨g, 6, none⟩ a6).heap[g]? = some (.cells #[a0, a1, a2, a3, a4, a5, a6] T (0, 0)) := by
  have h0 : (W.setCell ⟨g, 0, none⟩ a0).heap[g]? = some (.cells #[a0, c1, c2, c3, c4, c5, c6] T (0, 0)) := Joins.block_setCell (i := 0) h a0
  have h1 : ((W.setCell ⟨g, 0, none⟩ a0).setCell ⟨g, 1, none⟩ a1).heap[g]? = some (.cells #[a0, a1, c2, c3, c4, c5, c6] T (0, 0)) := Joins.block_setCell (i := 1) h0 a1
  have h2 : (((W.setCell ⟨g, 0, none⟩ a0).setCell ⟨g, 1, none⟩ a1).setCell ⟨g, 2, none⟩ a2).heap[g]? = some (.cells #[a0, a1, a2, c3, c4, c5, c6] T (0, 0)) := Joins.block_setCell (i := 2) h1 a2
  have h3 : ((((W.setCell ⟨g, 0, none⟩ a0).setCell ⟨g, 1, none⟩ a1).setCell ⟨g, 2, none⟩ a2).setCell ⟨g, 3, none⟩ a3).heap[g]? = some (.cells #[a0, a1, a2, a3, c4, c5, c6] T (0, 0)) := Joins.block_setCell (i := 3) h2 a3
  have h4 : (((((W.setCell ⟨g, 0, none⟩ a0).setCell ⟨g, 1, none⟩ a1).setCell ⟨g, 2, none⟩ a2).setCell ⟨g, 3, none⟩ a3).setCell ⟨g, 4, none⟩ a4).heap[g]? = some (.cells #[a0, a1, a2, a3, a4, c5, c6] T (0, 0)) := Joins.block_setCell (i := 4) h3 a4
  have h5 : ((((((W.setCell ⟨g, 0, none⟩ a0).setCell ⟨g, 1, none⟩ a1).setCell ⟨g, 2, none⟩ a2).setCell ⟨g, 3, none⟩ a3).setCell ⟨g, 4, none⟩ a4).setCell ⟨g, 5, none⟩ a5).heap[g]? = some (.cells #[a0, a1, a2, a3, a4, a5, c6] T (0, 0)) := Joins.block_setCell (i := 5) h4 a5
  have h6 : (((((((W.setCell ⟨g, 0, none⟩ a0).setCell ⟨g, 1, none⟩ a1).setCell ⟨g, 2, none⟩ a2).setCell ⟨g, 3, none⟩ a3).setCell ⟨g, 4, none⟩ a4).setCell ⟨g, 5, none⟩ a5).setCell ⟨g, 6, none⟩ a6).heap[g]? = some (.cells #[a0, a1, a2, a3, a4, a5, a6] T (0, 0)) := Joins.block_setCell (i := 6) h5 a6
  exact h6
theorem seven_free {X : World} {g : Nat} {T : TypeId} {a0 a1 a2 a3 a4 a5 a6 : Value} (h : X.heap[g]? = some (.cells #[a0, a1, a2, a3, a4, a5, a6] T (0, 0))) :
    X.frozen? ⟨g, 0, none⟩ = false ∧ X.frozen? ⟨g, 1, none⟩ = false ∧ X.frozen? ⟨g, 2, none⟩ = false ∧ X.frozen? ⟨g, 3, none⟩ = false ∧ X.frozen? ⟨g, 4, none⟩ = false ∧ X.frozen? ⟨g, 5, none⟩ = false ∧ X.frozen? ⟨g, 6, none⟩ = false :=
  ⟨Joins.unfrozen_of_block h 0, Joins.unfrozen_of_block h 1, Joins.unfrozen_of_block h 2, Joins.unfrozen_of_block h 3, Joins.unfrozen_of_block h 4, Joins.unfrozen_of_block h 5, Joins.unfrozen_of_block h 6⟩
theorem take_end {R : Ending → World → Prop} {a : Act} {X : World} {g : Nat} {c0 c1 c2 c3 c4 c5 c6 f : Value} (h2 : a.tmps.getD 2 undef = .pointer (some ⟨g, 0, none⟩)) (h3 : a.tmps.getD 3 undef = f) (hd : a.defers = [])
    (hX : X.heap[g]? = some (.cells #[c0, c1, c2, c3, c4, c5, c6] 23 (0, 0))) (hR : R (.returned (.tuple #[.agg #[c0, c1, c2, c3, c4, c5, c6], f])) X) : bodyPost Try.prog Try.f11 R .ret a X := by
  obtain ⟨y0, y1, y2, y3, y4, y5, y6⟩ := seven_at hX
  have h2' : a.tmps[2]?.getD undef = .pointer (some ⟨g, 0, none⟩) := by rw [← h2]; simp
  have h3' : a.tmps[3]?.getD undef = f := by rw [← h3]; simp
  exact bodyPost_ret (v := .tuple #[.agg #[c0, c1, c2, c3, c4, c5, c6], f]) (by simp [results, Try.results11, h2', h3', go_sem, y0, y1, y2, y3, y4, y5, y6]) hd hR
theorem num4 (j : Nat) (s : List UInt8) (b4 b5 : Nat) (w0 W : World) (h : RS w0 W b4 b5 (s.drop j)) (hj : j + 4 ≤ s.length) (hl : s.length ≤ 1000) :
    Calls Try.prog 19 #[.int .i64 4, .pointer (some ⟨b5, 0, none⟩)] W fun e w' => e = .returned (.int .i64 (bev ((s.drop j).take 4))) ∧ RS w0 w' b4 b5 (s.drop (j + 4)) ∧ Same b4 W w' :=
  (num_any 4 (s.drop j) b4 b5 w0 W h (by omega) (by omega) (by rw [List.length_drop]; omega) (by rw [List.length_drop]; omega)).mono fun e w' h => ⟨h.1, by rw [← List.drop_drop]; exact h.2.1, h.2.2⟩
theorem num2 (j : Nat) (s : List UInt8) (b4 b5 : Nat) (w0 W : World) (h : RS w0 W b4 b5 (s.drop j)) (hj : j + 2 ≤ s.length) (hl : s.length ≤ 1000) :
    Calls Try.prog 19 #[.int .i64 2, .pointer (some ⟨b5, 0, none⟩)] W fun e w' => e = .returned (.int .i64 (bev ((s.drop j).take 2))) ∧ RS w0 w' b4 b5 (s.drop (j + 2)) ∧ Same b4 W w' :=
  (num_any 2 (s.drop j) b4 b5 w0 W h (by omega) (by omega) (by rw [List.length_drop]; omega) (by rw [List.length_drop]; omega)).mono fun e w' h => ⟨h.1, by rw [← List.drop_drop]; exact h.2.1, h.2.2⟩
theorem text_at (m : Nat) (j : Nat) (s : List UInt8) (b4 b5 : Nat) (w0 W : World) (h : RS w0 W b4 b5 (s.drop j)) (hj : j + m ≤ s.length) (hl : s.length ≤ 1000) :
    Calls Try.prog 18 #[.int .i64 (m : Int), .pointer (some ⟨b4, 0, none⟩)] W fun e w' => e = .returned (.string (str ((s.drop j).take m))) ∧ RS w0 w' b4 b5 (s.drop (j + m)) ∧ Same b4 W w' :=
  (text_any m (s.drop j) b4 b5 w0 W h (by rw [List.length_drop]; omega) (by rw [List.length_drop]; omega)).mono fun e w' h => ⟨h.1, by rw [← List.drop_drop]; exact h.2.1, h.2.2⟩
theorem text16 (s : List UInt8) (b4 b5 : Nat) (w0 W : World) (h : RS w0 W b4 b5 (s.drop 8)) (hl : s.length = 98) :
    Calls Try.prog 18 #[.int .i64 16, .pointer (some ⟨b4, 0, none⟩)] W fun e w' => e = .returned (.string (str (pSalt s))) ∧ RS w0 w' b4 b5 (s.drop 24) ∧ Same b4 W w' := text_at 16 8 s b4 b5 w0 W h (by omega) (by omega)
theorem text32 (s : List UInt8) (b4 b5 : Nat) (w0 W : World) (h : RS w0 W b4 b5 (s.drop 34)) (hl : s.length = 98) :
    Calls Try.prog 18 #[.int .i64 32, .pointer (some ⟨b4, 0, none⟩)] W fun e w' => e = .returned (.string (str (pRoot s))) ∧ RS w0 w' b4 b5 (s.drop 66) ∧ Same b4 W w' := text_at 32 34 s b4 b5 w0 W h (by omega) (by omega)
theorem text32b (s : List UInt8) (b4 b5 : Nat) (w0 W : World) (h : RS w0 W b4 b5 (s.drop 66)) (hl : s.length = 98) :
    Calls Try.prog 18 #[.int .i64 32, .pointer (some ⟨b4, 0, none⟩)] W fun e w' => e = .returned (.string (str (pTag s))) ∧ RS w0 w' b4 b5 (s.drop 98) ∧ Same b4 W w' :=
  (text_at 32 66 s b4 b5 w0 W h (by omega) (by omega)).mono fun e w' h => ⟨by rw [h.1, List.take_of_length_le (by rw [List.length_drop]; omega)]; rfl, h.2⟩
theorem text4 (s : List UInt8) (b4 b5 : Nat) (w0 W : World) (h : RS w0 W b4 b5 (s.drop 0)) (hl : s.length = 98) :
    Calls Try.prog 18 #[.int .i64 4, .pointer (some ⟨b4, 0, none⟩)] W fun e w' => e = .returned (.string (str (s.take 4))) ∧ RS w0 w' b4 b5 (s.drop 4) ∧ Same b4 W w' := text_at 4 0 s b4 b5 w0 W h (by omega) (by omega)
theorem num4a (s : List UInt8) (b4 b5 : Nat) (w0 W : World) (h : RS w0 W b4 b5 (s.drop 4)) (hl : s.length = 98) :
    Calls Try.prog 19 #[.int .i64 4, .pointer (some ⟨b5, 0, none⟩)] W fun e w' => e = .returned (.int .i64 (pId s)) ∧ RS w0 w' b4 b5 (s.drop 8) ∧ Same b4 W w' := num4 4 s b4 b5 w0 W h (by omega) (by omega)
theorem num2a (s : List UInt8) (b4 b5 : Nat) (w0 W : World) (h : RS w0 W b4 b5 (s.drop 24)) (hl : s.length = 98) :
    Calls Try.prog 19 #[.int .i64 2, .pointer (some ⟨b5, 0, none⟩)] W fun e w' => e = .returned (.int .i64 (pN s)) ∧ RS w0 w' b4 b5 (s.drop 26) ∧ Same b4 W w' := num2 24 s b4 b5 w0 W h (by omega) (by omega)
theorem num4b (s : List UInt8) (b4 b5 : Nat) (w0 W : World) (h : RS w0 W b4 b5 (s.drop 26)) (hl : s.length = 98) :
    Calls Try.prog 19 #[.int .i64 4, .pointer (some ⟨b5, 0, none⟩)] W fun e w' => e = .returned (.int .i64 (pB s)) ∧ RS w0 w' b4 b5 (s.drop 30) ∧ Same b4 W w' := num4 26 s b4 b5 w0 W h (by omega) (by omega)
theorem num4c (s : List UInt8) (b4 b5 : Nat) (w0 W : World) (h : RS w0 W b4 b5 (s.drop 30)) (hl : s.length = 98) :
    Calls Try.prog 19 #[.int .i64 4, .pointer (some ⟨b5, 0, none⟩)] W fun e w' => e = .returned (.int .i64 (pRaw s)) ∧ RS w0 w' b4 b5 (s.drop 34) ∧ Same b4 W w' := num4 30 s b4 b5 w0 W h (by omega) (by omega)
theorem RS.fnC {w0 X : World} {b4 b5 g : Nat} {l : List UInt8} {o : Obj} {a0 a1 a2 a3 a4 a5 a6 : Value} (h : RS w0 X b4 b5 l) (hb : Has w0 b4 b5 X g o) :
    (((((((X.setCell ⟨g, 0, none⟩ a0).setCell ⟨g, 1, none⟩ a1).setCell ⟨g, 2, none⟩ a2).setCell ⟨g, 3, none⟩ a3).setCell ⟨g, 4, none⟩ a4).setCell ⟨g, 5, none⟩ a5).setCell ⟨g, 6, none⟩ a6).cell? ⟨b5, 0, none⟩ = some (.func (.func 18) #[] #[.pointer (some ⟨b4, 0, none⟩)]) := by
  have e : (((((((X.setCell ⟨g, 0, none⟩ a0).setCell ⟨g, 1, none⟩ a1).setCell ⟨g, 2, none⟩ a2).setCell ⟨g, 3, none⟩ a3).setCell ⟨g, 4, none⟩ a4).setCell ⟨g, 5, none⟩ a5).setCell ⟨g, 6, none⟩ a6).heap[b5]? = X.heap[b5]? := by
    rw [set_other _ _ _ _ _ hb.ne5, set_other _ _ _ _ _ hb.ne5, set_other _ _ _ _ _ hb.ne5, set_other _ _ _ _ _ hb.ne5, set_other _ _ _ _ _ hb.ne5, set_other _ _ _ _ _ hb.ne5, set_other _ _ _ _ _ hb.ne5]
  exact Joins.cell_of_block (e.trans h.h5) 0
theorem RS.fnA {w0 X : World} {b4 b5 : Nat} {l : List UInt8} {o : Obj} (h : RS w0 X b4 b5 l) : (X.alloc o).cell? ⟨b5, 0, none⟩ = some (.func (.func 18) #[] #[.pointer (some ⟨b4, 0, none⟩)]) := (h.alloc o).fn
theorem RS.fnD {w0 X : World} {b4 b5 : Nat} {l : List UInt8} {o : Obj} (h : RS w0 X b4 b5 l) : (X.alloc o).drew.cell? ⟨b5, 0, none⟩ = some (.func (.func 18) #[] #[.pointer (some ⟨b4, 0, none⟩)]) := (h.alloc o).drew.fn
theorem num4aD (s : List UInt8) (b4 b5 : Nat) (w0 X : World) (o : Obj) (h : RS w0 X b4 b5 (s.drop 4)) (hl : s.length = 98) :
    Calls Try.prog 19 #[.int .i64 4, .pointer (some ⟨b5, 0, none⟩)] (X.alloc o).drew fun e w' => e = .returned (.int .i64 (pId s)) ∧ RS w0 w' b4 b5 (s.drop 8) ∧ Same b4 (X.alloc o).drew w' := num4a s b4 b5 w0 _ (h.alloc o).drew hl
theorem Same.newD {w0 X W' : World} {b4 b5 : Nat} {l : List UInt8} {o : Obj} (h : Same b4 (X.alloc o).drew W') (hr : RS w0 X b4 b5 l) : Has w0 b4 b5 W' X.heap.size o := Same.new (X := X) ⟨h.size, h.block⟩ hr
theorem RS.fnB {w0 X : World} {b4 b5 : Nat} {l : List UInt8} (h : RS w0 X b4 b5 l) : X.cell? ⟨b5, 0, none⟩ = some (.func (.func 18) #[] #[.pointer (some ⟨b4, 0, none⟩)]) := h.fn
theorem num4aA (s : List UInt8) (b4 b5 : Nat) (w0 X : World) (o : Obj) (h : RS w0 X b4 b5 (s.drop 4)) (hl : s.length = 98) :
    Calls Try.prog 19 #[.int .i64 4, .pointer (some ⟨b5, 0, none⟩)] (X.alloc o) fun e w' => e = .returned (.int .i64 (pId s)) ∧ RS w0 w' b4 b5 (s.drop 8) ∧ Same b4 (X.alloc o) w' := num4a s b4 b5 w0 _ (h.alloc o) hl
theorem num2aA (s : List UInt8) (b4 b5 : Nat) (w0 X : World) (o : Obj) (h : RS w0 X b4 b5 (s.drop 24)) (hl : s.length = 98) :
    Calls Try.prog 19 #[.int .i64 2, .pointer (some ⟨b5, 0, none⟩)] (X.alloc o) fun e w' => e = .returned (.int .i64 (pN s)) ∧ RS w0 w' b4 b5 (s.drop 26) ∧ Same b4 (X.alloc o) w' := num2a s b4 b5 w0 _ (h.alloc o) hl
theorem num4bA (s : List UInt8) (b4 b5 : Nat) (w0 X : World) (o : Obj) (h : RS w0 X b4 b5 (s.drop 26)) (hl : s.length = 98) :
    Calls Try.prog 19 #[.int .i64 4, .pointer (some ⟨b5, 0, none⟩)] (X.alloc o) fun e w' => e = .returned (.int .i64 (pB s)) ∧ RS w0 w' b4 b5 (s.drop 30) ∧ Same b4 (X.alloc o) w' := num4b s b4 b5 w0 _ (h.alloc o) hl
theorem num4cA (s : List UInt8) (b4 b5 : Nat) (w0 X : World) (o : Obj) (h : RS w0 X b4 b5 (s.drop 30)) (hl : s.length = 98) :
    Calls Try.prog 19 #[.int .i64 4, .pointer (some ⟨b5, 0, none⟩)] (X.alloc o) fun e w' => e = .returned (.int .i64 (pRaw s)) ∧ RS w0 w' b4 b5 (s.drop 34) ∧ Same b4 (X.alloc o) w' := num4c s b4 b5 w0 _ (h.alloc o) hl
theorem text16A (s : List UInt8) (b4 b5 : Nat) (w0 X : World) (o : Obj) (h : RS w0 X b4 b5 (s.drop 8)) (hl : s.length = 98) :
    Calls Try.prog 18 #[.int .i64 16, .pointer (some ⟨b4, 0, none⟩)] (X.alloc o) fun e w' => e = .returned (.string (str (pSalt s))) ∧ RS w0 w' b4 b5 (s.drop 24) ∧ Same b4 (X.alloc o) w' := text16 s b4 b5 w0 _ (h.alloc o) hl
theorem text32A (s : List UInt8) (b4 b5 : Nat) (w0 X : World) (o : Obj) (h : RS w0 X b4 b5 (s.drop 34)) (hl : s.length = 98) :
    Calls Try.prog 18 #[.int .i64 32, .pointer (some ⟨b4, 0, none⟩)] (X.alloc o) fun e w' => e = .returned (.string (str (pRoot s))) ∧ RS w0 w' b4 b5 (s.drop 66) ∧ Same b4 (X.alloc o) w' := text32 s b4 b5 w0 _ (h.alloc o) hl
theorem text32bA (s : List UInt8) (b4 b5 : Nat) (w0 X : World) (o : Obj) (h : RS w0 X b4 b5 (s.drop 66)) (hl : s.length = 98) :
    Calls Try.prog 18 #[.int .i64 32, .pointer (some ⟨b4, 0, none⟩)] (X.alloc o) fun e w' => e = .returned (.string (str (pTag s))) ∧ RS w0 w' b4 b5 (s.drop 98) ∧ Same b4 (X.alloc o) w' := text32b s b4 b5 w0 _ (h.alloc o) hl
theorem fin_a {w0 X : World} {b4 b5 : Nat} {l : List UInt8} {o : Obj} (h : RS w0 X b4 b5 l) : Below w0.heap.size w0 (X.alloc o) ∧ (X.alloc o).heap[X.heap.size]? = some o := ⟨(h.alloc o).below, hnew _ _⟩
theorem fin_b {w0 X : World} {b4 b5 g : Nat} {l : List UInt8} {T : TypeId} {c0 c1 c2 c3 c4 c5 c6 a0 a1 a2 a3 a4 a5 a6 : Value} (h : RS w0 X b4 b5 l) (hb : Has w0 b4 b5 X g (.cells #[c0, c1, c2, c3, c4, c5, c6] T (0, 0))) :
    Below w0.heap.size w0 (((((((X.setCell ⟨g, 0, none⟩ a0).setCell ⟨g, 1, none⟩ a1).setCell ⟨g, 2, none⟩ a2).setCell ⟨g, 3, none⟩ a3).setCell ⟨g, 4, none⟩ a4).setCell ⟨g, 5, none⟩ a5).setCell ⟨g, 6, none⟩ a6) ∧ (((((((X.setCell ⟨g, 0, none⟩ a0).setCell ⟨g, 1, none⟩ a1).setCell ⟨g, 2, none⟩ a2).setCell ⟨g, 3, none⟩ a3).setCell ⟨g, 4, none⟩ a4).setCell ⟨g, 5, none⟩ a5).setCell ⟨g, 6, none⟩ a6).heap[g]? = some (.cells #[a0, a1, a2, a3, a4, a5, a6] T (0, 0)) :=
  ⟨((((((h.below.setCell hb.lo _).setCell hb.lo _).setCell hb.lo _).setCell hb.lo _).setCell hb.lo _).setCell hb.lo _).setCell hb.lo _, seven_cells X g T c0 c1 c2 c3 c4 c5 c6 a0 a1 a2 a3 a4 a5 a6 hb.at_⟩
theorem str_tlH (a b : List UInt8) : ((str a).toList == (str b).toList) = decide (a = b) := by
  by_cases h : a = b
  · subst h; rw [decide_eq_true rfl]; exact beq_self_eq_true _
  · rw [decide_eq_false h, bytes_beq_false_iff]; exact fun e => h (str_inj e)
theorem pLens (s : List UInt8) : (pSalt s).length ≤ 16 ∧ (pRoot s).length ≤ 32 ∧ (pTag s).length ≤ s.length := by
  refine ⟨?_, ?_, ?_⟩
  · rw [show pSalt s = (s.drop 8).take 16 from rfl, List.length_take]; omega
  · rw [show pRoot s = (s.drop 34).take 32 from rfl, List.length_take]; omega
  · rw [show pTag s = s.drop 66 from rfl, List.length_drop]; omega
/-- what Take tells -/
def tkV (s : List UInt8) : Value := if hIs s then tkVal s else noHdr
def tkE (s : List UInt8) : Int := if hIs s then 0 else 2
theorem tk_yes {s : List UInt8} (h : hIs s) : tkV s = .agg #[.int .i64 (pId s), .string (str (pSalt s)), .int .i64 (pN s), .int .i64 (pB s), .int .i64 (pRaw s), .string (str (pRoot s)), .string (str (pTag s))] ∧ tkE s = 0 := ⟨if_pos h, if_pos h⟩
theorem tk_no {s : List UInt8} (h : ¬ hIs s) : tkV s = .agg #[.int .i64 0, .string (ByteArray.mk #[]), .int .i64 0, .int .i64 0, .int .i64 0, .string (ByteArray.mk #[]), .string (ByteArray.mk #[])] ∧ tkE s = 2 := ⟨if_neg h, if_neg h⟩
theorem rs_start (W1 : World) (s : List UInt8) : RS W1 ((W1.alloc (.cells #[.string (str s)] 9)).alloc (.cells #[textF W1.heap.size] 38)) W1.heap.size (W1.heap.size + 1) (s.drop 0) := by
  have a1 := hnew W1 (.cells #[.string (str s)] 9)
  have s1 : (W1.alloc (.cells #[.string (str s)] 9)).heap.size = W1.heap.size + 1 := by simp
  have b1 := bnew W1 (.cells #[.string (str s)] 9)
  generalize W1.alloc (.cells #[.string (str s)] 9) = W2 at *
  have a2 := hnew W2 (.cells #[textF W1.heap.size] 38)
  rw [s1] at a2
  exact ⟨bnext b1 (bnew _ _), Nat.le_refl _, Nat.le_succ _, by omega, hkept a1 (bnew _ _), a2⟩
attribute [local irreducible] str beL hF hMark pId pSalt pN pB pRaw pRoot pTag tkV tkE

set_option maxRecDepth 100000 in
set_option maxHeartbeats 20000000 in
theorem Take_98 (s : List UInt8) (w : World) (hl : s.length = 98) :
    Calls Try.prog 11 #[.string (str s)] w fun e w' => e = .returned (.tuple #[tkV s, .int .i64 (tkE s)]) ∧ Below w.heap.size w w' := by
  have sl := str_size s
  rw [hl] at sl
  have hA := hnew w (.cells #[.int .i64 0, .string (ByteArray.mk #[]), .int .i64 0, .int .i64 0, .int .i64 0, .string (ByteArray.mk #[]), .string (ByteArray.mk #[])] 23)
  have hB := bnew w (.cells #[.int .i64 0, .string (ByteArray.mk #[]), .int .i64 0, .int .i64 0, .int .i64 0, .string (ByteArray.mk #[]), .string (ByteArray.mk #[])] 23)
  have hz : (w.alloc (.cells #[.int .i64 0, .string (ByteArray.mk #[]), .int .i64 0, .int .i64 0, .int .i64 0, .string (ByteArray.mk #[]), .string (ByteArray.mk #[])] 23)).heap.size = w.heap.size + 1 := by simp
  generalize hW : w.alloc (.cells #[.int .i64 0, .string (ByteArray.mk #[]), .int .i64 0, .int .i64 0, .int .i64 0, .string (ByteArray.mk #[]), .string (ByteArray.mk #[])] 23) = W1 at *
  have HW := Kept.mk hW
  have hst := rs_start W1 s
  unfold textF at hst
  rw [hz] at hst
  have HS := Kept.mk hst
  clear hst
  have HB := Kept.mk hB
  have HA := Kept.mk hA
  clear hW hA hB
  go_enter Try.func11, Try.ntmps11
  go_upto_region 1 with fail
  rw [HW.out]
  go_upto_region 6 with fail
  go_wp2_with fail
  with_reducible refine (text4 s (w.heap.size + 1) (w.heap.size + 1 + 1) W1 _ HS.out hl).mono ?_
  rintro e w2 ⟨rfl, h2, _⟩
  have hd2 := h2.drew
  have f2 := h2.fn
  clear HS
  go_upto_region 7 with fail
  go_cut [8] from 18 (fun s8 wx => ∃ g, s8 = .pointer (some ⟨g, 0, none⟩) ∧ Below W1.heap.size W1 wx ∧ wx.heap[g]? = some (.cells #[.int .i64 (pId s), .string (str (pSalt s)), .int .i64 (pN s), .int .i64 (pB s), .int .i64 (pRaw s), .string (str (pRoot s)), .string (str (pTag s))] 23 (0, 0)))
  case first =>
    go_region_held3 (fun w' => w'.cell? ⟨w.heap.size + 1 + 1, 0, none⟩ = some (.func (.func 18) #[] #[.pointer (some ⟨w.heap.size + 1, 0, none⟩)]))
      (first
        | with_reducible exact hd2.fn
        | with_reducible exact RS.fnD h2
        | with_reducible exact hrs.fn
        | with_reducible exact RS.fnA (by assumption)
        | with_reducible exact RS.fnC (by assumption) (by assumption)
        | with_reducible exact RS.fnB (by assumption))
      (first
        | (go_at_call 19; (first | ((first | with_reducible refine (num4a s (w.heap.size + 1) (w.heap.size + 1 + 1) W1 _ (by assumption) hl).mono ?_ | with_reducible refine (num4aA s (w.heap.size + 1) (w.heap.size + 1 + 1) W1 _ _ (by assumption) hl).mono ?_ | with_reducible refine (num4aD s (w.heap.size + 1) (w.heap.size + 1 + 1) W1 _ _ h2 hl).mono ?_); rintro e wA ⟨rfl, hrs, hsm⟩; (first | (with_reducible have hbx := hsm.new (by assumption)) | (with_reducible have hbx := hsm.newD h2) | (with_reducible have hbx := hsm.old hbx) | skip)) | ((first | with_reducible refine (num2a s (w.heap.size + 1) (w.heap.size + 1 + 1) W1 _ (by assumption) hl).mono ?_ | with_reducible refine (num2aA s (w.heap.size + 1) (w.heap.size + 1 + 1) W1 _ _ (by assumption) hl).mono ?_); rintro e wA ⟨rfl, hrs, hsm⟩; (first | (with_reducible have hbx := hsm.new (by assumption)) | (with_reducible have hbx := hsm.newD h2) | (with_reducible have hbx := hsm.old hbx) | skip)) | ((first | with_reducible refine (num4b s (w.heap.size + 1) (w.heap.size + 1 + 1) W1 _ (by assumption) hl).mono ?_ | with_reducible refine (num4bA s (w.heap.size + 1) (w.heap.size + 1 + 1) W1 _ _ (by assumption) hl).mono ?_); rintro e wA ⟨rfl, hrs, hsm⟩; (first | (with_reducible have hbx := hsm.new (by assumption)) | (with_reducible have hbx := hsm.newD h2) | (with_reducible have hbx := hsm.old hbx) | skip)) | ((first | with_reducible refine (num4c s (w.heap.size + 1) (w.heap.size + 1 + 1) W1 _ (by assumption) hl).mono ?_ | with_reducible refine (num4cA s (w.heap.size + 1) (w.heap.size + 1 + 1) W1 _ _ (by assumption) hl).mono ?_); rintro e wA ⟨rfl, hrs, hsm⟩; (first | (with_reducible have hbx := hsm.new (by assumption)) | (with_reducible have hbx := hsm.newD h2) | (with_reducible have hbx := hsm.old hbx) | skip))))
        | (go_at_call 18; (first | ((first | with_reducible refine (text16 s (w.heap.size + 1) (w.heap.size + 1 + 1) W1 _ (by assumption) hl).mono ?_ | with_reducible refine (text16A s (w.heap.size + 1) (w.heap.size + 1 + 1) W1 _ _ (by assumption) hl).mono ?_); rintro e wA ⟨rfl, hrs, hsm⟩; (first | (with_reducible have hbx := hsm.new (by assumption)) | (with_reducible have hbx := hsm.newD h2) | (with_reducible have hbx := hsm.old hbx) | skip)) | ((first | with_reducible refine (text32 s (w.heap.size + 1) (w.heap.size + 1 + 1) W1 _ (by assumption) hl).mono ?_ | with_reducible refine (text32A s (w.heap.size + 1) (w.heap.size + 1 + 1) W1 _ _ (by assumption) hl).mono ?_); rintro e wA ⟨rfl, hrs, hsm⟩; (first | (with_reducible have hbx := hsm.new (by assumption)) | (with_reducible have hbx := hsm.newD h2) | (with_reducible have hbx := hsm.old hbx) | skip)) | ((first | with_reducible refine (text32b s (w.heap.size + 1) (w.heap.size + 1 + 1) W1 _ (by assumption) hl).mono ?_ | with_reducible refine (text32bA s (w.heap.size + 1) (w.heap.size + 1 + 1) W1 _ _ (by assumption) hl).mono ?_); rintro e wA ⟨rfl, hrs, hsm⟩; (first | (with_reducible have hbx := hsm.new (by assumption)) | (with_reducible have hbx := hsm.newD h2) | (with_reducible have hbx := hsm.old hbx) | skip); (try (have hcx := seven_at hbx.at_; have hfx := seven_free hbx.at_))))))
    all_goals
      go_wp2_with fail
      go_meet
      first
        | with_reducible exact ⟨_, rfl, fin_b hrs hbx⟩
        | with_reducible exact ⟨_, rfl, fin_a hrs⟩
  case rest =>
    obtain ⟨g, rfl, hbz, hgz⟩ := hcut
    have hA2 := hkept HA.out hbz
    have HBz := Kept.mk (bnext HB.out hbz)
    have eM := lit_hMark
    have ht := str_tlH (s.take 4) hMark
    obtain ⟨c0, c1, c2, c3, c4, c5, c6⟩ := seven_at hgz
    have HGZ := Kept.mk hgz
    have HA2 := Kept.mk hA2
    clear hbz hgz hA2 hd2 f2 h2 HB HA HW
    by_cases hm : s.take 4 = hMark
    · rw [decide_eq_true hm] at ht
      by_cases hy : hMay (pId s) (pSalt s) (pN s) (pB s) (pRaw s) (pRoot s) (pTag s)
      · have hi : hIs s := ⟨hl, hm, hy⟩
        have HR := Kept.mk (tk_yes hi)
        have HC := Kept.mk (fun w' => Check_yes (pId s) (pSalt s) (pN s) (pB s) (pRaw s) (pRoot s) (pTag s) w' hy)
        clear hy hm hi
        go_wp2_with fail
        with_reducible refine (HC.out _).mono ?_
        rintro e w3 ⟨rfl, b3⟩
        have hA3 := hkept HA2.out b3
        have hg3 := hkept HGZ.out b3
        have HB3 := Kept.mk (bnext HBz.out b3)
        clear b3 c0 c1 c2 c3 c4 c5 c6
        obtain ⟨c0, c1, c2, c3, c4, c5, c6⟩ := seven_at hg3
        obtain ⟨d0, d1, d2, d3, d4, d5, d6⟩ := seven_at hA3
        obtain ⟨f0, f1, f2, f3, f4, f5, f6⟩ := seven_free hA3
        go_wp2_with fail
        refine take_end rfl rfl rfl (seven_cells _ _ _ _ _ _ _ _ _ _ _ _ _ _ _ _ _ hA3) ⟨by rw [HR.out.1, HR.out.2]; rfl, ?_⟩
        exact ((((((HB3.out.setCell (Nat.le_refl _) _).setCell (Nat.le_refl _) _).setCell (Nat.le_refl _) _).setCell (Nat.le_refl _) _).setCell (Nat.le_refl _) _).setCell (Nat.le_refl _) _).setCell (Nat.le_refl _) _
      · have hi : ¬ hIs s := fun h => hy h.2.2
        obtain ⟨q1, q2, q3⟩ := pLens s
        have HR := Kept.mk (tk_no hi)
        have HC := Kept.mk (fun w' => Check_no (pId s) (pSalt s) (pN s) (pB s) (pRaw s) (pRoot s) (pTag s) w' hy (by omega) (by omega) (by omega))
        clear hy hm hi
        go_wp2_with fail
        with_reducible refine (HC.out _).mono ?_
        rintro e w3 ⟨rfl, b3⟩
        have hA3 := hkept HA2.out b3
        have hg3 := hkept HGZ.out b3
        have HB3 := Kept.mk (bnext HBz.out b3)
        clear b3 c0 c1 c2 c3 c4 c5 c6
        obtain ⟨c0, c1, c2, c3, c4, c5, c6⟩ := seven_at hg3
        obtain ⟨d0, d1, d2, d3, d4, d5, d6⟩ := seven_at hA3
        obtain ⟨f0, f1, f2, f3, f4, f5, f6⟩ := seven_free hA3
        go_wp2_with fail
        refine take_end rfl rfl rfl (seven_cells _ _ _ _ _ _ _ _ _ _ _ _ _ _ _ _ _ hA3) ⟨by rw [HR.out.1, HR.out.2]; rfl, ?_⟩
        exact ((((((HB3.out.setCell (Nat.le_refl _) _).setCell (Nat.le_refl _) _).setCell (Nat.le_refl _) _).setCell (Nat.le_refl _) _).setCell (Nat.le_refl _) _).setCell (Nat.le_refl _) _).setCell (Nat.le_refl _) _
    · rw [decide_eq_false hm] at ht
      have hi : ¬ hIs s := fun h => hm h.2.1
      have HR := Kept.mk (tk_no hi)
      clear hm hi
      obtain ⟨d0, d1, d2, d3, d4, d5, d6⟩ := seven_at HA2.out
      obtain ⟨f0, f1, f2, f3, f4, f5, f6⟩ := seven_free HA2.out
      go_wp2_with fail
      refine take_end rfl rfl rfl (seven_cells _ _ _ _ _ _ _ _ _ _ _ _ _ _ _ _ _ HA2.out) ⟨by rw [HR.out.1, HR.out.2]; rfl, ?_⟩
      exact ((((((HBz.out.setCell (Nat.le_refl _) _).setCell (Nat.le_refl _) _).setCell (Nat.le_refl _) _).setCell (Nat.le_refl _) _).setCell (Nat.le_refl _) _).setCell (Nat.le_refl _) _).setCell (Nat.le_refl _) _
end Go.Proofs.Ytabeehljpdehcaa
