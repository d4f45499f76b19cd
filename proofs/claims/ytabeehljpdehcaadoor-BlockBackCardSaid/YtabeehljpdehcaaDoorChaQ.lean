/- Quarter of four numbers, of the program and by definition, each by a contract. -/
import Derived.Test.YtabeehljpdehcaaDoorChaC
namespace Go.Proofs.YtabeehljpdehcaaDoor
set_option linter.unusedVariables false
open Go.RowKit Go.Lib

def z12 : List Nat := [0, 0, 0, 0, 0, 0, 0, 0, 0, 0, 0, 0]
theorem heap_last (w : World) (o : Obj) : (w.alloc o).heap[w.heap.size]? = some o := by
  show (w.heap.push o)[w.heap.size]? = _
  simp
theorem words_new (T : TypeId) (A B C D : Nat) (w : World) (hA : A < 4294967296) (hB : B < 4294967296) (hC : C < 4294967296) (hD : D < 4294967296) :
    Words T (w.alloc (.cells #[.int .u32 (A : Int), .int .u32 (B : Int), .int .u32 (C : Int), .int .u32 (D : Int), .int .u32 0, .int .u32 0, .int .u32 0, .int .u32 0, .int .u32 0, .int .u32 0, .int .u32 0, .int .u32 0, .int .u32 0, .int .u32 0, .int .u32 0, .int .u32 0] T)) w.heap.size ([A, B, C, D] ++ z12) := by
  refine ⟨heap_last _ _, rfl, fun i hi => ?_⟩
  unfold wat z12
  have : i = 0 ∨ i = 1 ∨ i = 2 ∨ i = 3 ∨ i = 4 ∨ i = 5 ∨ i = 6 ∨ i = 7 ∨ i = 8 ∨ i = 9 ∨ i = 10 ∨ i = 11 ∨ i = 12 ∨ i = 13 ∨ i = 14 ∨ i = 15 := by omega
  rcases this with rfl | rfl | rfl | rfl | rfl | rfl | rfl | rfl | rfl | rfl | rfl | rfl | rfl | rfl | rfl | rfl
  · exact hA
  · exact hB
  · exact hC
  · exact hD
  all_goals (show (0 : Nat) < _; decide)
def four (q : Nat × Nat × Nat × Nat) : List Nat := [q.1, q.2.1, q.2.2.1, q.2.2.2] ++ z12
theorem quart_list (A B C D : Nat) : stR (stA (stR (stA (stR (stA (stR (stA ([A, B, C, D] ++ z12) 0 1) 3 0 16) 2 3) 1 2 12) 0 1) 3 0 8) 2 3) 1 2 7 = four (quart A B C D) := by
  simp only [stA, stR, wat, z12, List.cons_append, List.nil_append, List.getD_cons_zero, List.getD_cons_succ, List.set_cons_zero, List.set_cons_succ, four, quart]
theorem only_new {w w' : World} {o : Obj} (h : Only w.heap.size (w.alloc o) w') : Below w.heap.size w w' :=
  ((Below.refl w.heap.size w).alloc (Nat.le_refl _) o).trans (h.below (Nat.le_refl _))
theorem quarter_new (T : TypeId) (A B C D : Nat) (w : World) (hA : A < 4294967296) (hB : B < 4294967296) (hC : C < 4294967296) (hD : D < 4294967296) :
    Calls Tryd.prog 74 #[.pointer (some ⟨w.heap.size, 0, none⟩), .int .i64 0, .int .i64 1, .int .i64 2, .int .i64 3]
      (w.alloc (.cells #[.int .u32 (A : Int), .int .u32 (B : Int), .int .u32 (C : Int), .int .u32 (D : Int), .int .u32 0, .int .u32 0, .int .u32 0, .int .u32 0, .int .u32 0, .int .u32 0, .int .u32 0, .int .u32 0, .int .u32 0, .int .u32 0, .int .u32 0, .int .u32 0] T))
      fun e w' => e = .returned (.tuple #[]) ∧ Words T w' w.heap.size (four (quart A B C D)) ∧ Below w.heap.size w w' := by
  have h := quarter_any T w.heap.size ([A, B, C, D] ++ z12) 0 1 2 3 _ (by decide) (by decide) (by decide) (by decide) (words_new T A B C D w hA hB hC hD)
  rw [quart_list] at h
  exact h.mono fun e w' h => ⟨h.1, h.2.1, only_new h.2.2⟩
def low (a : Int) : Nat := (a % 4294967296).toNat
theorem low_eq (a : Int) : a % 4294967296 = (low a : Int) := by unfold low; omega
theorem low_lt (a : Int) : low a < 4294967296 := by unfold low; omega
theorem low_word (n : Nat) (h : n < 4294967296) : low (n : Int) = n := by unfold low; omega
theorem four_small {T : TypeId} {w : World} {g : Nat} {q : Nat × Nat × Nat × Nat} (h : Words T w g (four q)) :
    q.1 < 4294967296 ∧ q.2.1 < 4294967296 ∧ q.2.2.1 < 4294967296 ∧ q.2.2.2 < 4294967296 :=
  ⟨h.small 0 (by decide), h.small 1 (by decide), h.small 2 (by decide), h.small 3 (by decide)⟩
theorem four_cells {T : TypeId} {w : World} {g : Nat} {q : Nat × Nat × Nat × Nat} (h : Words T w g (four q)) :
    w.cell? ⟨g, 0, none⟩ = some (.int .u32 (q.1 : Int)) ∧ w.cell? ⟨g, 1, none⟩ = some (.int .u32 (q.2.1 : Int)) ∧ w.cell? ⟨g, 2, none⟩ = some (.int .u32 (q.2.2.1 : Int)) ∧ w.cell? ⟨g, 3, none⟩ = some (.int .u32 (q.2.2.2 : Int)) :=
  ⟨h.cell (i := 0) (by decide), h.cell (i := 1) (by decide), h.cell (i := 2) (by decide), h.cell (i := 3) (by decide)⟩
theorem bodyPost_of4 {P : Program} {fn : Func} {R : Ending → World → Prop} {a : Act} {w : World} (hd : a.defers = []) (h : ∃ v, (results fn a.tmps).run P w = .ok v w ∧ R (.returned v) w) : bodyPost P fn R .ret a w := by
  obtain ⟨v, h1, h2⟩ := h
  exact bodyPost_ret h1 hd h2
theorem quart_lt (a b c d : Nat) (ha : a < 4294967296) (hb : b < 4294967296) (hc : c < 4294967296) (hd : d < 4294967296) :
    (quart a b c d).1 < 4294967296 ∧ (quart a b c d).2.1 < 4294967296 ∧ (quart a b c d).2.2.1 < 4294967296 ∧ (quart a b c d).2.2.2 < 4294967296 := by
  have d1 := rot_lt (xo d (ad a b)) 16 (xo_lt hd (ad_lt _ _)) (by omega)
  have b1 := rot_lt (xo b (ad c (rot (xo d (ad a b)) 16))) 12 (xo_lt hb (ad_lt _ _)) (by omega)
  simp only [quart]
  generalize rot (xo d (ad a b)) 16 = D1 at *
  generalize rot (xo b (ad c D1)) 12 = B1 at *
  exact ⟨ad_lt _ _, rot_lt _ 7 (xo_lt b1 (ad_lt _ _)) (by omega), ad_lt _ _, rot_lt _ 8 (xo_lt d1 (ad_lt _ _)) (by omega)⟩
theorem quartBack_lt (a b c d : Nat) (ha : a < 4294967296) (hb : b < 4294967296) (hc : c < 4294967296) (hd : d < 4294967296) :
    (quartBack a b c d).1 < 4294967296 ∧ (quartBack a b c d).2.1 < 4294967296 ∧ (quartBack a b c d).2.2.1 < 4294967296 ∧ (quartBack a b c d).2.2.2 < 4294967296 := by
  have b1 := xo_lt (rot_lt b 25 hb (by omega)) hc
  have d1 := xo_lt (rot_lt d 24 hd (by omega)) ha
  simp only [quartBack]
  generalize xo (rot b 25) c = B1 at *
  generalize xo (rot d 24) a = D1 at *
  exact ⟨su_lt _ _, xo_lt (rot_lt B1 20 b1 (by omega)) (su_lt _ _), su_lt _ _, xo_lt (rot_lt D1 16 d1 (by omega)) (su_lt _ _)⟩
attribute [local irreducible] quart quartBack low

theorem quart_eq {A B C D A1 X1 D1 C1 X2 B1 A2 X3 D2 C2 X4 B2 : Nat} (h1 : ad A B = A1) (h2 : xo D A1 = X1) (h3 : rot X1 16 = D1) (h4 : ad C D1 = C1) (h5 : xo B C1 = X2) (h6 : rot X2 12 = B1)
    (h7 : ad A1 B1 = A2) (h8 : xo D1 A2 = X3) (h9 : rot X3 8 = D2) (h10 : ad C1 D2 = C2) (h11 : xo B1 C2 = X4) (h12 : rot X4 7 = B2) : quart A B C D = (A2, B2, C2, D2) := by
  unfold quart
  simp only [h1, h2, h3, h4, h5, h6, h7, h8, h9, h10, h11, h12]

set_option maxRecDepth 100000 in
set_option maxHeartbeats 1000000 in
theorem refQuarter_any (a b c d : Int) (w : World) :
    Calls Tryd.prog 76 #[.int .i64 a, .int .i64 b, .int .i64 c, .int .i64 d] w fun e w' => e = .returned (.tuple #[.int .i64 (quart (low a) (low b) (low c) (low d)).1, .int .i64 (quart (low a) (low b) (low c) (low d)).2.1, .int .i64 (quart (low a) (low b) (low c) (low d)).2.2.1, .int .i64 (quart (low a) (low b) (low c) (low d)).2.2.2]) ∧ Below w.heap.size w w' := by
  have ea : bits .and .i64 a 4294967295 = (low a : Int) := (and_word a).trans (low_eq a)
  have eb : bits .and .i64 b 4294967295 = (low b : Int) := (and_word b).trans (low_eq b)
  have ec : bits .and .i64 c 4294967295 = (low c : Int) := (and_word c).trans (low_eq c)
  have ed : bits .and .i64 d 4294967295 = (low d : Int) := (and_word d).trans (low_eq d)
  have la := low_lt a
  have lb := low_lt b
  have lc := low_lt c
  have ld := low_lt d
  generalize hlA : low a = A at *
  have LA := Kept.mk hlA; clear hlA
  generalize hlB : low b = B at *
  have LB := Kept.mk hlB; clear hlB
  generalize hlC : low c = C at *
  have LC := Kept.mk hlC; clear hlC
  generalize hlD : low d = D at *
  have LD := Kept.mk hlD; clear hlD
  have lA1 := ad_lt A B
  have eA1 := (and_word ((A : Int) + (B : Int))).trans (mod_ad A B)
  generalize hA1 : ad A B = A1 at *
  have HA1 := Kept.mk hA1; clear hA1
  have lX1 := xo_lt ld lA1
  have eX1 := xor_i64 D A1 ld lA1
  generalize hX1 : xo D A1 = X1 at *
  have HX1 := Kept.mk hX1; clear hX1
  have lD1 := rot_lt X1 16 lX1 (by omega)
  generalize hD1 : rot X1 16 = D1 at *
  have HD1 := Kept.mk hD1; clear hD1
  have lC1 := ad_lt C D1
  have eC1 := (and_word ((C : Int) + (D1 : Int))).trans (mod_ad C D1)
  generalize hC1 : ad C D1 = C1 at *
  have HC1 := Kept.mk hC1; clear hC1
  have lX2 := xo_lt lb lC1
  have eX2 := xor_i64 B C1 lb lC1
  generalize hX2 : xo B C1 = X2 at *
  have HX2 := Kept.mk hX2; clear hX2
  have lB1 := rot_lt X2 12 lX2 (by omega)
  generalize hB1 : rot X2 12 = B1 at *
  have HB1 := Kept.mk hB1; clear hB1
  have lA2 := ad_lt A1 B1
  have eA2 := (and_word ((A1 : Int) + (B1 : Int))).trans (mod_ad A1 B1)
  generalize hA2 : ad A1 B1 = A2 at *
  have HA2 := Kept.mk hA2; clear hA2
  have lX3 := xo_lt lD1 lA2
  have eX3 := xor_i64 D1 A2 lD1 lA2
  generalize hX3 : xo D1 A2 = X3 at *
  have HX3 := Kept.mk hX3; clear hX3
  have lD2 := rot_lt X3 8 lX3 (by omega)
  generalize hD2 : rot X3 8 = D2 at *
  have HD2 := Kept.mk hD2; clear hD2
  have lC2 := ad_lt C1 D2
  have eC2 := (and_word ((C1 : Int) + (D2 : Int))).trans (mod_ad C1 D2)
  generalize hC2 : ad C1 D2 = C2 at *
  have HC2 := Kept.mk hC2; clear hC2
  have lX4 := xo_lt lB1 lC2
  have eX4 := xor_i64 B1 C2 lB1 lC2
  generalize hX4 : xo B1 C2 = X4 at *
  have HX4 := Kept.mk hX4; clear hX4
  have lB2 := rot_lt X4 7 lX4 (by omega)
  generalize hB2 : rot X4 7 = B2 at *
  have HB2 := Kept.mk hB2; clear hB2
  go_enter Tryd.func76, Tryd.ntmps76
  go_wp2_with fail
  refine (refRotl_any X1 16 _ lX1 (by omega) (by omega)).mono ?_
  rintro e w1 ⟨rfl, k16, rfl⟩
  rw [HD1.out]
  go_wp2_with fail
  refine (refRotl_any X2 12 _ lX2 (by omega) (by omega)).mono ?_
  rintro e w1 ⟨rfl, k12, rfl⟩
  rw [HB1.out]
  go_wp2_with fail
  refine (refRotl_any X3 8 _ lX3 (by omega) (by omega)).mono ?_
  rintro e w1 ⟨rfl, k8, rfl⟩
  rw [HD2.out]
  go_wp2_with fail
  refine (refRotl_any X4 7 _ lX4 (by omega) (by omega)).mono ?_
  rintro e w1 ⟨rfl, k7, rfl⟩
  rw [HB2.out]
  go_wp2_with fail
  refine bodyPost_of4 rfl ⟨_, by simp [results, Tryd.results76, go_sem]; rfl, ?_, ?_⟩
  · rw [quart_eq HA1.out HX1.out HD1.out HC1.out HX2.out HB1.out HA2.out HX3.out HD2.out HC2.out HX4.out HB2.out]
  · exact below_drewN (Below.refl _ _) _


end Go.Proofs.YtabeehljpdehcaaDoor
