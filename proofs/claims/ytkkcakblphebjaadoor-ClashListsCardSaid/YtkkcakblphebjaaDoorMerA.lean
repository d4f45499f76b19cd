/- Trees of sums: the sums of the program, each by a contract. -/
import Derived.Test.YtkkcakblphebjaaDoorMerM
import Derived.Test.YtkkcakblphebjaaDoorStrO
import Derived.Test.YtkkcakblphebjaaDoorRfB
import Derived.Deep.Slices
namespace Go.Proofs.YtkkcakblphebjaaDoor
set_option linter.unusedVariables false
set_option linter.unusedSimpArgs false
open Go.RowKit Go.Lib

theorem row_new (W : World) (ls : List (List UInt8)) (T : TypeId) : RowAt (W.alloc (.cells (strs ls).toArray T)) (some ⟨W.heap.size, 0, none⟩) (strs ls) := fun _ =>
  ⟨_, rfl, by simp, fun j u hu => by
    rw [at_add, Joins.cell_of_block (heap_new W _ _ rfl) j]
    simpa using hu⟩
theorem KAt.alloc {w : World} (h : KAt w) (o : Obj) : KAt (w.alloc o) := h.below ((Below.refl _ _).alloc (Nat.le_refl _) _)
theorem KAt.drew {w : World} (h : KAt w) : KAt w.drew := ⟨h.lt, h.cell⟩
theorem below_new {W w' : World} {o : Obj} (h : Below (W.alloc o).heap.size (W.alloc o) w') : Below W.heap.size W w' := ((Below.refl _ _).alloc (Nat.le_refl _) _).trans (h.mono (by simp))
theorem RowAt.drop {w : World} {ad : Addr} {xs : List Value} (h : RowAt w (some ad) xs) (k : Nat) (hk : k < xs.length) : RowAt w (some (ad.add k)) (xs.drop k) := by
  intro _
  obtain ⟨a, e, hl, hc⟩ := h (by omega)
  cases e
  exact ⟨_, rfl, by rw [add_block]; exact hl, fun j u hu => by
    rw [Go.Deep.add_add]
    rw [List.getElem?_drop] at hu
    exact hc _ _ hu⟩
theorem strs_drop (ls : List (List UInt8)) (k : Nat) : (strs ls).drop k = strs (ls.drop k) := by simp [strs]
theorem strs_take (ls : List (List UInt8)) (k : Nat) : (strs ls).take k = strs (ls.take k) := by simp [strs]
theorem str_take (r : List UInt8) (n : Nat) (h : n ≤ r.length) : (str r).extract 0 n = str (r.take n) := by
  apply ByteArray.ext; apply Array.toList_inj.1
  rw [ByteArray.data_extract, Array.toList_extract]
  simp [str]
theorem flatten_le (m : List (List UInt8)) (L : Nat) (h : ∀ l ∈ m, l.length ≤ L) : m.flatten.length ≤ L * m.length := by
  induction m with
  | nil => simp
  | cons a r ih =>
    have h1 := h a (by simp)
    have h2 := ih fun l hl => h l (by simp [hl])
    simp only [List.flatten_cons, List.length_append, List.length_cons, Nat.mul_succ]
    omega

set_option maxRecDepth 100000 in
theorem Width_any (w : Int) (W : World) : Calls Tryd.prog 54 #[.int .i64 w] W fun e w' => e = .returned (.int .i64 ((wid w : Nat) : Int)) ∧ W = w' := by
  have h : min (max w 1) 32 = ((wid w : Nat) : Int) := by unfold wid; (repeat' split) <;> omega
  go_enter Tryd.func54, Tryd.ntmps54
  go_wp2_with fail
  go_ret
  exact ⟨by first | rfl | (rw [← h]; rfl), rfl⟩
section
attribute [local irreducible] str sSum wid

set_option maxRecDepth 100000 in
set_option maxHeartbeats 1000000 in
theorem Sum_any (w : Int) (A : Option Addr) (n c : Nat) (ls : List (List UInt8)) (W : World) (hn : ls.length = n) (hr : RowAt W A (strs ls)) (hk : KAt W) (hl : ls.flatten.length ≤ 900000000) (hn2 : n ≤ 1000000000) :
    Calls Tryd.prog 26 #[.int .i64 w, .slice A n c] W fun e w' => e = .returned (.string (str (tS (wid w) ls.flatten))) ∧ Below W.heap.size W w' := by
  subst hn
  have hw := wid_range w
  have hsl := sSum_length ls.flatten
  have HT := Kept.mk (show (sSum ls.flatten).take (wid w) = tS (wid w) ls.flatten from rfl)
  go_enter Tryd.func26, Tryd.ntmps26
  go_wp2_with fail
  with_reducible refine (shaSum_any A c ls W hr hk hl hn2).mono ?_
  rintro e w1 ⟨rfl, hb1⟩
  have HB := Kept.mk hb1
  clear hb1 hr hk
  go_wp2_with fail
  with_reducible refine (Width_any w w1).mono ?_
  rintro e w2 ⟨rfl, rfl⟩
  have hst := str_take (sSum ls.flatten) (wid w) (by omega)
  have hss := str_size (sSum ls.flatten)
  rw [hsl] at hss
  rw [HT.out] at hst
  generalize hX : tS (wid w) ls.flatten = X at *
  generalize hK : wid w = k at *
  generalize sSum ls.flatten = Y at *
  have hk1 : k ≤ 32 := hw.2
  have HX := Kept.mk hX
  have HK := Kept.mk hK
  clear hX hK
  go_wp2_with fail
  go_ret
  exact ⟨by rw [HK.out, HX.out]; rfl, HB.out⟩
end
theorem Sum_0 (w : Int) (W : World) (hk : KAt W) : Calls Tryd.prog 26 #[.int .i64 w, .slice none 0 0] W fun e w' => e = .returned (.string (str (tS (wid w) []))) ∧ Below W.heap.size W w' :=
  Sum_any w none 0 0 [] W rfl (fun h => absurd h (by simp [strs])) hk (by simp) (by simp)
theorem Sum_2 (w : Int) (a b : List UInt8) (W : World) (T : TypeId) (hk : KAt W) (hl : a.length + b.length ≤ 900000000) :
    Calls Tryd.prog 26 #[.int .i64 w, .slice (some ⟨W.heap.size, 0, none⟩) 2 2] (W.alloc (.cells #[.string (str a), .string (str b)] T)) fun e w' => e = .returned (.string (str (tS (wid w) (a ++ b)))) ∧ Below W.heap.size W w' :=
  (Sum_any w _ 2 2 [a, b] _ rfl (row_new W [a, b] T) (hk.alloc _) (by simp; omega) (by simp)).mono fun e w' h => ⟨by rw [h.1]; simp, below_new h.2⟩
theorem Sum_3 (w : Int) (a b d : List UInt8) (W : World) (T : TypeId) (hk : KAt W) (hl : a.length + b.length + d.length ≤ 900000000) :
    Calls Tryd.prog 26 #[.int .i64 w, .slice (some ⟨W.heap.size, 0, none⟩) 3 3] (W.alloc (.cells #[.string (str a), .string (str b), .string (str d)] T)) fun e w' => e = .returned (.string (str (tS (wid w) (a ++ (b ++ d))))) ∧ Below W.heap.size W w' :=
  (Sum_any w _ 3 3 [a, b, d] _ rfl (row_new W [a, b, d] T) (hk.alloc _) (by simp; omega) (by simp)).mono fun e w' h => ⟨by rw [h.1]; simp, below_new h.2⟩
theorem Sum_leaf (w : Int) (b : List UInt8) (W : World) (T : TypeId) (hk : KAt W) (hl : b.length ≤ 800000000) :
    Calls Tryd.prog 26 #[.int .i64 w, .slice (some ⟨W.heap.size, 0, none⟩) 2 2] (W.alloc (.cells #[.string { data := #[0] }, .string (str b)] T)) fun e w' => e = .returned (.string (str (tLeaf (wid w) b))) ∧ Below W.heap.size W w' :=
  Sum_2 w [0] b W T hk (by simp; omega)
theorem Sum_node (w : Int) (a b : List UInt8) (W : World) (T : TypeId) (hk : KAt W) (hl : a.length + b.length ≤ 800000000) :
    Calls Tryd.prog 26 #[.int .i64 w, .slice (some ⟨W.heap.size, 0, none⟩) 3 3] (W.alloc (.cells #[.string { data := #[1] }, .string (str a), .string (str b)] T)) fun e w' => e = .returned (.string (str (tNode (wid w) a b))) ∧ Below W.heap.size W w' :=
  Sum_3 w [1] a b W T hk (by simp; omega)
section
attribute [local irreducible] str sSum wid tS tLeaf tNode

set_option maxRecDepth 100000 in
set_option maxHeartbeats 1000000 in
theorem Leaf_any (w : Int) (b : List UInt8) (W : World) (hk : KAt W) (hl : b.length ≤ 800000000) :
    Calls Tryd.prog 34 #[.int .i64 w, .string (str b)] W fun e w' => e = .returned (.string (str (tLeaf (wid w) b))) ∧ Below W.heap.size W w' := by
  go_enter Tryd.func34, Tryd.ntmps34
  go_wp2_with fail
  with_reducible refine (Sum_leaf w b W _ hk hl).mono ?_
  rintro e w1 ⟨rfl, hb1⟩
  go_wp2_with fail
  go_ret
  exact ⟨rfl, hb1⟩

set_option maxRecDepth 100000 in
set_option maxHeartbeats 1000000 in
theorem Node_any (w : Int) (a b : List UInt8) (W : World) (hk : KAt W) (hl : a.length + b.length ≤ 800000000) :
    Calls Tryd.prog 58 #[.int .i64 w, .string (str a), .string (str b)] W fun e w' => e = .returned (.string (str (tNode (wid w) a b))) ∧ Below W.heap.size W w' := by
  go_enter Tryd.func58, Tryd.ntmps58
  go_wp2_with fail
  with_reducible refine (Sum_node w a b W _ hk hl).mono ?_
  rintro e w1 ⟨rfl, hb1⟩
  go_wp2_with fail
  go_ret
  exact ⟨rfl, hb1⟩
end
end Go.Proofs.YtkkcakblphebjaaDoor
