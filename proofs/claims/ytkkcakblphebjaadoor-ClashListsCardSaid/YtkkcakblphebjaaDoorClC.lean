/- The tree that the program grows, in the heap; growing by a contract. -/
import Derived.Test.YtkkcakblphebjaaDoorClB
namespace Go.Proofs.YtkkcakblphebjaaDoor
set_option linter.unusedVariables false
set_option linter.unusedSimpArgs false
open Go.RowKit Go.Lib
/-- a node's cells -/
def GB (X : World) (g : Nat) (a b l r : Value) : Prop := X.heap[g]? = some (.cells #[a, b, l, r] 55 (0, 0))
theorem GB.lt {X : World} {g : Nat} {a b l r : Value} (h : GB X g a b l r) : g < X.heap.size := (Array.getElem?_eq_some_iff.1 h).1
theorem GB.keep {X X' : World} {g : Nat} {a b l r : Value} (h : GB X g a b l r) (hb : Below X.heap.size X X') : GB X' g a b l r := hkept h hb
theorem GB.drew {X : World} {g : Nat} {a b l r : Value} (h : GB X g a b l r) : GB X.drew g a b l r := h
theorem GB.cells {X : World} {g : Nat} {a b l r : Value} (h : GB X g a b l r) :
    (X.cell? ⟨g, 0, none⟩ = some a ∧ X.cell? ⟨g, 1, none⟩ = some b ∧ X.cell? ⟨g, 2, none⟩ = some l ∧ X.cell? ⟨g, 3, none⟩ = some r) ∧
      ∀ j, X.frozen? ⟨g, j, none⟩ = false :=
  ⟨⟨Joins.cell_of_block h 0, Joins.cell_of_block h 1, Joins.cell_of_block h 2, Joins.cell_of_block h 3⟩, fun j => Joins.unfrozen_of_block h j⟩
theorem GB.set0 {X : World} {g : Nat} {a b l r : Value} (h : GB X g a b l r) (v : Value) : GB (X.setCell ⟨g, 0, none⟩ v) g v b l r := Joins.block_setCell h v
theorem GB.set1 {X : World} {g : Nat} {a b l r : Value} (h : GB X g a b l r) (v : Value) : GB (X.setCell ⟨g, 1, none⟩ v) g a v l r := Joins.block_setCell h v
theorem GB.set2 {X : World} {g : Nat} {a b l r : Value} (h : GB X g a b l r) (v : Value) : GB (X.setCell ⟨g, 2, none⟩ v) g a b v r := Joins.block_setCell h v
theorem GB.set3 {X : World} {g : Nat} {a b l r : Value} (h : GB X g a b l r) (v : Value) : GB (X.setCell ⟨g, 3, none⟩ v) g a b l v := Joins.block_setCell h v
/-- a tree over these leaves, all of its nodes at lo or behind -/
inductive TreeAt (w lo : Nat) (X : World) : Nat → List BL → Prop
  | small (g : Nat) (l : List BL) : l.length < 2 → lo ≤ g → GB X g (.string (str (cTop w l))) (.string (str (cRoot w l))) (.pointer none) (.pointer none) → TreeAt w lo X g l
  | node (g gl gr : Nat) (l : List BL) : 2 ≤ l.length → lo ≤ g → TreeAt w lo X gl (l.take (cutN l.length)) → TreeAt w lo X gr (l.drop (cutN l.length)) →
      GB X g (.string (str (cTop w l))) (.string (str (cRoot w l))) (.pointer (some ⟨gl, 0, none⟩)) (.pointer (some ⟨gr, 0, none⟩)) → TreeAt w lo X g l
theorem TreeAt.keep {w lo : Nat} {X X' : World} {g : Nat} {l : List BL} (h : TreeAt w lo X g l) (hX : ∀ k, lo ≤ k → k < X.heap.size → X'.heap[k]? = X.heap[k]?) : TreeAt w lo X' g l := by
  induction h with
  | small g l h1 h2 h3 => exact .small g l h1 h2 ((hX g h2 h3.lt).trans h3)
  | node g gl gr l h1 h2 _ _ h3 ih1 ih2 => exact .node g gl gr l h1 h2 ih1 ih2 ((hX g h2 h3.lt).trans h3)
theorem TreeAt.lower {w lo lo' : Nat} {X : World} {g : Nat} {l : List BL} (h : TreeAt w lo X g l) (hl : lo' ≤ lo) : TreeAt w lo' X g l := by
  induction h with
  | small g l h1 h2 h3 => exact .small g l h1 (by omega) h3
  | node g gl gr l h1 h2 _ _ h3 ih1 ih2 => exact .node g gl gr l h1 (by omega) ih1 ih2 h3
theorem TreeAt.belowT {w lo : Nat} {X X' : World} {g : Nat} {l : List BL} (h : TreeAt w lo X g l) (hb : Below X.heap.size X X') : TreeAt w lo X' g l := h.keep fun k _ hk => hb.block k hk
theorem TreeAt.drew {w lo : Nat} {X : World} {g : Nat} {l : List BL} (h : TreeAt w lo X g l) : TreeAt w lo X.drew g l := h.keep fun _ _ _ => rfl
theorem TreeAt.set {w lo : Nat} {X : World} {g : Nat} {l : List BL} (h : TreeAt w lo X g l) (g0 j : Nat) (v : Value) (hg : g0 < lo) : TreeAt w lo (X.setCell ⟨g0, j, none⟩ v) g l :=
  h.keep fun k hk _ => Below.heap_setCell X ⟨g0, j, none⟩ v k (by show k ≠ g0; omega)
theorem TreeAt.root {w lo : Nat} {X : World} {g : Nat} {l : List BL} (h : TreeAt w lo X g l) : X.cell? ⟨g, 1, none⟩ = some (.string (str (cRoot w l))) ∧ X.cell? ⟨g, 0, none⟩ = some (.string (str (cTop w l))) := by
  cases h with
  | small _ _ _ _ h => exact ⟨h.cells.1.2.1, h.cells.1.1⟩
  | node _ _ _ _ _ _ _ _ h => exact ⟨h.cells.1.2.1, h.cells.1.1⟩
theorem TreeAt.lo_le {w lo : Nat} {X : World} {g : Nat} {l : List BL} (h : TreeAt w lo X g l) : lo ≤ g := by cases h <;> assumption
theorem gb_next {cur wA : World} {g : Nat} {a b l r : Value} {G : Prop} (h : GB cur g a b l r) (bA : Below cur.heap.size cur wA)
    (k : GB wA g a b l r → wA.cell? ⟨g, 0, none⟩ = some a → wA.cell? ⟨g, 1, none⟩ = some b → wA.cell? ⟨g, 2, none⟩ = some l → wA.cell? ⟨g, 3, none⟩ = some r → (∀ j, wA.frozen? ⟨g, j, none⟩ = false) → g + 1 ≤ cur.heap.size → G) : G :=
  k (h.keep bA) (h.keep bA).cells.1.1 (h.keep bA).cells.1.2.1 (h.keep bA).cells.1.2.2.1 (h.keep bA).cells.1.2.2.2 (h.keep bA).cells.2 h.lt
theorem tree_next {w lo : Nat} {cur wA : World} {gP : Nat} {l : List BL} {G : Prop} (h : TreeAt w lo cur gP l) (bA : Below cur.heap.size cur wA)
    (k : TreeAt w lo wA gP l → wA.cell? ⟨gP, 1, none⟩ = some (.string (str (cRoot w l))) → G) : G := k (h.belowT bA) (h.belowT bA).root.1
theorem bset {B : Nat} {a w : World} (h : Below B a w) (g j : Nat) (v : Value) (hg : B ≤ g) : Below B a (w.setCell ⟨g, j, none⟩ v) := h.setCell (p := ⟨g, j, none⟩) hg v
theorem Sum_1n (w : Int) (a : List UInt8) (W : World) (T : TypeId) (n : Nat) (hn : n = W.heap.size) (hk : KAt W) (hl : a.length ≤ 900000000) :
    Calls Tryd.prog 26 #[.int .i64 w, .slice (some ⟨n, 0, none⟩) 1 1] (W.alloc (.cells #[.string (str a)] T)) fun e w' => e = .returned (.string (str (tS (wid w) a))) ∧ Below W.heap.size W w' := by
  subst hn; exact Sum_1 w a W T hk hl
theorem str_nilM' : str [] = ({ data := #[] } : ByteArray) := rfl
/-- what growing leaves -/
def Grown (w : Int) (W : World) (ls : List BL) (e : Ending) (w' : World) : Prop := ∃ g, e = .returned (.pointer (some ⟨g, 0, none⟩)) ∧ TreeAt (wid w) W.heap.size w' g ls ∧ Below W.heap.size W w'
attribute [local irreducible] str sSum wid tS tLeaf tNode cutN cRoot
set_option maxRecDepth 100000 in
set_option maxHeartbeats 2000000 in
theorem grown_0 (w : Int) (A : Option Addr) (c : Nat) (W : World) (hk : KAt W) :
    Calls Tryd.prog 29 #[.int .i64 w, .slice A 0 c] W fun e w' => Grown w W [] e w' := by
  have HX := Kept.mk (cRoot_of (wid w) [])
  have HT := Kept.mk (cTop_nil (wid w))
  rw [cTop_nil] at HX
  have HF := Kept.mk (fun X g (h : GB X g (.string (str [])) (.string (str (tS (wid w) []))) (.pointer none) (.pointer none)) (hg : W.heap.size ≤ g) =>
    TreeAt.small (w := wid w) (lo := W.heap.size) (X := X) g [] (by simp) hg (by rw [HT.out, ← HX.out]; exact h))
  clear HX HT
  generalize hs : tS (wid w) [] = s at *
  have HS := Kept.mk (fun w' T (hb : Below W.heap.size W w') => hs ▸ Sum_1 w [] w' T (hk.below hb) (by simp))
  clear hk hs
  go_enter Tryd.func29, Tryd.ntmps29
  go_upto_region 2 with fail
  have hg : GB (W.alloc (.cells #[.string { data := #[] }, .string { data := #[] }, .pointer none, .pointer none] 55)) W.heap.size _ _ _ _ := hnew W _
  have hb := bnew W (.cells #[.string { data := #[] }, .string { data := #[] }, .pointer none, .pointer none] 55)
  generalize W.alloc (.cells #[.string { data := #[] }, .string { data := #[] }, .pointer none, .pointer none] 55) = X at *
  generalize hq : W.heap.size = g at hg ⊢
  have hgl : W.heap.size ≤ g := by omega
  obtain ⟨⟨c0, c1, c2, c3⟩, nf⟩ := hg.cells
  have HG := Kept.mk hg
  have HB := Kept.mk hb
  clear hg hb
  rw [str_nilM'] at HS HF
  go_wp2_with fail
  with_reducible refine (HS.out X _ HB.out).mono ?_
  rintro e X2 ⟨rfl, b2⟩
  clear c0 c1 c2 c3 nf
  refine gb_next HG.out b2 ?_
  intro hg2 c0 c1 c2 c3 nf _
  have HG2 := Kept.mk hg2
  have HB2 := Kept.mk (bnext HB.out b2)
  clear hg2 b2
  go_wp2_with fail
  go_ret
  exact ⟨g, rfl, HF.out _ _ (HG2.out.set1 _) hgl, bset HB2.out g 1 _ hgl⟩
set_option maxRecDepth 100000 in
set_option maxHeartbeats 2000000 in
theorem grown_1 (w : Int) (ad : Addr) (x : BL) (c : Nat) (W : World) (hk : KAt W) (hx : x.length ≤ 400000000) (hr : RowAt W (some ad) (strs [x])) (hc : 1 ≤ c) :
    Calls Tryd.prog 29 #[.int .i64 w, .slice (some ad) 1 c] W fun e w' => Grown w W [x] e w' := by
  have HX := Kept.mk (cRoot_of (wid w) [x])
  have HT := Kept.mk (cTop_one (wid w) x)
  rw [cTop_one] at HX
  have HF := Kept.mk (fun X g (h : GB X g (.string (str (0 :: x))) (.string (str (tS (wid w) (0 :: x)))) (.pointer none) (.pointer none)) (hg : W.heap.size ≤ g) =>
    TreeAt.small (w := wid w) (lo := W.heap.size) (X := X) g [x] (by simp) hg (by rw [HT.out, ← HX.out]; exact h))
  clear HX HT
  have HS := Kept.mk (fun w' T n (hn : n = w'.heap.size) (hb : Below W.heap.size W w') => Sum_1n w (0 :: x) w' T n hn (hk.below hb) (by simp; omega))
  generalize tS (wid w) (0 :: x) = s at *
  have HR := Kept.mk (fun w' (hb : Below W.heap.size W w') => hr.below hb)
  clear hk hr
  have e0 := lit_0
  have A0 := str_append [0] x
  rw [List.singleton_append] at A0
  have s1 := str_size x
  have s0 := str0_size
  have p1 : ¬ (9223372036854775807 < (str [0]).size + (str x).size) := by omega
  generalize 0 :: x = y at *
  go_enter Tryd.func29, Tryd.ntmps29
  go_upto_region 2 with fail
  have hg : GB (W.alloc (.cells #[.string { data := #[] }, .string { data := #[] }, .pointer none, .pointer none] 55)) W.heap.size _ _ _ _ := hnew W _
  have hb := bnew W (.cells #[.string { data := #[] }, .string { data := #[] }, .pointer none, .pointer none] 55)
  generalize W.alloc (.cells #[.string { data := #[] }, .string { data := #[] }, .pointer none, .pointer none] 55) = X at *
  obtain ⟨ad2, had, hl2, hcell⟩ := HR.out X hb (by simp [strs])
  cases had
  have cx := hcell 0 _ (by simp [strs]; rfl)
  rw [add_0] at cx
  clear hcell hl2
  generalize hq : W.heap.size = g at hg ⊢
  have hgl : W.heap.size ≤ g := by omega
  obtain ⟨⟨c0, c1, c2, c3⟩, nf⟩ := hg.cells
  have HG := Kept.mk (hg.set0 (.string (str y)))
  have HB := Kept.mk (bset hb g 0 (.string (str y)) hgl)
  clear hg hb
  go_wp2_with fail
  with_reducible refine (HS.out _ _ _ (by simp [World.setCell]) HB.out).mono ?_
  rintro e X2 ⟨rfl, b2⟩
  clear c0 c1 c2 c3 nf cx
  refine gb_next HG.out b2 ?_
  intro hg2 c0 c1 c2 c3 nf _
  have HG2 := Kept.mk hg2
  have HB2 := Kept.mk (bnext HB.out b2)
  clear hg2 b2
  go_wp2_with fail
  go_ret
  exact ⟨g, rfl, HF.out _ _ (HG2.out.set1 _) hgl, bset HB2.out g 1 _ hgl⟩
end Go.Proofs.YtkkcakblphebjaaDoor
