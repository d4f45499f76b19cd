/- SHA-256: the chapter's examples; of a hash that is none there is nothing; hashes side by side: walked by the contracts. -/
import Derived.Test.YtkkcakblphebjaaDoorShaH
namespace Go.Proofs.YtkkcakblphebjaaDoor
set_option linter.unusedSimpArgs false
set_option linter.unusedVariables false
set_option linter.unusedVariables false
open Go.RowKit Go.Lib

theorem lit_empty : str (sSum ([] : List (List UInt8)).flatten) = ({ data := #[227, 176, 196, 66, 152, 252, 28, 20, 154, 251, 244, 200, 153, 111, 185, 36, 39, 174, 65, 228, 100, 155, 147, 76, 164, 149, 153, 27, 120, 82, 184, 85] } : ByteArray) := by
  rw [List.flatten_nil, sum_empty]; rfl
theorem lit_abc : str (sSum [[97, 98, 99]].flatten) = ({ data := #[186, 120, 22, 191, 143, 1, 207, 234, 65, 65, 64, 222, 93, 174, 34, 35, 176, 3, 97, 163, 150, 23, 122, 156, 180, 16, 255, 97, 242, 0, 21, 173] } : ByteArray) := by
  rw [show ([[97, 98, 99]] : List (List UInt8)).flatten = [97, 98, 99] from rfl, sum_abc]; rfl
theorem row_nil (w : World) : RowAt w none (strs []) := fun h => absurd h (by simp [strs])
theorem row_one (w : World) (l : List UInt8) (T : TypeId) : RowAt (w.alloc (.cells #[.string (str l)] T)) (some ⟨w.heap.size, 0, none⟩) (strs [l]) := fun _ =>
  ⟨_, rfl, by simp, fun j u hu => by
    match j, hu with
    | 0, hu =>
      simp only [strs, List.map_cons, List.map_nil, List.getElem?_cons_zero, Option.some.injEq] at hu
      subst hu
      rw [show (⟨w.heap.size, 0, none⟩ : Addr).add 0 = ⟨w.heap.size, 0, none⟩ from rfl]
      exact Joins.cell_of_block (heap_new w _ _ rfl) 0
    | (j + 1), hu => simp [strs] at hu⟩
theorem flat_one (l : List UInt8) : [l].flatten = l := by simp
attribute [local irreducible] hcells sFold Lib.byteCells eightL gput sMix sW rnds St.add wc64 sPad sOut sSum

theorem sum_lit0 (w : World) (hk : KAt w) :
    Calls Tryd.prog 53 #[.slice none 0 0] w fun e w' => e = .returned (.string ({ data := #[227, 176, 196, 66, 152, 252, 28, 20, 154, 251, 244, 200, 153, 111, 185, 36, 39, 174, 65, 228, 100, 155, 147, 76, 164, 149, 153, 27, 120, 82, 184, 85] } : ByteArray)) ∧ Below w.heap.size w w' :=
  (shaSum_any none 0 [] w (row_nil w) hk (by simp) (by simp)).mono fun e w' h => ⟨by rw [h.1, lit_empty], h.2⟩
theorem sum_lit1 (w : World) (hk : KAt w) (T : TypeId) :
    Calls Tryd.prog 53 #[.slice (some ⟨w.heap.size, 0, none⟩) 1 1] (w.alloc (.cells #[.string { data := #[97, 98, 99] }] T)) fun e w' => e = .returned (.string ({ data := #[186, 120, 22, 191, 143, 1, 207, 234, 65, 65, 64, 222, 93, 174, 34, 35, 176, 3, 97, 163, 150, 23, 122, 156, 180, 16, 255, 97, 242, 0, 21, 173] } : ByteArray)) ∧ Below w.heap.size w w' :=
  (shaSum_any (some ⟨w.heap.size, 0, none⟩) 1 [[97, 98, 99]] (w.alloc (.cells #[.string { data := #[97, 98, 99] }] T)) (row_one w [97, 98, 99] T) (hk.below ((Below.refl _ _).alloc (Nat.le_refl _) _)) (by simp) (by simp)).mono fun e w' h => ⟨by rw [h.1, lit_abc], ((Below.refl _ _).alloc (Nat.le_refl _) _).trans (h.2.mono (by simp))⟩
theorem sum_one (l : List UInt8) (w : World) (hk : KAt w) (T : TypeId) (hl : l.length ≤ 900000000) :
    Calls Tryd.prog 53 #[.slice (some ⟨w.heap.size, 0, none⟩) 1 1] (w.alloc (.cells #[.string (str l)] T)) fun e w' => e = .returned (.string (str (sSum l))) ∧ Below w.heap.size w w' :=
  (shaSum_any (some ⟨w.heap.size, 0, none⟩) 1 [l] (w.alloc (.cells #[.string (str l)] T)) (row_one w l T) (hk.below ((Below.refl _ _).alloc (Nat.le_refl _) _)) (by rw [flat_one]; exact hl) (by simp)).mono fun e w' h => ⟨by rw [h.1, flat_one], ((Below.refl _ _).alloc (Nat.le_refl _) _).trans (h.2.mono (by simp))⟩
theorem write_first (g : Nat) (m : List UInt8) (w : World) (hh : HashT w g [] 0) (hk : KAt w) (hg : 0 < g) (hl : m.length ≤ 1000000000) :
    Calls Tryd.prog 82 #[.pointer (some ⟨g, 0, none⟩), .string (str m)] w fun e w' => e = .returned (.tuple #[]) ∧ HashT w' g m (m.length : Nat) ∧ But g w w' := by
  have h := write_any g [] m w hh hk hg (by simpa using hl)
  rw [List.nil_append, show ([] : List UInt8).length + m.length = m.length from by simp] at h
  exact h
theorem KAt.drewN {w : World} (h : KAt w) (n : Nat) : KAt (w.drewN n) := ⟨h.lt, h.cell⟩
attribute [local irreducible] str

end Go.Proofs.YtkkcakblphebjaaDoor
