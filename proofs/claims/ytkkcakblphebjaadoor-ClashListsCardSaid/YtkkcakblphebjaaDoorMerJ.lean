/- Trees of sums: the chapter's examples; not too many texts: each by a contract. -/
import Derived.Test.YtkkcakblphebjaaDoorMerI
namespace Go.Proofs.YtkkcakblphebjaaDoor
set_option linter.unusedVariables false
set_option linter.unusedSimpArgs false
open Go.RowKit Go.Lib
theorem cut_2 : cutN 2 = 1 := cutN_small 2 (by omega)
theorem cut_3 : cutN 3 = 2 := cutN_of 3 1 (by decide) (by decide) (by decide)
theorem cut_5 : cutN 5 = 4 := cutN_of 5 2 (by decide) (by decide) (by decide)
theorem root_2 (w : Nat) (a b : List UInt8) : tRoot w [a, b] = tNode w a b := by
  have e : [a, b].length = 2 := rfl
  rw [tRoot_node w [a, b] (by simp), e, cut_2]
  show tNode w (tRoot w [a]) (tRoot w [b]) = _
  rw [tRoot_one, tRoot_one]
theorem root_3 (w : Nat) (a b c : List UInt8) : tRoot w [a, b, c] = tNode w (tNode w a b) c := by
  have e : [a, b, c].length = 3 := rfl
  rw [tRoot_node w [a, b, c] (by simp), e, cut_3]
  show tNode w (tRoot w [a, b]) (tRoot w [c]) = _
  rw [tRoot_one, root_2]
theorem proof_3 (w : Nat) (a b c : List UInt8) : tProof w 2 [a, b, c] = [tNode w a b] := by
  have e : [a, b, c].length = 3 := rfl
  rw [tProof_right w 2 [a, b, c] (by simp) (by rw [e, cut_3]; decide), e, cut_3]
  show tProof w 0 [c] ++ [tRoot w [a, b]] = _
  rw [tProof_short w 0 [c] (by simp), root_2]; rfl
theorem wid_32 : wid 32 = 32 := by unfold wid; rfl
theorem leaf_lit (c : UInt8) (W : World) (hk : KAt W) : Calls Tryd.prog 34 #[.int .i64 32, .string ⟨#[c]⟩] W fun e w' => e = .returned (.string (str (tLeaf 32 [c]))) ∧ Below W.heap.size W w' := by
  have h := Leaf_any 32 [c] W hk (by simp)
  rw [wid_32] at h
  exact h
theorem RowAt.drew {w : World} {A : Option Addr} {xs : List Value} (h : RowAt w A xs) : RowAt w.drew A xs := fun hx => h hx
theorem mnode (a b : List UInt8) (W : World) (hk : KAt W) (ha : a.length = 32) (hb : b.length = 32) :
    Calls Tryd.prog 58 #[.int .i64 32, .string (str a), .string (str b)] W fun e w' => e = .returned (.string (str (tNode 32 a b))) ∧ Below W.heap.size W w' := by
  have h := Node_any 32 a b W hk (by omega)
  rw [wid_32] at h
  exact h
theorem mcut_5 (W : World) : Calls Tryd.prog 56 #[.int .i64 5] W fun e w' => e = .returned (.int .i64 4) ∧ W = w' :=
  (Cut_any 5 W (by decide)).mono fun e w' h => by rw [cut_5] at h; exact h
theorem below_allocM {w X : World} (h : Below w.heap.size w X) (o : Obj) : Below w.heap.size w (X.alloc o) := h.alloc h.size o
attribute [local irreducible] str sSum wid tS tLeaf tNode cutN strs
end Go.Proofs.YtkkcakblphebjaaDoor
