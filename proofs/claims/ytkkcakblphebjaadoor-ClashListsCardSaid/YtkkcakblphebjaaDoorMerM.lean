/- Trees of sums on lists of bytes. -/
import Derived.Test.YtkkcakblphebjaaDoorShaI
import Derived.Test.YtkkcakblphebjaaDoorMerZ
namespace Go.Proofs.YtkkcakblphebjaaDoor
set_option linter.unusedVariables false
set_option linter.unusedSimpArgs false
open Go.RowKit Go.Lib
def wid (w : Int) : Nat := if w < 1 then 1 else if 32 < w then 32 else w.toNat
theorem wid_range (w : Int) : 1 ≤ wid w ∧ wid w ≤ 32 := by unfold wid; (repeat' split) <;> omega
def tS (w : Nat) (x : List UInt8) : List UInt8 := (sSum x).take w
theorem tS_length (w : Nat) (x : List UInt8) (h : w ≤ 32) : (tS w x).length = w := by rw [tS, List.length_take, sSum_length]; omega
def tLeaf (w : Nat) (x : List UInt8) : List UInt8 := tS w (0 :: x)
def tNode (w : Nat) (a b : List UInt8) : List UInt8 := tS w (1 :: (a ++ b))
theorem tLeaf_length (w : Nat) (x : List UInt8) (h : w ≤ 32) : (tLeaf w x).length = w := tS_length _ _ h
theorem tNode_length (w : Nat) (a b : List UInt8) (h : w ≤ 32) : (tNode w a b).length = w := tS_length _ _ h
/-- the root of leaves' sums -/
def tRoot (w : Nat) (l : List (List UInt8)) : List UInt8 :=
  if h0 : l.length = 0 then tS w [] else
  if h1 : l.length = 1 then l.headD [] else
  tNode w (tRoot w (l.take (cutN l.length))) (tRoot w (l.drop (cutN l.length)))
termination_by l.length
decreasing_by
  · rw [List.length_take]; have := cutN_lt l.length (by omega); omega
  · rw [List.length_drop]; have := cutN_pos l.length; omega
theorem tRoot_nil (w : Nat) : tRoot w [] = tS w [] := by rw [tRoot]; simp
theorem tRoot_one (w : Nat) (x : List UInt8) : tRoot w [x] = x := by rw [tRoot]; simp
theorem tRoot_node (w : Nat) (l : List (List UInt8)) (h : 2 ≤ l.length) :
    tRoot w l = tNode w (tRoot w (l.take (cutN l.length))) (tRoot w (l.drop (cutN l.length))) := by
  conv => lhs; rw [tRoot]
  rw [dif_neg (by omega), dif_neg (by omega)]
theorem tRoot_le (w : Nat) (hw : w ≤ 32) (L : Nat) (hL : 32 ≤ L) (l : List (List UInt8)) (h : ∀ x ∈ l, x.length ≤ L) : (tRoot w l).length ≤ L := by
  match l, h with
  | [], _ => rw [tRoot_nil, tS_length _ _ hw]; omega
  | [x], h => rw [tRoot_one]; exact h x (by simp)
  | a :: b :: r, _ => rw [tRoot_node _ _ (by simp), tNode_length _ _ _ hw]; omega
theorem tRoot_width (w : Nat) (hw : w ≤ 32) (l : List (List UInt8)) (h : ∀ x ∈ l, x.length = w) : (tRoot w l).length = w := by
  match l, h with
  | [], _ => rw [tRoot_nil, tS_length _ _ hw]
  | [x], h => rw [tRoot_one]; exact h x (by simp)
  | a :: b :: r, _ => rw [tRoot_node _ _ (by simp), tNode_length _ _ _ hw]

/-- beside the way from leaf i up -/
def tProof (w : Nat) (i : Nat) (l : List (List UInt8)) : List (List UInt8) :=
  if h0 : l.length < 2 then [] else
  if i < cutN l.length then tProof w i (l.take (cutN l.length)) ++ [tRoot w (l.drop (cutN l.length))]
  else tProof w (i - cutN l.length) (l.drop (cutN l.length)) ++ [tRoot w (l.take (cutN l.length))]
termination_by l.length
decreasing_by
  · rw [List.length_take]; have := cutN_lt l.length (by omega); omega
  · rw [List.length_drop]; have := cutN_pos l.length; omega
theorem tProof_short (w i : Nat) (l : List (List UInt8)) (h : l.length < 2) : tProof w i l = [] := by rw [tProof, dif_pos h]
theorem tProof_left (w i : Nat) (l : List (List UInt8)) (h : 2 ≤ l.length) (hi : i < cutN l.length) :
    tProof w i l = tProof w i (l.take (cutN l.length)) ++ [tRoot w (l.drop (cutN l.length))] := by
  conv => lhs; rw [tProof]
  rw [dif_neg (by omega), if_pos hi]
theorem tProof_right (w i : Nat) (l : List (List UInt8)) (h : 2 ≤ l.length) (hi : ¬ i < cutN l.length) :
    tProof w i l = tProof w (i - cutN l.length) (l.drop (cutN l.length)) ++ [tRoot w (l.take (cutN l.length))] := by
  conv => lhs; rw [tProof]
  rw [dif_neg (by omega), if_neg hi]

/-- up a way, with the sums beside it -/
def tUp (w : Nat) (leaf : List UInt8) : List Bool → List (List UInt8) → List UInt8
  | r :: way, b :: p => tUp w (if r then tNode w b leaf else tNode w leaf b) way p
  | _, _ => leaf
theorem tUp_snoc (w : Nat) (leaf : List UInt8) (way : List Bool) (p : List (List UInt8)) (r : Bool) (b : List UInt8) (h : way.length = p.length) :
    tUp w leaf (way ++ [r]) (p ++ [b]) = if r then tNode w b (tUp w leaf way p) else tNode w (tUp w leaf way p) b := by
  induction way generalizing leaf p with
  | nil =>
    cases p with
    | nil => cases r <;> simp [tUp]
    | cons a q => simp at h
  | cons a q ih =>
    cases p with
    | nil => simp at h
    | cons x y => simp only [List.cons_append, tUp]; exact ih _ _ (by simpa using h)
theorem tProof_way (w i : Nat) (l : List (List UInt8)) : (tProof w i l).length = (tWay i l.length).length := by
  generalize hn : l.length = n
  induction n using Nat.strongRecOn generalizing i l with
  | _ n ih =>
    by_cases h : n < 2
    · rw [tProof_short _ _ _ (by omega), tWay_short _ _ h]; rfl
    · have h1 := cutN_lt n (by omega)
      have h2 := cutN_pos n
      subst hn
      by_cases hi : i < cutN l.length
      · rw [tProof_left _ _ _ (by omega) hi, tWay_left _ _ (by omega) hi, List.length_append, List.length_append, ih _ h1 i (l.take (cutN l.length)) (by rw [List.length_take]; omega)]; rfl
      · rw [tProof_right _ _ _ (by omega) hi, tWay_right _ _ (by omega) hi, List.length_append, List.length_append, ih (l.length - cutN l.length) (by omega) (i - cutN l.length) (l.drop (cutN l.length)) (by rw [List.length_drop])]; rfl
theorem tUp_proof (w i : Nat) (l : List (List UInt8)) (hi : i < l.length) : tUp w (l.getD i []) (tWay i l.length) (tProof w i l) = tRoot w l := by
  generalize hn : l.length = n at hi
  induction n using Nat.strongRecOn generalizing i l with
  | _ n ih =>
    by_cases h : n < 2
    · have hl : l.length = 1 := by omega
      rw [tProof_short _ _ _ (by omega), tWay_short _ _ h]
      match l, hl with
      | [x], _ =>
        have : i = 0 := by omega
        subst this
        rw [tRoot_one]; rfl
    · have h1 := cutN_lt n (by omega)
      have h2 := cutN_pos n
      subst hn
      rw [tRoot_node _ _ (by omega)]
      by_cases hc : i < cutN l.length
      · rw [tProof_left _ _ _ (by omega) hc, tWay_left _ _ (by omega) hc]
        have hlt : (l.take (cutN l.length)).length = cutN l.length := by rw [List.length_take]; omega
        have e := ih _ h1 i (l.take (cutN l.length)) hlt hc
        have hw := tProof_way w i (l.take (cutN l.length))
        rw [hlt] at hw
        rw [tUp_snoc _ _ _ _ _ _ hw.symm]
        have hg : (l.take (cutN l.length)).getD i [] = l.getD i [] := by
          rw [List.getD_eq_getElem?_getD, List.getD_eq_getElem?_getD, List.getElem?_take, if_pos hc]
        rw [hg] at e
        rw [e]; rfl
      · rw [tProof_right _ _ _ (by omega) hc, tWay_right _ _ (by omega) hc]
        have hlt : (l.drop (cutN l.length)).length = l.length - cutN l.length := by rw [List.length_drop]
        have e := ih (l.length - cutN l.length) (by omega) (i - cutN l.length) (l.drop (cutN l.length)) hlt (by omega)
        have hw := tProof_way w (i - cutN l.length) (l.drop (cutN l.length))
        rw [hlt] at hw
        rw [tUp_snoc _ _ _ _ _ _ hw.symm]
        have hg : (l.drop (cutN l.length)).getD (i - cutN l.length) [] = l.getD i [] := by
          rw [List.getD_eq_getElem?_getD, List.getD_eq_getElem?_getD, List.getElem?_drop]; congr 2; omega
        rw [hg] at e
        rw [e]; rfl
end Go.Proofs.YtkkcakblphebjaaDoor
