/- Clashes of trees, on lists of bytes. No program. -/
import Derived.Test.YtkkcakblphebjaaDoorMerM
namespace Go.Proofs.YtkkcakblphebjaaDoor
set_option linter.unusedVariables false
set_option linter.unusedSimpArgs false
open Go.RowKit Go.Lib
abbrev BL := List UInt8
/-- what is summed at the top of a tree over leaves' texts -/
def cTop (w : Nat) (l : List BL) : BL :=
  if h0 : l.length = 0 then [] else
  if h1 : l.length = 1 then 0 :: l.headD [] else
  1 :: (tS w (cTop w (l.take (cutN l.length))) ++ tS w (cTop w (l.drop (cutN l.length))))
termination_by l.length
decreasing_by
  · rw [List.length_take]; have := cutN_lt l.length (by omega); omega
  · rw [List.length_drop]; have := cutN_pos l.length; omega
theorem cTop_nil (w : Nat) : cTop w [] = [] := by rw [cTop]; simp
theorem cTop_one (w : Nat) (x : BL) : cTop w [x] = 0 :: x := by rw [cTop]; simp
theorem cTop_node (w : Nat) (l : List BL) (h : 2 ≤ l.length) : cTop w l = 1 :: (tS w (cTop w (l.take (cutN l.length))) ++ tS w (cTop w (l.drop (cutN l.length)))) := by
  conv => lhs; rw [cTop]
  rw [dif_neg (by omega), dif_neg (by omega)]
theorem cTop_le (w : Nat) (hw : w ≤ 32) (L : Nat) (hL : 64 ≤ L) (l : List BL) (h : ∀ x ∈ l, x.length ≤ L) : (cTop w l).length ≤ L + 1 := by
  match l, h with
  | [], _ => rw [cTop_nil]; simp
  | [x], h => rw [cTop_one, List.length_cons]; have := h x (by simp); omega
  | a :: b :: r, _ => rw [cTop_node _ _ (by simp), List.length_cons, List.length_append, tS_length _ _ hw, tS_length _ _ hw]; omega
def cRoot (w : Nat) (l : List BL) : BL := tS w (cTop w l)
theorem cRoot_of (w : Nat) (l : List BL) : tS w (cTop w l) = cRoot w l := rfl
/-- two tops that are the same: both are nodes of the same sums, or the lists are the same -/
theorem top_same (w : Nat) (hw : w ≤ 32) (a b : List BL) (h : cTop w a = cTop w b) :
    (2 ≤ a.length ∧ 2 ≤ b.length ∧ cRoot w (a.take (cutN a.length)) = cRoot w (b.take (cutN b.length)) ∧ cRoot w (a.drop (cutN a.length)) = cRoot w (b.drop (cutN b.length))) ∨ (a.length < 2 ∧ b.length < 2 ∧ a = b) := by
  by_cases ha : 2 ≤ a.length
  · by_cases hb : 2 ≤ b.length
    · left
      rw [cTop_node w a ha, cTop_node w b hb, List.cons.injEq] at h
      have h2 := List.append_inj h.2 (by rw [tS_length _ _ hw, tS_length _ _ hw])
      exact ⟨ha, hb, h2.1, h2.2⟩
    · exfalso
      rw [cTop_node w a ha] at h
      match b, hb with
      | [], _ => rw [cTop_nil] at h; cases h
      | [x], _ => rw [cTop_one] at h; cases h
      | x :: y :: r, hb => exact hb (by simp)
  · by_cases hb : 2 ≤ b.length
    · exfalso
      rw [cTop_node w b hb] at h
      match a, ha with
      | [], _ => rw [cTop_nil] at h; cases h
      | [x], _ => rw [cTop_one] at h; cases h
      | x :: y :: r, ha => exact ha (by simp)
    · right
      refine ⟨by omega, by omega, ?_⟩
      match a, b, ha, hb with
      | [], [], _, _ => rfl
      | [x], [], _, _ => rw [cTop_nil, cTop_one] at h; cases h
      | [], [y], _, _ => rw [cTop_nil, cTop_one] at h; cases h
      | [x], [y], _, _ => rw [cTop_one, cTop_one, List.cons.injEq] at h; rw [h.2]
      | x :: y :: r, _, ha, _ => exact absurd (by simp) ha
      | _, x :: y :: r, _, hb => exact absurd (by simp) hb
/-- the first unlike texts of two trees -/
def cDif (w : Nat) (a b : List BL) : Option (BL × BL) :=
  if cTop w a ≠ cTop w b then some (cTop w a, cTop w b) else
  if h : a.length < 2 then none else
  match cDif w (a.take (cutN a.length)) (b.take (cutN b.length)) with
  | some p => some p
  | none => cDif w (a.drop (cutN a.length)) (b.drop (cutN b.length))
termination_by a.length
decreasing_by
  · rw [List.length_take]; have := cutN_lt a.length (by omega); omega
  · rw [List.length_drop]; have := cutN_pos a.length; omega
theorem cDif_top (w : Nat) (a b : List BL) (h : cTop w a ≠ cTop w b) : cDif w a b = some (cTop w a, cTop w b) := by rw [cDif, if_pos h]
theorem cDif_short (w : Nat) (a b : List BL) (h : cTop w a = cTop w b) (ha : a.length < 2) : cDif w a b = none := by
  rw [cDif, if_neg (by simpa using h), dif_pos ha]
theorem cDif_node (w : Nat) (a b : List BL) (h : cTop w a = cTop w b) (ha : 2 ≤ a.length) : cDif w a b =
    match cDif w (a.take (cutN a.length)) (b.take (cutN b.length)) with
    | some p => some p
    | none => cDif w (a.drop (cutN a.length)) (b.drop (cutN b.length)) := by
  conv => lhs; rw [cDif]
  rw [if_neg (by simpa using h), dif_neg (by omega)]
theorem cDif_left {w : Nat} {a b : List BL} {p : BL × BL} (h : cTop w a = cTop w b) (ha : 2 ≤ a.length) (hl : cDif w (a.take (cutN a.length)) (b.take (cutN b.length)) = some p) : cDif w a b = some p := by
  rw [cDif_node w a b h ha, hl]
theorem cDif_right {w : Nat} {a b : List BL} (h : cTop w a = cTop w b) (ha : 2 ≤ a.length) (hl : cDif w (a.take (cutN a.length)) (b.take (cutN b.length)) = none) : cDif w a b = cDif w (a.drop (cutN a.length)) (b.drop (cutN b.length)) := by
  rw [cDif_node w a b h ha, hl]
theorem cDif_self (w : Nat) (a : List BL) : cDif w a a = none := by
  generalize hn : a.length = n
  induction n using Nat.strongRecOn generalizing a with
  | _ n ih =>
    by_cases h : a.length < 2
    · exact cDif_short w a a rfl h
    · have h1 := cutN_lt a.length (by omega)
      have h2 := cutN_pos a.length
      rw [cDif_right rfl (by omega) (ih (cutN a.length) (by omega) _ (by rw [List.length_take]; omega))]
      exact ih (a.length - cutN a.length) (by omega) _ (by rw [List.length_drop])
/-- where two unlike lists have one root, there is a clash -/
theorem cDif_finds (w : Nat) (hw : w ≤ 32) (a b : List BL) (h : cRoot w a = cRoot w b) (hne : a ≠ b) : ∃ x y, cDif w a b = some (x, y) ∧ x ≠ y ∧ tS w x = tS w y := by
  generalize hn : a.length = n
  induction n using Nat.strongRecOn generalizing a b with
  | _ n ih =>
    by_cases ht : cTop w a = cTop w b
    · rcases top_same w hw a b ht with ⟨ha, hb, hl, hr⟩ | ⟨_, _, e⟩
      · have h1 := cutN_lt a.length (by omega)
        have h2 := cutN_pos a.length
        by_cases hL : a.take (cutN a.length) = b.take (cutN b.length)
        · have hR : a.drop (cutN a.length) ≠ b.drop (cutN b.length) := by
            intro hR
            apply hne
            rw [← List.take_append_drop (cutN a.length) a, hL, hR, List.take_append_drop]
          obtain ⟨x, y, e, hx, hs⟩ := ih (a.length - cutN a.length) (by omega) _ _ hr hR (by rw [List.length_drop])
          exact ⟨x, y, by rw [cDif_right ht ha (by rw [hL]; exact cDif_self _ _)]; exact e, hx, hs⟩
        · obtain ⟨x, y, e, hx, hs⟩ := ih (cutN a.length) (by omega) _ _ hl hL (by rw [List.length_take]; omega)
          exact ⟨x, y, cDif_left ht ha e, hx, hs⟩
      · exact absurd e hne
    · exact ⟨_, _, cDif_top w a b ht, ht, h⟩
/-- the document's answer for two lists -/
def cLv (w : Nat) (a b : List BL) : Option (BL × BL) := if cRoot w a ≠ cRoot w b then none else cDif w a b
theorem cLv_root {w : Nat} {a b : List BL} (h : cRoot w a ≠ cRoot w b) : cLv w a b = none := if_pos h
theorem cLv_dif {w : Nat} {a b : List BL} (h : cRoot w a = cRoot w b) : cLv w a b = cDif w a b := if_neg (by simpa using h)
theorem cLv_self (w : Nat) (a : List BL) : cLv w a a = none := by rw [cLv_dif rfl, cDif_self]
end Go.Proofs.YtkkcakblphebjaaDoor
