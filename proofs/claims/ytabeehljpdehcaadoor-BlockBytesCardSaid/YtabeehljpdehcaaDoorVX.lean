/- ChaCha's block by definition: by a contract. -/
import Derived.Test.YtabeehljpdehcaaDoorVW
import Derived.Test.YtabeehljpdehcaaDoorChI
namespace Go.Proofs.YtabeehljpdehcaaDoor
set_option linter.unusedVariables false
set_option linter.unusedSimpArgs false
open Go.RowKit Go.Lib
theorem list_16 (xs : List Nat) (h : xs.length = 16) : ∃ a0 a1 a2 a3 a4 a5 a6 a7 a8 a9 a10 a11 a12 a13 a14 a15, xs = [a0, a1, a2, a3, a4, a5, a6, a7, a8, a9, a10, a11, a12, a13, a14, a15] := by
  match xs, h with
  | [a0, a1, a2, a3, a4, a5, a6, a7, a8, a9, a10, a11, a12, a13, a14, a15], _ => exact ⟨_, _, _, _, _, _, _, _, _, _, _, _, _, _, _, _, rfl⟩
/-- a quarter round, word by word -/
def rq (xs : List Nat) (a b c d : Nat) : List Nat :=
  (((xs.set a (quart (wat xs a) (wat xs b) (wat xs c) (wat xs d)).1).set b (quart (wat xs a) (wat xs b) (wat xs c) (wat xs d)).2.1).set c (quart (wat xs a) (wat xs b) (wat xs c) (wat xs d)).2.2.1).set d (quart (wat xs a) (wat xs b) (wat xs c) (wat xs d)).2.2.2
section
attribute [local irreducible] ad xo rot
theorem rq_0 (xs : List Nat) (h : xs.length = 16) : rq xs 0 4 8 12 = qr xs 0 4 8 12 := by
  obtain ⟨_, _, _, _, _, _, _, _, _, _, _, _, _, _, _, _, rfl⟩ := list_16 xs h; rfl
theorem rq_1 (xs : List Nat) (h : xs.length = 16) : rq xs 1 5 9 13 = qr xs 1 5 9 13 := by
  obtain ⟨_, _, _, _, _, _, _, _, _, _, _, _, _, _, _, _, rfl⟩ := list_16 xs h; rfl
theorem rq_2 (xs : List Nat) (h : xs.length = 16) : rq xs 2 6 10 14 = qr xs 2 6 10 14 := by
  obtain ⟨_, _, _, _, _, _, _, _, _, _, _, _, _, _, _, _, rfl⟩ := list_16 xs h; rfl
theorem rq_3 (xs : List Nat) (h : xs.length = 16) : rq xs 3 7 11 15 = qr xs 3 7 11 15 := by
  obtain ⟨_, _, _, _, _, _, _, _, _, _, _, _, _, _, _, _, rfl⟩ := list_16 xs h; rfl
theorem rq_4 (xs : List Nat) (h : xs.length = 16) : rq xs 0 5 10 15 = qr xs 0 5 10 15 := by
  obtain ⟨_, _, _, _, _, _, _, _, _, _, _, _, _, _, _, _, rfl⟩ := list_16 xs h; rfl
theorem rq_5 (xs : List Nat) (h : xs.length = 16) : rq xs 1 6 11 12 = qr xs 1 6 11 12 := by
  obtain ⟨_, _, _, _, _, _, _, _, _, _, _, _, _, _, _, _, rfl⟩ := list_16 xs h; rfl
theorem rq_6 (xs : List Nat) (h : xs.length = 16) : rq xs 2 7 8 13 = qr xs 2 7 8 13 := by
  obtain ⟨_, _, _, _, _, _, _, _, _, _, _, _, _, _, _, _, rfl⟩ := list_16 xs h; rfl
theorem rq_7 (xs : List Nat) (h : xs.length = 16) : rq xs 3 4 9 14 = qr xs 3 4 9 14 := by
  obtain ⟨_, _, _, _, _, _, _, _, _, _, _, _, _, _, _, _, rfl⟩ := list_16 xs h; rfl
end
/-- the indices of the r-th quarter round of a double round -/
def qt : Nat → List Nat
  | 0 => [0, 4, 8, 12]
  | 1 => [1, 5, 9, 13]
  | 2 => [2, 6, 10, 14]
  | 3 => [3, 7, 11, 15]
  | 4 => [0, 5, 10, 15]
  | 5 => [1, 6, 11, 12]
  | 6 => [2, 7, 8, 13]
  | _ => [3, 4, 9, 14]
def rqs (xs : List Nat) : Nat → List Nat
  | 0 => xs
  | r + 1 => rq (rqs xs r) (wat (qt r) 0) (wat (qt r) 1) (wat (qt r) 2) (wat (qt r) 3)
theorem rq_length (xs : List Nat) (a b c d : Nat) : (rq xs a b c d).length = xs.length := by simp [rq]
theorem rqs_length (xs : List Nat) (r : Nat) : (rqs xs r).length = xs.length := by
  induction r with
  | zero => rfl
  | succ r ih => rw [rqs, rq_length, ih]
theorem rqs_dbl (xs : List Nat) (h : xs.length = 16) : rqs xs 8 = dbl xs := by
  have hl := fun r => (rqs_length xs r).trans h
  have e1 : rqs xs 1 = qr xs 0 4 8 12 := rq_0 xs h
  have e2 : rqs xs 2 = qr (rqs xs 1) 1 5 9 13 := rq_1 _ (hl 1)
  have e3 : rqs xs 3 = qr (rqs xs 2) 2 6 10 14 := rq_2 _ (hl 2)
  have e4 : rqs xs 4 = qr (rqs xs 3) 3 7 11 15 := rq_3 _ (hl 3)
  have e5 : rqs xs 5 = qr (rqs xs 4) 0 5 10 15 := rq_4 _ (hl 4)
  have e6 : rqs xs 6 = qr (rqs xs 5) 1 6 11 12 := rq_5 _ (hl 5)
  have e7 : rqs xs 7 = qr (rqs xs 6) 2 7 8 13 := rq_6 _ (hl 6)
  have e8 : rqs xs 8 = qr (rqs xs 7) 3 4 9 14 := rq_7 _ (hl 7)
  rw [e8, e7, e6, e5, e4, e3, e2, e1, dbl_eq]
theorem qt_length (r : Nat) : (qt r).length = 4 := by unfold qt; split <;> rfl
theorem qt_small (r : Nat) : wat (qt r) 0 < 16 ∧ wat (qt r) 1 < 16 ∧ wat (qt r) 2 < 16 ∧ wat (qt r) 3 < 16 := by unfold qt; split <;> decide
/-- the first words -/
theorem stW_words (key nonce : List UInt8) (c : Nat) : ([1634760805, 857760878, 2036477234, 1797285236] ++ wls key 8) ++ [c] ++ wls nonce 3 = stW key nonce c := by
  rfl
theorem vb_built (w : World) (vs : List Value) (T : TypeId) : VB w (w.alloc (.cells vs.toArray T)) (.slice (some ⟨w.heap.size, 0, none⟩) vs.length vs.length) vs :=
  ⟨(Below.refl _ _).alloc (Nat.le_refl _) _, .inr ⟨w.heap.size, vs.length, vs.toArray, T, 0, 0, rfl, Nat.le_refl _, heap_new _ _ _ rfl, Nat.le_refl _, Nat.le_refl _, .inr rfl, by simp⟩⟩
end Go.Proofs.YtabeehljpdehcaaDoor
