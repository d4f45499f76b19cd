/- Texts in a slice: opened as one list. -/
import Derived.Test.YtkkcakblphebjaaDoorShaH
import Derived.SliceStrings
import Derived.WideShapes
namespace Go.Proofs.YtkkcakblphebjaaDoor
set_option linter.unusedVariables false
set_option linter.unusedSimpArgs false
open Go.RowKit Go.Lib

theorem open_texts {H : Type} {enc : TypeId × Value → H} {W : World} {fuel : Nat} {cs : List Value} {x : DataW H × List MemPlace}
    (h : DataW.trod enc Tryd.prog W 0 (fun _ => true) true fuel 24 cs = some x) :
    ∃ (A : Option Addr) (ls : List (List UInt8)) (cap : Nat), cs = [.slice A ls.length cap] ∧ ls.length ≤ 9223372036854775807 ∧ (RowAt W A (strs ls) ∧ (∀ l ∈ ls, l.length ≤ 9223372036854775807) ∧ ls.length ≤ cap ∧ cap ≤ 9223372036854775807) := by
  have hC : Tryd.prog.cellsOf 9 = 1 := by kernel_rfl
  rcases Go.ChangeShapes.open_strings Tryd.underlying24 Tryd.underlying9 hC h with ⟨hcs, _⟩ | ⟨a, len, cap, ss, hcs, _, hl, hm, hlen, _, hcell, hsz⟩
  · exact ⟨none, [], 0, hcs, by decide, fun h => absurd h (by simp [strs]), by simp, by simp, by simp⟩
  · have hss : len ≤ ss.length := by rw [hlen]; simpa using hl
    have hlm : ((ss.take len).map fun s : ByteArray => s.data.toList).length = len := by simp [Nat.min_eq_left hss]
    refine ⟨some a, (ss.take len).map (fun s : ByteArray => s.data.toList), cap, ?_, ?_, ?_, ?_, by rw [hlm]; exact hl, by unfold maxLen at hm; omega⟩
    · rw [hlm]; exact hcs
    · unfold maxLen at hm; rw [hlm]; omega
    · intro h0
      rw [strs, List.length_map, hlm] at h0
      refine ⟨a, rfl, ?_, fun j u hu => ?_⟩
      · have := block_of_cell (hcell 0 (by omega)); rwa [add_block] at this
      · have hj : j < len := by
          have := (List.getElem?_eq_some_iff.1 hu).1
          rw [strs, List.length_map, hlm] at this
          exact this
        rw [hcell j (by omega)]
        simp only [strs, List.map_map, List.getElem?_map, List.getElem?_take, if_pos hj, List.getElem?_eq_getElem (show j < ss.length by omega), Option.map_some, Function.comp] at hu
        rw [← hu, str_eta]
        simp [List.getD, List.getElem?_eq_getElem (show j < ss.length by omega)]
    · intro l hl2
      obtain ⟨s, hs, rfl⟩ := List.mem_map.1 hl2
      have := hsz s (List.mem_of_mem_take hs)
      unfold maxLen at this
      rw [Array.length_toList]
      exact this

end Go.Proofs.YtkkcakblphebjaaDoor
