/- HMAC by definition: a buffer that a conversion began: stores, the string; a key's bytes turned, by a contract. -/
import Derived.Test.YtihhjjcghocgaaaDoorRfD
import Derived.Test.YtihhjjcghocgaaaDoorMacC
namespace Go.Proofs.YtihhjjcghocgaaaDoor
set_option linter.unusedVariables false
set_option linter.unusedSimpArgs false
open Go.RowKit Go.Lib
theorem BG.base {w w1 wr : World} {v : Value} {l : List UInt8} (h : BG w1 wr v l) (hb : Below w.heap.size w w1) : BG w wr v l := by
  obtain ⟨h1, g, cap, cs, T, f0, f1, e, hg, r⟩ := h
  exact ⟨hb.trans (h1.mono hb.size), g, cap, cs, T, f0, f1, e, Nat.le_trans hb.size hg, r⟩
/-- a place of the buffer: it reads, it may be written, and what is written stands there -/
theorem BG.place {w wr : World} {v : Value} {l : List UInt8} (h : BG w wr v l) {i : Nat} (hi : i < l.length) :
    ∃ g cap, v = .slice (some ⟨g, 0, none⟩) l.length cap ∧ wr.cell? ⟨g, i, none⟩ = some (.int .u8 ((l[i]).toNat : Int)) ∧ wr.frozen? ⟨g, i, none⟩ = false ∧
      ∀ c : UInt8, BG w (wr.setCell ⟨g, i, none⟩ (.int .u8 (c.toNat : Int))) v (l.set i c) := by
  obtain ⟨h1, g, cap, cs, T, f0, f1, rfl, hg, hh, h2, h3, h4, h5⟩ := h
  refine ⟨g, cap, rfl, ?_, ?_, fun c => ⟨h1.setCell hg _, g, cap, cs.setIfInBounds i (.int .u8 (c.toNat : Int)), T, f0, f1, by rw [List.length_set], hg, ?_, by rw [List.length_set]; exact h2, by rw [Array.size_setIfInBounds]; exact h3, h4, ?_⟩⟩
  · rw [cell_of_cells hh]
    exact take_get h5 (by simp [Lib.byteCells, List.getElem?_eq_getElem hi])
  · simp only [World.frozen?, hh, Bool.and_eq_false_iff, decide_eq_false_iff_not]
    omega
  · rw [setCell_eq_setRow wr g i cs T (f0, f1) _ hh]
    exact setRow_heap wr g cs _ T _ hh
  · rw [List.length_set, Array.toList_setIfInBounds, List.take_set, h5]
    simp [Lib.byteCells]
theorem BG.string {w wr : World} {v : Value} {l : List UInt8} (h : BG w wr v l) : (convert 34 9 v).run Tryd.prog wr = .ok (.string (str l)) wr := by
  obtain ⟨h1, g, cap, cs, T, f0, f1, rfl, hg, hh, h2, h3, h4, h5⟩ := h
  refine run_convert_bytes_back wr _ _ _ ⟨g, 0, none⟩ cap l Tryd.underlying34 Tryd.underlying5 Tryd.underlying9 fun j hj => ?_
  rw [at_add, cell_of_cells hh]
  exact take_get h5 (by simp [Lib.byteCells, List.getElem?_eq_getElem hj])
theorem xor_byte (a b : UInt8) : bits .xor .i64 (a.toNat : Int) (b.toNat : Int) = ((a ^^^ b).toNat : Int) := by
  rw [xor_i64_nat _ _ (by have := a.toNat_lt; omega) (by have := b.toNat_lt; omega), UInt8.toNat_xor]
theorem conv_bytes (W : World) (l : List UInt8) : (convert 9 34 (.string (str l))).run Tryd.prog W = .ok (.slice (some ⟨W.heap.size, 0, none⟩) l.length (grownCap W l.length 0 5)) (bytesWorld W 5 (str l)) := by
  have h := Go.Lib.run_convert_string_bytes (P := Tryd.prog) W 9 34 5 (str l) Tryd.underlying9 Tryd.underlying34 Tryd.underlying5
  rw [str_size] at h
  exact h
theorem pad_next (K : List UInt8) (j : Nat) : K ++ List.replicate j 0 ++ [0] = K ++ List.replicate (j + 1) 0 := by
  rw [List.append_assoc, ← List.replicate_succ']
end Go.Proofs.YtihhjjcghocgaaaDoor
