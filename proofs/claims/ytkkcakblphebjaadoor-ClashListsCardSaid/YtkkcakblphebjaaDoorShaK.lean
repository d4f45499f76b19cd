/- The table of the rounds' words, as the listed variable lays it. -/
import Derived.Test.YtkkcakblphebjaaDoorShaI
import Derived.MakeChecks
import Derived.LaidMore
import Derived.LaidHandle
import Derived.LaidLaws
import Derived.OpenShut
import Derived.FnData
namespace Go.Proofs.YtkkcakblphebjaaDoor
set_option linter.unusedSimpArgs false
set_option linter.unusedVariables false
set_option linter.unusedVariables false
open Go.RowKit Go.Lib Go.ChangeShapes Go.WideShapes Go.ChangeAt

theorem gWords : Tryd.prog.globalNamed "sledge/sha.roundWords" = some 0 := by kernel_rfl
theorem tWords : (Tryd.prog.globals[0]?).map (·.type) = some 130 := by kernel_rfl
def laidWords : List (String × DataW Unit) := [("sledge/sha.roundWords", Rows.laid_sledge_sha_roundWords)]
theorem door_met (os : Os) (args : Array Value) : laidMetH Tryd.prog laidWords ((World.doorLaid Tryd.prog 400 os).forCall (fun _ _ => 0) ⟨#[], args, []⟩).memory :=
  laidMetH_of_parts3 (fuel := 8) (laidMet_of_run' 8 (by kernel_rfl) (by kernel_rfl)) (by kernel_rfl) (by kernel_rfl)
theorem words_datum (i : Nat) (h : i < 64) : ∃ l : List (DataW Unit), (Rows.laid_sledge_sha_roundWords : DataW Unit) = .agg l ∧ l[i]? = some (.lit (.int .u32 ((nth sK i : Nat) : Int))) := by
  refine ⟨sK.map fun k : Nat => DataW.lit (.int .u32 (k : Int)), rfl, ?_⟩
  have hl : sK.length = 64 := rfl
  rw [List.getElem?_map, List.getElem?_eq_getElem (by rw [hl]; exact h)]
  unfold nth
  rw [List.getD_eq_getElem?_getD, List.getElem?_eq_getElem (by rw [hl]; exact h)]
  rfl
theorem words_of_laid {W : World} (h : laidMetH Tryd.prog laidWords W) : KAt W := by
  rw [MakeChecks.laidMetH_plain _ _ _ (by kernel_rfl)] at h
  obtain ⟨ps, ⟨g0, t0, cs0, f0, p0, q0, hg0, ht0, hv0, hd0, _⟩, _, _⟩ := h
  obtain rfl := Option.some.inj (gWords.symm.trans hg0)
  obtain rfl := Option.some.inj (tWords.symm.trans ht0)
  obtain ⟨xs, m1, rfl, hx1, hlen, hn, hel⟩ := DataW.trod_array Tryd.underlying130 hd0
  have hC : Tryd.prog.cellsOf 124 = 1 := by kernel_rfl
  have hcell : ∀ i, i < 64 → W.cell? ⟨0, i, none⟩ = some (.int .u32 ((nth sK i : Nat) : Int)) := by
    intro i hi
    have h0 := hel i hi
    rw [hC] at h0
    obtain ⟨l, hl, hli⟩ := words_datum i hi
    have hx2 := hx1
    simp only [Prod.mk.injEq] at hx2
    rw [hl] at hx2
    have hxl : l = xs.map (·.1) := by
      have := hx2.1
      simpa using this
    rw [hxl, List.getElem?_map] at hli
    cases hxi : xs[i]? with
    | none => rw [hxi] at hli; cases hli
    | some x =>
      rw [hxi] at hli h0
      obtain ⟨k, e1, e2, _⟩ := DataW.trod_int Tryd.underlying124 h0
      rw [e2] at hli
      simp only [Option.map_some, Option.some.injEq, DataW.lit.injEq, Lit.int.injEq, true_and] at hli
      subst hli
      have hc := World.var?_cell hg0 hv0 i
      rw [hc]
      have e3 : ((cs0.toList.drop (i * 1)).take 1)[0]? = some (.int .u32 ((nth sK i : Nat) : Int)) := by rw [e1]; rfl
      rw [List.getElem?_take_of_lt (by decide), List.getElem?_drop, Nat.mul_one, Nat.add_zero, Array.getElem?_toList] at e3
      exact e3
  exact ⟨block_of_cell (hcell 0 (by decide)), hcell⟩
end Go.Proofs.YtkkcakblphebjaaDoor
