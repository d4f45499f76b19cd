/- SHA-256: the chapter's examples as the law asks them; walked by the contracts. -/
import Derived.Test.YtfplagbjcilpjaaDoorShaI
namespace Go.Proofs.YtfplagbjcilpjaaDoor
set_option linter.unusedSimpArgs false
set_option linter.unusedVariables false
open Go.RowKit Go.Lib
attribute [local irreducible] hcells sFold byteCells eightL gput sMix sW rnds St.add wc64 sPad sOut sSum str

set_option maxRecDepth 100000 in
set_option maxHeartbeats 2000000 in
theorem shaAwake_any (w : World) (hk : KAt w) :
    Calls Tryd.prog 36 #[] w fun e w' => e = .returned (.bool true) ∧ Below w.heap.size w w' := by
  go_enter Tryd.func36, Tryd.ntmps36
  go_wp2_with fail
  refine (sum_lit0 w hk).mono ?_
  rintro e w1 ⟨rfl, hb1⟩
  have hk1 := hk.below hb1
  go_wp2_with fail
  refine (sum_lit1 w1 hk1 _).mono ?_
  rintro e w2 ⟨rfl, hb2⟩
  have HB := Kept.mk (hb1.trans (hb2.mono hb1.size))
  clear hb1 hb2 hk hk1
  go_wp2_with fail
  go_ret
  exact ⟨rfl, HB.out⟩

end Go.Proofs.YtfplagbjcilpjaaDoor
