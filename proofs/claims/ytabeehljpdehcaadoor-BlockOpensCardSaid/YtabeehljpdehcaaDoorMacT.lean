/- Two texts held against one another. -/
import Derived.Test.YtabeehljpdehcaaDoorMacB
import Derived.Lib.SlicesS
namespace Go.Proofs.YtabeehljpdehcaaDoor
set_option linter.unusedVariables false
open Go.RowKit Go.Lib
theorem str_tl (a b : List UInt8) : ((str a).toList == (str b).toList) = decide (a = b) := by
  by_cases h : a = b
  · subst h; rw [decide_eq_true rfl]; exact beq_self_eq_true _
  · rw [decide_eq_false h, bytes_beq_false_iff]; exact fun e => h (str_inj e)
end Go.Proofs.YtabeehljpdehcaaDoor
