/- SHA-256: any text has the document's sum: walked by the contracts. -/
import Derived.Test.YtdadjdkacdbajaaDoorRfD
namespace Go.Proofs.YtdadjdkacdbajaaDoor
set_option linter.unusedVariables false
set_option linter.unusedSimpArgs false
open Go.RowKit Go.Lib
attribute [local irreducible] str sSum

set_option maxRecDepth 100000 in
set_option maxHeartbeats 2000000 in
theorem shaSums_short (l : List UInt8) (w : World) (hl : l.length ≤ 20000) (hk : KAt w) :
    Calls Tryd.prog 3 #[.string (str l)] w fun e w' => e = .returned (.bool true) ∧ Below w.heap.size w w' := by
  have hs := str_size l
  have hi : ¬ (20000 : Int) < (l.length : Int) := by omega
  go_enter Tryd.func3, Tryd.ntmps3
  go_wp2_with fail
  refine (sum_one l w hk _ (by omega)).mono ?_
  rintro e w1 ⟨rfl, hb1⟩
  have HK1 := Kept.mk (hk.below hb1)
  have HB1 := Kept.mk hb1
  clear hk hb1
  go_wp2_with fail
  refine (refSum_any l w1 (by omega)).mono ?_
  rintro e w2 ⟨rfl, hb2⟩
  have HK2 := Kept.mk (HK1.out.below hb2)
  have HB2 := Kept.mk (HB1.out.trans (hb2.mono HB1.out.size))
  clear hb2
  go_wp2_with fail
  refine (shaAwake_any w2 HK2.out).mono ?_
  rintro e w3 ⟨rfl, hb3⟩
  have HB3 := Kept.mk (HB2.out.trans (hb3.mono HB2.out.size))
  clear hb3
  go_wp2_with fail
  go_ret
  exact ⟨rfl, HB3.out⟩

set_option maxRecDepth 100000 in
set_option maxHeartbeats 2000000 in
theorem shaSums_long (l : List UInt8) (w : World) (hl : 20000 < l.length) (hl2 : l.length ≤ 140737488351232) (hk : KAt w) :
    Calls Tryd.prog 3 #[.string (str l)] w fun e w' => e = .returned (.bool true) ∧ Below w.heap.size w w' := by
  have hs := str_size l
  have ht := str_take l 20000 (by omega)
  have hm : (l.take 20000).length ≤ 20000 := by rw [List.length_take]; omega
  generalize l.take 20000 = m at *
  have hi : (20000 : Int) < (l.length : Int) := by omega
  go_enter Tryd.func3, Tryd.ntmps3
  go_wp2_with fail
  refine (sum_one m w hk _ (by omega)).mono ?_
  rintro e w1 ⟨rfl, hb1⟩
  have HK1 := Kept.mk (hk.below hb1)
  have HB1 := Kept.mk hb1
  clear hk hb1
  go_wp2_with fail
  refine (refSum_any m w1 (by omega)).mono ?_
  rintro e w2 ⟨rfl, hb2⟩
  have HK2 := Kept.mk (HK1.out.below hb2)
  have HB2 := Kept.mk (HB1.out.trans (hb2.mono HB1.out.size))
  clear hb2
  go_wp2_with fail
  refine (shaAwake_any w2 HK2.out).mono ?_
  rintro e w3 ⟨rfl, hb3⟩
  have HB3 := Kept.mk (HB2.out.trans (hb3.mono HB2.out.size))
  clear hb3
  go_wp2_with fail
  go_ret
  exact ⟨rfl, HB3.out⟩

theorem shaSums_w {w : World} (l : List UInt8) (hl : l.length ≤ 140737488351232) (hk : KAt w) :
    Calls Tryd.prog 3 #[.string (str l)] w fun e w' => e = .returned (.bool true) ∧ Below w.heap.size w w' := by
  by_cases h : l.length ≤ 20000
  · exact shaSums_short l w h hk
  · exact shaSums_long l w (by omega) hl hk
end Go.Proofs.YtdadjdkacdbajaaDoor
