/- HMAC: any text has, by any key, the document's tag: walked by the contracts. -/
import Derived.Test.YtabeehljpdehcaaDoorRfU
namespace Go.Proofs.YtabeehljpdehcaaDoor
set_option linter.unusedVariables false
set_option linter.unusedSimpArgs false
open Go.RowKit Go.Lib
theorem refTurned92 (k : List UInt8) (w : World) (hl : k.length ≤ 100000) :
    Calls Tryd.prog 35 #[.string (str k), .int .i64 92] w fun e w' => e = .returned (.string (str (mXor 92 (mPad (mKey k))))) ∧ Below w.heap.size w w' := refTurned_any k 92 w hl
theorem refTurned54 (k : List UInt8) (w : World) (hl : k.length ≤ 100000) :
    Calls Tryd.prog 35 #[.string (str k), .int .i64 54] w fun e w' => e = .returned (.string (str (mXor 54 (mPad (mKey k))))) ∧ Below w.heap.size w w' := refTurned_any k 54 w hl
attribute [local irreducible] str sSum mXor mPad mKey mTag

set_option maxRecDepth 100000 in
set_option maxHeartbeats 2000000 in
theorem refTag_any (k m : List UInt8) (w : World) (hk : k.length ≤ 100000) (hm : m.length ≤ 800000) :
    Calls Tryd.prog 14 #[.string (str k), .string (str m)] w fun e w' => e = .returned (.string (str (mTag k m))) ∧ Below w.heap.size w w' := by
  have HT := Kept.mk (mTag_eq k m)
  have h0 := mPad_length _ (mKey_length k)
  have h1 := mXor_length 92 (mPad (mKey k))
  have h2 := mXor_length 54 (mPad (mKey k))
  rw [h0] at h1 h2
  have a1 := str_append (mXor 54 (mPad (mKey k))) m
  have h3 := sSum_length (mXor 54 (mPad (mKey k)) ++ m)
  have a2 := str_append (mXor 92 (mPad (mKey k))) (sSum (mXor 54 (mPad (mKey k)) ++ m))
  have h4 : (mXor 54 (mPad (mKey k)) ++ m).length ≤ 900000 := by rw [List.length_append]; omega
  have h5 : (mXor 92 (mPad (mKey k)) ++ sSum (mXor 54 (mPad (mKey k)) ++ m)).length ≤ 900000 := by rw [List.length_append]; omega
  have s1 := str_size (mXor 54 (mPad (mKey k)))
  have s2 := str_size m
  have s3 := str_size (mXor 92 (mPad (mKey k)))
  have s4 := str_size (sSum (mXor 54 (mPad (mKey k)) ++ m))
  rw [h2] at s1
  rw [h1] at s3
  rw [h3] at s4
  have hmi : (m.length : Int) ≤ 800000 := by omega
  go_enter Tryd.func14, Tryd.ntmps14
  go_wp2_with fail
  refine (refTurned92 k w hk).mono ?_
  rintro e w1 ⟨rfl, hb1⟩
  have HB1 := Kept.mk hb1
  clear hb1
  go_wp2_with fail
  refine (refTurned54 k w1 hk).mono ?_
  rintro e w2 ⟨rfl, hb2⟩
  have HB2 := Kept.mk (HB1.out.trans (hb2.mono HB1.out.size))
  clear hb2
  go_wp2_with fail
  refine (refSum_any (mXor 54 (mPad (mKey k)) ++ m) w2 (by omega)).mono ?_
  rintro e w3 ⟨rfl, hb3⟩
  have HB3 := Kept.mk (HB2.out.trans (hb3.mono HB2.out.size))
  clear hb3
  go_wp2_with fail
  refine (refSum_any (mXor 92 (mPad (mKey k)) ++ sSum (mXor 54 (mPad (mKey k)) ++ m)) w3 (by omega)).mono ?_
  rintro e w4 ⟨rfl, hb4⟩
  have HB4 := Kept.mk (HB3.out.trans (hb4.mono HB3.out.size))
  clear hb4
  go_wp2_with fail
  go_ret
  refine ⟨?_, HB4.out⟩
  rw [← HT.out]
  rfl

end Go.Proofs.YtabeehljpdehcaaDoor
