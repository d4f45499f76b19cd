/- Blocks: sealed and opened as the document says: walked by the contracts. -/
import Derived.Test.YtabeehljpdehcaaDoorBlQ
import Derived.Test.YtabeehljpdehcaaDoorShaK
import Derived.WideShapes
import Derived.OpenShut
import Derived.Lib.SmallJoins
import Derived.ChangeOld
namespace Go.Proofs.YtabeehljpdehcaaDoor
set_option linter.unusedVariables false
set_option linter.unusedSimpArgs false
open Go.RowKit Go.Lib Go.ChangeShapes Go.WideShapes
set_option maxRecDepth 100000 in
theorem open_keys {H : Type} {enc : TypeId × Value → H} {W : World} {r : Reach} {b0 : Nat} {v : Value} {d : DataW H} {p : List MemPlace}
    (hv : Value.okWide Tryd.prog W r b0 36 v) (h : DataW.Trod enc Tryd.prog W 0 (fun _ => true) true 36 v d p) :
    ∃ (ke km kh : List UInt8), v = .agg #[.string (str ke), .string (str km), .string (str kh)] ∧ (ke.length ≤ 9223372036854775807 ∧ km.length ≤ 9223372036854775807 ∧ kh.length ≤ 9223372036854775807) := by
  have hC : Tryd.prog.cellsOf 36 = 3 := by kernel_rfl
  have hS : Tryd.prog.cellsOf 9 = 1 := by kernel_rfl
  obtain ⟨⟨l⟩, rfl, hsz⟩ := okWide_struct Tryd.underlying36 hv
  rw [hC] at hsz
  obtain ⟨fuel, hf⟩ := h
  match l, hsz with
  | [c0, c1, c2], _ =>
    obtain ⟨xs, n', _, _, _, hlx, hg⟩ := DataW.trod_struct Tryd.underlying36 hf
    have hxl : xs.length = 3 := hlx
    have g0 : DataW.trod enc Tryd.prog W 0 (fun _ => true) true n' 9 (([c0, c1, c2].drop 0).take (Tryd.prog.cellsOf 9)) = xs[0]? := hg 0 _ rfl
    have g1 : DataW.trod enc Tryd.prog W 0 (fun _ => true) true n' 9 (([c0, c1, c2].drop 1).take (Tryd.prog.cellsOf 9)) = xs[1]? := hg 1 _ rfl
    have g2 : DataW.trod enc Tryd.prog W 0 (fun _ => true) true n' 9 (([c0, c1, c2].drop 2).take (Tryd.prog.cellsOf 9)) = xs[2]? := hg 2 _ rfl
    rw [hS] at g0 g1 g2
    simp only [List.drop_zero, List.take_succ_cons, List.take_zero, List.drop_succ_cons] at g0 g1 g2
    rw [List.getElem?_eq_getElem (by omega)] at g0 g1 g2
    obtain ⟨z0, h0, _, w0⟩ := DataW.trod_string Tryd.underlying9 g0
    obtain ⟨z1, h1, _, w1⟩ := DataW.trod_string Tryd.underlying9 g1
    obtain ⟨z2, h2, _, w2⟩ := DataW.trod_string Tryd.underlying9 g2
    simp only [List.cons.injEq, and_true] at h0 h1 h2
    subst h0 h1 h2
    unfold maxLen at w0 w1 w2
    exact ⟨z0.data.toList, z1.data.toList, z2.data.toList, by rw [str_eta, str_eta, str_eta], by rw [Array.length_toList]; exact w0, by rw [Array.length_toList]; exact w1, by rw [Array.length_toList]; exact w2⟩
/-- what Seal tells -/
def sS (ke km : List UInt8) (i : Int) (s : List UInt8) : ByteArray := if bOk ke i ∧ s.length = 192 then str (bSeal ke km i s) else ByteArray.mk #[]
def sE (ke : List UInt8) (i : Int) (s : List UInt8) : Int := if bOk ke i ∧ s.length = 192 then 0 else 1
/-- what Open tells -/
def aS (ke km : List UInt8) (i : Int) (s : List UInt8) : ByteArray := if bOk ke i then (if s.length = 224 then oS ke km i s else ByteArray.mk #[]) else ByteArray.mk #[]
def aE (ke km : List UInt8) (i : Int) (s : List UInt8) : Int := if bOk ke i then (if s.length = 224 then oE km i s else 2) else 1
theorem Seal_all (ke km kh : List UInt8) (i : Int) (s : List UInt8) (w : World) (hk : KAt w) (z0 : ke.length ≤ 1000) (z1 : km.length ≤ 1000) (z2 : s.length ≤ 1000) :
    Calls Tryd.prog 21 #[.agg #[.string (str ke), .string (str km), .string (str kh)], .int .i64 i, .string (str s)] w fun e w' => e = .returned (.tuple #[.string (sS ke km i s), .int .i64 (sE ke i s)]) ∧ Below w.heap.size w w' := by
  by_cases h : bOk ke i ∧ s.length = 192
  · rw [sS, sE, if_pos h, if_pos h]; exact Seal_yes ke km kh i s w hk h.1 h.2 z1
  · rw [sS, sE, if_neg h, if_neg h]; exact Seal_no ke km kh i s w h (by omega) (by omega)
theorem refSeal_all (ke km kh : List UInt8) (i : Int) (s : List UInt8) (w : World) (z0 : ke.length ≤ 1000) (z1 : km.length ≤ 1000) (z2 : s.length ≤ 1000) :
    Calls Tryd.prog 22 #[.agg #[.string (str ke), .string (str km), .string (str kh)], .int .i64 i, .string (str s)] w fun e w' => e = .returned (.tuple #[.string (sS ke km i s), .int .i64 (sE ke i s)]) ∧ Below w.heap.size w w' := by
  by_cases h : bOk ke i ∧ s.length = 192
  · rw [sS, sE, if_pos h, if_pos h]; exact refSeal_yes ke km kh i s w h.1 h.2 z1
  · rw [sS, sE, if_neg h, if_neg h]; exact refSeal_no ke km kh i s w h (by omega) (by omega)
theorem OpenA_all (ke km kh : List UInt8) (i : Int) (s : List UInt8) (w : World) (hk : KAt w) (z0 : ke.length ≤ 1000) (z1 : km.length ≤ 1000) (z2 : s.length ≤ 1000) :
    Calls Tryd.prog 23 #[.agg #[.string (str ke), .string (str km), .string (str kh)], .int .i64 i, .string (str s)] w fun e w' => e = .returned (.tuple #[.string (aS ke km i s), .int .i64 (aE ke km i s)]) ∧ Below w.heap.size w w' := by
  by_cases h : bOk ke i
  · by_cases h2 : s.length = 224
    · rw [aS, aE, if_pos h, if_pos h, if_pos h2, if_pos h2]; exact Open_all ke km kh i s w hk h h2 z1
    · rw [aS, aE, if_pos h, if_pos h, if_neg h2, if_neg h2]; exact Open_len ke km kh i s w h h2 (by omega)
  · rw [aS, aE, if_neg h, if_neg h]; exact Open_no ke km kh i s w h (by omega)
theorem refOpenA_all (ke km kh : List UInt8) (i : Int) (s : List UInt8) (w : World) (z0 : ke.length ≤ 1000) (z1 : km.length ≤ 1000) (z2 : s.length ≤ 1000) :
    Calls Tryd.prog 24 #[.agg #[.string (str ke), .string (str km), .string (str kh)], .int .i64 i, .string (str s)] w fun e w' => e = .returned (.tuple #[.string (aS ke km i s), .int .i64 (aE ke km i s)]) ∧ Below w.heap.size w w' := by
  by_cases h : bOk ke i
  · by_cases h2 : s.length = 224
    · rw [aS, aE, if_pos h, if_pos h, if_pos h2, if_pos h2]; exact refOpen_all ke km kh i s w h h2 z1
    · rw [aS, aE, if_pos h, if_pos h, if_neg h2, if_neg h2]; exact refOpen_len ke km kh i s w h h2 (by omega)
  · rw [aS, aE, if_neg h, if_neg h]; exact refOpen_no ke km kh i s w h (by omega)
theorem bytes_beq (a : ByteArray) : (a.toList == a.toList) = true := by simp
attribute [local irreducible] str sS sE aS aE

set_option maxRecDepth 100000 in
set_option maxHeartbeats 2000000 in
theorem blockSeals_w {W : World} (ke km kh : List UInt8) (hP : ke.length ≤ 9223372036854775807 ∧ km.length ≤ 9223372036854775807 ∧ kh.length ≤ 9223372036854775807) (i : Int) (hi : (Lit.int .i64 i).wf = true) (s : List UInt8) (zs : s.length ≤ 140737488351232) (hk : KAt W) :
    Calls Tryd.prog 5 #[.agg #[.string (str ke), .string (str km), .string (str kh)], .int .i64 i, .string (str s)] W fun e w' => e = .returned (.bool true) ∧ Below W.heap.size W w' := by
  obtain ⟨z1, z2, z3⟩ := hP
  have hA := hnew W (.cells #[.string (str ke), .string (str km), .string (str kh)] 36)
  have hB := bnew W (.cells #[.string (str ke), .string (str km), .string (str kh)] 36)
  generalize hW : W.alloc (.cells #[.string (str ke), .string (str km), .string (str kh)] 36) = W1 at *
  have HW := Kept.mk hW
  have HS := Kept.mk (fun w' (h : Below W1.heap.size W1 w') => show w'.cell? ⟨W.heap.size, 0, none⟩ = some (.string (str ke)) ∧ w'.cell? ⟨W.heap.size, 1, none⟩ = some (.string (str km)) ∧ w'.cell? ⟨W.heap.size, 2, none⟩ = some (.string (str kh)) from three_atB (hkept hA h))
  have HB := Kept.mk (fun w' (h : Below W1.heap.size W1 w') => bnext hB h)
  have HK := Kept.mk (fun w' (h : Below W1.heap.size W1 w') => hk.below (bnext hB h))
  clear hA hB hW hk hi
  by_cases hl : ke.length ≤ 100 ∧ km.length ≤ 1000 ∧ s.length ≤ 1000
  · have HL := Kept.mk (fun w' => short_yes ke km kh s w' hl)
    have H1 := Kept.mk (fun w' hk => Seal_all ke km kh i s w' hk (by omega) (by omega) (by omega))
    have H2 := Kept.mk (fun w' => refSeal_all ke km kh i s w' (by omega) (by omega) (by omega))
    clear hl z1 z2 z3 zs
    generalize sS ke km i s = X at *
    generalize sE ke i s = E at *
    have hbe := bytes_beq X
    go_enter Tryd.func5, Tryd.ntmps5
    go_upto_region 1 with fail
    rw [HW.out]
    obtain ⟨c0, c1, c2⟩ := HS.out _ (Below.refl _ _)
    have b0 := Below.refl W1.heap.size W1
    go_wp2_with fail
    with_reducible refine (HL.out _).mono ?_
    rintro e w1 ⟨rfl, b⟩
    clear c0 c1 c2
    have b1 := bnext b0 b
    clear b b0
    obtain ⟨c0, c1, c2⟩ := HS.out _ b1
    go_wp2_with fail
    with_reducible refine (H1.out _ (HK.out _ b1)).mono ?_
    rintro e w2 ⟨rfl, b⟩
    clear c0 c1 c2
    have b2 := bnext b1 b
    clear b b1
    obtain ⟨c0, c1, c2⟩ := HS.out _ b2
    go_wp2_with fail
    with_reducible refine (H2.out _).mono ?_
    rintro e w3 ⟨rfl, b⟩
    clear c0 c1 c2
    have b3 := bnext b2 b
    clear b b2
    obtain ⟨c0, c1, c2⟩ := HS.out _ b3
    go_wp2_with fail
    with_reducible refine (blAwake_any _ (HK.out _ b3)).mono ?_
    rintro e w4 ⟨rfl, b⟩
    clear c0 c1 c2
    have b4 := bnext b3 b
    clear b b3
    obtain ⟨c0, c1, c2⟩ := HS.out _ b4
    clear c0 c1 c2
    go_wp2_with fail
    go_ret
    exact ⟨rfl, HB.out _ b4⟩
  · have HL := Kept.mk (fun w' => short_no ke km kh s w' hl z1 z2 (by omega))
    clear hl z1 z2 z3 zs
    go_enter Tryd.func5, Tryd.ntmps5
    go_upto_region 1 with fail
    rw [HW.out]
    obtain ⟨c0, c1, c2⟩ := HS.out _ (Below.refl _ _)
    have b0 := Below.refl W1.heap.size W1
    go_wp2_with fail
    with_reducible refine (HL.out _).mono ?_
    rintro e w1 ⟨rfl, b⟩
    clear c0 c1 c2
    have b1 := bnext b0 b
    clear b b0
    obtain ⟨c0, c1, c2⟩ := HS.out _ b1
    go_wp2_with fail
    with_reducible refine (blAwake_any _ (HK.out _ b1)).mono ?_
    rintro e w2 ⟨rfl, b⟩
    clear c0 c1 c2
    have b2 := bnext b1 b
    clear b b1
    obtain ⟨c0, c1, c2⟩ := HS.out _ b2
    clear c0 c1 c2
    go_wp2_with fail
    go_ret
    exact ⟨rfl, HB.out _ b2⟩
set_option maxRecDepth 100000 in
set_option maxHeartbeats 2000000 in
theorem blockOpens_w {W : World} (ke km kh : List UInt8) (hP : ke.length ≤ 9223372036854775807 ∧ km.length ≤ 9223372036854775807 ∧ kh.length ≤ 9223372036854775807) (i : Int) (hi : (Lit.int .i64 i).wf = true) (s : List UInt8) (zs : s.length ≤ 140737488351232) (hk : KAt W) :
    Calls Tryd.prog 6 #[.agg #[.string (str ke), .string (str km), .string (str kh)], .int .i64 i, .string (str s)] W fun e w' => e = .returned (.bool true) ∧ Below W.heap.size W w' := by
  obtain ⟨z1, z2, z3⟩ := hP
  have hA := hnew W (.cells #[.string (str ke), .string (str km), .string (str kh)] 36)
  have hB := bnew W (.cells #[.string (str ke), .string (str km), .string (str kh)] 36)
  generalize hW : W.alloc (.cells #[.string (str ke), .string (str km), .string (str kh)] 36) = W1 at *
  have HW := Kept.mk hW
  have HS := Kept.mk (fun w' (h : Below W1.heap.size W1 w') => show w'.cell? ⟨W.heap.size, 0, none⟩ = some (.string (str ke)) ∧ w'.cell? ⟨W.heap.size, 1, none⟩ = some (.string (str km)) ∧ w'.cell? ⟨W.heap.size, 2, none⟩ = some (.string (str kh)) from three_atB (hkept hA h))
  have HB := Kept.mk (fun w' (h : Below W1.heap.size W1 w') => bnext hB h)
  have HK := Kept.mk (fun w' (h : Below W1.heap.size W1 w') => hk.below (bnext hB h))
  clear hA hB hW hk hi
  by_cases hl : ke.length ≤ 100 ∧ km.length ≤ 1000 ∧ s.length ≤ 1000
  · have HL := Kept.mk (fun w' => short_yes ke km kh s w' hl)
    have H1 := Kept.mk (fun w' hk => OpenA_all ke km kh i s w' hk (by omega) (by omega) (by omega))
    have H2 := Kept.mk (fun w' => refOpenA_all ke km kh i s w' (by omega) (by omega) (by omega))
    clear hl z1 z2 z3 zs
    generalize aS ke km i s = X at *
    generalize aE ke km i s = E at *
    have hbe := bytes_beq X
    go_enter Tryd.func6, Tryd.ntmps6
    go_upto_region 1 with fail
    rw [HW.out]
    obtain ⟨c0, c1, c2⟩ := HS.out _ (Below.refl _ _)
    have b0 := Below.refl W1.heap.size W1
    go_wp2_with fail
    with_reducible refine (HL.out _).mono ?_
    rintro e w1 ⟨rfl, b⟩
    clear c0 c1 c2
    have b1 := bnext b0 b
    clear b b0
    obtain ⟨c0, c1, c2⟩ := HS.out _ b1
    go_wp2_with fail
    with_reducible refine (H1.out _ (HK.out _ b1)).mono ?_
    rintro e w2 ⟨rfl, b⟩
    clear c0 c1 c2
    have b2 := bnext b1 b
    clear b b1
    obtain ⟨c0, c1, c2⟩ := HS.out _ b2
    go_wp2_with fail
    with_reducible refine (H2.out _).mono ?_
    rintro e w3 ⟨rfl, b⟩
    clear c0 c1 c2
    have b3 := bnext b2 b
    clear b b2
    obtain ⟨c0, c1, c2⟩ := HS.out _ b3
    go_wp2_with fail
    with_reducible refine (blAwake_any _ (HK.out _ b3)).mono ?_
    rintro e w4 ⟨rfl, b⟩
    clear c0 c1 c2
    have b4 := bnext b3 b
    clear b b3
    obtain ⟨c0, c1, c2⟩ := HS.out _ b4
    clear c0 c1 c2
    go_wp2_with fail
    go_ret
    exact ⟨rfl, HB.out _ b4⟩
  · have HL := Kept.mk (fun w' => short_no ke km kh s w' hl z1 z2 (by omega))
    clear hl z1 z2 z3 zs
    go_enter Tryd.func6, Tryd.ntmps6
    go_upto_region 1 with fail
    rw [HW.out]
    obtain ⟨c0, c1, c2⟩ := HS.out _ (Below.refl _ _)
    have b0 := Below.refl W1.heap.size W1
    go_wp2_with fail
    with_reducible refine (HL.out _).mono ?_
    rintro e w1 ⟨rfl, b⟩
    clear c0 c1 c2
    have b1 := bnext b0 b
    clear b b0
    obtain ⟨c0, c1, c2⟩ := HS.out _ b1
    go_wp2_with fail
    with_reducible refine (blAwake_any _ (HK.out _ b1)).mono ?_
    rintro e w2 ⟨rfl, b⟩
    clear c0 c1 c2
    have b2 := bnext b1 b
    clear b b1
    obtain ⟨c0, c1, c2⟩ := HS.out _ b2
    clear c0 c1 c2
    go_wp2_with fail
    go_ret
    exact ⟨rfl, HB.out _ b2⟩
end Go.Proofs.YtabeehljpdehcaaDoor
