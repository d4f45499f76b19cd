/- A header that came in: opened. -/
import Derived.Test.YtabeehljpdehcaaHdB
import Derived.WideShapes
import Derived.OpenShut
import Derived.Lib.SmallJoins
import Derived.ChangeOld
namespace Go.Proofs.Ytabeehljpdehcaa
set_option linter.unusedVariables false
set_option linter.unusedSimpArgs false
open Go.RowKit Go.Lib Go.ChangeShapes Go.WideShapes
theorem wf_I64 {n : Int} (h : (Lit.int .i64 n).wf = true) : I64 n := by
  obtain ⟨h1, h2⟩ := bounds_i64 h
  exact ⟨by omega, by omega⟩
set_option maxRecDepth 100000 in
theorem open_hdr {H : Type} {enc : TypeId × Value → H} {W : World} {r : Reach} {b0 : Nat} {v : Value} {d : DataW H} {p : List MemPlace}
    (hv : Value.okWide Try.prog W r b0 23 v) (h : DataW.Trod enc Try.prog W 0 (fun _ => true) true 23 v d p) :
    ∃ (id : Int) (salt : List UInt8) (n b raw : Int) (root tag : List UInt8), v = .agg #[.int .i64 id, .string (str salt), .int .i64 n, .int .i64 b, .int .i64 raw, .string (str root), .string (str tag)] ∧
      ((I64 id ∧ I64 n ∧ I64 b ∧ I64 raw) ∧ salt.length ≤ 9223372036854775807 ∧ root.length ≤ 9223372036854775807 ∧ tag.length ≤ 9223372036854775807) := by
  have hC : Try.prog.cellsOf 23 = 7 := by kernel_rfl
  have hI : Try.prog.cellsOf 3 = 1 := by kernel_rfl
  have hS : Try.prog.cellsOf 9 = 1 := by kernel_rfl
  obtain ⟨⟨l⟩, rfl, hsz⟩ := okWide_struct Try.underlying23 hv
  rw [hC] at hsz
  obtain ⟨fuel, hf⟩ := h
  match l, hsz with
  | [c0, c1, c2, c3, c4, c5, c6], _ =>
    obtain ⟨xs, n', _, _, _, hlx, hg⟩ := DataW.trod_struct Try.underlying23 hf
    have hxl : xs.length = 7 := hlx
    have g0 : DataW.trod enc Try.prog W 0 (fun _ => true) true n' 3 (([c0, c1, c2, c3, c4, c5, c6].drop 0).take (Try.prog.cellsOf 3)) = xs[0]? := hg 0 _ rfl
    have g1 : DataW.trod enc Try.prog W 0 (fun _ => true) true n' 9 (([c0, c1, c2, c3, c4, c5, c6].drop 1).take (Try.prog.cellsOf 9)) = xs[1]? := hg 1 _ rfl
    have g2 : DataW.trod enc Try.prog W 0 (fun _ => true) true n' 3 (([c0, c1, c2, c3, c4, c5, c6].drop 2).take (Try.prog.cellsOf 3)) = xs[2]? := hg 2 _ rfl
    have g3 : DataW.trod enc Try.prog W 0 (fun _ => true) true n' 3 (([c0, c1, c2, c3, c4, c5, c6].drop 3).take (Try.prog.cellsOf 3)) = xs[3]? := hg 3 _ rfl
    have g4 : DataW.trod enc Try.prog W 0 (fun _ => true) true n' 3 (([c0, c1, c2, c3, c4, c5, c6].drop 4).take (Try.prog.cellsOf 3)) = xs[4]? := hg 4 _ rfl
    have g5 : DataW.trod enc Try.prog W 0 (fun _ => true) true n' 9 (([c0, c1, c2, c3, c4, c5, c6].drop 5).take (Try.prog.cellsOf 9)) = xs[5]? := hg 5 _ rfl
    have g6 : DataW.trod enc Try.prog W 0 (fun _ => true) true n' 9 (([c0, c1, c2, c3, c4, c5, c6].drop 6).take (Try.prog.cellsOf 9)) = xs[6]? := hg 6 _ rfl
    rw [hI] at g0 g2 g3 g4
    rw [hS] at g1 g5 g6
    simp only [List.drop_zero, List.take_succ_cons, List.take_zero, List.drop_succ_cons] at g0 g1 g2 g3 g4 g5 g6
    rw [List.getElem?_eq_getElem (by omega)] at g0 g1 g2 g3 g4 g5 g6
    obtain ⟨z0, h0, _, w0⟩ := DataW.trod_int Try.underlying3 g0
    obtain ⟨z1, h1, _, w1⟩ := DataW.trod_string Try.underlying9 g1
    obtain ⟨z2, h2, _, w2⟩ := DataW.trod_int Try.underlying3 g2
    obtain ⟨z3, h3, _, w3⟩ := DataW.trod_int Try.underlying3 g3
    obtain ⟨z4, h4, _, w4⟩ := DataW.trod_int Try.underlying3 g4
    obtain ⟨z5, h5, _, w5⟩ := DataW.trod_string Try.underlying9 g5
    obtain ⟨z6, h6, _, w6⟩ := DataW.trod_string Try.underlying9 g6
    simp only [List.cons.injEq, and_true] at h0 h1 h2 h3 h4 h5 h6
    subst h0 h1 h2 h3 h4 h5 h6
    unfold maxLen at w1 w5 w6
    exact ⟨z0, z1.data.toList, z2, z3, z4, z5.data.toList, z6.data.toList, by rw [str_eta, str_eta, str_eta], ⟨wf_I64 w0, wf_I64 w2, wf_I64 w3, wf_I64 w4⟩, by rw [Array.length_toList]; exact w1, by rw [Array.length_toList]; exact w5, by rw [Array.length_toList]; exact w6⟩
end Go.Proofs.Ytabeehljpdehcaa
