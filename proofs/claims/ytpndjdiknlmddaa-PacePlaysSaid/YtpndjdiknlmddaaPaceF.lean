/- What a slice of deeds holds when it comes in. -/
import Derived.Test.YtpndjdiknlmddaaPaceE
import Derived.Deep.Slices
import Derived.Deep.Fields
namespace Go.Proofs.Ytpndjdiknlmddaa
set_option linter.unusedVariables false
open Go.RowKit Go.Lib

theorem open_deeds {H : Type} {enc : TypeId × Value → H} {W : World} {fuel : Nat} {cs : List Value} {x : DataW H × List MemPlace}
    (h : DataW.trod enc Try.prog W 0 (fun _ => true) true fuel 22 cs = some x) :
    ∃ (A : Option Addr) (l : List (Int × Int)) (cap : Nat), cs = [.slice A l.length cap] ∧ l.length ≤ 9223372036854775807 ∧ DeedsAt W A l := by
  have hC : Try.prog.cellsOf 29 = 2 := by kernel_rfl
  have hI : Try.prog.cellsOf 3 = 1 := by kernel_rfl
  rcases Deep.open_slice Try.underlying22 h with ⟨hcs, _⟩ | ⟨a, len, cap, m, n, D, Pl, hcs, _, hl, hm, hmm, _, hi⟩
  · exact ⟨none, [], 0, hcs, by decide, fun h => absurd h (by simp)⟩
  · have hlm : len ≤ m := by rw [hmm]; simpa using hl
    have hex : ∀ i : Nat, ∃ kn : Int × Int, i < m → W.cell? (a.add (i * 2)) = some (.int .i64 kn.1) ∧ W.cell? (a.add (i * 2 + 1)) = some (.int .i64 kn.2) := by
      intro i
      by_cases him : i < m
      · obtain ⟨cs', hc, ht⟩ := hi i him
        rw [hC] at hc
        obtain ⟨_, hlen, hcell⟩ := World.cells?_some hc
        obtain ⟨xs, n', _, _, _, hlx, hg⟩ := DataW.trod_struct Try.underlying29 ht
        match cs', hlen with
        | [c0, c1], _ =>
          have g0 := hg 0 _ rfl
          have g1 := hg 1 _ rfl
          have g0' : DataW.trod enc Try.prog W 0 (fun _ => true) true n' 3 (([c0, c1].drop 0).take (Try.prog.cellsOf 3)) = xs[0]? := g0
          have g1' : DataW.trod enc Try.prog W 0 (fun _ => true) true n' 3 (([c0, c1].drop 1).take (Try.prog.cellsOf 3)) = xs[1]? := g1
          rw [hI] at g0' g1'
          simp only [List.drop_zero, List.take_succ_cons, List.take_zero, List.drop_succ_cons] at g0' g1'
          have e0 := hcell 0 (by decide)
          have e1 := hcell 1 (by decide)
          simp only [List.getElem?_cons_zero, List.getElem?_cons_succ] at e0 e1
          rw [show (a.add (i * 2)).add 0 = a.add (i * 2) from rfl] at e0
          rw [show (a.add (i * 2)).add 1 = a.add (i * 2 + 1) from (add_next a (i * 2)).symm] at e1
          have hxl : xs.length = 2 := hlx
          rw [List.getElem?_eq_getElem (by omega)] at g0' g1'
          obtain ⟨k, hk, _, _⟩ := DataW.trod_int Try.underlying3 g0'
          obtain ⟨n2, hn, _, _⟩ := DataW.trod_int Try.underlying3 g1'
          simp only [List.cons.injEq, and_true] at hk hn
          subst hk
          subst hn
          exact ⟨(k, n2), fun _ => ⟨e0, e1⟩⟩
      · exact ⟨(0, 0), fun h => absurd h him⟩
    obtain ⟨f, hf⟩ := Classical.axiomOfChoice hex
    refine ⟨some a, (List.range len).map f, cap, ?_, ?_, ?_⟩
    · simp [hcs]
    · unfold maxLen at hm; simp; omega
    · intro h0
      simp only [List.length_map, List.length_range] at h0
      refine ⟨a, rfl, ?_, fun i k n hi2 => ?_⟩
      · have := block_of_cell (hf 0 (by omega)).1
        rwa [add_block] at this
      · have hil : i < len := by
          have := (List.getElem?_eq_some_iff.1 hi2).1
          simpa using this
        have := hf i (by omega)
        simp only [List.getElem?_map, List.getElem?_range hil, Option.map_some, Option.some.injEq] at hi2
        rw [hi2] at this
        exact this
theorem paceSteady_w {w : World} (A : Option Addr) (c : Nat) (l : List (Int × Int)) (hl : l.length ≤ 9223372036854775807) (hr : DeedsAt w A l) (x : Int) (_hx : (Lit.int .i64 x).wf = true) (more : Int) (_hm : (Lit.int .i64 more).wf = true) :
    Calls Try.prog 5 #[.slice A l.length c, .int .i64 x, .int .i64 more] w fun e w' => e = .returned (.bool true) ∧ Below w.heap.size w w' :=
  paceSteady_walk A c l x more w hl hr
end Go.Proofs.Ytpndjdiknlmddaa
