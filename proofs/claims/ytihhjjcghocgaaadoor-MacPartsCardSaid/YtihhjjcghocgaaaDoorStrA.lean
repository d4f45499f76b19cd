/- Texts in a slice: opened as one list; few of them; one behind the other; each by a contract. -/
import Derived.Test.YtihhjjcghocgaaaDoorShaI
import Derived.Test.YtihhjjcghocgaaaDoorRfB
import Derived.SliceStrings
import Derived.WideShapes
namespace Go.Proofs.YtihhjjcghocgaaaDoor
set_option linter.unusedVariables false
set_option linter.unusedSimpArgs false
open Go.RowKit Go.Lib

theorem open_texts {H : Type} {enc : TypeId × Value → H} {W : World} {fuel : Nat} {cs : List Value} {x : DataW H × List MemPlace}
    (h : DataW.trod enc Tryd.prog W 0 (fun _ => true) true fuel 22 cs = some x) :
    ∃ (A : Option Addr) (ls : List (List UInt8)) (cap : Nat), cs = [.slice A ls.length cap] ∧ ls.length ≤ 9223372036854775807 ∧ (RowAt W A (strs ls) ∧ (∀ l ∈ ls, l.length ≤ 9223372036854775807) ∧ ls.length ≤ cap ∧ cap ≤ 9223372036854775807) := by
  have hC : Tryd.prog.cellsOf 9 = 1 := by kernel_rfl
  rcases Go.ChangeShapes.open_strings Tryd.underlying22 Tryd.underlying9 hC h with ⟨hcs, _⟩ | ⟨a, len, cap, ss, hcs, _, hl, hm, hlen, _, hcell, hsz⟩
  · exact ⟨none, [], 0, hcs, by decide, fun h => absurd h (by simp [strs]), by simp, by simp, by simp⟩
  · have hss : len ≤ ss.length := by rw [hlen]; simpa using hl
    have hlm : ((ss.take len).map fun s : ByteArray => s.data.toList).length = len := by simp [Nat.min_eq_left hss]
    refine ⟨some a, (ss.take len).map (fun s : ByteArray => s.data.toList), cap, ?_, ?_, ?_, ?_, by rw [hlm]; exact hl, by unfold maxLen at hm; omega⟩
    · rw [hlm]; exact hcs
    · unfold maxLen at hm; rw [hlm]; omega
    · intro h0
      rw [strs, List.length_map, hlm] at h0
      refine ⟨a, rfl, ?_, fun j u hu => ?_⟩
      · have := block_of_cell (hcell 0 (by omega)); rwa [add_block] at this
      · have hj : j < len := by
          have := (List.getElem?_eq_some_iff.1 hu).1
          rw [strs, List.length_map, hlm] at this
          exact this
        rw [hcell j (by omega)]
        simp only [strs, List.map_map, List.getElem?_map, List.getElem?_take, if_pos hj, List.getElem?_eq_getElem (show j < ss.length by omega), Option.map_some, Function.comp] at hu
        rw [← hu, str_eta]
        simp [List.getD, List.getElem?_eq_getElem (show j < ss.length by omega)]
    · intro l hl2
      obtain ⟨s, hs, rfl⟩ := List.mem_map.1 hl2
      have := hsz s (List.mem_of_mem_take hs)
      unfold maxLen at this
      rw [Array.length_toList]
      exact this

/-- so many of the texts -/
def FewIs (A : Option Addr) (ls : List (List UInt8)) (c : Nat) (w : World) (e : Ending) (w' : World) : Prop :=
  ∃ k, k ≤ ls.length ∧ k ≤ 200 ∧ (ls.take k).flatten.length ≤ 20000 ∧ e = .returned (.slice A k c) ∧ w = w'
attribute [local irreducible] str

set_option maxRecDepth 100000 in
set_option maxHeartbeats 1000000 in
theorem few_any (A : Option Addr) (c : Nat) (ls : List (List UInt8)) (w : World) (hr : RowAt w A (strs ls)) (hm : ls.length ≤ 9223372036854775807) (hle : ∀ l ∈ ls, l.length ≤ 9223372036854775807) (hlc : ls.length ≤ c) (hc0 : c ≤ 9223372036854775807) :
    Calls Tryd.prog 15 #[.slice A ls.length c] w (FewIs A ls c w) := by
  have HR := Kept.mk hr
  have HL := Kept.mk hle
  clear hr hle
  go_enter Tryd.func15, Tryd.ntmps15
  go_wp2_with fail
  go_loop [3, 4] (fun n i => ∃ k : Nat, k ≤ ls.length ∧ k ≤ 200 ∧ (ls.take k).flatten.length ≤ 20000 ∧ i = .int .i64 k ∧ n = .int .i64 ((ls.take k).flatten.length : Nat)) (fun _ i => 201 - (RowKit.intOf i).toNat)
  case atStart => exact ⟨0, Nat.zero_le _, by omega, by simp, rfl, rfl⟩
  case round =>
    obtain ⟨k, hk, hk2, hf, rfl, rfl⟩ := hrel
    have HX := Kept.mk (show k ≤ ls.length ∧ k ≤ 200 ∧ (ls.take k).flatten.length ≤ 20000 from ⟨hk, hk2, hf⟩)
    by_cases hlt : k < ls.length
    · have hkc : k ≤ c := by omega
      obtain ⟨ad, rfl, had, hc⟩ := HR.out.get (k := k) (by rw [strs_length]; exact hlt)
      rw [strs_get ls k hlt] at hc
      have htl := HL.out _ (List.getElem_mem hlt)
      have HF := Kept.mk (flat_snoc ls k hlt)
      generalize ls[k] = t at *
      have ht := str_size t
      generalize hq : (ls.take k).flatten.length = q at *
      have HQ := Kept.mk hq
      clear hq
      by_cases h1 : t.length ≤ 20001
      · have hmn : min (t.length : Int) 20001 = t.length := by omega
        by_cases h2 : 20000 < q + t.length
        · have h2i : (20000 : Int) < (q : Int) + (t.length : Int) := by omega
          go_wp2_with fail
          go_ret
          exact ⟨k, HX.out.1, HX.out.2.1, by rw [HQ.out]; exact HX.out.2.2, rfl, rfl⟩
        · have h2i : ¬ (20000 : Int) < (q : Int) + (t.length : Int) := by omega
          have h2j : (q : Int) + (t.length : Int) ≤ 20000 := by omega
          by_cases h3 : k = 200
          · have h3i : (200 : Int) ≤ (k : Int) := by omega
            clear h3
            go_wp2_with fail
            go_ret
            exact ⟨k, HX.out.1, HX.out.2.1, by rw [HQ.out]; exact HX.out.2.2, rfl, rfl⟩
          · have h3i : (k : Int) < 200 := by omega
            go_wp2_with fail
            go_round
            case rel => exact ⟨k + 1, by omega, by omega, by rw [HF.out, List.length_append, HQ.out]; omega, by go_num, by rw [HF.out, List.length_append, HQ.out]; go_num⟩
            case measure => simp [RowKit.intOf]; omega
      · have hmn : min (t.length : Int) 20001 = 20001 := by omega
        have h2i : (20000 : Int) < (q : Int) + 20001 := by omega
        go_wp2_with fail
        go_ret
        exact ⟨k, HX.out.1, HX.out.2.1, by rw [HQ.out]; exact HX.out.2.2, rfl, rfl⟩
    · have hkl : k = ls.length := by omega
      subst hkl
      go_wp2_with fail
      go_ret
      exact ⟨ls.length, HX.out.1, HX.out.2.1, HX.out.2.2, rfl, rfl⟩

set_option maxRecDepth 100000 in
set_option maxHeartbeats 1000000 in
theorem Join_any (A : Option Addr) (c : Nat) (ls : List (List UInt8)) (w : World) (hr : RowAt w A (strs ls)) (hn : ls.length ≤ 1000000) (hl : ls.flatten.length ≤ 1000000) :
    Calls Tryd.prog 18 #[.slice A ls.length c] w fun e w' => e = .returned (.string (str ls.flatten)) ∧ w = w' := by
  have HR := Kept.mk hr
  clear hr
  have s0 := str_size ([] : List UInt8)
  go_enter Tryd.func18, Tryd.ntmps18
  go_wp2_with fail
  go_loop [3, 4] (fun s i => ∃ k : Nat, k ≤ ls.length ∧ i = .int .i64 k ∧ s = .string (str (ls.take k).flatten)) (fun _ i => ls.length - (RowKit.intOf i).toNat)
  case atStart => exact ⟨0, Nat.zero_le _, rfl, by rw [List.take_zero, List.flatten_nil, str_nil]; rfl⟩
  case round =>
    obtain ⟨k, hk, rfl, rfl⟩ := hrel
    by_cases hlt : k < ls.length
    · obtain ⟨ad, rfl, had, hc⟩ := HR.out.get (k := k) (by rw [strs_length]; exact hlt)
      rw [strs_get ls k hlt] at hc
      have HF := Kept.mk (flat_snoc ls k hlt)
      have hle := flat_le ls (k + 1)
      rw [HF.out, List.length_append] at hle
      generalize ls[k] = t at *
      generalize (ls.take k).flatten = q at *
      have ht := str_size t
      have hq := str_size q
      have HA := Kept.mk (str_append q t)
      go_wp2_with fail
      go_round
      case rel => exact ⟨k + 1, by omega, by go_num, by rw [HF.out, ← HA.out]⟩
      case measure => simp [RowKit.intOf]; omega
    · have hkl : k = ls.length := by omega
      subst hkl
      rw [List.take_length]
      go_wp2_with fail
      go_ret
      exact ⟨rfl, rfl⟩
end Go.Proofs.YtihhjjcghocgaaaDoor
