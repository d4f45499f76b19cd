/- Trees of sums: not too many texts; two rows of one list: each by a contract. Sums, roots, proofs: walked by the contracts. -/
import Derived.Test.YtkkcakblphebjaaDoorMerJ
import Derived.Test.YtkkcakblphebjaaDoorStrO
namespace Go.Proofs.YtkkcakblphebjaaDoor
set_option linter.unusedVariables false
set_option linter.unusedSimpArgs false
open Go.RowKit Go.Lib
/-- so many of the texts -/
def FewM (A : Option Addr) (ls : List (List UInt8)) (c : Nat) (w : World) (e : Ending) (w' : World) : Prop :=
  ∃ k, k ≤ ls.length ∧ k ≤ 70 ∧ (ls.take k).flatten.length ≤ 20000 ∧ e = .returned (.slice A k c) ∧ w = w'
section
attribute [local irreducible] str
set_option maxRecDepth 100000 in
set_option maxHeartbeats 1000000 in
theorem fewM_any (A : Option Addr) (c : Nat) (ls : List (List UInt8)) (w : World) (hr : RowAt w A (strs ls)) (hm : ls.length ≤ 9223372036854775807) (hle : ∀ l ∈ ls, l.length ≤ 9223372036854775807) (hlc : ls.length ≤ c) (hc0 : c ≤ 9223372036854775807) :
    Calls Tryd.prog 12 #[.slice A ls.length c] w (FewM A ls c w) := by
  have HR := Kept.mk hr
  have HL := Kept.mk hle
  clear hr hle
  go_enter Tryd.func12, Tryd.ntmps12
  go_wp2_with fail
  go_loop [3, 4] (fun n i => ∃ k : Nat, k ≤ ls.length ∧ k ≤ 70 ∧ (ls.take k).flatten.length ≤ 20000 ∧ i = .int .i64 k ∧ n = .int .i64 ((ls.take k).flatten.length : Nat)) (fun _ i => 71 - (RowKit.intOf i).toNat)
  case atStart => exact ⟨0, Nat.zero_le _, by omega, by simp, rfl, rfl⟩
  case round =>
    obtain ⟨k, hk, hk2, hf, rfl, rfl⟩ := hrel
    have HX := Kept.mk (show k ≤ ls.length ∧ k ≤ 70 ∧ (ls.take k).flatten.length ≤ 20000 from ⟨hk, hk2, hf⟩)
    by_cases hlt : k < ls.length
    · have hkc : k ≤ c := by omega
      obtain ⟨ad, rfl, had, hc⟩ := HR.out.get (k := k) (by rw [strs_length]; exact hlt)
      rw [strs_get ls k hlt] at hc
      have htl := HL.out _ (List.getElem_mem hlt)
      have HF := Kept.mk (flat_snoc ls k hlt)
      generalize ls[k] = t at *
      have ht := str_size t
      generalize hq : (ls.take k).flatten.length = q at *
      have HQ := Kept.mk hq
      clear hq
      by_cases h1 : t.length ≤ 1048576
      · have hmn : min (t.length : Int) 1048576 = t.length := by omega
        by_cases h2 : 20000 < q + t.length
        · have h2i : (20000 : Int) < (q : Int) + (t.length : Int) := by omega
          go_wp2_with fail
          go_ret
          exact ⟨k, HX.out.1, HX.out.2.1, by rw [HQ.out]; exact HX.out.2.2, rfl, rfl⟩
        · have h2i : ¬ (20000 : Int) < (q : Int) + (t.length : Int) := by omega
          have h2j : (q : Int) + (t.length : Int) ≤ 20000 := by omega
          by_cases h3 : k = 70
          · have h3i : (70 : Int) ≤ (k : Int) := by omega
            clear h3
            go_wp2_with fail
            go_ret
            exact ⟨k, HX.out.1, HX.out.2.1, by rw [HQ.out]; exact HX.out.2.2, rfl, rfl⟩
          · have h3i : (k : Int) < 70 := by omega
            go_wp2_with fail
            go_round
            case rel => exact ⟨k + 1, by omega, by omega, by rw [HF.out, List.length_append, HQ.out]; omega, by go_num, by rw [HF.out, List.length_append, HQ.out]; go_num⟩
            case measure => simp [RowKit.intOf]; omega
      · have hmn : min (t.length : Int) 1048576 = 1048576 := by omega
        have h2i : (20000 : Int) < (q : Int) + 1048576 := by omega
        go_wp2_with fail
        go_ret
        exact ⟨k, HX.out.1, HX.out.2.1, by rw [HQ.out]; exact HX.out.2.2, rfl, rfl⟩
    · have hkl : k = ls.length := by omega
      subst hkl
      go_wp2_with fail
      go_ret
      exact ⟨ls.length, HX.out.1, HX.out.2.1, HX.out.2.2, rfl, rfl⟩

end
theorem elem_le (ls : List (List UInt8)) (n : Nat) (h : ls.flatten.length ≤ n) : ∀ l ∈ ls, l.length ≤ n := fun l hl => by
  obtain ⟨a, b, rfl⟩ := List.append_of_mem hl
  rw [List.flatten_append, List.length_append, List.flatten_cons, List.length_append] at h
  omega
end Go.Proofs.YtkkcakblphebjaaDoor
