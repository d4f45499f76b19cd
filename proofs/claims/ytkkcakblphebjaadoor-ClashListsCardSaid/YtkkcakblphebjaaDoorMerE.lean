/- Trees of sums: the document's root of any leaves' sums, by a contract. -/
import Derived.Test.YtkkcakblphebjaaDoorMerD
import Derived.Test.YtkkcakblphebjaaDoorMerC
import Derived.Test.YtkkcakblphebjaaDoorMerB
import Derived.Deep.RegionWith
namespace Go.Proofs.YtkkcakblphebjaaDoor
set_option linter.unusedVariables false
set_option linter.unusedSimpArgs false
open Go.RowKit Go.Lib
theorem refMSum_0 (w : Int) (W : World) : Calls Tryd.prog 27 #[.int .i64 w, .string { data := #[] }] W fun e w' => e = .returned (.string (str (tS (wid w) []))) ∧ Below W.heap.size W w' :=
  refMSum_any w [] W (by simp)
attribute [local irreducible] str sSum wid tS tLeaf tNode cutN
set_option maxRecDepth 100000 in
set_option maxHeartbeats 2000000 in
theorem refRoot_any (w : Int) (n : Nat) : ∀ (A : Option Addr) (c : Nat) (ls : List (List UInt8)) (W : World), ls.length = n → RowAt W A (strs ls) → (∀ l ∈ ls, l.length ≤ 400000000) → ls.length ≤ c → ls.length ≤ 4611686018427387903 →
    Calls Tryd.prog 22 #[.int .i64 w, .slice A ls.length c] W fun e w' => e = .returned (.string (str (tRoot (wid w) ls))) ∧ Below W.heap.size W w' := by
  induction n using Nat.strongRecOn with
  | _ n ih =>
    intro A c ls W hn hr hl hc hc2
    by_cases h0 : ls.length = 0
    · have : ls = [] := List.length_eq_zero_iff.1 h0
      subst this
      rw [tRoot_nil]
      clear ih hr hl
      rw [List.length_nil]
      go_enter Tryd.func22, Tryd.ntmps22
      go_wp2_with fail
      with_reducible refine (refMSum_0 w W).mono ?_
      rintro e w1 ⟨rfl, hb1⟩
      go_wp2_with fail
      go_ret
      exact ⟨rfl, hb1⟩
    · by_cases h1 : ls.length = 1
      · obtain ⟨x, rfl⟩ : ∃ x, ls = [x] := by
          match ls, h1 with
          | [x], _ => exact ⟨x, rfl⟩
        rw [tRoot_one]
        obtain ⟨ad, rfl, hl2, hcell⟩ := hr (by simp [strs])
        have c0 := hcell 0 _ (by simp [strs]; rfl)
        rw [add_0] at c0
        rw [List.length_singleton] at hc ⊢
        clear ih hl hcell hn h0 h1 hr
        go_enter Tryd.func22, Tryd.ntmps22
        go_wp2_with fail
        go_ret
        exact ⟨rfl, Below.refl _ _⟩
      · have hcl := cutN_lt ls.length (by omega)
        have hcp := cutN_pos ls.length
        have HC := Kept.mk (fun w => refCut_any ls.length w (by omega))
        have HT := Kept.mk (tRoot_node (wid w) ls (by omega))
        obtain ⟨ad, rfl, hl2, hcell⟩ := hr (by rw [strs_length]; omega)
        have HL := Kept.mk (fun w' (hb : Below W.heap.size W w') => ih (cutN ls.length) (by omega) (some ad) c (ls.take (cutN ls.length)) w' (by rw [List.length_take]; omega) ((strs_take ls (cutN ls.length)) ▸ (hr.below hb).take _) (fun l h => hl l (List.mem_of_mem_take h)) (by rw [List.length_take]; omega) (by rw [List.length_take]; omega))
        have HR := Kept.mk (fun w' (hb : Below W.heap.size W w') => ih (ls.length - cutN ls.length) (by omega) (some (ad.add (cutN ls.length))) (c - cutN ls.length) (ls.drop (cutN ls.length)) w' (by rw [List.length_drop]) ((strs_drop ls (cutN ls.length)) ▸ (hr.below hb).drop _ (by rw [strs_length]; omega)) (fun l h => hl l (List.mem_of_mem_drop h)) (by rw [List.length_drop]; omega) (by rw [List.length_drop]; omega))
        have hwid := (wid_range w).2
        have ha := tRoot_le (wid w) hwid 400000000 (by omega) (ls.take (cutN ls.length)) (fun l h => hl l (List.mem_of_mem_take h))
        have hb := tRoot_le (wid w) hwid 400000000 (by omega) (ls.drop (cutN ls.length)) (fun l h => hl l (List.mem_of_mem_drop h))
        rw [List.length_take, Nat.min_eq_left (by omega)] at HL
        rw [List.length_drop] at HR
        clear ih hr hl hcell
        generalize cutN ls.length = k at *
        rw [HT.out]
        generalize tRoot (wid w) (ls.take k) = a at *
        generalize tRoot (wid w) (ls.drop k) = b at *
        generalize ls.length = m at *
        clear hn HT
        go_enter Tryd.func22, Tryd.ntmps22
        go_wp2_with fail
        with_reducible refine (HC.out W).mono ?_
        rintro e w1 ⟨rfl, rfl⟩
        go_wp2_with fail
        go_region_with (first
          | (go_at_call 22; (first | (with_reducible refine (HL.out _ ?_).mono ?_) | (with_reducible refine (HR.out _ ?_).mono ?_)); (with_reducible first | exact Below.refl _ _ | assumption | (apply Below.drew; first | exact Below.refl _ _ | assumption)); rintro e wA ⟨rfl, hbA⟩; (have hbW : Below W.heap.size W wA := below_nextM (by with_reducible first | exact Below.refl _ _ | assumption | (apply Below.drew; first | exact Below.refl _ _ | assumption)) hbA))
          | (go_at_call 40; (with_reducible refine (refNode_any w a b _ (by omega)).mono ?_); rintro e wA ⟨rfl, hbA⟩; (have hbW : Below W.heap.size W wA := below_nextM (by with_reducible first | assumption | (apply Below.drew; assumption)) hbA)))
        all_goals
          go_wp2_with fail
          go_ret
          exact ⟨rfl, hbW⟩
end Go.Proofs.YtkkcakblphebjaaDoor
