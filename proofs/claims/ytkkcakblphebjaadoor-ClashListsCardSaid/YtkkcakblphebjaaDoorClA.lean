/- Clashes by definition: the tops, the roots, each by a contract. -/
import Derived.Test.YtkkcakblphebjaaDoorClM
import Derived.Test.YtkkcakblphebjaaDoorMerE
import Derived.Test.YtkkcakblphebjaaDoorHw
import Derived.Deep.RegionHeld3
namespace Go.Proofs.YtkkcakblphebjaaDoor
set_option linter.unusedVariables false
set_option linter.unusedSimpArgs false
open Go.RowKit Go.Lib
theorem str1_size : (str [1]).size = 1 := rfl
theorem str0_size : (str [0]).size = 1 := rfl
attribute [local irreducible] str sSum wid tS tLeaf tNode cutN cRoot
set_option maxRecDepth 100000 in
set_option maxHeartbeats 2000000 in
theorem refTop_any (w : Int) (n : Nat) : ∀ (A : Option Addr) (c : Nat) (ls : List (List UInt8)) (W : World), ls.length = n → RowAt W A (strs ls) → (∀ l ∈ ls, l.length ≤ 400000000) → ls.length ≤ c → ls.length ≤ 4611686018427387903 →
    Calls Tryd.prog 31 #[.int .i64 w, .slice A ls.length c] W fun e w' => e = .returned (.string (str (cTop (wid w) ls))) ∧ Below W.heap.size W w' := by
  induction n using Nat.strongRecOn with
  | _ n ih =>
    intro A c ls W hn hr hl hc hc2
    by_cases h0 : ls.length = 0
    · have : ls = [] := List.length_eq_zero_iff.1 h0
      subst this
      rw [cTop_nil, str_nil]
      clear ih hr hl
      rw [List.length_nil]
      go_enter Tryd.func31, Tryd.ntmps31
      go_wp2_with fail
      go_ret
      exact ⟨rfl, Below.refl _ _⟩
    · by_cases h1 : ls.length = 1
      · obtain ⟨x, rfl⟩ : ∃ x, ls = [x] := by
          match ls, h1 with
          | [x], _ => exact ⟨x, rfl⟩
        rw [cTop_one]
        obtain ⟨ad, rfl, hl2, hcell⟩ := hr (by simp [strs])
        have c0 := hcell 0 _ (by simp [strs]; rfl)
        rw [add_0] at c0
        rw [List.length_singleton] at hc ⊢
        have hx := hl x (by simp)
        have e0 := lit_0
        have A0 := str_append [0] x
        rw [List.singleton_append] at A0
        have s1 := str_size x
        have s0 := str0_size
        clear ih hl hcell hn h0 h1 hr
        go_enter Tryd.func31, Tryd.ntmps31
        go_wp2_with fail
        go_ret
        exact ⟨rfl, Below.refl _ _⟩
      · have hcl := cutN_lt ls.length (by omega)
        have hcp := cutN_pos ls.length
        have HC := Kept.mk (fun w => refCut_any ls.length w (by omega))
        have HT := Kept.mk (cTop_node (wid w) ls (by omega))
        obtain ⟨ad, rfl, hl2, hcell⟩ := hr (by rw [strs_length]; omega)
        have HL := Kept.mk (fun w' (hb : Below W.heap.size W w') => ih (cutN ls.length) (by omega) (some ad) c (ls.take (cutN ls.length)) w' (by rw [List.length_take]; omega) ((strs_take ls (cutN ls.length)) ▸ (hr.below hb).take _) (fun l h => hl l (List.mem_of_mem_take h)) (by rw [List.length_take]; omega) (by rw [List.length_take]; omega))
        have HR := Kept.mk (fun w' (hb : Below W.heap.size W w') => ih (ls.length - cutN ls.length) (by omega) (some (ad.add (cutN ls.length))) (c - cutN ls.length) (ls.drop (cutN ls.length)) w' (by rw [List.length_drop]) ((strs_drop ls (cutN ls.length)) ▸ (hr.below hb).drop _ (by rw [strs_length]; omega)) (fun l h => hl l (List.mem_of_mem_drop h)) (by rw [List.length_drop]; omega) (by rw [List.length_drop]; omega))
        have hwid := (wid_range w).2
        have ha := cTop_le (wid w) hwid 400000000 (by omega) (ls.take (cutN ls.length)) (fun l h => hl l (List.mem_of_mem_take h))
        have hb := cTop_le (wid w) hwid 400000000 (by omega) (ls.drop (cutN ls.length)) (fun l h => hl l (List.mem_of_mem_drop h))
        rw [List.length_take, Nat.min_eq_left (by omega)] at HL
        rw [List.length_drop] at HR
        have e1 := lit_1
        have A1 := str_append [1] (tS (wid w) (cTop (wid w) (ls.take (cutN ls.length))))
        have A2 := str_append ([1] ++ tS (wid w) (cTop (wid w) (ls.take (cutN ls.length)))) (tS (wid w) (cTop (wid w) (ls.drop (cutN ls.length))))
        rw [show [1] ++ tS (wid w) (cTop (wid w) (ls.take (cutN ls.length))) ++ tS (wid w) (cTop (wid w) (ls.drop (cutN ls.length))) = cTop (wid w) ls from by rw [HT.out]; simp] at A2
        have q1 := str_size (tS (wid w) (cTop (wid w) (ls.take (cutN ls.length))))
        have q2 := str_size (tS (wid w) (cTop (wid w) (ls.drop (cutN ls.length))))
        have q3 := str_size ([1] ++ tS (wid w) (cTop (wid w) (ls.take (cutN ls.length))))
        have q0 := str1_size
        rw [List.length_append, tS_length _ _ hwid] at q3
        rw [tS_length _ _ hwid] at q1 q2
        rw [List.length_singleton] at q3
        have p1 : ¬ (9223372036854775807 < (str [1]).size + (str (tS (wid w) (cTop (wid w) (ls.take (cutN ls.length))))).size) := by omega
        have p1b : ¬ (9223372036854775807 < 1 + (str (tS (wid w) (cTop (wid w) (ls.take (cutN ls.length))))).size) := by omega
        have p2 : ¬ (9223372036854775807 < (str ([1] ++ tS (wid w) (cTop (wid w) (ls.take (cutN ls.length))))).size + (str (tS (wid w) (cTop (wid w) (ls.drop (cutN ls.length))))).size) := by omega
        have HS1 := Kept.mk (fun w' => refMSum_any w (cTop (wid w) (ls.take (cutN ls.length))) w' (by omega))
        have HS2 := Kept.mk (fun w' => refMSum_any w (cTop (wid w) (ls.drop (cutN ls.length))) w' (by omega))
        clear ih hr hl hcell q0 q1 q2 q3 ha hb
        generalize cutN ls.length = k at *
        generalize hR : cTop (wid w) ls = R at *
        generalize hY : [1] ++ tS (wid w) (cTop (wid w) (ls.take k)) = Y at *
        generalize tS (wid w) (cTop (wid w) (ls.take k)) = u at *
        generalize tS (wid w) (cTop (wid w) (ls.drop k)) = v at *
        generalize cTop (wid w) (ls.take k) = a at *
        generalize cTop (wid w) (ls.drop k) = b at *
        generalize ls.length = m at *
        clear hn HT hR hY
        have k0 : (0 : Int) ≤ (k : Int) := by omega
        have k1 : (k : Int) ≤ (m : Int) := by omega
        have k2 : (m : Int) ≤ (c : Int) := by omega
        have k3 : (k : Int) ≤ (c : Int) := by omega
        have k4 : (0 : Int) ≤ (m : Int) := by omega
        have k5 : ¬ k = m := by omega
        have k6 : k ≤ m := by omega
        have k7 : k ≤ c := by omega
        go_enter Tryd.func31, Tryd.ntmps31
        go_wp2_with fail
        with_reducible refine (HC.out W).mono ?_
        rintro e w1 ⟨rfl, rfl⟩
        go_wp2_with fail
        go_region_held3 (fun w' => Below W.heap.size W w')
          (first
            | exact (Below.refl _ _).drew
            | exact bnext (by assumption) hbA
            | assumption)
          (first
            | (go_at_call 31; (first | (with_reducible refine (HL.out _ (by assumption)).mono ?_) | (with_reducible refine (HR.out _ (by assumption)).mono ?_)); rintro e wA ⟨rfl, hbA⟩)
            | (go_at_call 27; (first | (with_reducible refine (HS1.out _).mono ?_) | (with_reducible refine (HS2.out _).mono ?_)); rintro e wA ⟨rfl, hbA⟩))
        all_goals
          have HE := Kept.mk (show Below W.heap.size W _ by assumption)
          go_wp2_with fail
          go_ret
          exact ⟨rfl, HE.out⟩
end Go.Proofs.YtkkcakblphebjaaDoor
