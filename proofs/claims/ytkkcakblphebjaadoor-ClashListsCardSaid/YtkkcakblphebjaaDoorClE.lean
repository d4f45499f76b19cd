/- Growing of any list; the first unlike texts of two trees. -/
import Derived.Test.YtkkcakblphebjaaDoorClD
import Derived.OwnWalk
import Derived.Deep.RegionHeld3
namespace Go.Proofs.YtkkcakblphebjaaDoor
set_option linter.unusedVariables false
set_option linter.unusedSimpArgs false
open Go.RowKit Go.Lib
theorem grown_any (w : Int) (n : Nat) : ∀ (A : Option Addr) (c : Nat) (ls : List BL) (W : World), ls.length = n → RowAt W A (strs ls) → (∀ l ∈ ls, l.length ≤ 400000000) → ls.length ≤ c → ls.length ≤ 4611686018427387903 → KAt W →
    Calls Tryd.prog 29 #[.int .i64 w, .slice A ls.length c] W fun e w' => Grown w W ls e w' := by
  induction n using Nat.strongRecOn with
  | _ n ih =>
    intro A c ls W hn hr hl hc hc2 hk
    by_cases h0 : ls.length = 0
    · have : ls = [] := List.length_eq_zero_iff.1 h0
      subst this
      exact grown_0 w A c W hk
    · by_cases h1 : ls.length = 1
      · obtain ⟨x, rfl⟩ : ∃ x, ls = [x] := by
          match ls, h1 with
          | [x], _ => exact ⟨x, rfl⟩
        obtain ⟨ad, rfl, _, _⟩ := hr (by simp [strs])
        exact grown_1 w ad x c W hk (hl x (by simp)) hr hc
      · have hcl := cutN_lt ls.length (by omega)
        have hcp := cutN_pos ls.length
        obtain ⟨ad, rfl, hl2, hcell⟩ := hr (by rw [strs_length]; omega)
        have HL := Kept.mk (fun w' (hb : Below W.heap.size W w') => ih (cutN ls.length) (by omega) (some ad) c (ls.take (cutN ls.length)) w' (by rw [List.length_take]; omega) ((strs_take ls (cutN ls.length)) ▸ (hr.below hb).take _) (fun l h => hl l (List.mem_of_mem_take h)) (by rw [List.length_take]; omega) (by rw [List.length_take]; omega) (hk.below hb))
        have HR := Kept.mk (fun w' (hb : Below W.heap.size W w') => ih (ls.length - cutN ls.length) (by omega) (some (ad.add (cutN ls.length))) (c - cutN ls.length) (ls.drop (cutN ls.length)) w' (by rw [List.length_drop]) ((strs_drop ls (cutN ls.length)) ▸ (hr.below hb).drop _ (by rw [strs_length]; omega)) (fun l h => hl l (List.mem_of_mem_drop h)) (by rw [List.length_drop]; omega) (by rw [List.length_drop]; omega) (hk.below hb))
        rw [List.length_take, Nat.min_eq_left (by omega)] at HL
        rw [List.length_drop] at HR
        exact grown_n w ad ls c ls.length (cutN ls.length) W rfl rfl (by omega) hk hl hr hc hc2 HL HR
/-- what the functions answer -/
def cRes : Option (BL × BL) → Value
  | none => .tuple #[.string (str []), .string (str []), .bool false]
  | some p => .tuple #[.string (str p.1), .string (str p.2), .bool true]
attribute [local irreducible] str sSum wid tS tLeaf tNode cutN cRoot
set_option maxRecDepth 100000 in
set_option maxHeartbeats 4000000 in
theorem dif_top (a b : BL) (hne : a ≠ b) (X : World) (g g' : Nat) (ra la ha rb lb hb : Value) (hA : GB X g (.string (str a)) ra la ha) (hB : GB X g' (.string (str b)) rb lb hb) :
    Calls Tryd.prog 30 #[.pointer (some ⟨g, 0, none⟩), .pointer (some ⟨g', 0, none⟩)] X fun e w' => e = .returned (cRes (some (a, b))) ∧ Below X.heap.size X w' := by
  obtain ⟨⟨c0, c1, c2, c3⟩, _⟩ := hA.cells
  obtain ⟨⟨d0, d1, d2, d3⟩, _⟩ := hB.cells
  clear hA hB
  have ta := str_toList a
  have tb := str_toList b
  have hbe : (a == b) = false := by simpa using hne
  go_enter Tryd.func30, Tryd.ntmps30
  go_upto_region 1 with fail
  go_quiet (fail)
  go_wp2_with fail
  go_quiet (fail)
  go_wp2_with fail
  go_ret3
  exact ⟨rfl, below_drewN (below_drewN (Below.refl _ _) _) _⟩
set_option maxRecDepth 100000 in
set_option maxHeartbeats 4000000 in
theorem dif_small (a : BL) (X : World) (g g' : Nat) (ra ha rb lb hb : Value) (hA : GB X g (.string (str a)) ra (.pointer none) ha) (hB : GB X g' (.string (str a)) rb lb hb) :
    Calls Tryd.prog 30 #[.pointer (some ⟨g, 0, none⟩), .pointer (some ⟨g', 0, none⟩)] X fun e w' => e = .returned (.tuple #[.string { data := #[] }, .string { data := #[] }, .bool false]) ∧ Below X.heap.size X w' := by
  obtain ⟨⟨c0, c1, c2, c3⟩, _⟩ := hA.cells
  obtain ⟨⟨d0, d1, d2, d3⟩, _⟩ := hB.cells
  clear hA hB
  have ta := str_toList a
  go_enter Tryd.func30, Tryd.ntmps30
  go_upto_region 1 with fail
  go_quiet (fail)
  go_wp2_with fail
  go_ret3
  exact ⟨rfl, below_drewN (Below.refl _ _) _⟩
set_option maxRecDepth 100000 in
set_option maxHeartbeats 1000000 in
theorem dif_left (a : BL) (X : World) (g g' gl gl' gr gr' : Nat) (ra rb : Value) (HA : Kept (GB X g (.string (str a)) ra (.pointer (some ⟨gl, 0, none⟩)) (.pointer (some ⟨gr, 0, none⟩)))) (HB : Kept (GB X g' (.string (str a)) rb (.pointer (some ⟨gl', 0, none⟩)) (.pointer (some ⟨gr', 0, none⟩)))) (x y : ByteArray) (HL : Kept (∀ w', Below X.heap.size X w' → Calls Tryd.prog 30 #[.pointer (some ⟨gl, 0, none⟩), .pointer (some ⟨gl', 0, none⟩)] w' fun e w2 => e = .returned (.tuple #[.string x, .string y, .bool true]) ∧ Below w'.heap.size w' w2)) :
    Calls Tryd.prog 30 #[.pointer (some ⟨g, 0, none⟩), .pointer (some ⟨g', 0, none⟩)] X fun e w' => e = .returned (.tuple #[.string x, .string y, .bool true]) ∧ Below X.heap.size X w' := by
  obtain ⟨⟨c0, c1, c2, c3⟩, _⟩ := HA.out.cells
  obtain ⟨⟨d0, d1, d2, d3⟩, _⟩ := HB.out.cells
  have ta := str_toList a
  have hrefl := Below.refl X.heap.size X
  have KS2 := Kept.mk (fun w' (hb : Below X.heap.size X w') => (show (w'.cell? ⟨g, 2, none⟩ = some (.pointer (some ⟨gl, 0, none⟩)) ∧ w'.cell? ⟨g', 2, none⟩ = some (.pointer (some ⟨gl', 0, none⟩))) ∧ Below X.heap.size X w' from ⟨⟨(HA.out.keep hb).cells.1.2.2.1, (HB.out.keep hb).cells.1.2.2.1⟩, hb⟩))
  go_enter Tryd.func30, Tryd.ntmps30
  go_upto_region 1 with fail
  go_quiet (fail)
  have hr1 : Below X.heap.size X _ := below_drewN hrefl nq
  generalize X.drewN nq = X1 at *
  clear c0 c1 c2 c3 d0 d1 d2 d3
  obtain ⟨⟨c0, c1, c2, c3⟩, _⟩ := (HA.out.keep hr1).cells
  obtain ⟨⟨d0, d1, d2, d3⟩, _⟩ := (HB.out.keep hr1).cells
  go_wp2_with fail
  go_region_held3 (fun w' => (w'.cell? ⟨g, 2, none⟩ = some (.pointer (some ⟨gl, 0, none⟩)) ∧ w'.cell? ⟨g', 2, none⟩ = some (.pointer (some ⟨gl', 0, none⟩))) ∧ Below X.heap.size X w')
    (first
      | exact KS2.out _ hr1.drew
      | (go_split_ands; exact KS2.out _ (bnext (by assumption) hbwA))
      | (go_split_ands; exact KS2.out _ (by assumption)))
    (first
      | (go_at_call 30; go_split_ands; with_reducible refine (HL.out _ (by assumption)).mono ?_; rintro e wA ⟨rfl, hbwA⟩))
  all_goals
    go_split_ands
    have HBA := Kept.mk (show Below X.heap.size X wA by assumption)
    clear c0 c1 c2 c3 d0 d1 d2 d3 hr1
    go_wp2_with fail
    go_ret3
    exact ⟨rfl, HBA.out⟩
set_option maxRecDepth 100000 in
set_option maxHeartbeats 1000000 in
theorem dif_right (a : BL) (X : World) (g g' gl gl' gr gr' : Nat) (ra rb : Value) (HA : Kept (GB X g (.string (str a)) ra (.pointer (some ⟨gl, 0, none⟩)) (.pointer (some ⟨gr, 0, none⟩)))) (HB : Kept (GB X g' (.string (str a)) rb (.pointer (some ⟨gl', 0, none⟩)) (.pointer (some ⟨gr', 0, none⟩)))) (x y : ByteArray) (b : Bool) (HL : Kept (∀ w', Below X.heap.size X w' → Calls Tryd.prog 30 #[.pointer (some ⟨gl, 0, none⟩), .pointer (some ⟨gl', 0, none⟩)] w' fun e w2 => e = .returned (.tuple #[.string { data := #[] }, .string { data := #[] }, .bool false]) ∧ Below w'.heap.size w' w2)) (HR : Kept (∀ w', Below X.heap.size X w' → Calls Tryd.prog 30 #[.pointer (some ⟨gr, 0, none⟩), .pointer (some ⟨gr', 0, none⟩)] w' fun e w2 => e = .returned (.tuple #[.string x, .string y, .bool b]) ∧ Below w'.heap.size w' w2)) :
    Calls Tryd.prog 30 #[.pointer (some ⟨g, 0, none⟩), .pointer (some ⟨g', 0, none⟩)] X fun e w' => e = .returned (.tuple #[.string x, .string y, .bool b]) ∧ Below X.heap.size X w' := by
  obtain ⟨⟨c0, c1, c2, c3⟩, _⟩ := HA.out.cells
  obtain ⟨⟨d0, d1, d2, d3⟩, _⟩ := HB.out.cells
  have ta := str_toList a
  have hrefl := Below.refl X.heap.size X
  have KS2 := Kept.mk (fun w' (hb : Below X.heap.size X w') => (show (w'.cell? ⟨g, 2, none⟩ = some (.pointer (some ⟨gl, 0, none⟩)) ∧ w'.cell? ⟨g', 2, none⟩ = some (.pointer (some ⟨gl', 0, none⟩))) ∧ Below X.heap.size X w' from ⟨⟨(HA.out.keep hb).cells.1.2.2.1, (HB.out.keep hb).cells.1.2.2.1⟩, hb⟩))
  have KS3 := Kept.mk (fun w' (hb : Below X.heap.size X w') => (show (w'.cell? ⟨g, 3, none⟩ = some (.pointer (some ⟨gr, 0, none⟩)) ∧ w'.cell? ⟨g', 3, none⟩ = some (.pointer (some ⟨gr', 0, none⟩))) ∧ Below X.heap.size X w' from ⟨⟨(HA.out.keep hb).cells.1.2.2.2, (HB.out.keep hb).cells.1.2.2.2⟩, hb⟩))
  go_enter Tryd.func30, Tryd.ntmps30
  go_upto_region 1 with fail
  go_quiet (fail)
  have hr1 : Below X.heap.size X _ := below_drewN hrefl nq
  generalize X.drewN nq = X1 at *
  clear c0 c1 c2 c3 d0 d1 d2 d3
  obtain ⟨⟨c0, c1, c2, c3⟩, _⟩ := (HA.out.keep hr1).cells
  obtain ⟨⟨d0, d1, d2, d3⟩, _⟩ := (HB.out.keep hr1).cells
  go_wp2_with fail
  go_region_held3 (fun w' => (w'.cell? ⟨g, 2, none⟩ = some (.pointer (some ⟨gl, 0, none⟩)) ∧ w'.cell? ⟨g', 2, none⟩ = some (.pointer (some ⟨gl', 0, none⟩))) ∧ Below X.heap.size X w')
    (first
      | exact KS2.out _ hr1.drew
      | (go_split_ands; exact KS2.out _ (bnext (by assumption) hbwA))
      | (go_split_ands; exact KS2.out _ (by assumption)))
    (first
      | (go_at_call 30; go_split_ands; with_reducible refine (HL.out _ (by assumption)).mono ?_; rintro e wA ⟨rfl, hbwA⟩))
  all_goals
    go_split_ands
    have HBA := Kept.mk (show Below X.heap.size X wA by assumption)
    clear c0 c1 c2 c3 d0 d1 d2 d3 hr1
    obtain ⟨⟨c0, c1, c2, c3⟩, _⟩ := (HA.out.keep HBA.out).cells
    obtain ⟨⟨d0, d1, d2, d3⟩, _⟩ := (HB.out.keep HBA.out).cells
    go_wp2_with fail
    go_region_held3 (fun w' => (w'.cell? ⟨g, 3, none⟩ = some (.pointer (some ⟨gr, 0, none⟩)) ∧ w'.cell? ⟨g', 3, none⟩ = some (.pointer (some ⟨gr', 0, none⟩))) ∧ Below X.heap.size X w')
      (first
        | exact KS3.out _ HBA.out.drew
        | (go_split_ands; exact KS3.out _ (bnext (by assumption) hbwB))
        | (go_split_ands; exact KS3.out _ (by assumption)))
      (first
        | (go_at_call 30; go_split_ands; with_reducible refine (HR.out _ (by assumption)).mono ?_; rintro e wB ⟨rfl, hbwB⟩))
    all_goals
      go_split_ands
      have HBB := Kept.mk (show Below X.heap.size X wB by assumption)
      go_wp2_with fail
      go_ret3
      exact ⟨rfl, HBB.out⟩
end Go.Proofs.YtkkcakblphebjaaDoor
