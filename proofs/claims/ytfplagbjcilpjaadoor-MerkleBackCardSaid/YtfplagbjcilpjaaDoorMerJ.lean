/- Trees of sums: the chapter's examples; not too many texts: each by a contract. -/
import Derived.Test.YtfplagbjcilpjaaDoorMerI
namespace Go.Proofs.YtfplagbjcilpjaaDoor
set_option linter.unusedVariables false
set_option linter.unusedSimpArgs false
open Go.RowKit Go.Lib
theorem cut_2 : cutN 2 = 1 := cutN_small 2 (by omega)
theorem cut_3 : cutN 3 = 2 := cutN_of 3 1 (by decide) (by decide) (by decide)
theorem cut_5 : cutN 5 = 4 := cutN_of 5 2 (by decide) (by decide) (by decide)
theorem root_2 (w : Nat) (a b : List UInt8) : tRoot w [a, b] = tNode w a b := by
  have e : [a, b].length = 2 := rfl
  rw [tRoot_node w [a, b] (by simp), e, cut_2]
  show tNode w (tRoot w [a]) (tRoot w [b]) = _
  rw [tRoot_one, tRoot_one]
theorem root_3 (w : Nat) (a b c : List UInt8) : tRoot w [a, b, c] = tNode w (tNode w a b) c := by
  have e : [a, b, c].length = 3 := rfl
  rw [tRoot_node w [a, b, c] (by simp), e, cut_3]
  show tNode w (tRoot w [a, b]) (tRoot w [c]) = _
  rw [tRoot_one, root_2]
theorem proof_3 (w : Nat) (a b c : List UInt8) : tProof w 2 [a, b, c] = [tNode w a b] := by
  have e : [a, b, c].length = 3 := rfl
  rw [tProof_right w 2 [a, b, c] (by simp) (by rw [e, cut_3]; decide), e, cut_3]
  show tProof w 0 [c] ++ [tRoot w [a, b]] = _
  rw [tProof_short w 0 [c] (by simp), root_2]; rfl
theorem wid_32 : wid 32 = 32 := by unfold wid; rfl
theorem leaf_lit (c : UInt8) (W : World) (hk : KAt W) : Calls Tryd.prog 17 #[.int .i64 32, .string ⟨#[c]⟩] W fun e w' => e = .returned (.string (str (tLeaf 32 [c]))) ∧ Below W.heap.size W w' := by
  have h := Leaf_any 32 [c] W hk (by simp)
  rw [wid_32] at h
  exact h
theorem mproof_3 (a b c : List UInt8) (W : World) (T : TypeId) (hk : KAt W) (ha : a.length = 32) (hb : b.length = 32) (hc : c.length = 32) :
    Calls Tryd.prog 26 #[.int .i64 32, .int .i64 2, .slice (some ⟨W.heap.size, 0, none⟩) 3 3] (W.alloc (.cells #[.string (str a), .string (str b), .string (str c)] T)) fun e w' => ∃ g cap, e = .returned (.tuple #[.slice (some ⟨g, 0, none⟩) 1 cap, .int .i64 0]) ∧ w'.cell? ⟨g, 0, none⟩ = some (.string (str (tNode 32 a b))) ∧ Below W.heap.size W w' :=
  (Proof_any 32 2 _ 3 [a, b, c] _ (hk.alloc _) (by simp) (row_new W [a, b, c] T) (by
    intro l hl
    simp only [List.mem_cons, List.not_mem_nil, or_false] at hl
    rcases hl with rfl | rfl | rfl <;> omega) (by simp) (by simp) (by simp)).mono fun e w' ⟨v, he, hv⟩ => by
    rw [wid_32, proof_3] at hv
    obtain ⟨g, cap, rfl, _, _, _, hrow⟩ := hv.row (by rw [strs_length]; simp)
    exact ⟨g, cap, he, hrow.off0 (strs_get? _ 0 (by simp)), below_new hv.1⟩
theorem mroot_3 (a b c : List UInt8) (W : World) (T : TypeId) (hk : KAt W) (ha : a.length = 32) (hb : b.length = 32) (hc : c.length = 32) :
    Calls Tryd.prog 22 #[.int .i64 32, .slice (some ⟨W.heap.size, 0, none⟩) 3 3] (W.alloc (.cells #[.string (str a), .string (str b), .string (str c)] T)) fun e w' => e = .returned (.string (str (tNode 32 (tNode 32 a b) c))) ∧ Below W.heap.size W w' :=
  (Root_any 32 3 _ 3 [a, b, c] _ rfl (row_new W [a, b, c] T) (hk.alloc _) (by
    intro l hl
    simp only [List.mem_cons, List.not_mem_nil, or_false] at hl
    rcases hl with rfl | rfl | rfl <;> omega) (by simp) (by simp)).mono fun e w' h => by
    rw [wid_32, root_3] at h
    exact ⟨h.1, below_new h.2⟩
theorem RowAt.drew {w : World} {A : Option Addr} {xs : List Value} (h : RowAt w A xs) : RowAt w.drew A xs := fun hx => h hx
theorem mroot_3d (a b c : List UInt8) (W : World) (T : TypeId) (hk : KAt W) (ha : a.length = 32) (hb : b.length = 32) (hc : c.length = 32) :
    Calls Tryd.prog 22 #[.int .i64 32, .slice (some ⟨W.heap.size, 0, none⟩) 3 3] (W.alloc (.cells #[.string (str a), .string (str b), .string (str c)] T)).drew fun e w' => e = .returned (.string (str (tNode 32 (tNode 32 a b) c))) ∧ Below (W.alloc (.cells #[.string (str a), .string (str b), .string (str c)] T)).drew.heap.size (W.alloc (.cells #[.string (str a), .string (str b), .string (str c)] T)).drew w' :=
  (Root_any 32 3 _ 3 [a, b, c] (W.alloc (.cells #[.string (str a), .string (str b), .string (str c)] T)).drew rfl (row_new W [a, b, c] T).drew (hk.alloc _).drew (by
    intro l hl
    simp only [List.mem_cons, List.not_mem_nil, or_false] at hl
    rcases hl with rfl | rfl | rfl <;> omega) (by simp) (by simp)).mono fun e w' h => by
    rw [wid_32, root_3] at h
    exact ⟨h.1, h.2⟩
theorem mnode (a b : List UInt8) (W : World) (hk : KAt W) (ha : a.length = 32) (hb : b.length = 32) :
    Calls Tryd.prog 19 #[.int .i64 32, .string (str a), .string (str b)] W fun e w' => e = .returned (.string (str (tNode 32 a b))) ∧ Below W.heap.size W w' := by
  have h := Node_any 32 a b W hk (by omega)
  rw [wid_32] at h
  exact h
theorem mcut_5 (W : World) : Calls Tryd.prog 24 #[.int .i64 5] W fun e w' => e = .returned (.int .i64 4) ∧ W = w' :=
  (Cut_any 5 W (by decide)).mono fun e w' h => by rw [cut_5] at h; exact h
theorem below_allocM {w X : World} (h : Below w.heap.size w X) (o : Obj) : Below w.heap.size w (X.alloc o) := h.alloc h.size o
attribute [local irreducible] str sSum wid tS tLeaf tNode cutN strs
set_option maxRecDepth 100000 in
set_option maxHeartbeats 4000000 in
theorem merAwake_any (W : World) (hk : KAt W) : Calls Tryd.prog 12 #[] W fun e w' => e = .returned (.bool true) ∧ Below W.heap.size W w' := by
  go_enter Tryd.func12, Tryd.ntmps12
  go_wp2_with fail
  with_reducible refine (leaf_lit 97 W hk).mono ?_
  rintro e w1 ⟨rfl, b1⟩
  have k1 := hk.below b1
  go_wp2_with fail
  with_reducible refine (leaf_lit 98 w1 k1).mono ?_
  rintro e w2 ⟨rfl, b2⟩
  have k2 := k1.below b2
  have b2 := b1.trans (b2.mono b1.size)
  clear b1 k1
  go_wp2_with fail
  with_reducible refine (leaf_lit 99 w2 k2).mono ?_
  rintro e w3 ⟨rfl, b3⟩
  have k3 := k2.below b3
  have B3 := Kept.mk (b2.trans (b3.mono b2.size))
  clear b2 b3 k2
  have la := tLeaf_length 32 [97] (by decide)
  have lb := tLeaf_length 32 [98] (by decide)
  have lc := tLeaf_length 32 [99] (by decide)
  generalize tLeaf 32 [97] = a at *
  generalize tLeaf 32 [98] = b at *
  generalize tLeaf 32 [99] = c at *
  have lab := tNode_length 32 a b (by decide)
  have HK3 := Kept.mk k3
  have HPR := Kept.mk (mproof_3 a b c w3 9 k3 la lb lc)
  clear k3 hk
  go_wp2_with fail
  with_reducible refine (HPR.out).mono ?_
  rintro e w4 ⟨g, cap, rfl, hc4, b4⟩
  have HK4 := Kept.mk (HK3.out.below b4)
  have B4 := Kept.mk (B3.out.trans (b4.mono B3.out.size))
  have hg := block_of_cell hc4
  have HC := Kept.mk (fun w' (h : Below w4.heap.size w4 w') => (h.cell (p := ⟨g, 0, none⟩) hg).trans hc4)
  have HS := Kept.mk (fun w' (h : Below w4.heap.size w4 w') => show w'.cell? ⟨g, 0, none⟩ = some (.string (str (tNode 32 a b))) ∧ Below w4.heap.size w4 w' from ⟨HC.out w' h, h⟩)
  have HR := Kept.mk (fun w' (h : Below w4.heap.size w4 w') => mroot_3d a b c w' 9 (HK4.out.below h) la lb lc)
  have HN1 := Kept.mk (fun w' (h : Below w4.heap.size w4 w') => mnode a b w' (HK4.out.below h) la lb)
  have HN2 := Kept.mk (fun w' (h : Below w4.heap.size w4 w') => mnode (tNode 32 a b) c w' (HK4.out.below h) lab lc)
  have sa := str_size a
  rw [la] at sa
  clear HPR B3 b4 HK3 lb lc lab la
  generalize tNode 32 (tNode 32 a b) c = abc at *
  generalize tNode 32 a b = ab at *
  go_wp2_with fail
  go_region_held3 (fun w' => w'.cell? ⟨g, 0, none⟩ = some (.string (str ab)) ∧ Below w4.heap.size w4 w')
    (first
      | exact HS.out _ (Below.refl _ _).drew
      | (go_split_ands; exact HS.out _ (below_allocM (by assumption) _))
      | (go_split_ands; exact HS.out _ (below_nextM (by assumption) hbA))
      | (go_split_ands; exact HS.out _ (by assumption)))
    (first
      | (go_at_call 24; with_reducible refine (mcut_5 _).mono ?_; rintro e wA ⟨rfl, rfl⟩)
      | (go_at_call 22; go_split_ands; (first | with_reducible refine (HR.out _ (by assumption)).mono ?_ | with_reducible refine (HR.out _ (Below.refl _ _)).mono ?_); rintro e wA ⟨rfl, hbA⟩)
      | (go_at_call 19; go_split_ands; (first | with_reducible refine (HN1.out _ (by assumption)).mono ?_ | with_reducible refine (HN2.out _ (by assumption)).mono ?_); rintro e wA ⟨rfl, hbA⟩))
  all_goals
    go_split_ands
    have HB := Kept.mk (B4.out.trans ((show Below w4.heap.size w4 _ by assumption).mono B4.out.size))
    go_wp2_with fail
    go_ret
    exact ⟨rfl, HB.out⟩
end Go.Proofs.YtfplagbjcilpjaaDoor
