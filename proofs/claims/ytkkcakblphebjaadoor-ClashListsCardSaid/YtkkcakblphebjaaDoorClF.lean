/- The first unlike texts of any two trees; equality of lists. -/
import Derived.Test.YtkkcakblphebjaaDoorClE
namespace Go.Proofs.YtkkcakblphebjaaDoor
set_option linter.unusedVariables false
set_option linter.unusedSimpArgs false
open Go.RowKit Go.Lib
theorem strs_at (L : List (List UInt8)) (i : Nat) (h : i < L.length) : (strs L)[i]? = some (.string (str L[i])) := by
  unfold strs
  rw [List.getElem?_map, List.getElem?_eq_getElem h]; rfl

theorem RowAt.cellAt {w : World} {A : Option Addr} {xs : List Value} (h : RowAt w A xs) {j : Nat} {u : Value} (hu : xs[j]? = some u) : ∃ ad, A = some ad ∧ w.cell? (ad.add j) = some u := by
  obtain ⟨ad, e, _, hc⟩ := h (by have := (List.getElem?_eq_some_iff.1 hu).1; omega)
  exact ⟨ad, e, hc j u hu⟩
theorem TreeAt.gb {w lo : Nat} {X : World} {g : Nat} {l : List BL} (h : TreeAt w lo X g l) : ∃ p q, GB X g (.string (str (cTop w l))) (.string (str (cRoot w l))) p q := by
  cases h with
  | small _ _ _ _ h => exact ⟨_, _, h⟩
  | node _ _ _ _ _ _ _ _ h => exact ⟨_, _, h⟩
theorem TreeAt.leafs {w lo : Nat} {X : World} {g : Nat} {l : List BL} (h : TreeAt w lo X g l) (hl : l.length < 2) : ∃ q, GB X g (.string (str (cTop w l))) (.string (str (cRoot w l))) (.pointer none) q := by
  cases h with
  | small _ _ _ _ h => exact ⟨_, h⟩
  | node _ _ _ _ h1 _ _ _ h => omega
theorem TreeAt.kids {w lo : Nat} {X : World} {g : Nat} {l : List BL} (h : TreeAt w lo X g l) (hl : 2 ≤ l.length) : ∃ gl gr, TreeAt w lo X gl (l.take (cutN l.length)) ∧ TreeAt w lo X gr (l.drop (cutN l.length)) ∧ GB X g (.string (str (cTop w l))) (.string (str (cRoot w l))) (.pointer (some ⟨gl, 0, none⟩)) (.pointer (some ⟨gr, 0, none⟩)) := by
  cases h with
  | small _ _ h1 _ h => omega
  | node _ gl gr _ h1 _ a b h => exact ⟨gl, gr, a, b, h⟩
theorem differing_any (w : Int) (n : Nat) : ∀ (a b : List BL) (X : World) (lo lo' g g' : Nat), a.length = n → TreeAt (wid w) lo X g a → TreeAt (wid w) lo' X g' b →
    Calls Tryd.prog 30 #[.pointer (some ⟨g, 0, none⟩), .pointer (some ⟨g', 0, none⟩)] X fun e w' => e = .returned (cRes (cDif (wid w) a b)) ∧ Below X.heap.size X w' := by
  induction n using Nat.strongRecOn with
  | _ n ih =>
    intro a b X lo lo' g g' hn tA tB
    by_cases ht : cTop (wid w) a = cTop (wid w) b
    · rcases top_same (wid w) (wid_range w).2 a b ht with ⟨ha, hb, _, _⟩ | ⟨ha, hb, rfl⟩
      · have hcl := cutN_lt a.length (by omega)
        have hcp := cutN_pos a.length
        obtain ⟨gl, gr, tl, tr, hA⟩ := tA.kids ha
        obtain ⟨gl', gr', tl', tr', hB⟩ := tB.kids hb
        rw [← ht] at hB
        have hL := fun w' (hb : Below X.heap.size X w') => ih (cutN a.length) (by omega) _ _ w' lo lo' gl gl' (by rw [List.length_take]; omega) (tl.belowT hb) (tl'.belowT hb)
        have hR := fun w' (hb : Below X.heap.size X w') => ih (a.length - cutN a.length) (by omega) _ _ w' lo lo' gr gr' (by rw [List.length_drop]) (tr.belowT hb) (tr'.belowT hb)
        rw [cDif_node (wid w) a b ht ha]
        cases hl : cDif (wid w) (a.take (cutN a.length)) (b.take (cutN b.length)) with
        | some p =>
          simp only [hl] at hL
          exact dif_left _ X g g' gl gl' gr gr' _ _ (Kept.mk hA) (Kept.mk hB) (str p.1) (str p.2) (Kept.mk hL)
        | none =>
          simp only [hl] at hL
          cases hr : cDif (wid w) (a.drop (cutN a.length)) (b.drop (cutN b.length)) with
          | some p =>
            simp only [hr] at hR
            exact dif_right _ X g g' gl gl' gr gr' _ _ (Kept.mk hA) (Kept.mk hB) (str p.1) (str p.2) true (Kept.mk hL) (Kept.mk hR)
          | none =>
            simp only [hr] at hR
            exact dif_right _ X g g' gl gl' gr gr' _ _ (Kept.mk hA) (Kept.mk hB) (str []) (str []) false (Kept.mk hL) (Kept.mk hR)
      · obtain ⟨q, hA⟩ := tA.leafs ha
        obtain ⟨p', q', hB⟩ := tB.gb
        rw [cDif_short (wid w) a a rfl ha]
        exact dif_small _ X g g' _ _ _ _ _ hA hB
    · obtain ⟨p, q, hA⟩ := tA.gb
      obtain ⟨p', q', hB⟩ := tB.gb
      rw [cDif_top (wid w) a b ht]
      exact dif_top _ _ ht X g g' _ _ _ _ _ _ hA hB
attribute [local irreducible] str
set_option maxRecDepth 100000 in
set_option maxHeartbeats 1000000 in
theorem EqualS_any (A B : Option Addr) (ca cb : Nat) (la lb : List BL) (W : World) (hA : RowAt W A (strs la)) (hB : RowAt W B (strs lb)) (ha : la.length ≤ 1000000) (hb : lb.length ≤ 1000000) :
    Calls Tryd.prog 28 #[.slice A la.length ca, .slice B lb.length cb] W fun e w' => e = .returned (.bool (decide (la = lb))) ∧ Below W.heap.size W w' := by
  have Hl := Kept.mk (fun (h : la.length ≠ lb.length) => (decide_eq_false (fun e => h (congrArg List.length e)) : decide (la = lb) = false))
  have Hn := Kept.mk (fun i (h1 : i < la.length) (h2 : i < lb.length) (h : la[i] ≠ lb[i]) => (decide_eq_false (fun e => h (by subst e; rfl)) : decide (la = lb) = false))
  have He := Kept.mk (fun (h : la.length = lb.length) (h2 : ∀ i (h1 : i < la.length) (h2 : i < lb.length), la[i] = lb[i]) => (decide_eq_true (List.ext_getElem h h2) : decide (la = lb) = true))
  have HA := Kept.mk (fun i (h : i < la.length) => hA.cellAt (strs_at la i h))
  have HB := Kept.mk (fun i (h : i < lb.length) => hB.cellAt (strs_at lb i h))
  clear hA hB
  generalize decide (la = lb) = d at *
  go_enter Tryd.func28, Tryd.ntmps28
  by_cases hlen : la.length = lb.length
  · have hli : ¬ ((la.length : Int) ≠ (lb.length : Int)) := by omega
    have HLn := Kept.mk hlen
    rw [← hlen]
    clear hlen
    go_wp2_with fail
    go_loopw [5, 13] (fun c5 c wr => ∃ i : Nat, i ≤ la.length ∧ c = .int .i64 i ∧ (∃ k, wr = W.drewN k) ∧ ∀ j (h1 : j < la.length) (h2 : j < lb.length), j < i → la[j] = lb[j]) (fun _ c _ => la.length - (RowKit.intOf c).toNat)
    case atStart => exact ⟨0, by omega, rfl, ⟨0, rfl⟩, fun j _ _ h => absurd h (by omega)⟩
    case round =>
      obtain ⟨i, hi, rfl, ⟨k, rfl⟩, hp⟩ := hrel
      have HP := Kept.mk hp
      clear hp
      by_cases hlt : i < la.length
      · have hii : (i : Int) < (la.length : Int) := by omega
        have hl2 : i < lb.length := HLn.out ▸ hlt
        obtain ⟨ad, rfl, c0⟩ := HA.out i hlt
        obtain ⟨bd, rfl, c1⟩ := HB.out i hl2
        have Hni := Kept.mk (Hn.out i hlt hl2)
        have hst : la[i] = lb[i]'hl2 → ∀ j (h1 : j < la.length) (h2 : j < lb.length), j < i + 1 → la[j] = lb[j] := by
          intro h j h1 h2 hj
          by_cases hji : j < i
          · exact HP.out j h1 h2 hji
          · have e : j = i := by omega
            subst e; exact h
        have Hst := Kept.mk hst
        clear hst
        generalize la[i]'hlt = x at *
        generalize lb[i]'hl2 = y at *
        have tx := str_toList x
        have ty := str_toList y
        by_cases hxy : x = y
        · subst hxy
          go_upto_region 6 with fail
          go_quiet (fail)
          go_wp2_with fail
          exact ⟨⟨i + 1, hlt, by push_cast; rfl, ⟨_, rfl⟩, Hst.out rfl⟩, by show la.length - ((i : Int) + 1).toNat < la.length - ((i : Nat) : Int).toNat; omega⟩
        · have hbe : (x == y) = false := by simpa using hxy
          go_upto_region 6 with fail
          go_quiet (fail)
          go_wp2_with fail
          go_ret
          exact ⟨by rw [Hni.out hxy]; rfl, below_drewN (below_drewN (Below.refl _ _) _) _⟩
      · have hii : ¬ (i : Int) < (la.length : Int) := by omega
        go_wp2_with fail
        go_ret
        exact ⟨by rw [He.out HLn.out (fun j h1 h2 => HP.out j h1 h2 (by omega))]; rfl, below_drewN (Below.refl _ _) _⟩
  · have hli : ((la.length : Int) == (lb.length : Int)) = false := by simp; omega
    go_wp2_with fail
    go_ret
    exact ⟨by rw [Hl.out hlen]; rfl, Below.refl _ _⟩
end Go.Proofs.YtkkcakblphebjaaDoor
