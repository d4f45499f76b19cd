/- Clashes: what the program finds. -/
import Derived.Test.YtkkcakblphebjaaDoorClH
import Derived.Test.YtkkcakblphebjaaDoorMerK
namespace Go.Proofs.YtkkcakblphebjaaDoor
set_option linter.unusedVariables false
set_option linter.unusedSimpArgs false
open Go.RowKit Go.Lib
theorem cDif_le (w : Nat) (hw : w ≤ 32) (L : Nat) (hL : 64 ≤ L) (n : Nat) : ∀ (a b : List BL) (p : BL × BL), a.length = n → (∀ l ∈ a, l.length ≤ L) → (∀ l ∈ b, l.length ≤ L) → cDif w a b = some p → p.1.length ≤ L + 1 ∧ p.2.length ≤ L + 1 := by
  induction n using Nat.strongRecOn with
  | _ n ih =>
    intro a b p hn ha hb h
    by_cases ht : cTop w a = cTop w b
    · by_cases h2 : a.length < 2
      · rw [cDif_short w a b ht h2] at h; cases h
      · have hcl := cutN_lt a.length (by omega)
        have hcp := cutN_pos a.length
        rw [cDif_node w a b ht (by omega)] at h
        cases hl : cDif w (a.take (cutN a.length)) (b.take (cutN b.length)) with
        | some q =>
          rw [hl] at h
          cases h
          exact ih (cutN a.length) (by omega) _ _ _ (by rw [List.length_take]; omega) (fun l h => ha l (List.mem_of_mem_take h)) (fun l h => hb l (List.mem_of_mem_take h)) hl
        | none =>
          rw [hl] at h
          exact ih (a.length - cutN a.length) (by omega) _ _ _ (by rw [List.length_drop]) (fun l h => ha l (List.mem_of_mem_drop h)) (fun l h => hb l (List.mem_of_mem_drop h)) h
    · rw [cDif_top w a b ht] at h
      cases h
      exact ⟨cTop_le w hw L hL a ha, cTop_le w hw L hL b hb⟩
attribute [local irreducible] str
set_option maxRecDepth 100000 in
set_option maxHeartbeats 1000000 in
theorem SameS_any (A B : Option Addr) (ca cb : Nat) (la lb : List BL) (W : World) (hA : RowAt W A (strs la)) (hB : RowAt W B (strs lb)) (ha : la.length ≤ 1000000) (hb : lb.length ≤ 1000000) :
    Calls Tryd.prog 16 #[.slice A la.length ca, .slice B lb.length cb] W fun e w' => e = .returned (.bool (decide (la = lb))) ∧ Below W.heap.size W w' := by
  have Hl := Kept.mk (fun (h : la.length ≠ lb.length) => (decide_eq_false (fun e => h (congrArg List.length e)) : decide (la = lb) = false))
  have Hn := Kept.mk (fun i (h1 : i < la.length) (h2 : i < lb.length) (h : la[i] ≠ lb[i]) => (decide_eq_false (fun e => h (by subst e; rfl)) : decide (la = lb) = false))
  have He := Kept.mk (fun (h : la.length = lb.length) (h2 : ∀ i (h1 : i < la.length) (h2 : i < lb.length), la[i] = lb[i]) => (decide_eq_true (List.ext_getElem h h2) : decide (la = lb) = true))
  have HA := Kept.mk (fun i (h : i < la.length) => hA.cellAt (strs_at la i h))
  have HB := Kept.mk (fun i (h : i < lb.length) => hB.cellAt (strs_at lb i h))
  clear hA hB
  generalize decide (la = lb) = d at *
  go_enter Tryd.func16, Tryd.ntmps16
  by_cases hlen : la.length = lb.length
  · have hli : ¬ ((la.length : Int) ≠ (lb.length : Int)) := by omega
    have HLn := Kept.mk hlen
    rw [← hlen]
    clear hlen
    go_wp2_with fail
    go_loopw [5] (fun c wr => ∃ i : Nat, i ≤ la.length ∧ c = .int .i64 i ∧ (∃ k, wr = W.drewN k) ∧ ∀ j (h1 : j < la.length) (h2 : j < lb.length), j < i → la[j] = lb[j]) (fun c _ => la.length - (RowKit.intOf c).toNat)
    case atStart => exact ⟨0, by omega, rfl, ⟨0, rfl⟩, fun j _ _ h => absurd h (by omega)⟩
    case round =>
      obtain ⟨i, hi, rfl, ⟨k, rfl⟩, hp⟩ := hrel
      have HP := Kept.mk hp
      clear hp
      by_cases hlt : i < la.length
      · have hii : (i : Int) < (la.length : Int) := by omega
        have hl2 : i < lb.length := HLn.out ▸ hlt
        obtain ⟨ad, rfl, c0⟩ := HA.out i hlt
        obtain ⟨bd, rfl, c1⟩ := HB.out i hl2
        have Hni := Kept.mk (Hn.out i hlt hl2)
        have hst : la[i] = lb[i]'hl2 → ∀ j (h1 : j < la.length) (h2 : j < lb.length), j < i + 1 → la[j] = lb[j] := by
          intro h j h1 h2 hj
          by_cases hji : j < i
          · exact HP.out j h1 h2 hji
          · have e : j = i := by omega
            subst e; exact h
        have Hst := Kept.mk hst
        clear hst
        generalize la[i]'hlt = x at *
        generalize lb[i]'hl2 = y at *
        have tx := str_toList x
        have ty := str_toList y
        by_cases hxy : x = y
        · subst hxy
          go_upto_region 6 with fail
          go_quiet (fail)
          go_wp2_with fail
          exact ⟨⟨i + 1, hlt, by push_cast; rfl, ⟨_, rfl⟩, Hst.out rfl⟩, by show la.length - ((i : Int) + 1).toNat < la.length - ((i : Nat) : Int).toNat; omega⟩
        · have hbe : (x == y) = false := by simpa using hxy
          go_upto_region 6 with fail
          go_quiet (fail)
          go_wp2_with fail
          go_ret
          exact ⟨by rw [Hni.out hxy]; rfl, below_drewN (below_drewN (Below.refl _ _) _) _⟩
      · have hii : ¬ (i : Int) < (la.length : Int) := by omega
        go_wp2_with fail
        go_ret
        exact ⟨by rw [He.out HLn.out (fun j h1 h2 => HP.out j h1 h2 (by omega))]; rfl, below_drewN (Below.refl _ _) _⟩
  · have hli : ((la.length : Int) == (lb.length : Int)) = false := by simp; omega
    go_wp2_with fail
    go_ret
    exact ⟨by rw [Hl.out hlen]; rfl, Below.refl _ _⟩
end Go.Proofs.YtkkcakblphebjaaDoor
