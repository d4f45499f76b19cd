/- Cuts of a number: the arithmetic of the document, and the contract of split.Cuts. -/
import Derived.Test.YtkkcakblphebjaaIv
namespace Go.Proofs.Ytkkcakblphebjaa
set_option linter.unusedVariables false
set_option linter.unusedSimpArgs false
open Go.RowKit Go.Lib
/-- the width of a cut -/
def spS (N : Nat) : Nat := if N ≤ 768 then 64 else (N + 11) / 12
/-- how many whole cuts lie ahead of the last -/
def spM (N : Nat) : Nat := (N - 1) / spS N
def spL (N k : Nat) : List Nat := (List.range k).map fun i => (i + 1) * spS N
def spCuts (N : Nat) : List Nat := spL N (spM N) ++ [N]
theorem spS_pos (N : Nat) : 64 ≤ spS N := by unfold spS; split <;> omega
theorem spS_le (N : Nat) : N ≤ 12 * spS N := by unfold spS; split <;> omega
theorem spM_le (N : Nat) : spM N ≤ 11 := by
  have h1 := spS_pos N
  have h2 := spS_le N
  unfold spM
  rcases Nat.eq_zero_or_pos N with rfl | h0
  · simp
  · have : (N - 1) / spS N < 12 := (Nat.div_lt_iff_lt_mul (by omega)).2 (by omega)
    omega
theorem spM_lt (N k : Nat) (h : k < spM N) : (k + 1) * spS N < N := by
  have h1 := spS_pos N
  unfold spM at h
  have h2 : (k + 1) * spS N ≤ N - 1 := (Nat.le_div_iff_mul_le (by omega)).1 (show k + 1 ≤ (N - 1) / spS N from h)
  have h3 : 0 < (k + 1) * spS N := Nat.mul_pos (by omega) (by omega)
  have h4 := Nat.lt_of_lt_of_le h3 h2
  exact Nat.lt_of_le_of_lt h2 (Nat.sub_lt (by omega) (by omega))
theorem spM_ge (N k : Nat) (h : (k + 1) * spS N < N) : k < spM N := by
  have h1 := spS_pos N
  unfold spM
  exact (Nat.le_div_iff_mul_le (by omega)).2 (Nat.le_sub_one_of_lt h)
theorem spL_length (N k : Nat) : (spL N k).length = k := by simp [spL]
theorem spL_next (N k : Nat) : spL N k ++ [(k + 1) * spS N] = spL N (k + 1) := by simp [spL, List.range_succ]
theorem spL_get (N k i : Nat) (h : i < (spL N k).length) : (spL N k)[i] = (i + 1) * spS N := by simp [spL]
theorem spCuts_length (N : Nat) : (spCuts N).length = spM N + 1 := by simp [spCuts, spL_length]
theorem spCuts_get (N i : Nat) (h : i < (spCuts N).length) : (spCuts N)[i] = if i = spM N then N else (i + 1) * spS N := by
  rw [spCuts_length] at h
  split
  · next e => subst e; simp [spCuts, List.getElem_append, spL_length]
  · next e => 
    have : i < (spL N (spM N)).length := by rw [spL_length]; omega
    simp only [spCuts]
    rw [List.getElem_append_left this, spL_get]
attribute [local irreducible] spS spM spL ivs
set_option maxRecDepth 100000 in
set_option maxHeartbeats 1000000 in
theorem Cuts_neg (n : Int) (W : World) (hn : n < 0) (h0 : -9223372036854775808 ≤ n) :
    Calls Try.prog 9 #[.int .i64 n] W fun e w' => ∃ v, e = .returned v ∧ VB W w' v (ivs (spCuts 0)) := by
  go_enter Try.func9, Try.ntmps9
  go_wp2_with fail
  go_loopw [4, 5] (fun c4 c5 wr => VB W wr c4 (ivs []) ∧ c5 = .int .i64 0) (fun c4 c5 _ => 0)
  case atStart => exact ⟨by unfold ivs; exact vb_nil W, rfl⟩
  case round =>
    obtain ⟨hv, rfl⟩ := hrel
    have HV := Kept.mk hv
    clear hv
    go_wp2_with (at_builtin; refine int_append rfl (.tmp 32) (.tmp 34) rfl (w := W) rfl HV.out (d := 0) rfl rfl (by simp) ?_; intro v' w' hv)
    go_ret
    refine ⟨_, rfl, hv.is ?_⟩
    simp [spCuts, spM, spL, spS]
set_option maxRecDepth 100000 in
set_option maxHeartbeats 1000000 in
theorem Cuts_pos (N : Nat) (W : World) (h1 : N ≤ 9223372036854775807) :
    Calls Try.prog 9 #[.int .i64 (N : Int)] W fun e w' => ∃ v, e = .returned v ∧ VB W w' v (ivs (spCuts N)) := by
  have hS1 := spS_pos N
  have hM := spM_le N
  have hSd : (N ≤ 768 → spS N = 64) ∧ (768 < N → spS N = (N + 11) / 12) := by unfold spS; split <;> omega
  have hlt := fun k => spM_lt N k
  have hge := fun k => spM_ge N k
  have hnx := fun k => spL_next N k
  have hL0 : spL N 0 = [] := by unfold spL; rfl
  have hfin : ivs (spL N (spM N) ++ [N]) = ivs (spCuts N) := rfl
  have hll : ∀ k, (spL N k).length = k := spL_length N
  generalize hS : spS N = S at *
  have hn : ¬ (N : Int) < 0 := by omega
  go_enter Try.func9, Try.ntmps9
  rcases Nat.lt_or_ge N 769 with hs | hs
  · have hd : (N : Int) / 12 < 64 ∨ (N : Int) / 12 = 64 := by omega
    have hSi : S = 64 := by omega
    subst hSi
    rcases hd with hd | hd
    · have hq : ¬ (768 : Int) < N := by omega
      go_wp2_with fail
      go_loopw [4, 5] (fun c4 c5 wr => ∃ k p : Nat, k ≤ spM N ∧ (k + 1) * 64 = p + 64 ∧ c5 = .int .i64 ((N : Int) - (p : Int)) ∧ p ≤ N ∧ VB W wr c4 (ivs (spL N k))) (fun c4 c5 _ => (RowKit.intOf c5).toNat)
      case atStart => exact ⟨0, 0, by omega, by omega, congrArg _ (by omega), by omega, by rw [hL0]; unfold ivs; exact vb_nil W⟩
      case round =>
        obtain ⟨k, p, hk, hp, rfl, hpN, hv⟩ := hrel
        have hlk := hlt k
        have hgk := hge k
        have hnk := hnx k
        have hlen := hll k
        rw [hp] at hlk hgk hnk
        have HV := Kept.mk hv
        have HX := Kept.mk hnk
        have HN := Kept.mk hfin
        clear hv hlt hge hnx hL0 hfin hll hnk
        by_cases hc : p + 64 < N
        · have hkM := hgk hc
          have hcc : ¬ (N : Int) - p ≤ 64 := by omega
          go_wp2_with (at_builtin; refine int_append rfl (.tmp 24) (.tmp 30) rfl (w := W) rfl HV.out (d := p + 64) rfl (by push_cast; omega) (by rw [hlen]; omega) ?_; intro v' w' hv')
          refine ⟨⟨k + 1, p + 64, by omega, by rw [Nat.add_mul, hp, Nat.one_mul], by congr 1; push_cast; omega, by omega, ?_⟩, ?_⟩
          · rw [← HX.out]; exact hv'
          · show ((N : Int) - p - 64).toNat < ((N : Int) - p).toNat
            omega
        · have hkM : k = spM N := by
            rcases Nat.lt_or_ge k (spM N) with h | h
            · exact absurd (hlk h) hc
            · omega
          have hcc : (N : Int) - p ≤ 64 := by omega
          subst hkM
          go_wp2_with (at_builtin; refine int_append rfl (.tmp 32) (.tmp 34) rfl (w := W) rfl HV.out (d := N) rfl rfl (by rw [hlen]; omega) ?_; intro v' w' hv')
          go_ret
          exact ⟨_, rfl, hv'.is HN.out⟩
    · have hq : ¬ (768 : Int) < N := by omega
      go_wp2_with fail
      go_loopw [4, 5] (fun c4 c5 wr => ∃ k p : Nat, k ≤ spM N ∧ (k + 1) * 64 = p + 64 ∧ c5 = .int .i64 ((N : Int) - (p : Int)) ∧ p ≤ N ∧ VB W wr c4 (ivs (spL N k))) (fun c4 c5 _ => (RowKit.intOf c5).toNat)
      case atStart => exact ⟨0, 0, by omega, by omega, congrArg _ (by omega), by omega, by rw [hL0]; unfold ivs; exact vb_nil W⟩
      case round =>
        obtain ⟨k, p, hk, hp, rfl, hpN, hv⟩ := hrel
        have hlk := hlt k
        have hgk := hge k
        have hnk := hnx k
        have hlen := hll k
        rw [hp] at hlk hgk hnk
        have HV := Kept.mk hv
        have HX := Kept.mk hnk
        have HN := Kept.mk hfin
        clear hv hlt hge hnx hL0 hfin hll hnk
        by_cases hc : p + 64 < N
        · have hkM := hgk hc
          have hcc : ¬ (N : Int) - p ≤ 64 := by omega
          go_wp2_with (at_builtin; refine int_append rfl (.tmp 24) (.tmp 30) rfl (w := W) rfl HV.out (d := p + 64) rfl (by push_cast; omega) (by rw [hlen]; omega) ?_; intro v' w' hv')
          refine ⟨⟨k + 1, p + 64, by omega, by rw [Nat.add_mul, hp, Nat.one_mul], by congr 1; push_cast; omega, by omega, ?_⟩, ?_⟩
          · rw [← HX.out]; exact hv'
          · show ((N : Int) - p - 64).toNat < ((N : Int) - p).toNat
            omega
        · have hkM : k = spM N := by
            rcases Nat.lt_or_ge k (spM N) with h | h
            · exact absurd (hlk h) hc
            · omega
          have hcc : (N : Int) - p ≤ 64 := by omega
          subst hkM
          go_wp2_with (at_builtin; refine int_append rfl (.tmp 32) (.tmp 34) rfl (w := W) rfl HV.out (d := N) rfl rfl (by rw [hlen]; omega) ?_; intro v' w' hv')
          go_ret
          exact ⟨_, rfl, hv'.is HN.out⟩
  · have hd : ¬ (N : Int) / 12 < 64 := by omega
    by_cases hx : (N : Int) / 12 * 12 < N
    · have hSi : (S : Int) = (N : Int) / 12 + 1 := by omega
      go_wp2_with fail
      rw [← hSi]
      clear hSi hd hx hSd hs
      go_loopw [4, 5] (fun c4 c5 wr => ∃ k p : Nat, k ≤ spM N ∧ (k + 1) * S = p + S ∧ c5 = .int .i64 ((N : Int) - (p : Int)) ∧ p ≤ N ∧ VB W wr c4 (ivs (spL N k))) (fun c4 c5 _ => (RowKit.intOf c5).toNat)
      case atStart => exact ⟨0, 0, by omega, by omega, congrArg _ (by omega), by omega, by rw [hL0]; unfold ivs; exact vb_nil W⟩
      case round =>
        obtain ⟨k, p, hk, hp, rfl, hpN, hv⟩ := hrel
        have hlk := hlt k
        have hgk := hge k
        have hnk := hnx k
        have hlen := hll k
        rw [hp] at hlk hgk hnk
        have HV := Kept.mk hv
        have HX := Kept.mk hnk
        have HN := Kept.mk hfin
        clear hv hlt hge hnx hL0 hfin hll hnk
        by_cases hc : p + S < N
        · have hkM := hgk hc
          have hcc : ¬ (N : Int) - p ≤ S := by omega
          go_wp2_with (at_builtin; refine int_append rfl (.tmp 24) (.tmp 30) rfl (w := W) rfl HV.out (d := p + S) rfl (by push_cast; omega) (by rw [hlen]; omega) ?_; intro v' w' hv')
          refine ⟨⟨k + 1, p + S, by omega, by rw [Nat.add_mul, hp, Nat.one_mul], by congr 1; push_cast; omega, by omega, ?_⟩, ?_⟩
          · rw [← HX.out]; exact hv'
          · show ((N : Int) - p - S).toNat < ((N : Int) - p).toNat
            omega
        · have hkM : k = spM N := by
            rcases Nat.lt_or_ge k (spM N) with h | h
            · exact absurd (hlk h) hc
            · omega
          have hcc : (N : Int) - p ≤ S := by omega
          subst hkM
          go_wp2_with (at_builtin; refine int_append rfl (.tmp 32) (.tmp 34) rfl (w := W) rfl HV.out (d := N) rfl rfl (by rw [hlen]; omega) ?_; intro v' w' hv')
          go_ret
          exact ⟨_, rfl, hv'.is HN.out⟩
    · have hSi : (S : Int) = (N : Int) / 12 := by omega
      go_wp2_with fail
      rw [← hSi]
      clear hSi hd hx hSd hs
      go_loopw [4, 5] (fun c4 c5 wr => ∃ k p : Nat, k ≤ spM N ∧ (k + 1) * S = p + S ∧ c5 = .int .i64 ((N : Int) - (p : Int)) ∧ p ≤ N ∧ VB W wr c4 (ivs (spL N k))) (fun c4 c5 _ => (RowKit.intOf c5).toNat)
      case atStart => exact ⟨0, 0, by omega, by omega, congrArg _ (by omega), by omega, by rw [hL0]; unfold ivs; exact vb_nil W⟩
      case round =>
        obtain ⟨k, p, hk, hp, rfl, hpN, hv⟩ := hrel
        have hlk := hlt k
        have hgk := hge k
        have hnk := hnx k
        have hlen := hll k
        rw [hp] at hlk hgk hnk
        have HV := Kept.mk hv
        have HX := Kept.mk hnk
        have HN := Kept.mk hfin
        clear hv hlt hge hnx hL0 hfin hll hnk
        by_cases hc : p + S < N
        · have hkM := hgk hc
          have hcc : ¬ (N : Int) - p ≤ S := by omega
          go_wp2_with (at_builtin; refine int_append rfl (.tmp 24) (.tmp 30) rfl (w := W) rfl HV.out (d := p + S) rfl (by push_cast; omega) (by rw [hlen]; omega) ?_; intro v' w' hv')
          refine ⟨⟨k + 1, p + S, by omega, by rw [Nat.add_mul, hp, Nat.one_mul], by congr 1; push_cast; omega, by omega, ?_⟩, ?_⟩
          · rw [← HX.out]; exact hv'
          · show ((N : Int) - p - S).toNat < ((N : Int) - p).toNat
            omega
        · have hkM : k = spM N := by
            rcases Nat.lt_or_ge k (spM N) with h | h
            · exact absurd (hlk h) hc
            · omega
          have hcc : (N : Int) - p ≤ S := by omega
          subst hkM
          go_wp2_with (at_builtin; refine int_append rfl (.tmp 32) (.tmp 34) rfl (w := W) rfl HV.out (d := N) rfl rfl (by rw [hlen]; omega) ?_; intro v' w' hv')
          go_ret
          exact ⟨_, rfl, hv'.is HN.out⟩
end Go.Proofs.Ytkkcakblphebjaa
