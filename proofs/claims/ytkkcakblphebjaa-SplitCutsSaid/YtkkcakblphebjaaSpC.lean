/- Cuts of a number: the law. -/
import Derived.Test.YtkkcakblphebjaaSpB
namespace Go.Proofs.Ytkkcakblphebjaa
set_option linter.unusedVariables false
set_option linter.unusedSimpArgs false
open Go.RowKit Go.Lib
attribute [local irreducible] ivs spCuts spS spM
set_option maxRecDepth 100000 in
set_option maxHeartbeats 4000000 in
theorem splitCuts_w {W : World} (n : Int) (hw : (Lit.int .i64 n).wf = true) :
    Calls Try.prog 3 #[.int .i64 n] W fun e w' => e = .returned (.bool true) ∧ Below W.heap.size W w' := by
  obtain ⟨h0, h1⟩ := bounds_i64 hw
  clear hw
  generalize hN : n.toNat = N
  have hS1 := spS_pos N
  have hM := spM_le N
  have hSd : (N ≤ 768 → spS N = 64) ∧ (768 < N → spS N = (N + 11) / 12) := by unfold spS; split <;> omega
  have hlt := fun k => spM_lt N k
  have hge := spM_ge N (spM N)
  have hlast := ivs_get (spCuts N) (spM N) (by rw [spCuts_length]; omega)
  rw [spCuts_get, if_pos rfl] at hlast
  have hrows : ∀ i, i < spM N → (ivs (spCuts N))[i]? = some (.int .i64 (((i + 1) * spS N : Nat) : Int)) := by
    intro i hi
    rw [ivs_get (spCuts N) i (by rw [spCuts_length]; omega), spCuts_get, if_neg (by omega)]
  have hlen : (ivs (spCuts N)).length = spM N + 1 := by rw [ivs_length, spCuts_length]
  have HC := Kept.mk (Cuts_any n W h0 h1)
  rw [hN] at HC
  generalize hVs : ivs (spCuts N) = vs at *
  generalize hS : spS N = S at *
  generalize hm : spM N = M at *
  clear hVs
  go_enter Try.func3, Try.ntmps3
  go_wp2_with fail
  with_reducible refine HC.out.mono ?_
  rintro e w1 ⟨v, rfl, hv⟩
  clear HC
  obtain ⟨g, cap, rfl, hg, hgl, hcap, hrow⟩ := hv.row (by rw [hlen]; omega)
  have HB := Kept.mk hv.1
  rw [hlen] at *
  clear hv
  have cl := hrow.off0 hlast
  have cr := fun i hi => hrow.off0 (hrows i hi)
  clear hrow hlast hrows
  have hb0 : ((M : Int) + 1 == 0) = false := by simp; omega
  have hb12 : ¬ (12 : Int) < (M : Int) + 1 := by omega
  rcases Int.lt_or_le n 0 with hneg | hpos
  · have hN0 : N = 0 := by omega
    subst hN0
    have hM0 : M = 0 := by
      rcases Nat.eq_zero_or_pos M with h | h
      · exact h
      · exact absurd (hlt 0 h) (by omega)
    subst hM0
    have hSi : S = 64 := by omega
    subst hSi
    have hq : ¬ (768 : Int) < n := by omega
    clear hlt hge cr hb0 hb12
    · go_wp2_with fail
      go_loopw [6] (fun c wr => c = .int .i64 0 ∧ wr = w1) (fun c _ => 0)
      case atStart => exact ⟨rfl, rfl⟩
      case round =>
        obtain ⟨rfl, rfl⟩ := hrel
        go_wp2_with fail
        with_reducible refine (spAwake_any _).mono ?_
        rintro e w3 ⟨rfl, b3⟩
        go_wp2_with fail
        go_ret
        exact ⟨rfl, HB.out.trans (b3.mono HB.out.size)⟩
  · have hnN : n = (N : Int) := by omega
    subst hnN
    have hnn : ¬ (N : Int) < 0 := by omega
    clear hN
    rcases Nat.lt_or_ge N 769 with hs | hs
    · have hSi : S = 64 := by omega
      subst hSi
      have hq : ¬ (768 : Int) < N := by omega
      go_wp2_with fail
      go_loopw [6] (fun c wr => ∃ i : Nat, i ≤ M ∧ c = .int .i64 i ∧ wr = w1) (fun c _ => M - (RowKit.intOf c).toNat)
      case atStart => exact ⟨0, by omega, rfl, rfl⟩
      case round =>
        obtain ⟨i, hi, rfl, rfl⟩ := hrel
        rcases Nat.lt_or_ge i M with hiM | hiM
        · have c1 := cr i hiM
          have hpl := hlt i hiM
          have hmul : (64 : Int) * ((i : Int) + 1) = (((i + 1) * 64 : Nat) : Int) := by push_cast; exact Int.mul_comm _ _
          have hii : (i : Int) + 1 < (M : Int) + 1 := by omega
          clear cr hlt hge
          generalize (i + 1) * 64 = p at *
          go_wp2_with fail
          exact ⟨⟨i + 1, hiM, by push_cast; rfl, by trivial⟩, by show M - ((i : Int) + 1).toNat < M - ((i : Nat) : Int).toNat; omega⟩
        · have hiM' : i = M := by omega
          subst hiM'
          have hii : ¬ (i : Int) + 1 < (i : Int) + 1 := by omega
          rcases Nat.eq_zero_or_pos i with h00 | h00
          · subst h00
            have hz : N ≤ 64 := by
              rcases Nat.lt_or_ge 64 N with h | h
              · exact absurd (hge (by omega)) (by omega)
              · exact h
            clear cr hlt hge
            go_wp2_with fail
            with_reducible refine (spAwake_any _).mono ?_
            rintro e w3 ⟨rfl, b3⟩
            go_wp2_with fail
            go_ret
            exact ⟨rfl, HB.out.trans (b3.mono HB.out.size)⟩
          · obtain ⟨m, rfl⟩ : ∃ m, i = m + 1 := ⟨i - 1, by omega⟩
            have hb1 : ((m : Int) + 1 + 1 == 1) = false := by simp; omega
            have hb2 : ((((m + 1 : Nat) : Int)) + 1 == 1) = false := by simp; omega
            have c1 := cr m (by omega)
            have hpl := hlt m (by omega)
            have hpg : N ≤ (m + 1) * 64 + 64 := by
              rcases Nat.lt_or_ge ((m + 1) * 64 + 64) N with h | h
              · exact absurd (hge (by rw [Nat.add_mul (m + 1), Nat.one_mul]; exact h)) (by omega)
              · exact h
            clear cr hlt hge
            generalize (m + 1) * 64 = p at *
            go_wp2_with fail
            with_reducible refine (spAwake_any _).mono ?_
            rintro e w3 ⟨rfl, b3⟩
            go_wp2_with fail
            go_ret
            exact ⟨rfl, HB.out.trans (b3.mono HB.out.size)⟩
    · have hq : (768 : Int) < N := by omega
      by_cases hr : (0 : Int) < (N : Int) % 12
      · have hSi : (S : Int) = (N : Int) / 12 + 1 := by omega
        go_wp2_with fail
        rw [← hSi]
        clear hSi hSd hr hq hs
        go_loopw [6] (fun c wr => ∃ i : Nat, i ≤ M ∧ c = .int .i64 i ∧ wr = w1) (fun c _ => M - (RowKit.intOf c).toNat)
        case atStart => exact ⟨0, by omega, rfl, rfl⟩
        case round =>
          obtain ⟨i, hi, rfl, rfl⟩ := hrel
          rcases Nat.lt_or_ge i M with hiM | hiM
          · have c1 := cr i hiM
            have hpl := hlt i hiM
            have hmul : ((S : Int) : Int) * ((i : Int) + 1) = (((i + 1) * S : Nat) : Int) := by push_cast; exact Int.mul_comm _ _
            have hii : (i : Int) + 1 < (M : Int) + 1 := by omega
            clear cr hlt hge
            generalize (i + 1) * S = p at *
            go_wp2_with fail
            exact ⟨⟨i + 1, hiM, by push_cast; rfl, by trivial⟩, by show M - ((i : Int) + 1).toNat < M - ((i : Nat) : Int).toNat; omega⟩
          · have hiM' : i = M := by omega
            subst hiM'
            have hii : ¬ (i : Int) + 1 < (i : Int) + 1 := by omega
            rcases Nat.eq_zero_or_pos i with h00 | h00
            · subst h00
              have hz : N ≤ S := by
                rcases Nat.lt_or_ge S N with h | h
                · exact absurd (hge (by omega)) (by omega)
                · exact h
              clear cr hlt hge
              go_wp2_with fail
              with_reducible refine (spAwake_any _).mono ?_
              rintro e w3 ⟨rfl, b3⟩
              go_wp2_with fail
              go_ret
              exact ⟨rfl, HB.out.trans (b3.mono HB.out.size)⟩
            · obtain ⟨m, rfl⟩ : ∃ m, i = m + 1 := ⟨i - 1, by omega⟩
              have hb1 : ((m : Int) + 1 + 1 == 1) = false := by simp; omega
              have hb2 : ((((m + 1 : Nat) : Int)) + 1 == 1) = false := by simp; omega
              have c1 := cr m (by omega)
              have hpl := hlt m (by omega)
              have hpg : N ≤ (m + 1) * S + S := by
                rcases Nat.lt_or_ge ((m + 1) * S + S) N with h | h
                · exact absurd (hge (by rw [Nat.add_mul (m + 1), Nat.one_mul]; exact h)) (by omega)
                · exact h
              clear cr hlt hge
              generalize (m + 1) * S = p at *
              go_wp2_with fail
              with_reducible refine (spAwake_any _).mono ?_
              rintro e w3 ⟨rfl, b3⟩
              go_wp2_with fail
              go_ret
              exact ⟨rfl, HB.out.trans (b3.mono HB.out.size)⟩
      · have hSi : (S : Int) = (N : Int) / 12 := by omega
        go_wp2_with fail
        rw [← hSi]
        clear hSi hSd hr hq hs
        go_loopw [6] (fun c wr => ∃ i : Nat, i ≤ M ∧ c = .int .i64 i ∧ wr = w1) (fun c _ => M - (RowKit.intOf c).toNat)
        case atStart => exact ⟨0, by omega, rfl, rfl⟩
        case round =>
          obtain ⟨i, hi, rfl, rfl⟩ := hrel
          rcases Nat.lt_or_ge i M with hiM | hiM
          · have c1 := cr i hiM
            have hpl := hlt i hiM
            have hmul : ((S : Int) : Int) * ((i : Int) + 1) = (((i + 1) * S : Nat) : Int) := by push_cast; exact Int.mul_comm _ _
            have hii : (i : Int) + 1 < (M : Int) + 1 := by omega
            clear cr hlt hge
            generalize (i + 1) * S = p at *
            go_wp2_with fail
            exact ⟨⟨i + 1, hiM, by push_cast; rfl, by trivial⟩, by show M - ((i : Int) + 1).toNat < M - ((i : Nat) : Int).toNat; omega⟩
          · have hiM' : i = M := by omega
            subst hiM'
            have hii : ¬ (i : Int) + 1 < (i : Int) + 1 := by omega
            rcases Nat.eq_zero_or_pos i with h00 | h00
            · subst h00
              have hz : N ≤ S := by
                rcases Nat.lt_or_ge S N with h | h
                · exact absurd (hge (by omega)) (by omega)
                · exact h
              clear cr hlt hge
              go_wp2_with fail
              with_reducible refine (spAwake_any _).mono ?_
              rintro e w3 ⟨rfl, b3⟩
              go_wp2_with fail
              go_ret
              exact ⟨rfl, HB.out.trans (b3.mono HB.out.size)⟩
            · obtain ⟨m, rfl⟩ : ∃ m, i = m + 1 := ⟨i - 1, by omega⟩
              have hb1 : ((m : Int) + 1 + 1 == 1) = false := by simp; omega
              have hb2 : ((((m + 1 : Nat) : Int)) + 1 == 1) = false := by simp; omega
              have c1 := cr m (by omega)
              have hpl := hlt m (by omega)
              have hpg : N ≤ (m + 1) * S + S := by
                rcases Nat.lt_or_ge ((m + 1) * S + S) N with h | h
                · exact absurd (hge (by rw [Nat.add_mul (m + 1), Nat.one_mul]; exact h)) (by omega)
                · exact h
              clear cr hlt hge
              generalize (m + 1) * S = p at *
              go_wp2_with fail
              with_reducible refine (spAwake_any _).mono ?_
              rintro e w3 ⟨rfl, b3⟩
              go_wp2_with fail
              go_ret
              exact ⟨rfl, HB.out.trans (b3.mono HB.out.size)⟩
end Go.Proofs.Ytkkcakblphebjaa
