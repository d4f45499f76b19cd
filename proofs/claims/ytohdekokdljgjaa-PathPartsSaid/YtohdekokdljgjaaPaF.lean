/- path: the document's May, by a contract; any text is a path, or none, as the document says. -/
import Derived.Test.YtohdekokdljgjaaPaE
namespace Go.Proofs.Ytohdekokdljgjaa
set_option linter.unusedVariables false
set_option linter.unusedSimpArgs false
open Go.RowKit Go.Lib
theorem pok_short (p : List UInt8) (h : p.length < 1) : pok p = false := by
  have : p = [] := List.length_eq_zero_iff.1 (by omega)
  subst this; decide +kernel
theorem pok_long (p : List UInt8) (h : ¬ p.length ≤ 4096) : pok p = false := by
  unfold pok; rw [decide_eq_false h]; rfl
theorem pok_zero (p : List UInt8) (h : ¬ ∀ c ∈ p, c ≠ 0) : pok p = false := by
  unfold pok; rw [decide_eq_false h]; simp
theorem pok_bad (p : List UInt8) (i : Nat) (h : i < (psp p []).length) (hb : badPart (psp p [])[i] = true) : pok p = false := by
  have : (psp p []).all (fun x => !badPart x) = false := by
    apply Bool.eq_false_iff.2
    intro ha
    rw [List.all_eq_true] at ha
    have := ha _ (List.getElem_mem h)
    rw [hb] at this; cases this
  unfold pok; rw [this]; simp
theorem pok_good (p : List UInt8) (h1 : p.length ≤ 4096) (h2 : ∀ c ∈ p, c ≠ 0) (h3 : ∀ i (h : i < (psp p []).length), badPart (psp p [])[i] = false) : pok p = true := by
  have : (psp p []).all (fun x => !badPart x) = true := by
    rw [List.all_eq_true]
    intro x hx
    obtain ⟨i, hi, rfl⟩ := List.getElem_of_mem hx
    rw [h3 i hi]; rfl
  unfold pok; rw [decide_eq_true h1, decide_eq_true h2, this]; rfl
theorem psp_length (p : List UInt8) : ∀ cur, (psp p cur).length ≤ p.length + 1 := by
  induction p with
  | nil => intro cur; simp [psp]
  | cons c r ih =>
    intro cur
    rw [psp]
    split
    · have := ih []; simp; omega
    · have := ih (cur ++ [c]); simp; omega
attribute [local irreducible] str psp pok
theorem row_get1 {w : World} {g : Nat} {xs : List Value} (h : RowAt w (some ⟨g, 0, none⟩) xs) {j : Nat} {u : Value} (hu : xs[j]? = some u) : w.cell? ⟨g, j, none⟩ = some u := by
  have hx : 0 < xs.length := by
    have := (List.getElem?_eq_some_iff.1 hu).1; omega
  obtain ⟨ad2, e, _, hc⟩ := h hx
  cases e
  have h2 := hc j u hu
  rwa [at_add] at h2
set_option maxRecDepth 100000 in
set_option maxHeartbeats 2000000 in
theorem may_any (p : List UInt8) (w : World) (hp : p.length ≤ 20000) :
    Calls Try.prog 30 #[.string (str p)] w fun e w' => e = .returned (.bool (pok p)) ∧ Below w.heap.size w w' := by
  have hs := str_size p
  by_cases h1 : p.length < 1
  · have hi : (p.length : Int) < 1 := by omega
    have HP := Kept.mk (pok_short p h1)
    clear h1
    go_enter Try.func30, Try.ntmps30
    go_wp2_with fail
    go_ret
    exact ⟨by rw [HP.out]; rfl, Below.refl _ _⟩
  · have hi : ¬ (p.length : Int) < 1 := by omega
    by_cases h2 : p.length ≤ 4096
    · have hi2 : ¬ (4096 : Int) < (p.length : Int) := by omega
      go_enter Try.func30, Try.ntmps30
      go_wp2_with fail
      go_loop [3] (fun c => ∃ i : Nat, i ≤ p.length ∧ c = .int .i64 i ∧ ∀ k (hk : k < p.length), k < i → p[k] ≠ 0) (fun c => p.length - (RowKit.intOf c).toNat)
      case atStart => exact ⟨0, by omega, rfl, fun k _ h => absurd h (by omega)⟩
      case round =>
        obtain ⟨i, hil, rfl, hz⟩ := hrel
        by_cases hlt : i < p.length
        · have hii : (i : Int) < (p.length : Int) := by omega
          have hg := str_at p i hlt (by rw [hs]; exact hlt)
          by_cases hc : p[i] = 0
          · have hc0 : (p[i].toNat : Int) = 0 := by rw [hc]; rfl
            have HP := Kept.mk (pok_zero p (fun h => h _ (List.getElem_mem hlt) hc))
            clear hc hz
            generalize p[i] = c at *
            go_wp2_with fail
            go_ret
            exact ⟨by rw [HP.out]; rfl, Below.refl _ _⟩
          · have hc0 : ¬ (p[i].toNat : Int) = 0 := by
              intro h; apply hc; apply UInt8.toNat_inj.1; have : p[i].toNat = 0 := by omega
              rw [this]; rfl
            have HZ := Kept.mk (show ∀ k (hk : k < p.length), k < i + 1 → p[k] ≠ 0 from fun k hk h => by
              rcases (show k < i ∨ k = i from by omega) with h3 | h3
              · exact hz k hk h3
              · subst h3; exact hc)
            clear hc hz
            generalize p[i] = c at *
            go_wp2_with fail
            go_round
            case rel => exact ⟨i + 1, hlt, by push_cast; rfl, HZ.out⟩
            case measure => show p.length - ((i : Int) + 1).toNat < p.length - ((i : Nat) : Int).toNat; omega
        · have hii : ¬ (i : Int) < (p.length : Int) := by omega
          have HZ := Kept.mk (show ∀ c ∈ p, c ≠ 0 from fun c hc => by
            obtain ⟨k, hk, rfl⟩ := List.getElem_of_mem hc
            exact hz k hk (by omega))
          clear hz
          obtain rfl : i = p.length := by omega
          go_wp2_with fail
          with_reducible refine (split_any p w (by omega)).mono ?_
          rintro e w1 ⟨v, rfl, hv⟩
          obtain ⟨A, cap, rfl, hcap⟩ := hv.len
          have HV := Kept.mk hv
          have hpl := psp_length p []
          have HPG := Kept.mk (pok_good p h2 HZ.out)
          have HPB := Kept.mk (pok_bad p)
          clear hv
          rw [sts_length] at *
          generalize psp p [] = L at *
          go_wp2_with fail
          go_loop [5] (fun c => ∃ j : Nat, j ≤ L.length ∧ c = .int .i64 j ∧ ∀ k (hk : k < L.length), k < j → badPart L[k] = false) (fun c => L.length - (RowKit.intOf c).toNat)
          case atStart => exact ⟨0, by omega, rfl, fun k _ h => absurd h (by omega)⟩
          case round =>
            obtain ⟨j, hjl, rfl, hb⟩ := hrel
            by_cases hjt : j < L.length
            · have hji : (j : Int) < (L.length : Int) := by omega
              obtain ⟨g, cap2, hve, hgw, hgl, hcp, hrow⟩ := HV.out.row (by rw [sts_length]; omega)
              rw [sts_length] at hve
              cases hve
              have c0 := row_get1 hrow (sts_get L j hjt)
              have htl := str_toList L[j]
              have HPBJ := Kept.mk (HPB.out j hjt)
              have HNB := Kept.mk (show badPart L[j] = false → ∀ k (hk : k < L.length), k < j + 1 → badPart L[k] = false from fun hx k hk h => by
                rcases (show k < j ∨ k = j from by omega) with h3 | h3
                · exact hb k hk h3
                · subst h3; exact hx)
              clear hrow hb
              generalize hxe : L[j] = x at *
              clear hxe
              by_cases b1 : x = []
              · have f1 : (str x).toList.isEmpty = true := by rw [htl, b1]; rfl
                have HF := Kept.mk (HPBJ.out (by rw [b1]; rfl))
                clear b1 htl
                go_wp2_with fail
                go_ret
                exact ⟨by rw [HF.out]; rfl, HV.out.1⟩
              · have f1 : (str x).toList.isEmpty = false := by rw [htl]; cases x <;> simp_all
                by_cases b2 : x = [46]
                · have f2 : ((str x).toList == [46]) = true := by rw [htl, b2]; rfl
                  have HF := Kept.mk (HPBJ.out (by rw [b2]; rfl))
                  clear b1 b2 htl
                  go_wp2_with fail
                  go_ret
                  exact ⟨by rw [HF.out]; rfl, HV.out.1⟩
                · have f2 : ((str x).toList == [46]) = false := by rw [htl]; simpa using b2
                  by_cases b3 : x = [46, 46]
                  · have f3 : ((str x).toList == [46, 46]) = true := by rw [htl, b3]; rfl
                    have HF := Kept.mk (HPBJ.out (by rw [b3]; rfl))
                    clear b1 b2 b3 htl
                    go_wp2_with fail
                    go_ret
                    exact ⟨by rw [HF.out]; rfl, HV.out.1⟩
                  · have f3 : ((str x).toList == [46, 46]) = false := by rw [htl]; simpa using b3
                    have HNB2 := Kept.mk (HNB.out (by unfold badPart; simp [b1, b2, b3]))
                    clear b1 b2 b3 htl HNB HPBJ
                    go_wp2_with fail
                    go_round
                    case rel => exact ⟨j + 1, hjt, by push_cast; rfl, HNB2.out⟩
                    case measure => show L.length - ((j : Int) + 1).toNat < L.length - ((j : Nat) : Int).toNat; omega
            · have hji : ¬ (j : Int) < (L.length : Int) := by omega
              have HF := Kept.mk (HPG.out (fun k hk => hb k hk (by omega)))
              obtain rfl : j = L.length := by omega
              go_wp2_with fail
              go_ret
              exact ⟨by rw [HF.out]; rfl, HV.out.1⟩
    · have hi2 : (4096 : Int) < (p.length : Int) := by omega
      have HP := Kept.mk (pok_long p h2)
      clear h1 h2
      go_enter Try.func30, Try.ntmps30
      go_wp2_with fail
      go_ret
      exact ⟨by rw [HP.out]; rfl, Below.refl _ _⟩
end Go.Proofs.Ytohdekokdljgjaa
