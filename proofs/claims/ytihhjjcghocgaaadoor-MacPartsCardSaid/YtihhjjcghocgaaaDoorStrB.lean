/- SHA-256: any texts have the sum of the one that they make: walked by the contracts. -/
import Derived.Test.YtihhjjcghocgaaaDoorStrA
import Derived.Test.YtihhjjcghocgaaaDoorRfD
namespace Go.Proofs.YtihhjjcghocgaaaDoor
set_option linter.unusedVariables false
set_option linter.unusedSimpArgs false
open Go.RowKit Go.Lib
attribute [local irreducible] str sSum

set_option maxRecDepth 100000 in
set_option maxHeartbeats 2000000 in
theorem shaParts_w {w : World} (A : Option Addr) (c : Nat) (ls : List (List UInt8)) (hl : ls.length ≤ 9223372036854775807) (hp : RowAt w A (strs ls) ∧ (∀ l ∈ ls, l.length ≤ 9223372036854775807) ∧ ls.length ≤ c ∧ c ≤ 9223372036854775807) (hk : KAt w) :
    Calls Tryd.prog 3 #[.slice A ls.length c] w fun e w' => e = .returned (.bool true) ∧ Below w.heap.size w w' := by
  go_enter Tryd.func3, Tryd.ntmps3
  go_wp2_with fail
  refine (few_any A c ls w hp.1 hl hp.2.1 hp.2.2.1 hp.2.2.2).mono ?_
  rintro e w1 ⟨k, hk1, hk2, hk3, rfl, rfl⟩
  have hr : RowAt w A (strs (ls.take k)) := by have := hp.1.take k; unfold strs at this ⊢; rwa [List.map_take]
  have hlen : (ls.take k).length = k := by rw [List.length_take]; omega
  generalize ls.take k = m at *
  subst hlen
  clear hp hl hk1
  have HR := Kept.mk hr
  have HK := Kept.mk hk
  clear hr hk
  go_wp2_with fail
  refine (shaSum_any A c m w HR.out HK.out (by omega) (by omega)).mono ?_
  rintro e w1 ⟨rfl, hb1⟩
  have HR1 := Kept.mk (HR.out.below hb1)
  have HK1 := Kept.mk (HK.out.below hb1)
  have HB1 := Kept.mk hb1
  clear hb1 HR HK
  go_wp2_with fail
  refine (Join_any A c m w1 HR1.out (by omega) (by omega)).mono ?_
  rintro e w2 ⟨rfl, rfl⟩
  go_wp2_with fail
  refine (refSum_any m.flatten w1 (by omega)).mono ?_
  rintro e w2 ⟨rfl, hb2⟩
  have HK2 := Kept.mk (HK1.out.below hb2)
  have HB2 := Kept.mk (HB1.out.trans (hb2.mono HB1.out.size))
  clear hb2
  go_wp2_with fail
  refine (shaAwake_any w2 HK2.out).mono ?_
  rintro e w3 ⟨rfl, hb3⟩
  have HB3 := Kept.mk (HB2.out.trans (hb3.mono HB2.out.size))
  clear hb3
  go_wp2_with fail
  go_ret
  exact ⟨rfl, HB3.out⟩

set_option maxRecDepth 100000 in
set_option maxHeartbeats 4000000 in
theorem shaWrites_w {w : World} (A : Option Addr) (c : Nat) (ls : List (List UInt8)) (hl : ls.length ≤ 9223372036854775807) (hp : RowAt w A (strs ls) ∧ (∀ l ∈ ls, l.length ≤ 9223372036854775807) ∧ ls.length ≤ c ∧ c ≤ 9223372036854775807) (hk : KAt w) :
    Calls Tryd.prog 4 #[.slice A ls.length c] w fun e w' => e = .returned (.bool true) ∧ Below w.heap.size w w' := by
  have hg0 := hk.lt
  go_enter Tryd.func4, Tryd.ntmps4
  go_wp2_with fail
  refine (few_any A c ls w hp.1 hl hp.2.1 hp.2.2.1 hp.2.2.2).mono ?_
  rintro e w1 ⟨k, hk1, hk2, hk3, rfl, rfl⟩
  have hr : RowAt w A (strs (ls.take k)) := by have := hp.1.take k; unfold strs at this ⊢; rwa [List.map_take]
  have hlen : (ls.take k).length = k := by rw [List.length_take]; omega
  generalize ls.take k = m at *
  subst hlen
  clear hp hl hk1
  have HR := Kept.mk hr
  clear hr
  go_wp2_with fail
  refine (New_any w).mono ?_
  rintro e w1 ⟨rfl, hw1⟩
  have hH : HashT w1 w.heap.size [] 0 := by rw [hw1]; exact new_hash w
  have hB : Below w.heap.size w w1 := by rw [hw1]; exact (Below.refl _ _).alloc (Nat.le_refl _) _
  have hk1 := hk.below hB
  have HH := Kept.mk hH
  have HB := Kept.mk hB
  have HK := Kept.mk hk1
  clear hH hB hk1 hw1 hk
  go_wp2_with fail
  go_loopw [4, 5] (fun s i wr => ∃ k : Nat, k ≤ m.length ∧ i = .int .i64 k ∧ s = .string (str (m.take k).flatten) ∧ HashT wr w.heap.size (m.take k).flatten ((m.take k).flatten.length : Nat) ∧ Below w.heap.size w wr ∧ KAt wr) (fun _ i _ => m.length - (RowKit.intOf i).toNat)
  case atStart => exact ⟨0, by omega, rfl, by rw [List.take_zero, List.flatten_nil, str_nil]; rfl, HH.out, HB.out, HK.out⟩
  case round =>
    clear HH HB HK w1
    obtain ⟨k, hkk, rfl, rfl, hh, hb, hkr⟩ := hrel
    by_cases hlt : k < m.length
    · by_cases h8 : k < 8
      · obtain ⟨ad, rfl, had, hc⟩ := (HR.out.below hb).get (k := k) (by rw [strs_length]; exact hlt)
        have hs := List.getElem?_eq_getElem (l := strs m) (i := k) (by rw [strs_length]; exact hlt)
        rw [strs_get m k hlt] at hc hs
        have HS := Kept.mk hs
        have HF := Kept.mk (flat_snoc m k hlt)
        have hle := flat_le m (k + 1)
        rw [HF.out, List.length_append] at hle
        have HB := Kept.mk hb
        have HH := Kept.mk hh
        have HK := Kept.mk hkr
        clear hb hh hkr hs
        generalize m[k] = t at *
        generalize (m.take k).flatten = q at *
        have ht := str_size t
        have hq := str_size q
        have HA := Kept.mk (str_append q t)
        have hqt : (q ++ t).length ≤ 20000 := by rw [List.length_append]; omega
        go_wp2_with fail
        refine (write_any w.heap.size q t wr HH.out HK.out hg0 (by omega)).mono ?_
        rintro e w2 ⟨rfl, hh2, hbut⟩
        rw [← List.length_append] at hh2
        have hB2 := below_but HB.out hbut (Nat.le_refl _) HB.out.size
        have hk2 := HK.out.but hbut hg0
        have HB2 := Kept.mk hB2
        have HK2 := Kept.mk hk2
        have HH2 := Kept.mk hh2
        clear hc
        have hc := (HR.out.below hB2).cells HS.out
        clear hB2 hk2 hh2 hbut HB HK HH had
        go_wp2_with fail
        rw [HA.out]
        refine (hashSum_any w.heap.size (q ++ t) w2 HH2.out HK2.out (by omega)).mono ?_
        rintro e w3 ⟨rfl, hb3⟩
        have HB3 := Kept.mk (HB2.out.trans (hb3.mono HB2.out.size))
        have HK3 := Kept.mk (HK2.out.below hb3)
        have HH3 := Kept.mk (HH2.out.below hb3)
        clear hb3 HB2 HK2 HH2 hc
        go_wp2_with fail
        refine (refSum_any (q ++ t) w3 (by omega)).mono ?_
        rintro e w4 ⟨rfl, hb4⟩
        have HB4 := Kept.mk (HB3.out.trans (hb4.mono HB3.out.size))
        have HK4 := Kept.mk (HK3.out.below hb4)
        have HH4 := Kept.mk (HH3.out.below hb4)
        clear hb4 HB3 HK3 HH3
        go_wp2_with fail
        refine (hashSum_any w.heap.size (q ++ t) w4 HH4.out HK4.out (by omega)).mono ?_
        rintro e w5 ⟨rfl, hb5⟩
        have HB5 := Kept.mk (HB4.out.trans (hb5.mono HB4.out.size))
        have HK5 := Kept.mk (HK4.out.below hb5)
        have HH5 := Kept.mk (HH4.out.below hb5)
        clear hb5 HB4 HK4 HH4
        go_wp2_with fail
        refine (sum_one (q ++ t) w5 HK5.out _ (by omega)).mono ?_
        rintro e w6 ⟨rfl, hb6⟩
        have HB6 := Kept.mk (HB5.out.trans (hb6.mono HB5.out.size))
        have HK6 := Kept.mk (HK5.out.below hb6)
        have HH6 := Kept.mk (HH5.out.below hb6)
        clear hb6 HB5 HK5 HH5
        go_wp2_with fail
        refine ⟨⟨k + 1, by omega, by go_num, by rw [HF.out], ?_, HB6.out, HK6.out⟩, by simp [RowKit.intOf]; omega⟩
        rw [HF.out]; exact HH6.out
      · have HB := Kept.mk hb
        have HK := Kept.mk hkr
        clear hb hh hkr
        go_wp2_with fail
        refine (shaAwake_any wr HK.out).mono ?_
        rintro e w3 ⟨rfl, hb3⟩
        have HB3 := Kept.mk (HB.out.trans (hb3.mono HB.out.size))
        clear hb3
        go_wp2_with fail
        go_ret
        exact ⟨rfl, HB3.out⟩
    · have HB := Kept.mk hb
      have HK := Kept.mk hkr
      clear hb hh hkr
      go_wp2_with fail
      refine (shaAwake_any wr HK.out).mono ?_
      rintro e w3 ⟨rfl, hb3⟩
      have HB3 := Kept.mk (HB.out.trans (hb3.mono HB.out.size))
      clear hb3
      go_wp2_with fail
      go_ret
      exact ⟨rfl, HB3.out⟩
end Go.Proofs.YtihhjjcghocgaaaDoor
