/- SHA-256: the sum of texts, and the chapter's examples, each by a contract. -/
import Derived.Test.YtkkcakblphebjaaDoorShaG
namespace Go.Proofs.YtkkcakblphebjaaDoor
set_option linter.unusedSimpArgs false
set_option linter.unusedVariables false
set_option linter.unusedVariables false
open Go.RowKit Go.Lib

def strs (ls : List (List UInt8)) : List Value := ls.map fun l => .string (str l)
theorem strs_length (ls : List (List UInt8)) : (strs ls).length = ls.length := by simp [strs]
theorem strs_get (ls : List (List UInt8)) (k : Nat) (h : k < ls.length) : (strs ls)[k]'(by rw [strs_length]; exact h) = .string (str ls[k]) := by simp [strs]
theorem flat_snoc (ls : List (List UInt8)) (k : Nat) (h : k < ls.length) : (ls.take (k + 1)).flatten = (ls.take k).flatten ++ ls[k] := by
  rw [List.take_succ_eq_append_getElem h, List.flatten_append]; simp
theorem flat_le (ls : List (List UInt8)) (k : Nat) : (ls.take k).flatten.length ≤ ls.flatten.length := by
  have h := List.take_append_drop k ls
  have h2 : ls.flatten = (ls.take k).flatten ++ (ls.drop k).flatten := by rw [← List.flatten_append, h]
  rw [h2, List.length_append]; omega
attribute [local irreducible] hcells sFold Lib.byteCells eightL gput sMix str sW rnds St.add wc64 sPad sOut sSum

set_option maxRecDepth 100000 in
set_option maxHeartbeats 4000000 in
theorem shaSum_any (A : Option Addr) (c : Nat) (ls : List (List UInt8)) (w : World) (hr : RowAt w A (strs ls)) (hk : KAt w) (hl : ls.flatten.length ≤ 900000000) (hn : ls.length ≤ 1000000000) :
    Calls Tryd.prog 53 #[.slice A ls.length c] w fun e w' => e = .returned (.string (str (sSum ls.flatten))) ∧ Below w.heap.size w w' := by
  have hg0 := hk.lt
  go_enter Tryd.func53, Tryd.ntmps53
  go_wp2_with fail
  refine (New_any w).mono ?_
  rintro e w1 ⟨rfl, hw1⟩
  have hH : HashT w1 w.heap.size [] 0 := by rw [hw1]; exact new_hash w
  have hB : Below w.heap.size w w1 := by rw [hw1]; exact (Below.refl _ _).alloc (Nat.le_refl _) _
  have hk1 := hk.below hB
  have HH := Kept.mk hH
  have HB := Kept.mk hB
  have HK := Kept.mk hk1
  clear hH hB hk1 hw1 hk
  go_wp2_with fail
  go_loopw [9] (fun i wr => ∃ k : Nat, k ≤ ls.length ∧ i = .int .i64 k ∧ HashT wr w.heap.size (ls.take k).flatten ((ls.take k).flatten.length : Nat) ∧ Below w.heap.size w wr ∧ KAt wr) (fun i _ => ls.length - (RowKit.intOf i).toNat)
  case atStart => exact ⟨0, by omega, rfl, HH.out, HB.out, HK.out⟩
  case round =>
    clear HH HB HK w1
    obtain ⟨k, hk, rfl, hh, hb, hkr⟩ := hrel
    by_cases hlt : k < ls.length
    · obtain ⟨ad, rfl, had, hc⟩ := (hr.below hb).get (k := k) (by rw [strs_length]; exact hlt)
      rw [strs_get ls k hlt] at hc
      have hf := flat_snoc ls k hlt
      have hle := flat_le ls (k + 1)
      rw [hf, List.length_append] at hle
      have HF := Kept.mk hf
      have HB := Kept.mk hb
      clear hf hb
      generalize ls[k] = t at *
      go_wp2_with fail
      refine (write_any w.heap.size (ls.take k).flatten t wr hh hkr hg0 (by omega)).mono ?_
      rintro e w2 ⟨rfl, hh2, hbut⟩
      have hB2 := below_but HB.out hbut (Nat.le_refl _) HB.out.size
      have hk2 := hkr.but hbut hg0
      clear hh hkr hbut hc
      go_wp2_with fail
      refine ⟨⟨k + 1, by omega, by go_num, ?_, hB2, hk2⟩, by simp [RowKit.intOf]; omega⟩
      rw [HF.out, List.length_append]; exact hh2
    · have hkl : k = ls.length := by omega
      subst hkl
      rw [List.take_length] at hh
      have HB := Kept.mk hb
      clear hb
      go_wp2_with fail
      refine (hashSum_any w.heap.size ls.flatten wr hh hkr hl).mono ?_
      rintro e w2 ⟨rfl, hb2⟩
      have hB2 := HB.out.trans (hb2.mono HB.out.size)
      clear hh hkr hb2
      go_wp2_with fail
      go_ret
      exact ⟨rfl, hB2⟩
end Go.Proofs.YtkkcakblphebjaaDoor
