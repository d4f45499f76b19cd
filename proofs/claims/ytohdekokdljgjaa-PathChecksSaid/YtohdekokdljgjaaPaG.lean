/- path: the order of texts, what is in a folder: the program's and the document's, each by a contract. -/
import Derived.Test.YtohdekokdljgjaaPaF
namespace Go.Proofs.Ytohdekokdljgjaa
set_option linter.unusedVariables false
set_option linter.unusedSimpArgs false
open Go.RowKit Go.Lib
theorem cmp_self : ∀ a : List UInt8, Lib.compareBytes a a = 0
  | [] => rfl
  | x :: a => by unfold Lib.compareBytes; rw [if_neg (by simp), if_neg (by simp), cmp_self a]
theorem cmp_neg : ∀ a b : List UInt8, Lib.compareBytes b a = - Lib.compareBytes a b
  | [], [] => rfl
  | [], _ :: _ => rfl
  | _ :: _, [] => rfl
  | x :: a, y :: b => by
    unfold Lib.compareBytes
    by_cases h1 : x < y
    · have h2 : ¬ y < x := fun h => by simp only [UInt8.lt_iff_toNat_lt] at h h1; omega
      rw [if_neg h2, if_pos h1, if_pos h1]; rfl
    · by_cases h2 : y < x
      · rw [if_pos h2, if_neg h1, if_pos h2]
      · rw [if_neg h2, if_neg h1, if_neg h1, if_neg h2, cmp_neg a b]
theorem cmp_range : ∀ a b : List UInt8, -1 ≤ Lib.compareBytes a b ∧ Lib.compareBytes a b ≤ 1
  | [], [] => by decide
  | [], _ :: _ => by unfold Lib.compareBytes; decide
  | _ :: _, [] => by unfold Lib.compareBytes; decide
  | x :: a, y :: b => by
    unfold Lib.compareBytes
    split
    · decide
    · split
      · decide
      · exact cmp_range a b
theorem cmp_under : ∀ (f r : List UInt8) (c : UInt8), Lib.compareBytes f (f ++ c :: r) = -1
  | [], _, _ => rfl
  | x :: f, r, c => by
    show Lib.compareBytes (x :: f) (x :: (f ++ c :: r)) = -1
    unfold Lib.compareBytes
    rw [if_neg (by simp), if_neg (by simp), cmp_under f r c]
theorem cmp_step (a b : List UInt8) (i : Nat) (ha : i < a.length) (hb : i < b.length) :
    Lib.compareBytes (a.drop i) (b.drop i) = if a[i] < b[i] then -1 else if b[i] < a[i] then 1 else Lib.compareBytes (a.drop (i + 1)) (b.drop (i + 1)) := by
  rw [List.drop_eq_getElem_cons ha, List.drop_eq_getElem_cons hb, Lib.compareBytes]
theorem cmp_end (a b : List UInt8) (i : Nat) (h : a.length ≤ i ∨ b.length ≤ i) (ha : i ≤ a.length) (hb : i ≤ b.length) :
    Lib.compareBytes (a.drop i) (b.drop i) = if a.length < b.length then -1 else if b.length < a.length then 1 else 0 := by
  rcases h with h | h
  · have : i = a.length := by omega
    subst this
    rw [List.drop_length]
    rcases Nat.lt_or_ge a.length b.length with h1 | h1
    · rw [if_pos h1, List.drop_eq_getElem_cons h1]; rfl
    · rw [if_neg (by omega), if_neg (by omega), List.drop_of_length_le h1]; rfl
  · have : i = b.length := by omega
    subst this
    rw [List.drop_length]
    rcases Nat.lt_or_ge b.length a.length with h1 | h1
    · rw [if_neg (by omega), if_pos h1, List.drop_eq_getElem_cons h1]; rfl
    · rw [if_neg (by omega), if_neg (by omega), List.drop_of_length_le h1]; rfl
set_option maxRecDepth 100000 in
set_option maxHeartbeats 1000000 in
theorem sCompare_any (a b : List UInt8) (w : World) :
    Calls Try.prog 65 #[.string (str a), .string (str b)] w fun e w' => e = .returned (.int .i64 (Lib.compareBytes a b)) ∧ w = w' := by
  go_enter Try.func65, Try.ntmps65
  go_wp2
  rw [run_callFunc_extern Try.func72 (by kernel_rfl) (by kernel_rfl) (by kernel_rfl) (e := Extern.BytealgCompare.compare) (by kernel_rfl), Lib.run_compareString]
  simp only [Result.andThen]
  rw [Oper.upon_value]
  go_wp2
  go_ret
  exact ⟨rfl, rfl⟩
theorem str_dropP (s : List UInt8) (n m : Nat) (hm : m = s.length) : (str s).extract n m = str (s.drop n) := by
  subst hm
  apply ByteArray.ext; apply Array.toList_inj.1
  rw [ByteArray.data_extract, Array.toList_extract]
  show (s.extract n s.length) = s.drop n
  rw [List.extract_eq_take_drop, List.take_of_length_le (by rw [List.length_drop]; omega)]
attribute [local irreducible] str
theorem pCompare_any (a b : List UInt8) (w : World) :
    Calls Try.prog 37 #[.string (str a), .string (str b)] w fun e w' => e = .returned (.int .i64 (Lib.compareBytes a b)) ∧ w = w' := by
  have HC := Kept.mk (sCompare_any a b w)
  generalize Lib.compareBytes a b = k at *
  go_enter Try.func37, Try.ntmps37
  go_wp2_with (first | (go_at_call 53; go_in) | (with_reducible refine HC.out.mono ?_; rintro e w1 ⟨rfl, rfl⟩))
  go_ret
  exact ⟨rfl, rfl⟩
set_option maxRecDepth 100000 in
set_option maxHeartbeats 2000000 in
theorem refCompare_any (a b : List UInt8) (w : World) (ha : a.length ≤ 20000) (hb : b.length ≤ 20000) :
    Calls Try.prog 38 #[.string (str a), .string (str b)] w fun e w' => e = .returned (.int .i64 (Lib.compareBytes a b)) ∧ Below w.heap.size w w' := by
  have hsa := str_size a
  have hsb := str_size b
  generalize hk : Lib.compareBytes a b = k
  have HK := Kept.mk hk
  clear hk
  go_enter Try.func38, Try.ntmps38
  go_wp2_with fail
  go_loopw [5] (fun c wr => ∃ i : Nat, i ≤ a.length ∧ i ≤ b.length ∧ c = .int .i64 i ∧ k = Lib.compareBytes (a.drop i) (b.drop i) ∧ Below w.heap.size w wr) (fun c _ => a.length - (RowKit.intOf c).toNat)
  case atStart => exact ⟨0, by omega, by omega, rfl, HK.out.symm, Below.refl _ _⟩
  case round =>
    obtain ⟨i, hia, hib, rfl, hx, hbw⟩ := hrel
    have HBW := Kept.mk hbw
    clear hbw
    by_cases h1 : i < a.length
    · have h1i : (i : Int) < (a.length : Int) := by omega
      by_cases h2 : i < b.length
      · have h2i : (i : Int) < (b.length : Int) := by omega
        have ga := str_at a i h1 (by rw [hsa]; exact h1)
        have gb := str_at b i h2 (by rw [hsb]; exact h2)
        rw [cmp_step a b i h1 h2] at hx
        generalize a[i] = x at *
        generalize b[i] = y at *
        by_cases h3 : x < y
        · have h3i : (x.toNat : Int) < (y.toNat : Int) := by rw [UInt8.lt_iff_toNat_lt] at h3; omega
          rw [if_pos h3] at hx
          have HX := Kept.mk hx
          clear hx h3
          go_upto_region 4 with fail
          go_quiet (fail)
          go_wp2_with fail
          go_ret
          exact ⟨by rw [HX.out]; rfl, below_drewN HBW.out _⟩
        · have h3i : ¬ (x.toNat : Int) < (y.toNat : Int) := by rw [UInt8.lt_iff_toNat_lt] at h3; omega
          rw [if_neg h3] at hx
          by_cases h4 : y < x
          · have h4i : (y.toNat : Int) < (x.toNat : Int) := by rw [UInt8.lt_iff_toNat_lt] at h4; omega
            rw [if_pos h4] at hx
            have HX := Kept.mk hx
            clear hx h3 h4
            go_upto_region 4 with fail
            go_quiet (fail)
            go_upto_region 6 with fail
            go_quiet (fail)
            go_wp2_with fail
            go_ret
            exact ⟨by rw [HX.out]; rfl, below_drewN HBW.out _⟩
          · have h4i : ¬ (y.toNat : Int) < (x.toNat : Int) := by rw [UInt8.lt_iff_toNat_lt] at h4; omega
            rw [if_neg h4] at hx
            have HX := Kept.mk hx
            clear hx h3 h4
            go_upto_region 4 with fail
            go_quiet (fail)
            go_upto_region 6 with fail
            go_quiet (fail)
            go_wp2_with fail
            exact ⟨⟨i + 1, h1, h2, by push_cast; rfl, HX.out, below_drewN HBW.out _⟩, by show a.length - ((i : Int) + 1).toNat < a.length - ((i : Nat) : Int).toNat; omega⟩
      · have h2i : ¬ (i : Int) < (b.length : Int) := by omega
        rw [cmp_end a b i (.inr (by omega)) hia hib] at hx
        have h5 : ¬ (a.length : Int) < (b.length : Int) := by omega
        rw [if_neg (by omega), if_pos (by omega)] at hx
        have h6 : (b.length : Int) < (a.length : Int) := by omega
        have HX := Kept.mk hx
        clear hx
        go_wp2_with fail
        go_ret
        exact ⟨by rw [HX.out]; rfl, HBW.out⟩
    · have h1i : ¬ (i : Int) < (a.length : Int) := by omega
      rw [cmp_end a b i (.inl (by omega)) hia hib] at hx
      by_cases h5 : a.length < b.length
      · have h5i : (a.length : Int) < (b.length : Int) := by omega
        rw [if_pos h5] at hx
        have HX := Kept.mk hx
        clear hx
        go_wp2_with fail
        go_ret
        exact ⟨by rw [HX.out]; rfl, HBW.out⟩
      · have h5i : ¬ (a.length : Int) < (b.length : Int) := by omega
        have h6i : ¬ (b.length : Int) < (a.length : Int) := by omega
        rw [if_neg h5, if_neg (by omega)] at hx
        have HX := Kept.mk hx
        clear hx
        go_wp2_with fail
        go_ret
        exact ⟨by rw [HX.out]; rfl, HBW.out⟩
set_option maxRecDepth 100000 in
theorem hasPrefix_any (s f : List UInt8) (w : World) (hs : s.length ≤ 20000) (hf : f.length ≤ 20000) (b : Bool) (hb : decide (s.take f.length = f) = b) :
    Calls Try.prog 67 #[.string (str s), .string (str f)] w fun e w' => e = .returned (.bool b) ∧ w = w' := by
  have hss := str_size s
  have hsf := str_size f
  by_cases h : f.length ≤ s.length
  · have hi : ¬ (s.length : Int) < (f.length : Int) := by omega
    have ht := str_takeP s f.length
    have hq : ((str (s.take f.length)).toList == (str f).toList) = b := by
      rw [str_toList, str_toList, ← hb]; rw [Bool.eq_iff_iff]; simp
    clear hb
    go_enter Try.func67, Try.ntmps67
    go_wp2_with fail
    go_ret
    exact ⟨rfl, rfl⟩
  · have hi : (s.length : Int) < (f.length : Int) := by omega
    have hb0 : b = false := by
      rw [← hb, List.take_of_length_le (by omega)]
      apply decide_eq_false; intro e; rw [e] at h; omega
    subst hb0
    clear hb
    go_enter Try.func67, Try.ntmps67
    go_wp2_with fail
    go_ret
    exact ⟨rfl, rfl⟩
theorem cutPrefix_no (s f : List UInt8) (w : World) (hs : s.length ≤ 20000) (hf : f.length ≤ 20000) (hb : decide (s.take f.length = f) = false) :
    Calls Try.prog 54 #[.string (str s), .string (str f)] w fun e w' => e = .returned (.tuple #[.string (str s), .bool false]) ∧ w = w' := by
  have HC := Kept.mk (hasPrefix_any s f w hs hf false hb)
  clear hb
  go_enter Try.func54, Try.ntmps54
  go_wp2_with (first | (go_at_call 66; go_in) | (with_reducible refine HC.out.mono ?_; rintro e w1 ⟨rfl, rfl⟩))
  go_ret2
  exact ⟨rfl, rfl⟩
theorem cutPrefix_yes (s f : List UInt8) (w : World) (hs : s.length ≤ 20000) (hf : f.length ≤ s.length) (hb : decide (s.take f.length = f) = true) :
    Calls Try.prog 54 #[.string (str s), .string (str f)] w fun e w' => e = .returned (.tuple #[.string (str (s.drop f.length)), .bool true]) ∧ w = w' := by
  have HC := Kept.mk (hasPrefix_any s f w hs (by omega) true hb)
  have hss := str_size s
  have hsf := str_size f
  have hd := str_dropP s f.length s.length rfl
  have hi : (f.length : Int) ≤ (s.length : Int) := by omega
  clear hb
  go_enter Try.func54, Try.ntmps54
  go_wp2_with (first | (go_at_call 66; go_in) | (with_reducible refine HC.out.mono ?_; rintro e w1 ⟨rfl, rfl⟩))
  go_ret2
  exact ⟨rfl, rfl⟩
theorem hasSlash_any (s : List UInt8) (w : World) (hs : s.length ≤ 20000) (b : Bool) (hb : decide (s.take 1 = [47]) = b) :
    Calls Try.prog 55 #[.string (str s), .string ⟨#[47]⟩] w fun e w' => e = .returned (.bool b) ∧ w = w' := by
  have HC := Kept.mk (show Calls Try.prog 67 #[.string (str s), .string ⟨#[47]⟩] w fun e w' => e = .returned (.bool b) ∧ w = w' from by
    have h := hasPrefix_any s [47] w hs (by decide) b hb
    unfold str at h ⊢; exact h)
  clear hb
  go_enter Try.func55, Try.ntmps55
  go_wp2_with (with_reducible refine HC.out.mono ?_; rintro e w1 ⟨rfl, rfl⟩)
  go_ret
  exact ⟨rfl, rfl⟩
/-- is it in the folder? -/
def und (p f : List UInt8) : Bool := decide (p.take f.length = f) && decide ((p.drop f.length).take 1 = [47])
theorem under_any (p f : List UInt8) (w : World) (hp : p.length ≤ 20000) (hf : f.length ≤ 20000) :
    Calls Try.prog 39 #[.string (str p), .string (str f)] w fun e w' => e = .returned (.bool (und p f)) ∧ w = w' := by
  by_cases h : p.take f.length = f
  · have hl : f.length ≤ p.length := by
      have := congrArg List.length h
      rw [List.length_take] at this; omega
    have HC := Kept.mk (cutPrefix_yes p f w hp hl (decide_eq_true h))
    have HU := Kept.mk (show und p f = decide ((p.drop f.length).take 1 = [47]) from by unfold und; rw [decide_eq_true h, Bool.true_and])
    have HS := Kept.mk (hasSlash_any (p.drop f.length) w (by rw [List.length_drop]; omega) (und p f) HU.out.symm)
    clear h HU
    generalize und p f = b at *
    go_enter Try.func39, Try.ntmps39
    go_wp2_with fail
    with_reducible refine HC.out.mono ?_
    rintro e w1 ⟨rfl, rfl⟩
    go_wp2_with fail
    with_reducible refine HS.out.mono ?_
    rintro e w1 ⟨rfl, rfl⟩
    go_wp2_with fail
    go_ret
    exact ⟨rfl, rfl⟩
  · have HC := Kept.mk (cutPrefix_no p f w hp hf (decide_eq_false h))
    have HU := Kept.mk (show und p f = false from by unfold und; rw [decide_eq_false h, Bool.false_and])
    go_enter Try.func39, Try.ntmps39
    go_wp2_with fail
    with_reducible refine HC.out.mono ?_
    rintro e w1 ⟨rfl, rfl⟩
    go_wp2_with fail
    go_ret
    exact ⟨by rw [HU.out]; rfl, rfl⟩
theorem und_split (p f : List UInt8) : und p f = true ↔ ∃ r, p = f ++ 47 :: r := by
  unfold und
  rw [Bool.and_eq_true, decide_eq_true_iff, decide_eq_true_iff]
  constructor
  · rintro ⟨h1, h2⟩
    have h3 := List.take_append_drop f.length p
    rw [h1] at h3
    rw [← h3]
    generalize p.drop f.length = q at *
    match q, h2 with
    | x :: r, h2 => simp at h2; exact ⟨r, by rw [h2]⟩
  · rintro ⟨r, rfl⟩
    simp
theorem und_self (p : List UInt8) : und p p = false := by
  apply Bool.eq_false_iff.2
  intro h
  obtain ⟨r, hr⟩ := (und_split p p).1 h
  have := congrArg List.length hr
  rw [List.length_append, List.length_cons] at this; omega
set_option maxRecDepth 100000 in
set_option maxHeartbeats 1000000 in
theorem refUnder_any (p f : List UInt8) (w : World) (hp : p.length ≤ 20000) (hf : f.length ≤ 20000) :
    Calls Try.prog 40 #[.string (str p), .string (str f)] w fun e w' => e = .returned (.bool (und p f)) ∧ w = w' := by
  have hsp := str_size p
  have hsf := str_size f
  by_cases h : f.length < p.length
  · have hi : (f.length : Int) < (p.length : Int) := by omega
    have ht := str_takeP p f.length
    have hg := str_at p f.length h (by rw [hsp]; exact h)
    have hd : ((p.drop f.length).take 1 = [47]) ↔ p[f.length] = 47 := by
      rw [List.drop_eq_getElem_cons h]
      show [p[f.length]] = [47] ↔ _
      simp
    by_cases h1 : p.take f.length = f
    · have hq : ((str (p.take f.length)).toList == (str f).toList) = true := by rw [str_toList, str_toList, h1]; simp
      by_cases h2 : p[f.length] = 47
      · have h47 : (p[f.length].toNat : Int) = 47 := by rw [h2]; rfl
        have HU := Kept.mk (show und p f = true from by unfold und; rw [decide_eq_true h1, decide_eq_true (hd.2 h2)]; rfl)
        clear h1 h2 hd
        generalize p[f.length] = x at *
        go_enter Try.func40, Try.ntmps40
        go_wp2_with fail
        (try go_quiet (fail))
        (try go_wp2_with fail)
        go_ret
        exact ⟨by rw [HU.out]; rfl, rfl⟩
      · have h47 : ¬ (p[f.length].toNat : Int) = 47 := by
          intro e; apply h2; apply UInt8.toNat_inj.1; have : p[f.length].toNat = 47 := by omega
          rw [this]; rfl
        have HU := Kept.mk (show und p f = false from by unfold und; rw [decide_eq_false (fun e => h2 (hd.1 e))]; simp)
        have hbq : ((p[f.length].toNat : Int) == 47) = false := by simpa using h47
        clear h1 h2 hd
        generalize p[f.length] = x at *
        go_enter Try.func40, Try.ntmps40
        go_wp2_with fail
        go_ret
        exact ⟨by rw [HU.out]; rfl, rfl⟩
    · have hq : ((str (p.take f.length)).toList == (str f).toList) = false := by rw [str_toList, str_toList]; simpa using h1
      have HU := Kept.mk (show und p f = false from by unfold und; rw [decide_eq_false h1]; rfl)
      clear h1 hd hg
      go_enter Try.func40, Try.ntmps40
      go_wp2_with fail
      go_ret
      exact ⟨by rw [HU.out]; rfl, rfl⟩
  · have hi : ¬ (f.length : Int) < (p.length : Int) := by omega
    have HU := Kept.mk (show und p f = false from by
      apply Bool.eq_false_iff.2
      intro hu
      obtain ⟨r, rfl⟩ := (und_split p f).1 hu
      rw [List.length_append, List.length_cons] at h; omega)
    clear h
    go_enter Try.func40, Try.ntmps40
    go_wp2_with fail
    go_ret
    exact ⟨by rw [HU.out]; rfl, rfl⟩
end Go.Proofs.Ytohdekokdljgjaa
