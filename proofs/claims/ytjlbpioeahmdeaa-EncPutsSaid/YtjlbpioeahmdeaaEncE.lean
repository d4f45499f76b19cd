/- PutText, and the chapter's examples. -/
import Derived.Test.YtjlbpioeahmdeaaEncD
namespace Go.Proofs.Ytjlbpioeahmdeaa
set_option linter.unusedVariables false
open Go.RowKit Go.Lib
/- the examples, reckoned -/
theorem ex_tk : tkNum ⟨#[248, 5]⟩ = (0, ByteArray.empty, 2) := by kernel_rfl
theorem ex_5 : str (put 5) = ⟨#[5]⟩ := by kernel_rfl
theorem ex_247 : str (put 247) = ⟨#[247]⟩ := by kernel_rfl
theorem ex_248 : str (put 248) = ⟨#[248, 248]⟩ := by kernel_rfl
theorem ex_65536 : str (put 65536) = ⟨#[250, 1, 0, 0]⟩ := by kernel_rfl
theorem ex_ab : putText ⟨#[97, 98]⟩ = ⟨#[2, 97, 98]⟩ := by kernel_rfl
theorem ex_258 : str (beL (fixLen 2) 258) = ⟨#[1, 2]⟩ := by kernel_rfl

attribute [local irreducible] bev put wd str tkNum beL putAll fixLen

theorem takeNum_b (s : ByteArray) (w : World) (hs : s.size ≤ maxLen) :
    Calls Try.prog 13 #[.string s] w fun e w' => e = .returned (.tuple #[.int .i64 (tkNum s).1, .string (tkNum s).2.1, .int .i64 (tkNum s).2.2]) ∧ Below w.heap.size w w' :=
  (takeNum_any s w hs).mono fun _ _ h => ⟨h.1, below_of_drew h.2⟩
theorem takeText_b (s : ByteArray) (most : Int) (w : World) (hs : s.size ≤ maxLen) :
    Calls Try.prog 16 #[.string s, .int .i64 most] w fun e w' => e = .returned (.tuple #[.string (tkText s most).1, .string (tkText s most).2.1, .int .i64 (tkText s most).2.2]) ∧ Below w.heap.size w w' :=
  (takeText_any s most w hs).mono fun _ _ h => ⟨h.1, below_of_drew h.2⟩
theorem take_b (s : ByteArray) (n : Int) (w : World) (hs : s.size ≤ maxLen) :
    Calls Try.prog 21 #[.string s, .int .i64 n] w fun e w' => e = .returned (.tuple #[.int .i64 (tkFix s n).1, .string (tkFix s n).2.1, .int .i64 (tkFix s n).2.2]) ∧ Below w.heap.size w w' :=
  (take_any s n w hs).mono fun _ _ h => ⟨h.1, below_of_drew h.2⟩

theorem rowAt_one (w : World) (n : Int) (fz : Nat × Nat) : RowAt (w.alloc (.cells #[.int .i64 n] 3 fz)) (some ⟨w.heap.size, 0, none⟩) (ints [n]) := by
  intro _
  refine ⟨_, rfl, by simp, fun j u hu => ?_⟩
  cases j with
  | zero =>
    rw [show (⟨w.heap.size, 0, none⟩ : Addr).add 0 = ⟨w.heap.size, 0, none⟩ from rfl, World.cell?_alloc_mark w #[.int .i64 n] 3 fz 0]
    simpa [ints] using hu
  | succ j => simp [ints] at hu
theorem putAll_one (n : Int) : putAll [n] = put n := by unfold putAll; simp
/-- one number, in the slice that the call makes -/
theorem putNum_one (n : Int) (w : World) :
    Calls Try.prog 10 #[.slice (some ⟨w.heap.size, 0, none⟩) 1 1] (w.alloc (.cells #[.int .i64 n] 3)) fun e w' => e = .returned (.string (str (put n))) ∧ Below w.heap.size w w' := by
  have h := putNum_any (some ⟨w.heap.size, 0, none⟩) 1 [n] (w.alloc (.cells #[.int .i64 n] 3)) (by simp) (rowAt_one w n (0, 0))
  rw [putAll_one] at h
  refine h.mono ?_
  rintro e w' ⟨h1, h2⟩
  exact ⟨h1, below_two ((Below.refl w.heap.size w).alloc (Nat.le_refl _) _) h2 (by simp)⟩

set_option maxHeartbeats 400000 in
theorem putText_any (s : ByteArray) (w : World) (hs : s.size ≤ 4611686018427387904) :
    Calls Try.prog 18 #[.string s] w fun e w' => e = .returned (.string (putText s)) ∧ Below w.heap.size w w' := by
  have hz := put_size s.size
  go_enter Try.func18, Try.ntmps18
  go_wp2_with fail
  refine (putNum_one _ _).mono ?_
  rintro e w1 ⟨rfl, hb1⟩
  go_wp2
  go_ret
  exact ⟨rfl, hb1⟩

set_option maxRecDepth 100000 in
set_option maxHeartbeats 1000000 in
theorem awake_any (w : World) :
    Calls Try.prog 12 #[] w fun e w' => e = .returned (.bool true) ∧ Below w.heap.size w w' := by
  go_enter Try.func12, Try.ntmps12
  go_wp2_with fail
  refine (takeNum_b _ _ (by decide)).mono ?_
  rintro e w1 ⟨rfl, hb1⟩
  rw [ex_tk]
  go_wp2_with fail
  refine (putNum_one 5 _).mono ?_
  rintro e w2 ⟨rfl, hb2⟩
  rw [ex_5]
  have hb2 := hb1.trans (hb2.mono hb1.size)
  clear hb1
  go_wp2_with fail
  refine (putNum_one 247 _).mono ?_
  rintro e w3 ⟨rfl, hb3⟩
  rw [ex_247]
  have hb3 := hb2.trans (hb3.mono hb2.size)
  clear hb2
  go_wp2_with fail
  refine (putNum_one 248 _).mono ?_
  rintro e w4 ⟨rfl, hb4⟩
  rw [ex_248]
  have hb4 := hb3.trans (hb4.mono hb3.size)
  clear hb3
  go_wp2_with fail
  refine (putNum_one 65536 _).mono ?_
  rintro e w5 ⟨rfl, hb5⟩
  rw [ex_65536]
  have hb5 := hb4.trans (hb5.mono hb4.size)
  clear hb4
  go_wp2_with fail
  refine (putText_any _ _ (by decide)).mono ?_
  rintro e w6 ⟨rfl, hb6⟩
  rw [ex_ab]
  have hb6 := hb5.trans (hb6.mono hb5.size)
  clear hb5
  go_wp2_with fail
  refine (fixed_any 258 2 _ (by decide) (by decide)).mono ?_
  rintro e w7 ⟨rfl, hb7⟩
  rw [ex_258]
  have hb7 := hb6.trans (hb7.mono hb6.size)
  clear hb6
  go_wp2_with fail
  go_ret
  exact ⟨rfl, hb7⟩

end Go.Proofs.Ytjlbpioeahmdeaa
