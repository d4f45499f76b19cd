/- enc.Fixed by a contract, by itself. -/
import Derived.Test.YtabeehljpdehcaaKit
namespace Go.Proofs.Ytabeehljpdehcaa
set_option linter.unusedVariables false
open Go.RowKit Go.Lib
attribute [local irreducible] str

/-- the lowest k bytes of n, the highest first -/
def beL : Nat → Int → List UInt8
  | 0, _ => []
  | k + 1, n => byt (n / 256 ^ k) :: beL k n
theorem beL_length (k : Nat) (n : Int) : (beL k n).length = k := by
  induction k with
  | zero => rfl
  | succ k ih => simp [beL, ih]
/-- how many bytes there are of so many -/
def fixLen (b : Int) : Nat := if b < 0 then 0 else if 8 < b then 8 else b.toNat
theorem fixLen_le (b : Int) : fixLen b ≤ 8 := by unfold fixLen; (repeat' split) <;> omega

theorem beL_getElem (k : Nat) (n : Int) (j : Nat) (hj : j < k) : (beL k n)[j]? = some (byt (n / 256 ^ (k - 1 - j))) := by
  induction k generalizing j with
  | zero => omega
  | succ k ih =>
    cases j with
    | zero => simp [beL]
    | succ j => rw [beL, List.getElem?_cons_succ, ih j (by omega)]; congr 4; omega

/-- the array's cells behind k rounds -/
def fixC (k : Nat) (n : Int) : Array Value := (List.replicate (8 - k) (Value.int .u8 0) ++ (beL k n).map fun c => Value.int .u8 c.toNat).toArray
theorem fixC_size (k : Nat) (n : Int) (h : k ≤ 8) : (fixC k n).size = 8 := by
  simp [fixC, beL_length]; omega
theorem fixC_zero (n : Int) : fixC 0 n = #[Value.int .u8 0, .int .u8 0, .int .u8 0, .int .u8 0, .int .u8 0, .int .u8 0, .int .u8 0, .int .u8 0] := rfl
theorem pow_256 (k : Nat) : (2 : Int) ^ (8 * k) = 256 ^ k := by rw [Int.pow_mul]; rfl
theorem fixC_step (k : Nat) (n : Int) (h : k < 8) : (fixC k n).setIfInBounds (7 - k) (.int .u8 (n / 2 ^ (8 * k) % 256)) = fixC (k + 1) n := by
  rw [pow_256, ← byt_toNat]
  apply Array.ext_getElem?
  intro i
  have hs := fixC_size k n (by omega)
  rw [Array.getElem?_setIfInBounds]
  split
  · rename_i hi
    subst hi
    rw [if_pos (by omega)]
    simp only [fixC, List.getElem?_toArray, beL, List.map_cons]
    rw [List.getElem?_append_right (by simp)]
    simp only [List.length_replicate, show 7 - k - (8 - (k + 1)) = 0 from by omega, List.getElem?_cons_zero]
  · rename_i hi
    simp only [fixC, List.getElem?_toArray, beL, List.map_cons]
    by_cases hj : i < 7 - k
    · rw [List.getElem?_append_left (by simp; omega), List.getElem?_append_left (by simp; omega), List.getElem?_replicate, List.getElem?_replicate, if_pos (by omega), if_pos (by omega)]
    · rw [List.getElem?_append_right (by simp; omega), List.getElem?_append_right (by simp; omega)]
      simp only [List.length_replicate]
      obtain ⟨d, rfl⟩ : ∃ d, i = 8 - k + d := ⟨i - (8 - k), by omega⟩
      rw [show 8 - k + d - (8 - k) = d from by omega, show 8 - k + d - (8 - (k + 1)) = d + 1 from by omega, List.getElem?_cons_succ]
theorem fixC_old (k : Nat) (n : Int) (h : k < 8) : (fixC k n)[7 - k]? = some (.int .u8 0) := by
  simp only [fixC, List.getElem?_toArray]
  rw [List.getElem?_append_left (by simp; omega), List.getElem?_replicate, if_pos (by omega)]
theorem fixC_tail (m : Nat) (n : Int) (h : m ≤ 8) (j : Nat) (hj : j < m) : (fixC 8 n)[8 - m + j]? = some (.int .u8 ((beL m n)[j]'(by rw [beL_length]; exact hj)).toNat) := by
  have h1 : (beL m n)[j]? = some ((beL m n)[j]'(by rw [beL_length]; exact hj)) := List.getElem?_eq_getElem _
  rw [beL_getElem m n j hj] at h1
  have h2 := Option.some.inj h1
  rw [← h2]
  simp only [fixC, List.getElem?_toArray, Nat.sub_self, List.replicate_zero, List.nil_append, List.getElem?_map]
  rw [beL_getElem 8 n _ (by omega), show 8 - 1 - (8 - m + j) = m - 1 - j from by omega]
  rfl

theorem fix_conv (w : World) (m : Nat) (n : Int) (h : m ≤ 8) (c : Nat) :
    (convert 46 9 (.slice (some ⟨w.heap.size, 8 - m, none⟩) m c)).run Try.prog (w.alloc (.cells (fixC 8 n) 49)) = .ok (.string (str (beL m n))) (w.alloc (.cells (fixC 8 n) 49)) := by
  have hb := run_convert_bytes_back (P := Try.prog) (w.alloc (.cells (fixC 8 n) 49)) 46 9 5 ⟨w.heap.size, 8 - m, none⟩ c (beL m n) Try.underlying46 Try.underlying5 Try.underlying9 (fun j hj => by
    rw [beL_length] at hj
    have hadd : (⟨w.heap.size, 8 - m, none⟩ : Addr).add j = ⟨w.heap.size, 8 - m + j, none⟩ := by unfold Addr.add; split <;> simp_all
    rw [hadd, World.cell?_alloc_mark w (fixC 8 n) 49 (0, 0) (8 - m + j)]
    exact fixC_tail m n h j hj)
  rw [beL_length] at hb
  rw [hb]; unfold str; rfl

theorem fix_slice (w : World) (m : Nat) (n : Int) (h : m ≤ 8) : ∃ a : Addr,
    (∀ W, (Instr.sliceAt 49 (.pointer (some ⟨w.heap.size, 0, none⟩)) (some (.int .i64 (8 - (m : Int)))) none none).run Try.prog W = .ok (.slice (some a) m m) W) ∧
    (convert 46 9 (.slice (some a) m m)).run Try.prog (w.alloc (.cells (fixC 8 n) 49)) = .ok (.string (str (beL m n))) (w.alloc (.cells (fixC 8 n) 49)) := by
  have hal : Try.prog.arrayLen 49 = 8 := by kernel_rfl
  have hel : Try.prog.elem 49 = 5 := by kernel_rfl
  have hu : Try.prog.underlying 49 = some (.array (Try.prog.arrayLen 49) (Try.prog.elem 49)) := by kernel_rfl
  have hsz : ∀ W, (Go.sizeOf 5).run Try.prog W = .ok 1 W := fun W => by kernel_rfl
  by_cases h0 : m = 0
  · subst h0
    refine ⟨⟨w.heap.size, 0, none⟩, fun W => ?_, ?_⟩
    · rw [run_sliceAt_array_l W _ _ hu .i64 _ (by omega) (by rw [hal]; omega), hel, hsz, hal]
      rfl
    · have hb := run_convert_bytes_back (P := Try.prog) (w.alloc (.cells (fixC 8 n) 49)) 46 9 5 ⟨w.heap.size, 0, none⟩ 0 [] Try.underlying46 Try.underlying5 Try.underlying9 (fun j hj => by simp at hj)
      exact hb.trans (by unfold str; rfl)
  · refine ⟨⟨w.heap.size, 8 - m, none⟩, fun W => ?_, fix_conv w m n h m⟩
    rw [run_sliceAt_array_l W _ _ hu .i64 _ (by omega) (by rw [hal]; omega), hel, hsz, hal]
    have e : (8 - (m : Int)).toNat = 8 - m := by omega
    rw [e]
    simp only [Result.andThen, slicedAt, Nat.mul_one, show ¬ 8 = 8 - m from by omega, if_false, show 8 - (8 - m) = m from by omega]
    congr 3
    unfold Addr.add
    split <;> simp_all

attribute [local irreducible] fixC beL

set_option maxRecDepth 100000 in
set_option maxHeartbeats 1000000 in
theorem fixed_any (n b : Int) (w : World) (h0 : -9223372036854775808 ≤ n) (h1 : n ≤ 9223372036854775807) :
    Calls Try.prog 22 #[.int .i64 n, .int .i64 b] w fun e w' => e = .returned (.string (str (beL (fixLen b) n))) ∧ Below w.heap.size w w' := by
  by_cases hb : b < 0
  · have h : fixLen b = 0 := by unfold fixLen; rw [if_pos hb]
    rw [h]; clear h
    go_enter Try.func22, Try.ntmps22
    go_wp2_with fail
    rw [← fixC_zero n]
    go_loopw [6, 10] (fun _ i wr => ∃ k : Nat, k ≤ 8 ∧ i = .int .i64 k ∧ wr = w.alloc (.cells (fixC k n) 49)) (fun _ i _ => 8 - (intOf i).toNat)
    case atStart => exact ⟨0, by omega, rfl, rfl⟩
    case round =>
      obtain ⟨k, hk, rfl, rfl⟩ := hrel
      by_cases hlt : k < 8
      · have hst := fixC_step k n hlt
        have hold := fixC_old k n hlt
        have HST := Kept.mk hst; clear hst
        go_wp2
        exact ⟨⟨k + 1, by omega, by go_num, by rw [HST.out]⟩, by simp [intOf]; omega⟩
      · have hk8 : k = 8 := by omega
        subst hk8
        obtain ⟨a, hsl, hcv⟩ := fix_slice w 0 n (by omega)
        simp only [show ((8 : Int) - ((0 : Nat) : Int)) = 8 from by decide] at hsl
        go_wp2
        go_ret
        exact ⟨rfl, (Below.refl _ _).alloc (Nat.le_refl _) _⟩
  by_cases hc : 8 < b
  · have h : fixLen b = 8 := by unfold fixLen; rw [if_neg hb, if_pos hc]
    rw [h]; clear h
    have hb : 0 ≤ b := by omega
    go_enter Try.func22, Try.ntmps22
    go_wp2_with fail
    rw [← fixC_zero n]
    go_loopw [6, 10] (fun _ i wr => ∃ k : Nat, k ≤ 8 ∧ i = .int .i64 k ∧ wr = w.alloc (.cells (fixC k n) 49)) (fun _ i _ => 8 - (intOf i).toNat)
    case atStart => exact ⟨0, by omega, rfl, rfl⟩
    case round =>
      obtain ⟨k, hk, rfl, rfl⟩ := hrel
      by_cases hlt : k < 8
      · have hst := fixC_step k n hlt
        have hold := fixC_old k n hlt
        have HST := Kept.mk hst; clear hst
        go_wp2
        exact ⟨⟨k + 1, by omega, by go_num, by rw [HST.out]⟩, by simp [intOf]; omega⟩
      · have hk8 : k = 8 := by omega
        subst hk8
        obtain ⟨a, hsl, hcv⟩ := fix_slice w 8 n (by omega)
        simp only [show ((8 : Int) - ((8 : Nat) : Int)) = 0 from by decide] at hsl
        go_wp2
        go_ret
        exact ⟨rfl, (Below.refl _ _).alloc (Nat.le_refl _) _⟩
  · obtain ⟨m, rfl⟩ := Int.eq_ofNat_of_zero_le (show 0 ≤ b by omega)
    have h : fixLen (m : Int) = m := by unfold fixLen; rw [if_neg hb, if_neg hc]; omega
    rw [h]
    clear h hb
    have hc : (m : Int) ≤ 8 := by omega
    go_enter Try.func22, Try.ntmps22
    go_wp2_with fail
    rw [← fixC_zero n]
    go_loopw [6, 10] (fun _ i wr => ∃ k : Nat, k ≤ 8 ∧ i = .int .i64 k ∧ wr = w.alloc (.cells (fixC k n) 49)) (fun _ i _ => 8 - (intOf i).toNat)
    case atStart => exact ⟨0, by omega, rfl, rfl⟩
    case round =>
      obtain ⟨k, hk, rfl, rfl⟩ := hrel
      by_cases hlt : k < 8
      · have hst := fixC_step k n hlt
        have hold := fixC_old k n hlt
        have HST := Kept.mk hst; clear hst
        go_wp2
        exact ⟨⟨k + 1, by omega, by go_num, by rw [HST.out]⟩, by simp [intOf]; omega⟩
      · have hk8 : k = 8 := by omega
        subst hk8
        obtain ⟨a, hsl, hcv⟩ := fix_slice w m n (by omega)
        go_wp2
        go_ret
        exact ⟨rfl, (Below.refl _ _).alloc (Nat.le_refl _) _⟩
end Go.Proofs.Ytabeehljpdehcaa
