/- The document's XOR's errors; ChachaTurns's walk. -/
import Derived.Test.YtppilkcekakamaaVU
namespace Go.Proofs.Ytppilkcekakamaa
set_option linter.unusedVariables false
set_option linter.unusedSimpArgs false
open Go.RowKit Go.Lib
attribute [local irreducible] str turn stW blk nblk xoJ wcells wat kbs xorAt kb
set_option maxRecDepth 100000 in
theorem refXor_range (key nonce s : List UInt8) (c N : Nat) (w : World) (hk : key.length = 32) (hn : nonce.length = 12) (hs : s.length ≤ 5000) (hc : c < 4294967296) (hN : (s.length + 63) / 64 = N) (hr : ¬ N ≤ 4294967296 - c) :
    Calls Try.prog 19 #[.string (str key), .string (str nonce), .int .i64 (c : Int), .string (str s)] w fun e w' => e = .returned (.tuple #[.string (ByteArray.mk #[]), .int .i64 10]) ∧ w' = w := by
  have hss := str_size s
  have hNi : ((s.length : Int) + 63) / 64 = (N : Int) := by omega
  have hd1 : (4294967295 - (c : Int) < (N : Int) - 1) := by omega
  have hN100 : (N : Int) ≤ 100 := by omega
  have HV := Kept.mk (right_any key nonce (c : Int))
  have HD := Kept.mk (show (decide (key.length = 32) && decide (nonce.length = 12) && decide (0 ≤ (c : Int)) && decide ((c : Int) ≤ 4294967295)) = true from by
    rw [decide_eq_true hk, decide_eq_true hn, decide_eq_true (show 0 ≤ (c : Int) by omega), decide_eq_true (show (c : Int) ≤ 4294967295 by omega)]; rfl)
  have hk2 : key.length ≤ 140737488355328 := by omega
  have hn2 : nonce.length ≤ 140737488355328 := by omega
  clear hk hn hr
  go_enter Try.func19, Try.ntmps19
  go_wp2_with (with_reducible refine (HV.out _ hk2 hn2).mono ?_; rintro e w1 ⟨rfl, rfl⟩; rw [HD.out])
  go_returns
  exact ⟨rfl, rfl⟩
set_option maxRecDepth 100000 in
theorem refXor_arg (key nonce s : List UInt8) (c : Int) (w : World) (hk : key.length ≤ 140737488355328) (hn : nonce.length ≤ 140737488355328) (h : ¬ (key.length = 32 ∧ nonce.length = 12 ∧ 0 ≤ c ∧ c ≤ 4294967295)) :
    Calls Try.prog 19 #[.string (str key), .string (str nonce), .int .i64 c, .string (str s)] w fun e w' => e = .returned (.tuple #[.string (ByteArray.mk #[]), .int .i64 1]) ∧ w' = w := by
  have HV := Kept.mk (right_any key nonce c)
  have HD := Kept.mk (show (decide (key.length = 32) && decide (nonce.length = 12) && decide (0 ≤ c) && decide (c ≤ 4294967295)) = false from by
    rw [Bool.eq_false_iff]; intro e; simp only [Bool.and_eq_true, decide_eq_true_eq] at e; exact h ⟨e.1.1.1, e.1.1.2, e.1.2, e.2⟩)
  clear h
  go_enter Try.func19, Try.ntmps19
  go_wp2_with (with_reducible refine (HV.out _ hk hn).mono ?_; rintro e w1 ⟨rfl, rfl⟩; rw [HD.out])
  go_returns
  exact ⟨rfl, rfl⟩
set_option maxRecDepth 100000 in
theorem xor_arg2 (key nonce s : List UInt8) (c : Int) (w : World) (hk : key.length ≤ 140737488355328) (hn : nonce.length ≤ 140737488355328) (h : ¬ (key.length = 32 ∧ nonce.length = 12 ∧ 0 ≤ c ∧ c ≤ 4294967295)) :
    Calls Try.prog 18 #[.string (str key), .string (str nonce), .int .i64 c, .string (str s)] w fun e w' => e = .returned (.tuple #[.string (ByteArray.mk #[]), .int .i64 1]) ∧ w' = w := by
  have HV := Kept.mk (valid_any key nonce c)
  have HD := Kept.mk (show (decide (key.length = 32) && decide (nonce.length = 12) && decide (0 ≤ c) && decide (c ≤ 4294967295)) = false from by
    rw [Bool.eq_false_iff]; intro e; simp only [Bool.and_eq_true, decide_eq_true_eq] at e; exact h ⟨e.1.1.1, e.1.1.2, e.1.2, e.2⟩)
  clear h
  go_enter Try.func18, Try.ntmps18
  go_wp2_with (with_reducible refine (HV.out _ hk hn).mono ?_; rintro e w1 ⟨rfl, rfl⟩; rw [HD.out])
  go_returns
  exact ⟨rfl, rfl⟩
set_option maxRecDepth 100000 in
set_option maxHeartbeats 1000000 in
theorem chachaTurns_w (key nonce s : List UInt8) (c : Int) (hk : key.length ≤ 140737488351232) (hn : nonce.length ≤ 140737488351232) (hs : s.length ≤ 140737488351232) (h2 : (Lit.int .i64 c).wf = true) (w : World) :
    Calls Try.prog 4 #[.string (str key), .string (str nonce), .int .i64 c, .string (str s)] w fun e w' => e = .returned (.bool true) ∧ Below w.heap.size w w' := by
  have hss := str_size s
  go_enter Try.func4, Try.ntmps4
  go_upto_if 15 with fail
  go_cut [3] from 13 to 17 (fun s3 wx => s3 = .string (str (s.take 5000)) ∧ w = wx)
  case first =>
    by_cases h : s.length ≤ 5000
    · have hl1 : (s.length : Int) ≤ 5000 := by omega
      have HT := Kept.mk (show s.take 5000 = s from List.take_of_length_le h)
      go_wp2_with fail
      go_meet
      exact ⟨by rw [HT.out], rfl⟩
    · have hl1 : (5000 : Int) < (s.length : Int) := by omega
      have ht := str_cut s 5000 (by omega)
      generalize s.take 5000 = l at *
      go_wp2_with fail
      go_meet
      exact ⟨rfl, rfl⟩
  case rest =>
    obtain ⟨rfl, rfl⟩ := hcut
    have hS : (s.take 5000).length ≤ 5000 := by rw [List.length_take]; omega
    generalize s.take 5000 = S at *
    have HE : ∃ (X : ByteArray) (e : Int), (∀ w, Calls Try.prog 18 #[.string (str key), .string (str nonce), .int .i64 c, .string (str S)] w fun r w' => r = .returned (.tuple #[.string X, .int .i64 e]) ∧ Below w.heap.size w w') ∧
        (∀ w, Calls Try.prog 19 #[.string (str key), .string (str nonce), .int .i64 c, .string (str S)] w fun r w' => r = .returned (.tuple #[.string X, .int .i64 e]) ∧ Below w.heap.size w w') := by
      by_cases hc : key.length = 32 ∧ nonce.length = 12 ∧ 0 ≤ c ∧ c ≤ 4294967295
      · obtain ⟨h1, h2', h3, h4⟩ := hc
        obtain ⟨d, rfl⟩ : ∃ d : Nat, c = (d : Int) := ⟨c.toNat, by omega⟩
        by_cases hr : (S.length + 63) / 64 ≤ 4294967296 - d
        · exact ⟨_, _, fun w => xor_any key nonce S d w h1 h2' (by omega) (by omega) hr, fun w => refXor_any key nonce S d _ w h1 h2' hS (by omega) rfl hr⟩
        · exact ⟨_, _, fun w => (xor_range key nonce S d w h1 h2' (by omega) (by omega) hr).mono fun _ _ h => ⟨h.1, by rw [h.2]; exact Below.refl _ _⟩, fun w => (refXor_range key nonce S d _ w h1 h2' hS (by omega) rfl hr).mono fun _ _ h => ⟨h.1, by rw [h.2]; exact Below.refl _ _⟩⟩
      · exact ⟨_, _, fun w => (xor_arg2 key nonce S c w (by omega) (by omega) hc).mono fun _ _ h => ⟨h.1, by rw [h.2]; exact Below.refl _ _⟩, fun w => (refXor_arg key nonce S c w (by omega) (by omega) hc).mono fun _ _ h => ⟨h.1, by rw [h.2]; exact Below.refl _ _⟩⟩
    obtain ⟨X, e, hA, hR⟩ := HE
    have HA := Kept.mk hA
    have HR := Kept.mk hR
    clear hA hR hss hs
    go_wp2_with fail
    with_reducible refine (HA.out _).mono ?_
    rintro e1 w3 ⟨rfl, hb3⟩
    go_wp2_with fail
    with_reducible refine (HR.out _).mono ?_
    rintro e2 w4 ⟨rfl, hb4⟩
    go_wp2_with fail
    with_reducible refine (awake_any _).mono ?_
    rintro e3 w5 ⟨rfl, hb5⟩
    go_wp2_with fail
    go_ret
    exact ⟨rfl, below_then (below_then hb3 hb4) hb5⟩
theorem chachaTurns_s (a0 : ByteArray) (_m0 : a0.size ≤ maxLen) (z0 : a0.size ≤ 140737488351232) (a1 : ByteArray) (_m1 : a1.size ≤ maxLen) (z1 : a1.size ≤ 140737488351232) (c : Int) (h2 : (Lit.int .i64 c).wf = true) (a3 : ByteArray) (_m3 : a3.size ≤ maxLen) (z3 : a3.size ≤ 140737488351232) {w : World} :
    Calls Try.prog 4 #[.string a0, .string a1, .int .i64 c, .string a3] w fun e w' => e = .returned (.bool true) ∧ Below w.heap.size w w' := by
  have h := chachaTurns_w a0.data.toList a1.data.toList a3.data.toList c (by rw [Array.length_toList]; exact z0) (by rw [Array.length_toList]; exact z1) (by rw [Array.length_toList]; exact z3) h2 w
  rwa [str_eta, str_eta, str_eta] at h
end Go.Proofs.Ytppilkcekakamaa
