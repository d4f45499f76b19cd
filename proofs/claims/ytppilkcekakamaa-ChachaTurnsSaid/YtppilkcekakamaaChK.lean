/- ChaCha: turned twice, and turned from a later block: the laws' walks. -/
import Derived.Test.YtppilkcekakamaaChJ
namespace Go.Proofs.Ytppilkcekakamaa
set_option linter.unusedVariables false
set_option linter.unusedSimpArgs false
open Go.RowKit Go.Lib
theorem below_then {a b c : World} (h : Below a.heap.size a b) (k : Below b.heap.size b c) : Below a.heap.size a c := h.trans (k.mono h.size)
theorem str_cut (r : List UInt8) (n : Nat) (h : n ≤ r.length) : (str r).extract 0 n = str (r.take n) := by
  apply ByteArray.ext; apply Array.toList_inj.1
  rw [ByteArray.data_extract, Array.toList_extract]
  simp [str]
theorem sized32 (l : List UInt8) (w : World) (hl : l.length ≤ 140737488355328) :
    Calls Try.prog 20 #[.string (str l), .int .i64 32] w fun e w' => ∃ t, e = .returned (.string (str t)) ∧ t.length = 32 ∧ Below w.heap.size w w' := sized_any l 32 w hl (by omega)
theorem sized12 (l : List UInt8) (w : World) (hl : l.length ≤ 140737488355328) :
    Calls Try.prog 20 #[.string (str l), .int .i64 12] w fun e w' => ∃ t, e = .returned (.string (str t)) ∧ t.length = 12 ∧ Below w.heap.size w w' := sized_any l 12 w hl (by omega)
attribute [local irreducible] str turn stW blk nblk xoJ wcells wat

set_option maxRecDepth 100000 in
set_option maxHeartbeats 1000000 in
theorem chachaTwice_w (key nonce s : List UInt8) (c : Int) (hk : key.length ≤ 140737488351232) (hn : nonce.length ≤ 140737488351232) (hs : s.length ≤ 140737488351232) (h2 : (Lit.int .i64 c).wf = true) (w : World) :
    Calls Try.prog 5 #[.string (str key), .string (str nonce), .int .i64 c, .string (str s)] w fun e w' => e = .returned (.bool true) ∧ Below w.heap.size w w' := by
  have hss := str_size s
  go_enter Try.func5, Try.ntmps5
  go_upto_region 2 with fail
  with_reducible refine (sized32 key _ (by omega)).mono ?_
  rintro e w1 ⟨k, rfl, hk32, hb1⟩
  go_upto_region 3 with fail
  with_reducible refine (sized12 nonce _ (by omega)).mono ?_
  rintro e w2 ⟨n, rfl, hn12, hb2⟩
  have hb := below_then hb1 hb2
  clear hb1 hb2
  go_upto_if 19 with fail
  go_cut [3] from 17 to 21 (fun s3 wx => s3 = .string (str (s.take 5000)) ∧ w2 = wx)
  case first =>
    by_cases h : s.length ≤ 5000
    · have hl1 : (s.length : Int) ≤ 5000 := by omega
      have HT := Kept.mk (show s.take 5000 = s from List.take_of_length_le h)
      go_wp2_with fail
      go_meet
      exact ⟨by rw [HT.out], rfl⟩
    · have hl1 : (5000 : Int) < (s.length : Int) := by omega
      have ht := str_cut s 5000 (by omega)
      generalize s.take 5000 = l at *
      go_wp2_with fail
      go_meet
      exact ⟨rfl, rfl⟩
  case rest =>
    obtain ⟨rfl, rfl⟩ := hcut
    have hS : (s.take 5000).length ≤ 5000 := by rw [List.length_take]; omega
    generalize s.take 5000 = S at *
    have hSS := str_size S
    have HB := Kept.mk hb
    clear hb hss hs
    by_cases hc : 0 ≤ c ∧ c ≤ 4294967295
    · obtain ⟨d, rfl⟩ : ∃ d : Nat, c = (d : Int) := ⟨c.toNat, by omega⟩
      by_cases hr : (S.length + 63) / 64 ≤ 4294967296 - d
      · have hTL := turn_length k n d S
        have HTT := Kept.mk (turn_twice k n d S)
        have hTS := str_size (turn k n d S)
        rw [hTL] at hTS
        have HX := Kept.mk (xor_any k n S d w2 hk32 hn12 (by omega) (by omega) hr)
        have HY := Kept.mk (fun w => xor_any k n (turn k n d S) d w hk32 hn12 (by omega) (by omega) (by rw [hTL]; exact hr))
        rw [HTT.out] at HY
        go_wp2_with fail
        with_reducible refine HX.out.mono ?_
        rintro e w3 ⟨rfl, hb3⟩
        go_wp2_with fail
        with_reducible refine (HY.out _).mono ?_
        rintro e w4 ⟨rfl, hb4⟩
        go_wp2_with fail
        with_reducible refine (awake_any _).mono ?_
        rintro e w5 ⟨rfl, hb5⟩
        go_wp2_with fail
        go_ret
        exact ⟨rfl, below_then (below_then (below_then HB.out hb3) hb4) hb5⟩
      · have HX := Kept.mk (xor_range k n S d w2 hk32 hn12 (by omega) (by omega) hr)
        go_wp2_with fail
        with_reducible refine HX.out.mono ?_
        rintro e w3 ⟨rfl, rfl⟩
        go_wp2_with fail
        with_reducible refine (awake_any _).mono ?_
        rintro e w5 ⟨rfl, hb5⟩
        go_wp2_with fail
        go_ret
        exact ⟨rfl, below_then HB.out hb5⟩
    · have HX := Kept.mk (xor_arg k n S c w2 hk32 hn12 hc)
      go_wp2_with fail
      with_reducible refine HX.out.mono ?_
      rintro e w3 ⟨rfl, rfl⟩
      go_wp2_with fail
      with_reducible refine (awake_any _).mono ?_
      rintro e w5 ⟨rfl, hb5⟩
      go_wp2_with fail
      go_ret
      exact ⟨rfl, below_then HB.out hb5⟩
theorem and_15 (x : Int) (h : (Lit.int .i64 x).wf = true) : ∃ k : Nat, k ≤ 15 ∧ bits .and .i64 x 15 = (k : Int) := by
  have h := and_mask x 4 (by omega) 15 rfl
  have e : ((2 ^ 4 : Nat) : Int) = 16 := rfl
  rw [e] at h
  exact ⟨(x % 16).toNat, by omega, by rw [h]; omega⟩
set_option maxRecDepth 100000 in
set_option maxHeartbeats 1000000 in
theorem chachaSeeks_w (key nonce s : List UInt8) (c q : Int) (hk : key.length ≤ 140737488351232) (hn : nonce.length ≤ 140737488351232) (hs : s.length ≤ 140737488351232) (h2 : (Lit.int .i64 c).wf = true) (h3 : (Lit.int .i64 q).wf = true) (w : World) :
    Calls Try.prog 6 #[.string (str key), .string (str nonce), .int .i64 c, .int .i64 q, .string (str s)] w fun e w' => e = .returned (.bool true) ∧ Below w.heap.size w w' := by
  have hss := str_size s
  obtain ⟨r, hr15, hqr⟩ := and_15 q h3
  go_enter Try.func6, Try.ntmps6
  go_upto_region 2 with fail
  with_reducible refine (sized32 key _ (by omega)).mono ?_
  rintro e w1 ⟨k, rfl, hk32, hb1⟩
  go_upto_region 3 with fail
  with_reducible refine (sized12 nonce _ (by omega)).mono ?_
  rintro e w2 ⟨n, rfl, hn12, hb2⟩
  have hb := below_then hb1 hb2
  clear hb1 hb2
  go_upto_if 21 with fail
  go_cut [4] from 19 to 23 (fun s3 wx => s3 = .string (str (s.take 5000)) ∧ w2 = wx)
  case first =>
    by_cases h : s.length ≤ 5000
    · have hl1 : (s.length : Int) ≤ 5000 := by omega
      have HT := Kept.mk (show s.take 5000 = s from List.take_of_length_le h)
      go_wp2_with fail
      go_meet
      exact ⟨by rw [HT.out], rfl⟩
    · have hl1 : (5000 : Int) < (s.length : Int) := by omega
      have ht := str_cut s 5000 (by omega)
      generalize s.take 5000 = l at *
      go_wp2_with fail
      go_meet
      exact ⟨rfl, rfl⟩
  case rest =>
    obtain ⟨rfl, rfl⟩ := hcut
    have hS : (s.take 5000).length ≤ 5000 := by rw [List.length_take]; omega
    generalize s.take 5000 = S at *
    have hSS := str_size S
    have HB := Kept.mk hb
    clear hb hss hs
    by_cases hc : 0 ≤ c ∧ c ≤ 4294967295
    · obtain ⟨d, rfl⟩ : ∃ d : Nat, c = (d : Int) := ⟨c.toNat, by omega⟩
      by_cases hr : (S.length + 63) / 64 ≤ 4294967296 - d
      · have HX := Kept.mk (xor_any k n S d w2 hk32 hn12 (by omega) (by omega) hr)
        have hTL := turn_length k n d S
        have hTS := str_size (turn k n d S)
        rw [hTL] at hTS
        by_cases hg : 64 * r < S.length
        · have hgi : ¬ ((S.length : Int) ≤ 64 * (r : Int)) := by omega
          have hgi2 : (64 * (r : Int)).toNat = 64 * r := by omega
          have hx1 := str_from S (64 * r) (by omega)
          have hx2 := str_from (turn k n d S) (64 * r) (by omega)
          rw [turn_drop, hTL] at hx2
          have hDL : (S.drop (64 * r)).length = S.length - 64 * r := by rw [List.length_drop]
          have hdr : (d : Int) + (r : Int) = ((d + r : Nat) : Int) := by omega
          have HY := Kept.mk (fun w => xor_any k n (S.drop (64 * r)) (d + r) w hk32 hn12 (by omega) (by omega) (by omega))
          have HDR := Kept.mk hdr
          generalize S.drop (64 * r) = S2 at *
          generalize turn k n (d + r) S2 = T2 at *
          generalize turn k n d S = T1 at *
          clear hdr
          go_wp2_with fail
          with_reducible refine HX.out.mono ?_
          rintro e w3 ⟨rfl, hb3⟩
          go_wp2_with fail
          rw [HDR.out]
          with_reducible refine (HY.out _).mono ?_
          rintro e w4 ⟨rfl, hb4⟩
          go_wp2_with fail
          with_reducible refine (awake_any _).mono ?_
          rintro e w5 ⟨rfl, hb5⟩
          go_wp2_with fail
          go_ret
          exact ⟨rfl, below_then (below_then (below_then HB.out hb3) hb4) hb5⟩
        · have hgi : (S.length : Int) ≤ 64 * (r : Int) := by omega
          go_wp2_with fail
          with_reducible refine HX.out.mono ?_
          rintro e w3 ⟨rfl, hb3⟩
          go_wp2_with fail
          with_reducible refine (awake_any _).mono ?_
          rintro e w5 ⟨rfl, hb5⟩
          go_wp2_with fail
          go_ret
          exact ⟨rfl, below_then (below_then HB.out hb3) hb5⟩
      · have HX := Kept.mk (xor_range k n S d w2 hk32 hn12 (by omega) (by omega) hr)
        go_wp2_with fail
        with_reducible refine HX.out.mono ?_
        rintro e w3 ⟨rfl, rfl⟩
        go_wp2_with fail
        with_reducible refine (awake_any _).mono ?_
        rintro e w5 ⟨rfl, hb5⟩
        go_wp2_with fail
        go_ret
        exact ⟨rfl, below_then HB.out hb5⟩
    · have HX := Kept.mk (xor_arg k n S c w2 hk32 hn12 hc)
      go_wp2_with fail
      with_reducible refine HX.out.mono ?_
      rintro e w3 ⟨rfl, rfl⟩
      go_wp2_with fail
      with_reducible refine (awake_any _).mono ?_
      rintro e w5 ⟨rfl, hb5⟩
      go_wp2_with fail
      go_ret
      exact ⟨rfl, below_then HB.out hb5⟩
theorem chachaTwice_s (a0 : ByteArray) (_m0 : a0.size ≤ maxLen) (z0 : a0.size ≤ 140737488351232) (a1 : ByteArray) (_m1 : a1.size ≤ maxLen) (z1 : a1.size ≤ 140737488351232) (c : Int) (h2 : (Lit.int .i64 c).wf = true) (a3 : ByteArray) (_m3 : a3.size ≤ maxLen) (z3 : a3.size ≤ 140737488351232) {w : World} :
    Calls Try.prog 5 #[.string a0, .string a1, .int .i64 c, .string a3] w fun e w' => e = .returned (.bool true) ∧ Below w.heap.size w w' := by
  have h := chachaTwice_w a0.data.toList a1.data.toList a3.data.toList c (by rw [Array.length_toList]; exact z0) (by rw [Array.length_toList]; exact z1) (by rw [Array.length_toList]; exact z3) h2 w
  rwa [str_eta, str_eta, str_eta] at h
theorem chachaSeeks_s (a0 : ByteArray) (_m0 : a0.size ≤ maxLen) (z0 : a0.size ≤ 140737488351232) (a1 : ByteArray) (_m1 : a1.size ≤ maxLen) (z1 : a1.size ≤ 140737488351232) (c : Int) (h2 : (Lit.int .i64 c).wf = true) (q : Int) (h3 : (Lit.int .i64 q).wf = true) (a3 : ByteArray) (_m3 : a3.size ≤ maxLen) (z3 : a3.size ≤ 140737488351232) {w : World} :
    Calls Try.prog 6 #[.string a0, .string a1, .int .i64 c, .int .i64 q, .string a3] w fun e w' => e = .returned (.bool true) ∧ Below w.heap.size w w' := by
  have h := chachaSeeks_w a0.data.toList a1.data.toList a3.data.toList c q (by rw [Array.length_toList]; exact z0) (by rw [Array.length_toList]; exact z1) (by rw [Array.length_toList]; exact z3) h2 h3 w
  rwa [str_eta, str_eta, str_eta] at h
end Go.Proofs.Ytppilkcekakamaa
