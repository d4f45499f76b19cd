/- ChaCha's state from a key, a nonce and a counter, by a contract. -/
import Derived.Test.YtabeehljpdehcaaDoorChF
namespace Go.Proofs.YtabeehljpdehcaaDoor
set_option linter.unusedVariables false
set_option linter.unusedSimpArgs false
open Go.RowKit Go.Lib
def gb (l : List UInt8) (i : Nat) : Nat := (l.getD i 0).toNat
/-- four bytes, the lowest first -/
def le4 (l : List UInt8) (o : Nat) : Nat := gb l o + gb l (o + 1) * 256 + gb l (o + 2) * 65536 + gb l (o + 3) * 16777216
theorem gb_lt (l : List UInt8) (i : Nat) : gb l i < 256 := (l.getD i 0).toNat_lt
theorem le4_lt (l : List UInt8) (o : Nat) : le4 l o < 4294967296 := by
  have h0 := gb_lt l o
  have h1 := gb_lt l (o + 1)
  have h2 := gb_lt l (o + 2)
  have h3 := gb_lt l (o + 3)
  unfold le4; omega
theorem gb_drop (l : List UInt8) (o i : Nat) : gb (l.drop o) i = gb l (o + i) := by
  unfold gb; rw [List.getD_eq_getElem?_getD, List.getD_eq_getElem?_getD, List.getElem?_drop]
theorem le4_drop (l : List UInt8) (o : Nat) : le4 (l.drop o) 0 = le4 l o := by
  unfold le4; simp only [gb_drop, Nat.add_zero, Nat.zero_add]
theorem or4_nat (a b c d : Nat) (ha : a < 256) (hb : b < 256) (hc : c < 256) (hd : d < 256) : ((a ||| b * 256) ||| c * 65536) ||| d * 16777216 = a + b * 256 + c * 65536 + d * 16777216 := by
  have e1 : a ||| b * 256 = a + b * 256 := by
    have := Nat.two_pow_add_eq_or_of_lt (show a < 2 ^ 8 by omega) b
    rw [show b * 256 = 2 ^ 8 * b by omega, Nat.or_comm, ← this]; omega
  have e2 : (a + b * 256) ||| c * 65536 = a + b * 256 + c * 65536 := by
    have := Nat.two_pow_add_eq_or_of_lt (show a + b * 256 < 2 ^ 16 by omega) c
    rw [show c * 65536 = 2 ^ 16 * c by omega, Nat.or_comm, ← this]; omega
  have e3 : (a + b * 256 + c * 65536) ||| d * 16777216 = a + b * 256 + c * 65536 + d * 16777216 := by
    have := Nat.two_pow_add_eq_or_of_lt (show a + b * 256 + c * 65536 < 2 ^ 24 by omega) d
    rw [show d * 16777216 = 2 ^ 24 * d by omega, Nat.or_comm, ← this]; omega
  rw [e1, e2, e3]
theorem or4_u32 (a b c d : Nat) (ha : a < 256) (hb : b < 256) (hc : c < 256) (hd : d < 256) :
    bits .or .u32 (bits .or .u32 (bits .or .u32 (a : Int) ((b : Int) * 256)) ((c : Int) * 65536)) ((d : Int) * 16777216) = ((a + b * 256 + c * 65536 + d * 16777216 : Nat) : Int) := by
  have h1 : a ||| b * 256 < 2 ^ 32 := Nat.or_lt_two_pow (by omega) (by omega)
  have h2 : (a ||| b * 256) ||| c * 65536 < 2 ^ 32 := Nat.or_lt_two_pow h1 (by omega)
  have e1 := or_u32 a (b * 256) (by omega) (by omega)
  have e2 := or_u32 (a ||| b * 256) (c * 65536) h1 (by omega)
  have e3 := or_u32 ((a ||| b * 256) ||| c * 65536) (d * 16777216) h2 (by omega)
  rw [or4_nat a b c d ha hb hc hd] at e3
  rw [← e3, ← e2, ← e1]
  rfl
theorem str_get (l : List UInt8) (i : Nat) (h : i < l.length) (h2 : i < (str l).size) : (str l)[i] = l[i] := rfl
theorem gb_at (l : List UInt8) (i : Nat) (h : i < l.length) : gb l i = l[i].toNat := by
  unfold gb; rw [List.getD_eq_getElem?_getD, List.getElem?_eq_getElem h]; rfl
section
attribute [local irreducible] str
set_option maxRecDepth 100000 in
set_option maxHeartbeats 1000000 in
theorem word_any (l : List UInt8) (w : World) (h : 4 ≤ l.length) (hl : l.length ≤ 1000) :
    Calls Tryd.prog 73 #[.string (str l)] w fun e w' => e = .returned (.int .u32 ((le4 l 0 : Nat) : Int)) ∧ ∃ n, w' = w.drewN n := by
  have hs := str_size l
  have h4 : (4 : Int) ≤ (l.length : Int) := by omega
  have l0 : 0 < l.length := by omega
  have l1 : 1 < l.length := by omega
  have l2 : 2 < l.length := by omega
  have l3 : 3 < l.length := by omega
  have g0 := str_get l 0 l0 (by omega)
  have g1 := str_get l 1 l1 (by omega)
  have g2 := str_get l 2 l2 (by omega)
  have g3 := str_get l 3 l3 (by omega)
  have E := Kept.mk (show le4 l 0 = l[0].toNat + l[1].toNat * 256 + l[2].toNat * 65536 + l[3].toNat * 16777216 from by
    unfold le4; simp only [Nat.zero_add]; rw [gb_at l 0 l0, gb_at l 1 l1, gb_at l 2 l2, gb_at l 3 l3])
  generalize l[0] = a at *
  generalize l[1] = b at *
  generalize l[2] = c at *
  generalize l[3] = d at *
  have O := Kept.mk (or4_u32 a.toNat b.toNat c.toNat d.toNat a.toNat_lt b.toNat_lt c.toNat_lt d.toNat_lt)
  obtain ⟨a0, a1⟩ := byte_range a
  obtain ⟨b0, b1⟩ := byte_range b
  obtain ⟨c0, c1⟩ := byte_range c
  obtain ⟨d0, d1⟩ := byte_range d
  go_enter Tryd.func73, Tryd.ntmps73
  go_wp2_with fail
  go_quiet (fail)
  go_wp2_with fail
  go_ret
  refine ⟨?_, _, rfl⟩
  rw [E.out, ← O.out]
  rfl
set_option maxRecDepth 100000 in
theorem valid_any (key nonce : List UInt8) (c : Int) (w : World) (hk : key.length ≤ 140737488355328) (hn : nonce.length ≤ 140737488355328) :
    Calls Tryd.prog 63 #[.string (str key), .string (str nonce), .int .i64 c] w fun e w' => e = .returned (.bool (decide (key.length = 32) && decide (nonce.length = 12) && decide (0 ≤ c) && decide (c ≤ 4294967295))) ∧ w = w' := by
  have s1 := str_size key
  have s2 := str_size nonce
  have h1 : (key.length : Int) ≤ 140737488355328 := by omega
  have h2 : (nonce.length : Int) ≤ 140737488355328 := by omega
  by_cases k : key.length = 32
  · by_cases n : nonce.length = 12
    · by_cases c0 : 0 ≤ c
      · by_cases c1 : c ≤ 4294967295
        · rw [decide_eq_true k, decide_eq_true n, decide_eq_true c0, decide_eq_true c1]
          rw [k] at s1
          rw [n] at s2
          clear h1 h2 k n
          go_enter Tryd.func63, Tryd.ntmps63
          go_wp2_with fail
          go_ret
          exact ⟨rfl, rfl⟩
        · rw [decide_eq_true k, decide_eq_true n, decide_eq_true c0, decide_eq_false c1]
          rw [k] at s1
          rw [n] at s2
          clear h1 h2 k n
          go_enter Tryd.func63, Tryd.ntmps63
          go_wp2_with fail
          go_ret
          exact ⟨rfl, rfl⟩
      · rw [decide_eq_true k, decide_eq_true n, decide_eq_false c0]
        rw [k] at s1
        rw [n] at s2
        clear h1 h2 k n
        go_enter Tryd.func63, Tryd.ntmps63
        go_wp2_with fail
        go_ret
        exact ⟨rfl, rfl⟩
    · rw [decide_eq_true k, decide_eq_false n]
      have n2 : ¬ (nonce.length : Int) = 12 := by omega
      rw [k] at s1
      clear h1 k
      go_enter Tryd.func63, Tryd.ntmps63
      go_wp2_with fail
      go_ret
      exact ⟨rfl, rfl⟩
  · rw [decide_eq_false k]
    have k2 : ¬ (key.length : Int) = 32 := by omega
    go_enter Tryd.func63, Tryd.ntmps63
    go_wp2_with fail
    go_ret
    exact ⟨rfl, rfl⟩
end
/-- the words at the beginning -/
def st0 : List Nat := [1634760805, 857760878, 2036477234, 1797285236] ++ z12
def kst (key : List UInt8) : Nat → List Nat
  | 0 => st0
  | i + 1 => (kst key i).set (4 + i) (le4 key (4 * i))
def nst (xs : List Nat) (nonce : List UInt8) : Nat → List Nat
  | 0 => xs
  | i + 1 => (nst xs nonce i).set (13 + i) (le4 nonce (4 * i))
/-- the state of a counter -/
def stW (key nonce : List UInt8) (c : Nat) : List Nat := (nst (kst key 8) nonce 3).set 12 c
theorem nst_set (xs : List Nat) (nonce : List UInt8) (c i : Nat) : nst (xs.set 12 c) nonce i = (nst xs nonce i).set 12 c := by
  induction i with
  | zero => rfl
  | succ i ih => rw [nst, nst, ih, List.set_comm _ _ (by omega)]
theorem stW_set (key nonce : List UInt8) (c d : Nat) : (stW key nonce c).set 12 d = stW key nonce d := by unfold stW; rw [List.set_set]
theorem nst_length (xs : List Nat) (nonce : List UInt8) (i : Nat) : (nst xs nonce i).length = xs.length := by
  induction i with
  | zero => rfl
  | succ i ih => rw [nst, List.length_set, ih]
theorem kst_length (key : List UInt8) (i : Nat) : (kst key i).length = 16 := by
  induction i with
  | zero => rfl
  | succ i ih => rw [kst, List.length_set, ih]
theorem wat_stW (key nonce : List UInt8) (c : Nat) : wat (stW key nonce c) 12 = c := by
  unfold wat stW
  rw [List.getD_eq_getElem?_getD, List.getElem?_set, if_pos rfl, if_pos (by rw [nst_length, kst_length]; decide)]; rfl
theorem str_from (r : List UInt8) (n : Nat) (h : n ≤ r.length) : (str r).extract n r.length = str (r.drop n) := by
  apply ByteArray.ext
  apply Array.toList_inj.1
  rw [ByteArray.data_extract, Array.toList_extract]
  simp only [str]
  exact List.take_of_length_le (by rw [List.length_drop]; exact Nat.le_refl _)
theorem kst_zero (key : List UInt8) : kst key 0 = st0 := rfl
theorem kst_next (key : List UInt8) (i : Nat) : (kst key i).set (4 + i) (le4 key (4 * i)) = kst key (i + 1) := rfl
theorem nst_zero (xs : List Nat) (nonce : List UInt8) : nst xs nonce 0 = xs := rfl
theorem nst_next (xs : List Nat) (nonce : List UInt8) (i : Nat) : (nst xs nonce i).set (13 + i) (le4 nonce (4 * i)) = nst xs nonce (i + 1) := rfl
theorem stW_eq (key nonce : List UInt8) (c : Nat) : nst ((kst key 8).set 12 c) nonce 3 = stW key nonce c := by rw [nst_set]; rfl
theorem st0_cells : (#[.int .u32 1634760805, .int .u32 857760878, .int .u32 2036477234, .int .u32 1797285236, .int .u32 0, .int .u32 0, .int .u32 0, .int .u32 0, .int .u32 0, .int .u32 0, .int .u32 0, .int .u32 0, .int .u32 0, .int .u32 0, .int .u32 0, .int .u32 0] : Array Value) = wcells st0 := rfl
theorem st0_small : ∀ i, i < 16 → wat st0 i < 4294967296 := by decide
attribute [local irreducible] str wat le4 kst nst stW wcells

set_option maxRecDepth 100000 in
set_option maxHeartbeats 4000000 in
theorem start_any (key nonce : List UInt8) (c : Nat) (w : World) (hk : key.length = 32) (hn : nonce.length = 12) (hc : c < 4294967296) :
    Calls Tryd.prog 64 #[.string (str key), .string (str nonce), .int .i64 (c : Int)] w fun e w' => e = .returned (.agg (wcells (stW key nonce c))) ∧ (stW key nonce c).length = 16 ∧ (∀ i, i < 16 → wat (stW key nonce c) i < 4294967296) ∧ Below w.heap.size w w' := by
  have s1 := str_size key
  have s2 := str_size nonce
  rw [hk] at s1
  rw [hn] at s2
  go_enter Tryd.func64, Tryd.ntmps64
  go_upto_region 2 with fail
  have hz := heap_new w (.cells #[.int .u32 0, .int .u32 0, .int .u32 0, .int .u32 0, .int .u32 0, .int .u32 0, .int .u32 0, .int .u32 0, .int .u32 0, .int .u32 0, .int .u32 0, .int .u32 0, .int .u32 0, .int .u32 0, .int .u32 0, .int .u32 0] 81) w.heap.size rfl
  have hB1 : Below w.heap.size w (w.alloc (.cells #[.int .u32 0, .int .u32 0, .int .u32 0, .int .u32 0, .int .u32 0, .int .u32 0, .int .u32 0, .int .u32 0, .int .u32 0, .int .u32 0, .int .u32 0, .int .u32 0, .int .u32 0, .int .u32 0, .int .u32 0, .int .u32 0] 81)) := (Below.refl _ _).alloc (Nat.le_refl _) _
  have hs1 : (w.alloc (.cells #[.int .u32 0, .int .u32 0, .int .u32 0, .int .u32 0, .int .u32 0, .int .u32 0, .int .u32 0, .int .u32 0, .int .u32 0, .int .u32 0, .int .u32 0, .int .u32 0, .int .u32 0, .int .u32 0, .int .u32 0, .int .u32 0] 81)).heap.size = w.heap.size + 1 := by simp
  generalize w.alloc (.cells #[.int .u32 0, .int .u32 0, .int .u32 0, .int .u32 0, .int .u32 0, .int .u32 0, .int .u32 0, .int .u32 0, .int .u32 0, .int .u32 0, .int .u32 0, .int .u32 0, .int .u32 0, .int .u32 0, .int .u32 0, .int .u32 0] 81) = W1 at *
  have hv : Words 81 (W1.alloc (.cells #[.int .u32 1634760805, .int .u32 857760878, .int .u32 2036477234, .int .u32 1797285236, .int .u32 0, .int .u32 0, .int .u32 0, .int .u32 0, .int .u32 0, .int .u32 0, .int .u32 0, .int .u32 0, .int .u32 0, .int .u32 0, .int .u32 0, .int .u32 0] 81)) (w.heap.size + 1) st0 :=
    ⟨by rw [heap_new W1 _ _ hs1.symm, st0_cells], rfl, st0_small⟩
  have hr := block_old hz (.cells #[.int .u32 1634760805, .int .u32 857760878, .int .u32 2036477234, .int .u32 1797285236, .int .u32 0, .int .u32 0, .int .u32 0, .int .u32 0, .int .u32 0, .int .u32 0, .int .u32 0, .int .u32 0, .int .u32 0, .int .u32 0, .int .u32 0, .int .u32 0] 81)
  have hb3 : Below w.heap.size w (W1.alloc (.cells #[.int .u32 1634760805, .int .u32 857760878, .int .u32 2036477234, .int .u32 1797285236, .int .u32 0, .int .u32 0, .int .u32 0, .int .u32 0, .int .u32 0, .int .u32 0, .int .u32 0, .int .u32 0, .int .u32 0, .int .u32 0, .int .u32 0, .int .u32 0] 81)) := hB1.alloc (by rw [hs1]; omega) _
  generalize W1.alloc (.cells #[.int .u32 1634760805, .int .u32 857760878, .int .u32 2036477234, .int .u32 1797285236, .int .u32 0, .int .u32 0, .int .u32 0, .int .u32 0, .int .u32 0, .int .u32 0, .int .u32 0, .int .u32 0, .int .u32 0, .int .u32 0, .int .u32 0, .int .u32 0] 81) = W3 at *
  have HV0 := Kept.mk hv
  have HR3 := Kept.mk hr
  have HB3 := Kept.mk hb3
  have HKN := Kept.mk (kst_next key)
  have HKE := Kept.mk (fun xs i => nst_next xs nonce i)
  have HSE := Kept.mk (stW_eq key nonce c)
  clear hv hr hb3 hz hB1 hs1
  go_wp2_with fail
  go_loopw [11] (fun i wr => ∃ k : Nat, k ≤ 8 ∧ i = .int .i64 k ∧ Words 81 wr (w.heap.size + 1) (kst key k) ∧ Only (w.heap.size + 1) W3 wr) (fun i _ => 8 - (RowKit.intOf i).toNat)
  case atStart => exact ⟨0, by omega, rfl, by rw [kst_zero]; exact HV0.out, Only.refl _ _⟩
  case round =>
    obtain ⟨k, hkk, rfl, hv, ho⟩ := hrel
    have HV := Kept.mk hv
    have HO := Kept.mk ho
    clear hv ho
    by_cases hlt : k < 8
    · have hki : (k : Int) < 8 := by omega
      have k1 : (4 * (k : Int)).toNat = 4 * k := by omega
      have k2 : (4 + (k : Int)).toNat = 4 + k := by omega
      have hx := str_from key (4 * k) (by omega)
      rw [hk] at hx
      have hl := le4_lt key (4 * k)
      have HLD := Kept.mk (le4_drop key (4 * k))
      have hdl : (key.drop (4 * k)).length = 32 - 4 * k := by rw [List.length_drop, hk]
      have h4k : 4 * (k : Int) ≤ 32 := by omega
      generalize key.drop (4 * k) = kd at *
      go_wp2_with fail
      with_reducible refine (word_any kd wr (by omega) (by omega)).mono ?_
      rintro e w2 ⟨rfl, n2, rfl⟩
      rw [HLD.out]
      have hw2 := HV.out.drewN n2
      have f1 := hw2.free (4 + k)
      have HF := Kept.mk (show Words 81 _ (w.heap.size + 1) (kst key (k + 1)) from by rw [← HKN.out k]; exact hw2.set (show 4 + k < 16 by omega) hl)
      have c1 := hw2.cell (show 4 + k < 16 by omega)
      have HO2 := Kept.mk (HO.out.drewN n2)
      clear hw2 HV HO hx hdl
      generalize wr.drewN n2 = wx at *
      generalize le4 key (4 * k) = v at *
      go_wp2_with fail
      exact ⟨⟨k + 1, by omega, by go_num, HF.out, HO2.out.setCell _ _⟩, by simp [RowKit.intOf]; omega⟩
    · have hk8 : k = 8 := by omega
      subst hk8
      rw [show (((8 : Nat) : Int)) = 8 from rfl]
      clear HV0
      have HV2 := Kept.mk (HV.out.set (show 12 < 16 by decide) hc)
      have HO2 := Kept.mk (HO.out.setCell 12 (.int .u32 (c : Int)))
      have f12 := HV.out.free 12
      have c12 := HV.out.cell (show 12 < 16 by decide)
      have hci : (c : Int) < 4294967296 := by omega
      clear HV HO
      generalize (kst key 8).set 12 c = X at *
      go_wp2_with fail
      clear f12 c12
      generalize World.setCell _ _ _ = W4 at *
      go_loopw [26] (fun i wr => ∃ k : Nat, k ≤ 3 ∧ i = .int .i64 k ∧ Words 81 wr (w.heap.size + 1) (nst X nonce k) ∧ Only (w.heap.size + 1) W3 wr) (fun i _ => 3 - (RowKit.intOf i).toNat)
      case atStart => exact ⟨0, by omega, rfl, by rw [nst_zero]; exact HV2.out, HO2.out⟩
      case round =>
        clear HV2 HO2
        obtain ⟨k, hkk, rfl, hv, ho⟩ := hrel
        have HV := Kept.mk hv
        have HO := Kept.mk ho
        clear hv ho
        by_cases hlt : k < 3
        · have hki : (k : Int) < 3 := by omega
          have k1 : (4 * (k : Int)).toNat = 4 * k := by omega
          have k2 : (13 + (k : Int)).toNat = 13 + k := by omega
          have hx := str_from nonce (4 * k) (by omega)
          rw [hn] at hx
          have hl := le4_lt nonce (4 * k)
          have HLD := Kept.mk (le4_drop nonce (4 * k))
          have hdl : (nonce.drop (4 * k)).length = 12 - 4 * k := by rw [List.length_drop, hn]
          have h4k : 4 * (k : Int) ≤ 12 := by omega
          generalize nonce.drop (4 * k) = kd at *
          go_wp2_with fail
          with_reducible refine (word_any kd wr (by omega) (by omega)).mono ?_
          rintro e w2 ⟨rfl, n2, rfl⟩
          rw [HLD.out]
          have hw2 := HV.out.drewN n2
          have f1 := hw2.free (13 + k)
          have HF := Kept.mk (show Words 81 _ (w.heap.size + 1) (nst X nonce (k + 1)) from by rw [← HKE.out X k]; exact hw2.set (show 13 + k < 16 by omega) hl)
          have c1 := hw2.cell (show 13 + k < 16 by omega)
          have HO2 := Kept.mk (HO.out.drewN n2)
          clear hw2 HV HO hx hdl
          generalize wr.drewN n2 = wx at *
          generalize le4 nonce (4 * k) = v at *
          go_wp2_with fail
          exact ⟨⟨k + 1, by omega, by go_num, HF.out, HO2.out.setCell _ _⟩, by simp [RowKit.intOf]; omega⟩
        · have hk3 : k = 3 := by omega
          subst hk3
          have hvv := HV.out
          rw [HSE.out] at hvv
          have HX := Kept.mk hvv
          have HRX := Kept.mk ((HO.out.block w.heap.size (by omega)).trans HR3.out)
          have HBX := Kept.mk (HB3.out.trans (HO.out.below (by omega)))
          have hlb := hvv.len
          have HSM := Kept.mk hvv.small
          have HOB := Kept.mk (show (#[.int .u32 0, .int .u32 0, .int .u32 0, .int .u32 0, .int .u32 0, .int .u32 0, .int .u32 0, .int .u32 0, .int .u32 0, .int .u32 0, .int .u32 0, .int .u32 0, .int .u32 0, .int .u32 0, .int .u32 0, .int .u32 0] : Array Value).size = (wcells (stW key nonce c)).size from by rw [wcells_size, hlb]; rfl)
          have HIB := Kept.mk (show (Tryd.prog.info? 81).map (·.size) = some (wcells (stW key nonce c)).size from by rw [wcells_size, hlb]; kernel_rfl)
          have H1B := Kept.mk (wcells_one (stW key nonce c))
          have HLB := Kept.mk hlb
          clear hvv hlb HV HO
          go_wp2_with (first | (with_reducible refine wpList_load_row rfl 81 (.tmp 7) rfl (w.heap.size + 1) rfl _ _ _ _ HX.out.heap Tryd.underlying81 rfl HIB.out ?_) | (with_reducible refine wpList_store_row rfl 81 (.tmp 6) (.tmp 38) rfl w.heap.size (wcells (stW key nonce c)) rfl rfl _ _ HRX.out HIB.out HOB.out H1B.out ?_))
          refine bodyPost_ret (results_cell_row rfl _ _ w.heap.size _ (wcells (stW key nonce c)) (0, 0) _ rfl (setRow_heap _ _ _ _ _ _ HRX.out) Tryd.underlying81 rfl HIB.out) rfl ⟨rfl, HLB.out, HSM.out, ?_⟩
          exact below_setRow HBX.out (Nat.le_refl _) _
end Go.Proofs.YtabeehljpdehcaaDoor
