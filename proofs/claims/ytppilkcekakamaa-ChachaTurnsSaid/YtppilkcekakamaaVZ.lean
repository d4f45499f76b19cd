/- ChaCha's block, the program's and the document's, and the law. -/
import Derived.Test.YtppilkcekakamaaVY
import Derived.Test.YtppilkcekakamaaChK
namespace Go.Proofs.Ytppilkcekakamaa
set_option linter.unusedVariables false
set_option linter.unusedSimpArgs false
open Go.RowKit Go.Lib
def zeros (k : Nat) : Array Value := madeCells #[.int .u8 0] k
theorem zeros_get (k i : Nat) (h : i < k) : (zeros k)[i]? = some (.int .u8 0) := by
  unfold zeros madeCells
  simp [Array.getElem?_map, h, Nat.mod_one]
theorem zeros_size (k : Nat) : (zeros k).size = k := size_madeCells _ _
theorem make_bytes (W : World) (l c : Nat) (hlc : l ≤ c) (hc : c ≤ 1000000000) :
    (Instr.makeSlice 35 (.int .i64 (l : Int)) (.int .i64 (c : Int))).run Try.prog W = .ok (.slice (some ⟨W.heap.size, 0, none⟩) l c) (W.alloc (.cells (zeros c) 5)) := by
  obtain ⟨i0, hi, hz0, hz1, hz2⟩ := info_parts infoByte
  have h := run_make (P := Try.prog) W 35 5 i0 (.int .u8 0) Try.underlying35 hi hz0 .i64 .i64 (l : Int) (c : Int) (by omega) (by omega) (by rw [hz2]; omega) (by omega)
  rw [hz1] at h
  simp only [Int.toNat_natCast, Nat.mul_one] at h
  exact h
section
attribute [local irreducible] str
set_option maxRecDepth 100000 in
theorem right_any (key nonce : List UInt8) (c : Int) (w : World) (hk : key.length ≤ 140737488355328) (hn : nonce.length ≤ 140737488355328) :
    Calls Try.prog 57 #[.string (str key), .string (str nonce), .int .i64 c] w fun e w' => e = .returned (.bool (decide (key.length = 32) && decide (nonce.length = 12) && decide (0 ≤ c) && decide (c ≤ 4294967295))) ∧ w = w' := by
  have s1 := str_size key
  have s2 := str_size nonce
  have h1 : (key.length : Int) ≤ 140737488355328 := by omega
  have h2 : (nonce.length : Int) ≤ 140737488355328 := by omega
  by_cases k : key.length = 32
  · by_cases n : nonce.length = 12
    · by_cases c0 : 0 ≤ c
      · by_cases c1 : c ≤ 4294967295
        · rw [decide_eq_true k, decide_eq_true n, decide_eq_true c0, decide_eq_true c1]
          rw [k] at s1
          rw [n] at s2
          clear h1 h2 k n
          go_enter Try.func57, Try.ntmps57
          go_wp2_with fail
          go_ret
          exact ⟨rfl, rfl⟩
        · rw [decide_eq_true k, decide_eq_true n, decide_eq_true c0, decide_eq_false c1]
          rw [k] at s1
          rw [n] at s2
          clear h1 h2 k n
          go_enter Try.func57, Try.ntmps57
          go_wp2_with fail
          go_ret
          exact ⟨rfl, rfl⟩
      · rw [decide_eq_true k, decide_eq_true n, decide_eq_false c0]
        rw [k] at s1
        rw [n] at s2
        clear h1 h2 k n
        go_enter Try.func57, Try.ntmps57
        go_wp2_with fail
        go_ret
        exact ⟨rfl, rfl⟩
    · rw [decide_eq_true k, decide_eq_false n]
      have n2 : ¬ (nonce.length : Int) = 12 := by omega
      rw [k] at s1
      clear h1 k
      go_enter Try.func57, Try.ntmps57
      go_wp2_with fail
      go_ret
      exact ⟨rfl, rfl⟩
  · rw [decide_eq_false k]
    have k2 : ¬ (key.length : Int) = 32 := by omega
    go_enter Try.func57, Try.ntmps57
    go_wp2_with fail
    go_ret
    exact ⟨rfl, rfl⟩
end
theorem kbs_xor (B : List Nat) : xorAt (List.replicate 64 0) 0 B 64 = kbs B 64 := by
  apply List.ext_getElem?
  intro i
  rw [xorAt_get]
  by_cases h : i < 64
  · rw [if_pos (by omega), List.getElem?_replicate, if_pos h]
    simp only [kbs, List.getElem?_map, List.getElem?_range h, Option.map_some]
    rw [UInt8.zero_xor]; rfl
  · rw [if_neg (by omega), List.getElem?_replicate, if_neg h, List.getElem?_eq_none (by rw [kbs_length]; omega)]
theorem zero_bytes : (zeros 64).toList.take 64 = Lib.byteCells (List.replicate 64 0) := by
  apply List.ext_getElem?
  intro i
  rw [List.getElem?_take]
  by_cases h : i < 64
  · rw [if_pos h, Array.getElem?_toList, zeros_get 64 i h]
    unfold Lib.byteCells
    rw [List.getElem?_map, List.getElem?_replicate, if_pos h]; rfl
  · rw [if_neg h, List.getElem?_eq_none (by rw [Lib.byteCells_length, List.length_replicate]; omega)]
theorem bg_zero (w : World) : BG w (w.alloc (.cells (zeros 64) 5)) (.slice (some ⟨w.heap.size, 0, none⟩) 64 64) (List.replicate 64 0) :=
  ⟨(Below.refl _ _).alloc (Nat.le_refl _) _, w.heap.size, 64, _, _, 0, 0, by rw [List.length_replicate], Nat.le_refl _, heap_new _ _ _ rfl, by rw [List.length_replicate]; exact Nat.le_refl _, by rw [zeros_size]; exact Nat.le_refl _, .inr rfl, by rw [List.length_replicate]; exact zero_bytes⟩
attribute [local irreducible] str turn stW blk nblk xoJ wcells wat kbs xorAt kb

set_option maxRecDepth 100000 in
set_option maxHeartbeats 1000000 in
theorem refBlockT_any (key nonce : List UInt8) (c : Int) (w : World) (hk : key.length ≤ 140737488355328) (hn : nonce.length ≤ 140737488355328) :
    Calls Try.prog 16 #[.string (str key), .string (str nonce), .int .i64 c] w fun e w' => Below w.heap.size w w' ∧
      ((key.length = 32 ∧ nonce.length = 12 ∧ 0 ≤ c ∧ c ≤ 4294967295) → e = .returned (.tuple #[.string (str (kbs (blk (stW key nonce c.toNat)) 64)), .int .i64 0])) ∧
      (¬ (key.length = 32 ∧ nonce.length = 12 ∧ 0 ≤ c ∧ c ≤ 4294967295) → e = .returned (.tuple #[.string (ByteArray.mk #[]), .int .i64 1])) := by
  have HV := Kept.mk (right_any key nonce c)
  by_cases h : key.length = 32 ∧ nonce.length = 12 ∧ 0 ≤ c ∧ c ≤ 4294967295
  · obtain ⟨h1, h2, h3, h4⟩ := h
    have HD := Kept.mk (show (decide (key.length = 32) && decide (nonce.length = 12) && decide (0 ≤ c) && decide (c ≤ 4294967295)) = true from by
      rw [decide_eq_true h1, decide_eq_true h2, decide_eq_true h3, decide_eq_true h4]; rfl)
    obtain ⟨d, rfl⟩ : ∃ d : Nat, c = (d : Int) := ⟨c.toNat, by omega⟩
    have HB := Kept.mk (refBlock_any key nonce d w h1 h2 (by omega))
    have HT := Kept.mk (show (key.length = 32 ∧ nonce.length = 12 ∧ 0 ≤ (d : Int) ∧ (d : Int) ≤ 4294967295) from ⟨h1, h2, h3, h4⟩)
    rw [show (d : Int).toNat = d from rfl]
    clear h1 h2
    go_enter Try.func16, Try.ntmps16
    go_upto_region 3 with (with_reducible refine (HV.out _ hk hn).mono ?_; rintro e w1 ⟨rfl, rfl⟩; rw [HD.out])
    go_wp2_with fail
    with_reducible refine HB.out.mono ?_
    rintro e w2 ⟨v, rfl, hv⟩
    have HVS := Kept.mk hv.string
    have HBB := Kept.mk hv.1
    clear hv HB
    go_wp2_with (rw [HVS.out])
    go_returns
    exact ⟨HBB.out, fun _ => rfl, fun h => absurd HT.out h⟩
  · have HD := Kept.mk (show (decide (key.length = 32) && decide (nonce.length = 12) && decide (0 ≤ c) && decide (c ≤ 4294967295)) = false from by
      rw [Bool.eq_false_iff]; intro e; simp only [Bool.and_eq_true, decide_eq_true_eq] at e; exact h ⟨e.1.1.1, e.1.1.2, e.1.2, e.2⟩)
    have HT := Kept.mk h
    clear h
    go_enter Try.func16, Try.ntmps16
    go_wp2_with (with_reducible refine (HV.out _ hk hn).mono ?_; rintro e w1 ⟨rfl, rfl⟩; rw [HD.out])
    go_returns
    exact ⟨Below.refl _ _, fun h => absurd h HT.out, fun _ => rfl⟩

set_option maxRecDepth 100000 in
set_option maxHeartbeats 2000000 in
theorem blockT_any (key nonce : List UInt8) (c : Int) (w : World) (hk : key.length ≤ 140737488355328) (hn : nonce.length ≤ 140737488355328) :
    Calls Try.prog 15 #[.string (str key), .string (str nonce), .int .i64 c] w fun e w' => Below w.heap.size w w' ∧
      ((key.length = 32 ∧ nonce.length = 12 ∧ 0 ≤ c ∧ c ≤ 4294967295) → e = .returned (.tuple #[.string (str (kbs (blk (stW key nonce c.toNat)) 64)), .int .i64 0])) ∧
      (¬ (key.length = 32 ∧ nonce.length = 12 ∧ 0 ≤ c ∧ c ≤ 4294967295) → e = .returned (.tuple #[.string (ByteArray.mk #[]), .int .i64 1])) := by
  have HV := Kept.mk (valid_any key nonce c)
  by_cases h : key.length = 32 ∧ nonce.length = 12 ∧ 0 ≤ c ∧ c ≤ 4294967295
  · obtain ⟨h1, h2, h3, h4⟩ := h
    have HD := Kept.mk (show (decide (key.length = 32) && decide (nonce.length = 12) && decide (0 ≤ c) && decide (c ≤ 4294967295)) = true from by
      rw [decide_eq_true h1, decide_eq_true h2, decide_eq_true h3, decide_eq_true h4]; rfl)
    obtain ⟨d, rfl⟩ : ∃ d : Nat, c = (d : Int) := ⟨c.toNat, by omega⟩
    have HK := Kept.mk h1
    have HN := Kept.mk h2
    have HT := Kept.mk (show (key.length = 32 ∧ nonce.length = 12 ∧ 0 ≤ (d : Int) ∧ (d : Int) ≤ 4294967295) from ⟨h1, h2, h3, h4⟩)
    rw [show (d : Int).toNat = d from rfl]
    have hmk := fun W : World => make_bytes W 64 64 (by decide) (by decide)
    have HMK := Kept.mk hmk
    clear h1 h2 hmk
    go_enter Try.func15, Try.ntmps15
    go_upto_region 3 with (with_reducible refine (HV.out _ hk hn).mono ?_; rintro e w1 ⟨rfl, rfl⟩; rw [HD.out])
    go_upto_region 4 with fail
    with_reducible refine (start_any key nonce d _ HK.out HN.out (by omega)).mono ?_
    rintro e w2 ⟨rfl, hl16, hsm, hb2⟩
    have hsz := wcells_size (stW key nonce d)
    rw [hl16] at hsz
    have HI := Kept.mk (show (Try.prog.info? 83).map (·.size) = some (wcells (stW key nonce d)).size from by rw [hsz]; kernel_rfl)
    have HO := Kept.mk (show (#[.int .u32 0, .int .u32 0, .int .u32 0, .int .u32 0, .int .u32 0, .int .u32 0, .int .u32 0, .int .u32 0, .int .u32 0, .int .u32 0, .int .u32 0, .int .u32 0, .int .u32 0, .int .u32 0, .int .u32 0, .int .u32 0] : Array Value).size = (wcells (stW key nonce d)).size from by rw [hsz]; rfl)
    go_upto_region 4 with (with_reducible refine wpList_store_row rfl 83 (.tmp 8) (.tmp 18) rfl w2.heap.size (wcells (stW key nonce d)) rfl rfl _ _ (heap_new w2 (.cells #[.int .u32 0, .int .u32 0, .int .u32 0, .int .u32 0, .int .u32 0, .int .u32 0, .int .u32 0, .int .u32 0, .int .u32 0, .int .u32 0, .int .u32 0, .int .u32 0, .int .u32 0, .int .u32 0, .int .u32 0, .int .u32 0] 83) w2.heap.size rfl) HI.out HO.out (wcells_one _) ?_)
    have hZ := heap_new w2 (.cells #[.int .u32 0, .int .u32 0, .int .u32 0, .int .u32 0, .int .u32 0, .int .u32 0, .int .u32 0, .int .u32 0, .int .u32 0, .int .u32 0, .int .u32 0, .int .u32 0, .int .u32 0, .int .u32 0, .int .u32 0, .int .u32 0] 83) w2.heap.size rfl
    have hv : Words 83 _ w2.heap.size (stW key nonce d) := ⟨setRow_heap _ w2.heap.size _ (wcells (stW key nonce d)) _ _ hZ, hl16, hsm⟩
    have hbx : Below _ w (w2.alloc (.cells #[.int .u32 0, .int .u32 0, .int .u32 0, .int .u32 0, .int .u32 0, .int .u32 0, .int .u32 0, .int .u32 0, .int .u32 0, .int .u32 0, .int .u32 0, .int .u32 0, .int .u32 0, .int .u32 0, .int .u32 0, .int .u32 0] 83)) := hb2.alloc hb2.size _
    have hbx := below_setRow hbx hb2.size (wcells (stW key nonce d))
    generalize World.setRow _ _ _ = W3 at *
    obtain ⟨gs, hgse⟩ : ∃ gs, w2.heap.size = gs := ⟨_, rfl⟩
    rw [hgse] at hv
    have hgl := block_lt hv.heap
    have HB := Kept.mk ((bg_zero W3).base hbx)
    have HV4 := Kept.mk (hv.kept (bg_zero W3).1)
    have HMW := Kept.mk (HMK.out W3)
    clear hv hbx hb2 hl16 hsm hZ HI HO hsz HMK
    generalize W3.alloc _ = W4 at *
    obtain ⟨g, hge⟩ : ∃ g, W3.heap.size = g := ⟨_, rfl⟩
    rw [hge] at HB HMW
    simp only [hgse]
    go_upto_region 5 with (rw [show (64 : Int) = ((64 : Nat) : Int) from rfl, HMW.out])
    go_upto_region 6 with fail
    with_reducible refine (block_any 83 gs (stW key nonce d) _ HV4.out).mono ?_
    rintro e w5 ⟨rfl, hb5⟩
    have HB5 := Kept.mk (HB.out.kept hb5)
    have HCC := Kept.mk (fun c2 => combine_any w w5 g 64 64 0 64 c2 (List.replicate 64 0) (blk (stW key nonce d)) HB5.out (by rw [List.length_replicate]; exact Nat.le_refl _) (by decide) (by rw [List.length_replicate]; decide) (blk_length _) (blk_small _))
    rw [kbs_xor] at HCC
    go_upto_region 6 with fail
    with_reducible refine (HCC.out _).mono ?_
    rintro e w6 ⟨rfl, hb6, _⟩
    have HS := Kept.mk hb6.string
    have HBB := Kept.mk hb6.1
    clear hb6
    go_wp2_with (rw [HS.out])
    go_returns
    exact ⟨HBB.out, fun _ => rfl, fun h => absurd HT.out h⟩
  · have HD := Kept.mk (show (decide (key.length = 32) && decide (nonce.length = 12) && decide (0 ≤ c) && decide (c ≤ 4294967295)) = false from by
      rw [Bool.eq_false_iff]; intro e; simp only [Bool.and_eq_true, decide_eq_true_eq] at e; exact h ⟨e.1.1.1, e.1.1.2, e.1.2, e.2⟩)
    have HT := Kept.mk h
    clear h
    go_enter Try.func15, Try.ntmps15
    go_wp2_with (with_reducible refine (HV.out _ hk hn).mono ?_; rintro e w1 ⟨rfl, rfl⟩; rw [HD.out])
    go_returns
    exact ⟨Below.refl _ _, fun h => absurd h HT.out, fun _ => rfl⟩

set_option maxRecDepth 100000 in
set_option maxHeartbeats 1000000 in
theorem chachaBlocks_w (key nonce : List UInt8) (c : Int) (hk : key.length ≤ 140737488351232) (hn : nonce.length ≤ 140737488351232) (h2 : (Lit.int .i64 c).wf = true) (w : World) :
    Calls Try.prog 3 #[.string (str key), .string (str nonce), .int .i64 c] w fun e w' => e = .returned (.bool true) ∧ Below w.heap.size w w' := by
  have HA := Kept.mk (fun w => blockT_any key nonce c w (by omega) (by omega))
  have HR := Kept.mk (fun w => refBlockT_any key nonce c w (by omega) (by omega))
  by_cases h : key.length = 32 ∧ nonce.length = 12 ∧ 0 ≤ c ∧ c ≤ 4294967295
  · have HT := Kept.mk h
    clear h
    go_enter Try.func3, Try.ntmps3
    go_wp2_with fail
    with_reducible refine (HA.out _).mono ?_
    rintro e w1 ⟨hb1, he, _⟩
    rw [he HT.out]
    clear he
    go_wp2_with fail
    with_reducible refine (HR.out _).mono ?_
    rintro e w2 ⟨hb2, he, _⟩
    rw [he HT.out]
    clear he
    go_wp2_with fail
    with_reducible refine (awake_any _).mono ?_
    rintro e w3 ⟨rfl, hb3⟩
    go_wp2_with fail
    go_ret
    exact ⟨rfl, below_then (below_then hb1 hb2) hb3⟩
  · have HT := Kept.mk h
    clear h
    go_enter Try.func3, Try.ntmps3
    go_wp2_with fail
    with_reducible refine (HA.out _).mono ?_
    rintro e w1 ⟨hb1, _, he⟩
    rw [he HT.out]
    clear he
    go_wp2_with fail
    with_reducible refine (HR.out _).mono ?_
    rintro e w2 ⟨hb2, _, he⟩
    rw [he HT.out]
    clear he
    go_wp2_with fail
    with_reducible refine (awake_any _).mono ?_
    rintro e w3 ⟨rfl, hb3⟩
    go_wp2_with fail
    go_ret
    exact ⟨rfl, below_then (below_then hb1 hb2) hb3⟩
theorem chachaBlocks_s (a0 : ByteArray) (_m0 : a0.size ≤ maxLen) (z0 : a0.size ≤ 140737488351232) (a1 : ByteArray) (_m1 : a1.size ≤ maxLen) (z1 : a1.size ≤ 140737488351232) (c : Int) (h2 : (Lit.int .i64 c).wf = true) {w : World} :
    Calls Try.prog 3 #[.string a0, .string a1, .int .i64 c] w fun e w' => e = .returned (.bool true) ∧ Below w.heap.size w w' := by
  have h := chachaBlocks_w a0.data.toList a1.data.toList c (by rw [Array.length_toList]; exact z0) (by rw [Array.length_toList]; exact z1) h2 w
  rwa [str_eta, str_eta] at h
end Go.Proofs.Ytppilkcekakamaa
