/- HMAC-SHA-256: Tag, Equal, the chapter's examples, each by a contract. -/
import Derived.Test.YtabeehljpdehcaaDoorMacA
import Derived.Deep.CutBlock
import Derived.StillTailTactics
namespace Go.Proofs.YtabeehljpdehcaaDoor
set_option linter.unusedVariables false
set_option linter.unusedSimpArgs false
open Go.RowKit Go.Lib

theorem arr_zero (W : World) : (zeroValue 65).run Tryd.prog W = .ok (.agg (Lib.byteCells (List.replicate 64 0)).toArray) W := by kernel_rfl
theorem pad_cells (k : List UInt8) (h : k.length ≤ 64) : ((Lib.byteCells (List.replicate 64 0)).toArray.toList.take 0 ++ Lib.byteCells k ++ (Lib.byteCells (List.replicate 64 0)).toArray.toList.drop (0 + k.length)).toArray = (Lib.byteCells (mPad k)).toArray := by
  apply Array.toList_inj.1
  have e : (Lib.byteCells (List.replicate 64 0)).toArray.toList = List.replicate 64 (Value.int .u8 0) := by rfl
  rw [e, List.take_zero, List.nil_append, Nat.zero_add, List.drop_replicate]
  unfold mPad Lib.byteCells
  rw [List.map_append, List.map_replicate]
  rfl
/-- the differences of the first i places -/
def dif (a b : List UInt8) : Nat → Nat
  | 0 => a.length ^^^ b.length
  | i + 1 => dif a b i ||| (bth a i ^^^ bth b i)
theorem dif_lt (a b : List UInt8) (ha : a.length ≤ 1000000) (hb : b.length ≤ 1000000) (i : Nat) : dif a b i < 4294967296 := by
  have e : (4294967296 : Nat) = 2 ^ 32 := rfl
  induction i with
  | zero => unfold dif; rw [e]; exact Nat.xor_lt_two_pow (by omega) (by omega)
  | succ i ih =>
    unfold dif; rw [e] at *
    have h1 := byte_lt a i
    have h2 := byte_lt b i
    exact Nat.or_lt_two_pow ih (Nat.xor_lt_two_pow (by omega) (by omega))
theorem or_zero' (x y : Nat) : (x ||| y) = 0 ↔ x = 0 ∧ y = 0 := by
  constructor
  · intro h
    constructor <;> (apply Nat.eq_of_testBit_eq; intro j; have := congrArg (fun n => n.testBit j) h; simp at this ⊢; simp [this])
  · rintro ⟨rfl, rfl⟩; rfl
theorem xor_zero' (x y : Nat) : (x ^^^ y) = 0 ↔ x = y := by
  constructor
  · intro h
    have : (x ^^^ y) ^^^ y = y := by rw [h]; simp
    rw [Nat.xor_assoc, Nat.xor_self, Nat.xor_zero] at this; exact this
  · rintro rfl; exact Nat.xor_self _
theorem dif_zero (a b : List UInt8) (i : Nat) : dif a b i = 0 ↔ a.length = b.length ∧ ∀ j, j < i → bth a j = bth b j := by
  induction i with
  | zero => unfold dif; rw [xor_zero']; simp
  | succ i ih =>
    unfold dif
    rw [or_zero', ih, xor_zero']
    constructor
    · rintro ⟨⟨h1, h2⟩, h3⟩
      refine ⟨h1, fun j hj => ?_⟩
      rcases Nat.lt_succ_iff_lt_or_eq.1 hj with h | rfl
      · exact h2 j h
      · exact h3
    · rintro ⟨h1, h2⟩
      exact ⟨⟨h1, fun j hj => h2 j (by omega)⟩, h2 i (by omega)⟩
theorem dif_same (a b : List UInt8) : (dif a b (max a.length b.length) = 0) ↔ a = b := by
  rw [dif_zero]
  constructor
  · rintro ⟨h1, h2⟩
    refine List.ext_getElem h1 fun i ha hb => ?_
    have h := h2 i (by omega)
    unfold bth at h
    rw [List.getD_eq_getElem?_getD, List.getD_eq_getElem?_getD, List.getElem?_eq_getElem ha, List.getElem?_eq_getElem hb] at h
    exact UInt8.toNat_inj.1 h
  · rintro rfl; exact ⟨rfl, fun _ _ => rfl⟩
theorem xor_i64_nat (a b : Nat) (ha : a < 4294967296) (hb : b < 4294967296) : bits .xor .i64 (a : Int) (b : Int) = ((a ^^^ b : Nat) : Int) := by
  show IntKind.i64.wrap ((BitVec.ofInt 64 (a : Int) ^^^ BitVec.ofInt 64 (b : Int)).toNat : Int) = _
  have h : a ^^^ b < 2 ^ 32 := Nat.xor_lt_two_pow (by omega) (by omega)
  rw [BitVec.toNat_xor, ofInt_nat, ofInt_nat, Nat.mod_eq_of_lt (show a < 2 ^ 64 by omega), Nat.mod_eq_of_lt (show b < 2 ^ 64 by omega)]
  exact wrap_i64_small _ (by omega) (by omega)
theorem or_i64_nat (a b : Nat) (ha : a < 4294967296) (hb : b < 4294967296) : bits .or .i64 (a : Int) (b : Int) = ((a ||| b : Nat) : Int) := by
  show IntKind.i64.wrap ((BitVec.ofInt 64 (a : Int) ||| BitVec.ofInt 64 (b : Int)).toNat : Int) = _
  have h : a ||| b < 2 ^ 32 := Nat.or_lt_two_pow (by omega) (by omega)
  rw [BitVec.toNat_or, ofInt_nat, ofInt_nat, Nat.mod_eq_of_lt (show a < 2 ^ 64 by omega), Nat.mod_eq_of_lt (show b < 2 ^ 64 by omega)]
  exact wrap_i64_small _ (by omega) (by omega)
theorem dif_next (a b : List UInt8) (i : Nat) : dif a b (i + 1) = dif a b i ||| (bth a i ^^^ bth b i) := rfl
theorem dif_start (a b : List UInt8) : dif a b 0 = a.length ^^^ b.length := rfl
attribute [local irreducible] str dif bth

theorem row_two (w : World) (l m : List UInt8) (T : TypeId) : RowAt (w.alloc (.cells #[.string (str l), .string (str m)] T)) (some ⟨w.heap.size, 0, none⟩) (strs [l, m]) := fun _ =>
  ⟨_, rfl, by simp, fun j u hu => by
    match j, hu with
    | 0, hu =>
      simp only [strs, List.map_cons, List.map_nil, List.getElem?_cons_zero, Option.some.injEq] at hu
      subst hu
      rw [show (⟨w.heap.size, 0, none⟩ : Addr).add 0 = ⟨w.heap.size, 0, none⟩ from rfl]
      exact Joins.cell_of_block (heap_new w _ _ rfl) 0
    | 1, hu =>
      simp only [strs, List.map_cons, List.map_nil, List.getElem?_cons_succ, List.getElem?_cons_zero, Option.some.injEq] at hu
      subst hu
      rw [show (⟨w.heap.size, 0, none⟩ : Addr).add 1 = ⟨w.heap.size, 1, none⟩ from rfl]
      exact Joins.cell_of_block (heap_new w _ _ rfl) 1
    | (j + 2), hu => simp [strs] at hu⟩
theorem flat_two (l m : List UInt8) : [l, m].flatten = l ++ m := by simp
theorem sum_two (l m : List UInt8) (w : World) (hk : KAt w) (T : TypeId) (hl : l.length + m.length ≤ 900000000) :
    Calls Tryd.prog 49 #[.slice (some ⟨w.heap.size, 0, none⟩) 2 2] (w.alloc (.cells #[.string (str l), .string (str m)] T)) fun e w' => e = .returned (.string (str (sSum (l ++ m)))) ∧ Below w.heap.size w w' :=
  (shaSum_any (some ⟨w.heap.size, 0, none⟩) 2 [l, m] (w.alloc (.cells #[.string (str l), .string (str m)] T)) (row_two w l m T) (hk.below ((Below.refl _ _).alloc (Nat.le_refl _) _)) (by rw [flat_two, List.length_append]; exact hl) (by simp)).mono fun e w' h => ⟨by rw [h.1, flat_two], ((Below.refl _ _).alloc (Nat.le_refl _) _).trans (h.2.mono (by simp))⟩
theorem size_min (k : List UInt8) (hk : k.length ≤ 64) : Nat.min (str k).size 64 = k.length := by
  rw [str_size]; exact Nat.min_eq_left hk
theorem mKey_long {k : List UInt8} (h : 64 < k.length) : mKey k = sSum k := if_pos h
theorem mKey_short {k : List UInt8} (h : k.length ≤ 64) : mKey k = k := if_neg (by omega)
theorem zero_new (W : World) (T : TypeId) : (W.alloc (.cells #[.int .u8 0, .int .u8 0, .int .u8 0, .int .u8 0, .int .u8 0, .int .u8 0, .int .u8 0, .int .u8 0, .int .u8 0, .int .u8 0, .int .u8 0, .int .u8 0, .int .u8 0, .int .u8 0, .int .u8 0, .int .u8 0, .int .u8 0, .int .u8 0, .int .u8 0, .int .u8 0, .int .u8 0, .int .u8 0, .int .u8 0, .int .u8 0, .int .u8 0, .int .u8 0, .int .u8 0, .int .u8 0, .int .u8 0, .int .u8 0, .int .u8 0, .int .u8 0, .int .u8 0, .int .u8 0, .int .u8 0, .int .u8 0, .int .u8 0, .int .u8 0, .int .u8 0, .int .u8 0, .int .u8 0, .int .u8 0, .int .u8 0, .int .u8 0, .int .u8 0, .int .u8 0, .int .u8 0, .int .u8 0, .int .u8 0, .int .u8 0, .int .u8 0, .int .u8 0, .int .u8 0, .int .u8 0, .int .u8 0, .int .u8 0, .int .u8 0, .int .u8 0, .int .u8 0, .int .u8 0, .int .u8 0, .int .u8 0, .int .u8 0, .int .u8 0] T)).heap[W.heap.size]? = some (.cells (Lib.byteCells (List.replicate 64 0)).toArray T (0, 0)) := heap_new _ _ _ rfl
theorem copy_key (W : World) (g : Nat) (k : List UInt8) (hk : k.length ≤ 64) (h : W.heap[g]? = some (.cells (Lib.byteCells (List.replicate 64 0)).toArray 65 (0, 0))) :
    (Builtin.copy_ #[33, 9] 3 #[.slice (some ⟨g, 0, none⟩) 64 64, .string (str k)]).run Tryd.prog W = .ok (goInt k.length) (W.setRow g (Lib.byteCells (mPad k)).toArray) := by
  have hcp := run_copy_some_string (P := Tryd.prog) W 33 9 3 5 g 0 64 64 k.length (str k) _ 65 Tryd.underlying33 (by kernel_rfl) h (size_min k hk) (by rw [bytes_size, List.length_replicate]; omega)
  rw [str_data, List.take_of_length_le (Nat.le_refl _), pad_cells k hk] at hcp
  exact hcp
theorem turned54 (k : List UInt8) (hk : k.length = 64) (w : World) :
    Calls Tryd.prog 52 #[.agg (Lib.byteCells k).toArray, .int .u8 54] w fun e w' => e = .returned (.string (str (mXor 54 k))) ∧ Below w.heap.size w w' := turned_any k hk 54 w
theorem turned92 (k : List UInt8) (hk : k.length = 64) (w : World) :
    Calls Tryd.prog 52 #[.agg (Lib.byteCells k).toArray, .int .u8 92] w fun e w' => e = .returned (.string (str (mXor 92 k))) ∧ Below w.heap.size w w' := turned_any k hk 92 w
theorem But.block_kept {g g2 : Nat} {w w' : World} {o : Obj} (hb : But g w w') (h : w.heap[g2]? = some o) (hne : g2 ≠ g) : w'.heap[g2]? = some o := by
  rw [hb.block g2 (block_lt h) hne]; exact h
theorem mTag_eq (k m : List UInt8) : sSum (mXor 92 (mPad (mKey k)) ++ sSum (mXor 54 (mPad (mKey k)) ++ m)) = mTag k m := rfl
attribute [local irreducible] hcells sFold Lib.byteCells eightL gput sMix sW rnds St.add wc64 sPad sOut sSum mXor mPad mKey mTag

set_option maxRecDepth 100000 in
set_option maxHeartbeats 4000000 in
theorem tag_any (key : List UInt8) (A : Option Addr) (c : Nat) (ls : List (List UInt8)) (w : World) (hr : RowAt w A (strs ls)) (hk : KAt w) (hkl : key.length ≤ 800000000) (hl : ls.flatten.length ≤ 800000000) (hn : ls.length ≤ 1000000000) :
    Calls Tryd.prog 32 #[.string (str key), .slice A ls.length c] w fun e w' => e = .returned (.string (str (mTag key ls.flatten))) ∧ Below w.heap.size w w' := by
  have sk := str_size key
  have hg0 := hk.lt
  go_enter Tryd.func32, Tryd.ntmps32
  go_upto_if 11 with fail
  go_cut [0] from 9 to 14 (fun s0 wx => s0 = .string (str (mKey key)) ∧ Below w.heap.size w wx)
  case first =>
    by_cases h : 64 < key.length
    · have HM := Kept.mk (mKey_long h)
      go_wp2_with fail
      refine (sum_one key _ hk _ (by omega)).mono ?_
      rintro e w1 ⟨rfl, hb1⟩
      go_wp2_with fail
      go_meet
      exact ⟨by rw [HM.out], hb1⟩
    · have HM := Kept.mk (mKey_short (k := key) (by omega))
      go_wp2_with fail
      go_meet
      exact ⟨by rw [HM.out], Below.refl _ _⟩
  case rest =>
    obtain ⟨rfl, hb0⟩ := hcut
    have hk0 := hk.below hb0
    have hm := mKey_length key
    have HT := Kept.mk (mTag_eq key ls.flatten)
    have hml := mPad_length _ hm
    generalize mKey key = k2 at *
    have hsz := str_size k2
    have hmin := size_min k2 hm
    have HB := Kept.mk hb0
    have HK := Kept.mk hk0
    have HR0 := Kept.mk hr
    clear hb0 hk0 hr hk
    go_upto_region 4 with fail
    have hz := zero_new wc 65
    generalize hW : wc.alloc _ = W1 at *
    have hs1 : W1.heap.size = wc.heap.size + 1 := by rw [← hW]; simp
    have hB1 : Below wc.heap.size wc W1 := by rw [← hW]; exact (Below.refl _ _).alloc (Nat.le_refl _) _
    have HW := Kept.mk hW
    have HB1 := Kept.mk hB1
    have hcp0 := copy_key W1 wc.heap.size k2 hm hz
    have hz2 := setRow_heap W1 wc.heap.size _ (Lib.byteCells (mPad k2)).toArray _ _ hz
    have hB2 := (hB1.trans (Below.refl W1.heap.size W1 |>.mono (by omega)))
    have hb2 := below_setRow hB1 (Nat.le_refl _) (Lib.byteCells (mPad k2)).toArray
    have hs2 := size_setRow W1 wc.heap.size (Lib.byteCells (mPad k2)).toArray
    have HZ2 := Kept.mk hz2
    have HB2 := Kept.mk hb2
    have HS2 := Kept.mk hs2
    clear hW hB1 hB2 hz2 hz hb2 hs2
    go_upto_region 5 with fail
    clear hcp0
    generalize hW2 : W1.setRow wc.heap.size (Lib.byteCells (mPad k2)).toArray = W2 at *
    have hs2 : W2.heap.size = wc.heap.size + 1 := by rw [HS2.out, hs1]
    have hkW := HK.out.below HB2.out
    have hBW : Below w.heap.size w W2 := HB.out.trans (HB2.out.mono HB.out.size)
    have hszc := HB.out.size
    have HKW := Kept.mk hkW
    have HBW := Kept.mk hBW
    clear hkW hBW hW2 HW HB1 HB2 HS2 HK HB hs1 W1
    go_wp2_with fail
    refine (New_any W2).mono ?_
    rintro e w1 ⟨rfl, hw1⟩
    have hH : HashT w1 (wc.heap.size + 1) [] 0 := by rw [hw1, ← hs2]; exact new_hash W2
    have hB : Below W2.heap.size W2 w1 := by rw [hw1]; exact (Below.refl _ _).alloc (Nat.le_refl _) _
    have hk1 := HKW.out.below hB
    have hz1 := block_kept HZ2.out hB
    have hB1 : Below w.heap.size w w1 := HBW.out.trans (hB.mono HBW.out.size)
    have hi : (Tryd.prog.info? 65).map (·.size) = some (Lib.byteCells (mPad k2)).toArray.size := by rw [bytes_size, hml]; kernel_rfl
    have HI := Kept.mk hi
    have HHA := Kept.mk hH
    have HK1 := Kept.mk hk1
    have HZ1 := Kept.mk hz1
    have HB1 := Kept.mk hB1
    have hs3 := hB.size
    clear hi hH hk1 hz1 hB1 hB hw1 HKW HZ2 HBW
    go_wp2_with (with_reducible refine wpList_load_row rfl 65 (.tmp 5) rfl wc.heap.size rfl _ _ _ _ HZ1.out Tryd.underlying65 rfl HI.out ?_)
    refine (turned54 (mPad k2) hml w1).mono ?_
    rintro e w2 ⟨rfl, hb2⟩
    have hH2 := HHA.out.below hb2
    have hk2 := HK1.out.below hb2
    have hz2 := block_kept HZ1.out hb2
    have hB2 := HB1.out.trans (hb2.mono HB1.out.size)
    have hs4 := hb2.size
    have hxl := mXor_length 54 (mPad k2)
    rw [hml] at hxl
    have HH := Kept.mk hH2
    have HK := Kept.mk hk2
    have HZ := Kept.mk hz2
    have HB := Kept.mk hB2
    clear HHA HK1 HZ1 HB1 hH2 hk2 hz2 hB2 hb2
    go_wp2_with fail
    refine (write_first (wc.heap.size + 1) _ w2 HH.out HK.out (by omega) (by omega)).mono ?_
    rintro e w3 ⟨rfl, hH3, hbut⟩
    have hk3 := HK.out.but hbut (by omega)
    have hB3 := below_but HB.out hbut (by omega) HB.out.size
    have hz3 := hbut.block_kept HZ.out (by omega)
    have HHT := Kept.mk hH3
    clear HH HK HB HZ hH3 hbut
    generalize hX : mXor 54 (mPad k2) = X at *
    have HX := Kept.mk hX; clear hX
    have HK := Kept.mk hk3
    have HB := Kept.mk hB3
    have HZ := Kept.mk hz3
    clear hk3 hB3 hz3
    go_wp2_with fail
    go_loopw [25] (fun s25 wr => ∃ k : Nat, k ≤ ls.length ∧ s25 = .int .i64 k ∧ HashT wr (wc.heap.size + 1) (X ++ (ls.take k).flatten) ((X ++ (ls.take k).flatten).length : Nat) ∧ Below w.heap.size w wr ∧ KAt wr ∧ wr.heap[wc.heap.size]? = some (.cells (Lib.byteCells (mPad k2)).toArray 65 (0, 0))) (fun s25 _ => ls.length - (RowKit.intOf s25).toNat)
    case atStart => exact ⟨0, by omega, rfl, by simpa using HHT.out, HB.out, HK.out, HZ.out⟩
    case round =>
      clear HHT HB HK HZ hs2 hs3 hs4 w1 w2 w3 W2
      obtain ⟨k, hkk, rfl, hh, hb, hkr, hz⟩ := hrel
      by_cases hlt : k < ls.length
      · obtain ⟨ad, rfl, had, hc⟩ := (HR0.out.below hb).get (k := k) (by rw [strs_length]; exact hlt)
        rw [strs_get ls k hlt] at hc
        have hf := flat_snoc ls k hlt
        have hle := flat_le ls (k + 1)
        rw [hf, List.length_append] at hle
        have HF := Kept.mk hf
        have HB := Kept.mk hb
        have HZ := Kept.mk hz
        have HH := Kept.mk hh
        have HK := Kept.mk hkr
        clear hf hb hz hh hkr
        generalize ls[k] = t at *
        go_wp2_with fail
        refine (write_any (wc.heap.size + 1) (X ++ (ls.take k).flatten) t wr HH.out HK.out (by omega) (by rw [List.length_append]; omega)).mono ?_
        rintro e w2 ⟨rfl, hh2, hbut⟩
        have hB2 := below_but HB.out hbut (by omega) HB.out.size
        have hk2 := HK.out.but hbut (by omega)
        have hz2 := hbut.block_kept HZ.out (by omega)
        have HH2 := Kept.mk hh2
        have HB2 := Kept.mk hB2
        have HK2 := Kept.mk hk2
        have HZ2 := Kept.mk hz2
        clear HH HK HB HZ hbut hc hh2 hB2 hk2 hz2
        go_wp2_with fail
        refine ⟨⟨k + 1, by omega, by go_num, ?_, HB2.out, HK2.out, HZ2.out⟩, by simp [RowKit.intOf]; omega⟩
        rw [HF.out, ← List.append_assoc, List.length_append]; exact HH2.out
      · have hkl : k = ls.length := by omega
        subst hkl
        rw [List.take_length] at hh
        have HB := Kept.mk hb
        have HZ := Kept.mk hz
        have HH := Kept.mk hh
        have HK := Kept.mk hkr
        clear hb hz hh hkr
        go_wp2_with (with_reducible refine wpList_load_row rfl 65 (.tmp 5) rfl wc.heap.size rfl _ _ _ _ HZ.out Tryd.underlying65 rfl HI.out ?_)
        refine (turned92 (mPad k2) hml wr).mono ?_
        rintro e w2 ⟨rfl, hb2⟩
        have HH2 := Kept.mk (HH.out.below hb2)
        have HK2 := Kept.mk (HK.out.below hb2)
        have HB2 := Kept.mk (HB.out.trans (hb2.mono HB.out.size))
        have hl2 := mXor_length 92 (mPad k2)
        rw [hml] at hl2
        clear HH HK HB HZ hb2
        go_wp2_with fail
        refine (hashSum_any (wc.heap.size + 1) (X ++ ls.flatten) w2 HH2.out HK2.out (by rw [List.length_append]; omega)).mono ?_
        rintro e w4 ⟨rfl, hb4⟩
        have HK4 := Kept.mk (HK2.out.below hb4)
        have HB4 := Kept.mk (HB2.out.trans (hb4.mono HB2.out.size))
        have hl4 := sSum_length (X ++ ls.flatten)
        clear HH2 HK2 HB2 hb4
        go_wp2_with fail
        refine (sum_two _ _ w4 HK4.out _ (by omega)).mono ?_
        rintro e w5 ⟨rfl, hb5⟩
        have HB5 := Kept.mk (HB4.out.trans (hb5.mono HB4.out.size))
        clear hb5
        go_wp2_with fail
        go_ret
        refine ⟨?_, HB5.out⟩
        rw [← HT.out]
        rfl

theorem tag_one (key l : List UInt8) (w : World) (hk : KAt w) (T : TypeId) (hkl : key.length ≤ 800000000) (hl : l.length ≤ 800000000) :
    Calls Tryd.prog 32 #[.string (str key), .slice (some ⟨w.heap.size, 0, none⟩) 1 1] (w.alloc (.cells #[.string (str l)] T)) fun e w' => e = .returned (.string (str (mTag key l))) ∧ Below w.heap.size w w' :=
  (tag_any key (some ⟨w.heap.size, 0, none⟩) 1 [l] (w.alloc (.cells #[.string (str l)] T)) (row_one w l T) (hk.below ((Below.refl _ _).alloc (Nat.le_refl _) _)) hkl (by rw [flat_one]; exact hl) (by simp)).mono fun e w' h => ⟨by rw [h.1, flat_one], ((Below.refl _ _).alloc (Nat.le_refl _) _).trans (h.2.mono (by simp))⟩
end Go.Proofs.YtabeehljpdehcaaDoor
