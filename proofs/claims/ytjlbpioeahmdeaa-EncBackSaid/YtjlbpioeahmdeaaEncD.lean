/- PutNum and PutText of package enc, each by a contract. -/
import Derived.Test.YtjlbpioeahmdeaaEncC
namespace Go.Proofs.Ytjlbpioeahmdeaa
set_option linter.unusedVariables false
open Go.RowKit Go.Lib
attribute [local irreducible] bev put wd str tkNum beL putAll

theorem infoByte : (Try.prog.info? 5).map (fun i => (i.zero, i.size, i.bytes)) = some (some (.int .u8 0), 1, 1) := by kernel_rfl
theorem byteCells_snoc (l : List UInt8) (c : UInt8) : Lib.byteCells l ++ [.int .u8 (c.toNat : Int)] = Lib.byteCells (l ++ [c]) := by simp [Lib.byteCells]
theorem byteCells_str (l m : List UInt8) : Lib.byteCells l ++ Lib.strCells (str m) = Lib.byteCells (l ++ m) := by unfold str; simp [Lib.byteCells, Lib.strCells]
theorem own_start (w : World) : OwnBuf w.heap.size 5 (.slice none 0 0) 0 (Lib.byteCells []) w w := ⟨World.ownsRowF_nil _ _ _ _, Below.refl _ _, Nat.le_refl _⟩

/-- a buffer that holds these bytes -/
def Buf (w wr : World) (v : Value) (l : List UInt8) : Prop := OwnBuf w.heap.size 5 v l.length (Lib.byteCells l) w wr
theorem Buf.byte {w wr : World} {v : Value} {l : List UInt8} {c : Int} {d : UInt8} (h : OwnBuf w.heap.size 5 v (l.length + 1) (Lib.byteCells l ++ [.int .u8 c]) w wr) (hc : c = d.toNat) : Buf w wr v (l ++ [d]) := by
  subst hc
  rw [byteCells_snoc] at h
  unfold Buf; rw [List.length_append]; exact h
theorem Buf.text {w wr : World} {v : Value} {l m : List UInt8} (h : OwnBuf w.heap.size 5 v (l.length + (str m).size) (Lib.byteCells l ++ Lib.strCells (str m)) w wr) : Buf w wr v (l ++ m) := by
  rw [byteCells_str, str_size] at h
  unfold Buf; rw [List.length_append]; exact h
theorem Buf.below {w wr wx : World} {v : Value} {l : List UInt8} (h : Buf w wr v l) (hb : Below wr.heap.size wr wx) : Buf w wx v l := by
  obtain ⟨h1, h2, h3⟩ := h
  refine ⟨?_, h2.trans (hb.mono h3), Nat.le_trans h3 hb.size⟩
  exact h1.kept (row := none) ⟨hb.os, hb.tape, hb.output, hb.size, fun k hk _ => hb.block k hk⟩ (by cases v.ownBlock <;> simp)
theorem Buf.string {w wr : World} {v : Value} {l : List UInt8} (h : Buf w wr v l) : (convert 46 9 v).run Try.prog wr = .ok (.string (str l)) wr :=
  own_string _ _ _ Try.underlying46 Try.underlying5 Try.underlying9 rfl h

theorem fixLen_of (m : Nat) (h : m ≤ 8) : fixLen (m : Int) = m := by
  unfold fixLen; rw [if_neg (by omega), if_neg (by omega)]; omega

theorem fixed_nat (n : Int) (m : Nat) (w : World) (hm : m ≤ 8) (h0 : -9223372036854775808 ≤ n) (h1 : n ≤ 9223372036854775807) :
    Calls Try.prog 20 #[.int .i64 n, .int .i64 (m : Int)] w fun e w' => e = .returned (.string (str (beL m n))) ∧ Below w.heap.size w w' := by
  have h := fixed_any n m w h0 h1
  rwa [fixLen_of m hm] at h

set_option maxRecDepth 100000 in
set_option maxHeartbeats 1000000 in
theorem putNum_any (A : Option Addr) (c : Nat) (zs : List Int) (w : World) (hl : zs.length ≤ 1000) (hr : RowAt w A (ints zs)) :
    Calls Try.prog 10 #[.slice A zs.length c] w fun e w' => e = .returned (.string (str (putAll zs))) ∧ Below w.heap.size w w' := by
  obtain ⟨i0, hi, hz0, hz1, hz2⟩ := info_parts infoByte
  go_enter Try.func10, Try.ntmps10
  go_wp2
  go_loopw [3, 9] (fun v i wr => ∃ k : Nat, k ≤ zs.length ∧ i = .int .i64 k ∧ Buf w wr v (putAll (zs.take k))) (fun _ i _ => zs.length - (intOf i).toNat)
  case atStart => exact ⟨0, Nat.zero_le _, rfl, by unfold putAll; exact own_start w⟩
  case round =>
    obtain ⟨k, hk, rfl, hb⟩ := hrel
    by_cases hlt : k < zs.length
    · obtain ⟨ad, rfl, had, hc⟩ := (hr.below hb.2.1).get (k := k) (by rw [ints_length]; exact hlt)
      simp only [ints, List.getElem_map] at hc
      have hs := putAll_snoc (zs.take k) zs[k]
      rw [← List.take_succ_eq_append_getElem hlt] at hs
      have hz : (putAll (zs.take k)).length ≤ 8000 := by
        have h1 := putAll_length (zs.take k)
        have h2 : (zs.take k).length ≤ k := List.length_take_le _ _
        omega
      have HS := Kept.mk hs; clear hs
      generalize putAll (zs.take k) = l at *
      generalize zs[k] = z at *
      by_cases h1 : z < 248
      · have hp := put_low z h1
        rw [hp] at HS
        clear hp
        by_cases h0 : z < 0
        · rw [if_pos h0] at HS
          have hb : OwnBuf w.heap.size 5 _ l.length (Lib.byteCells l) w wr := hb
          go_wp2_with (at_builtin; refine Lib.wpList_append_byte rfl (.tmp 18) (.tmp 21) 46 rfl w.heap.size 5 i0 Try.underlying46 hi hz0 hz1 hz2 _ _ _ rfl w _ _ hb rfl ?_ ?_; omega; intro v' w' ho)
          refine ⟨⟨k + 1, by omega, by go_num, ?_⟩, by simp [intOf]; omega⟩
          rw [HS.out]
          exact Buf.byte ho (by rw [byt_toNat]; rfl)
        · rw [if_neg h0] at HS
          have h2 : 0 ≤ z := by omega
          clear h0
          have hb : OwnBuf w.heap.size 5 _ l.length (Lib.byteCells l) w wr := hb
          go_wp2_with (at_builtin; refine Lib.wpList_append_byte rfl (.tmp 18) (.tmp 21) 46 rfl w.heap.size 5 i0 Try.underlying46 hi hz0 hz1 hz2 _ _ _ rfl w _ _ hb rfl ?_ ?_; omega; intro v' w' ho)
          refine ⟨⟨k + 1, by omega, by go_num, ?_⟩, by simp [intOf]; omega⟩
          rw [HS.out]
          exact Buf.byte ho (by rw [byt_toNat]; omega)
      · by_cases h2 : z ≤ 72057594037927935
        · have hp := put_mid z (by omega) h2
          rw [hp] at HS
          clear hp
          have h3 : 248 ≤ z := by omega
          clear h1
          have hw := wd_le (z)
          obtain ⟨hw1, hw2⟩ := hw
          have hb : OwnBuf w.heap.size 5 _ l.length (Lib.byteCells l) w wr := hb
          go_wp2_with fail
          refine (width_any (z) _ (by omega) (by omega)).mono ?_
          rintro e w1 ⟨rfl, rfl⟩
          go_wp2_with (first | (at_builtin; refine Lib.wpList_append_byte rfl (.tmp 25) (.tmp 29) 46 rfl w.heap.size 5 i0 Try.underlying46 hi hz0 hz1 hz2 _ _ _ rfl w _ _ hb rfl ?_ ?_; omega; intro v' w' ho) | fail)
          have hb := Buf.byte (d := byt (247 + wd (z))) ho (by rw [byt_toNat]; omega)
          clear ho
          refine (fixed_nat (z) (wd (z)) _ (by omega) (by omega) (by omega)).mono ?_
          rintro e w2 ⟨rfl, hb2⟩
          have hb := hb.below hb2
          have hb : OwnBuf w.heap.size 5 _ _ _ w w2 := hb
          have hz3 : (l ++ [byt (247 + wd (z))]).length ≤ 8001 := by rw [List.length_append, List.length_singleton]; omega
          have hz4 : (str (beL (wd (z)) (z))).size ≤ 8 := by rw [str_size, beL_length]; omega
          go_wp2_with (at_builtin; refine Lib.wpList_append_text rfl (.tmp 31) (.tmp 34) 46 9 rfl w.heap.size 5 i0 Try.underlying46 Try.underlying9 hi hz0 hz1 hz2 _ _ _ rfl w hb _ rfl ?_ ?_; omega; intro v' w' ho)
          refine ⟨⟨k + 1, by omega, by go_num, ?_⟩, by simp [intOf]; omega⟩
          rw [HS.out]
          have hb := Buf.text ho
          rw [List.append_assoc] at hb
          exact hb
        · have hp := put_high z (by omega)
          rw [hp] at HS
          clear hp
          have h3 : 72057594037927935 < z := by omega
          clear h1 h2
          have hw := wd_le (72057594037927935)
          obtain ⟨hw1, hw2⟩ := hw
          have hb : OwnBuf w.heap.size 5 _ l.length (Lib.byteCells l) w wr := hb
          go_wp2_with fail
          refine (width_any (72057594037927935) _ (by omega) (by omega)).mono ?_
          rintro e w1 ⟨rfl, rfl⟩
          go_wp2_with (first | (at_builtin; refine Lib.wpList_append_byte rfl (.tmp 25) (.tmp 29) 46 rfl w.heap.size 5 i0 Try.underlying46 hi hz0 hz1 hz2 _ _ _ rfl w _ _ hb rfl ?_ ?_; omega; intro v' w' ho) | fail)
          have hb := Buf.byte (d := byt (247 + wd (72057594037927935))) ho (by rw [byt_toNat]; omega)
          clear ho
          refine (fixed_nat (72057594037927935) (wd (72057594037927935)) _ (by omega) (by omega) (by omega)).mono ?_
          rintro e w2 ⟨rfl, hb2⟩
          have hb := hb.below hb2
          have hb : OwnBuf w.heap.size 5 _ _ _ w w2 := hb
          have hz3 : (l ++ [byt (247 + wd (72057594037927935))]).length ≤ 8001 := by rw [List.length_append, List.length_singleton]; omega
          have hz4 : (str (beL (wd (72057594037927935)) (72057594037927935))).size ≤ 8 := by rw [str_size, beL_length]; omega
          go_wp2_with (at_builtin; refine Lib.wpList_append_text rfl (.tmp 31) (.tmp 34) 46 9 rfl w.heap.size 5 i0 Try.underlying46 Try.underlying9 hi hz0 hz1 hz2 _ _ _ rfl w hb _ rfl ?_ ?_; omega; intro v' w' ho)
          refine ⟨⟨k + 1, by omega, by go_num, ?_⟩, by simp [intOf]; omega⟩
          rw [HS.out]
          have hb := Buf.text ho
          rw [List.append_assoc] at hb
          exact hb
    · have hcv := hb.string
      go_wp2
      go_ret
      have : k = zs.length := by omega
      subst this
      exact ⟨ret_str (by rw [List.take_length]), hb.2.1⟩
end Go.Proofs.Ytjlbpioeahmdeaa
