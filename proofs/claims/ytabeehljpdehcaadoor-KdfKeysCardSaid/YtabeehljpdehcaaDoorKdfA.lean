/- HKDF: Expand, of the program and by definition, each by a contract. -/
import Derived.Test.YtabeehljpdehcaaDoorKdfM
import Derived.Test.YtabeehljpdehcaaDoorFix
import Derived.Test.YtabeehljpdehcaaDoorRfV
namespace Go.Proofs.YtabeehljpdehcaaDoor
set_option linter.unusedVariables false
set_option linter.unusedSimpArgs false
open Go.RowKit Go.Lib

theorem Buf.shape {w wr : World} {v : Value} {l : List UInt8} (h : Buf w wr v l) :
    (v = .slice none 0 0 ∧ l = []) ∨ ∃ g cap, v = .slice (some ⟨g, 0, none⟩) l.length cap ∧ RowAt wr (some ⟨g, 0, none⟩) (Lib.byteCells l) ∧ l.length ≤ cap ∧ cap ≤ 9223372036854775807 ∧ w.heap.size ≤ g := by
  obtain ⟨h1, _, _⟩ := h
  obtain ⟨_, hv⟩ := id h1
  rcases hv with ⟨rfl, hx⟩ | ⟨g, cap, cur, fz, rfl, hr⟩
  · left
    refine ⟨rfl, ?_⟩
    cases l with
    | nil => rfl
    | cons c r => simp at hx
  · right
    have hc := h1.cells (g := g) rfl
    obtain ⟨hb1, _, _, hb2, hb3, _, _⟩ := hr
    refine ⟨g, cap, rfl, fun h0 => ⟨_, rfl, ?_, fun j u hu => hc j u hu⟩, hb2, by unfold maxLen at hb3; omega, hb1⟩
    obtain ⟨u, hu⟩ : ∃ u, (Lib.byteCells l)[0]? = some u := ⟨_, List.getElem?_eq_getElem h0⟩
    have := block_of_cell (hc 0 u hu)
    rwa [add_block] at this
/-- the first bytes of a row as a string -/
theorem row_string {W : World} {ad : Addr} {l : List UInt8} (n cap : Nat) (h : RowAt W (some ad) (Lib.byteCells l)) (hn : n ≤ l.length) :
    (convert 33 9 (.slice (some ad) n cap)).run Tryd.prog W = .ok (.string (str (l.take n))) W := by
  have hl : (l.take n).length = n := by rw [List.length_take]; omega
  have := run_convert_bytes_back (P := Tryd.prog) W 33 9 5 ad cap (l.take n) Tryd.underlying33 Tryd.underlying5 Tryd.underlying9 (fun j hj => by
    obtain ⟨ad', e, _, hc⟩ := h (by rw [Lib.byteCells_length]; omega)
    cases e
    refine hc j _ ?_
    rw [hl] at hj
    simp [Lib.byteCells, List.getElem?_eq_getElem (show j < l.length by omega)])
  rw [hl] at this
  rw [this]; rfl
theorem none_string (W : World) : (convert 33 9 (.slice none 0 0)).run Tryd.prog W = .ok (.string (str [])) W := by
  rw [run_convert_bytes_nil W 33 5 Tryd.underlying33 Tryd.underlying5 0 0 9 Tryd.underlying9]; rfl
theorem fixed_1 (n : Nat) (w : World) (h : n ≤ 1000) :
    Calls Tryd.prog 54 #[.int .i64 ((n : Int) + 1), .int .i64 1] w fun e w' => e = .returned (.string (str [byt ((n : Int) + 1)])) ∧ Below w.heap.size w w' :=
  (fixed_any ((n : Int) + 1) 1 w (by omega) (by omega)).mono fun e w' h => ⟨by rw [h.1, show fixLen 1 = 1 from rfl]; simp [beL], h.2⟩
theorem row_three (w : World) (l m n : List UInt8) (T : TypeId) : RowAt (w.alloc (.cells #[.string (str l), .string (str m), .string (str n)] T)) (some ⟨w.heap.size, 0, none⟩) (strs [l, m, n]) := fun _ =>
  ⟨_, rfl, by simp, fun j u hu => by
    rw [at_add]
    rw [Joins.cell_of_block (heap_new w _ _ rfl) j]
    simpa [strs] using hu⟩
theorem tag_three (key a b c : List UInt8) (w : World) (hk : KAt w) (T : TypeId) (hkl : key.length ≤ 800000000) (hl : a.length + b.length + c.length ≤ 800000000) :
    Calls Tryd.prog 32 #[.string (str key), .slice (some ⟨w.heap.size, 0, none⟩) 3 3] (w.alloc (.cells #[.string (str a), .string (str b), .string (str c)] T)) fun e w' => e = .returned (.string (str (mTag key (a ++ b ++ c)))) ∧ Below w.heap.size w w' :=
  (tag_any key (some ⟨w.heap.size, 0, none⟩) 3 [a, b, c] (w.alloc (.cells #[.string (str a), .string (str b), .string (str c)] T)) (row_three w a b c T) (hk.below ((Below.refl _ _).alloc (Nat.le_refl _) _)) hkl (by simp; omega) (by simp)).mono fun e w' h => ⟨by rw [h.1]; simp, ((Below.refl _ _).alloc (Nat.le_refl _) _).trans (h.2.mono (by simp))⟩
theorem kT_zero (key info : List UInt8) : kT key info 0 = [] := rfl
theorem kOut_zero (key info : List UInt8) : kOut key info 0 = [] := rfl
attribute [local irreducible] str sSum mXor mPad mKey mTag kT kOut kExp beL fixLen

set_option maxRecDepth 100000 in
set_option maxHeartbeats 2000000 in
theorem kExpand_bad (key info : List UInt8) (n : Int) (w : World) (h : n < 0 ∨ 8160 < n) :
    Calls Tryd.prog 48 #[.string (str key), .string (str info), .int .i64 n] w fun e w' => e = .returned (.tuple #[.string (str []), .int .i64 10]) ∧ Below w.heap.size w w' := by
  rw [str_nil]
  rcases h with h | h
  · go_enter Tryd.func48, Tryd.ntmps48
    go_wp2_with fail
    go_ret2
    exact ⟨rfl, Below.refl _ _⟩
  · have h2 : ¬ n < 0 := by omega
    go_enter Tryd.func48, Tryd.ntmps48
    go_wp2_with fail
    go_ret2
    exact ⟨rfl, Below.refl _ _⟩
set_option maxRecDepth 100000 in
set_option maxHeartbeats 2000000 in
theorem refExpand_bad (key info : List UInt8) (n : Int) (w : World) (h : n < 0 ∨ 8160 < n) :
    Calls Tryd.prog 47 #[.string (str key), .string (str info), .int .i64 n] w fun e w' => e = .returned (.tuple #[.string (str []), .int .i64 10]) ∧ Below w.heap.size w w' := by
  rw [str_nil]
  rcases h with h | h
  · go_enter Tryd.func47, Tryd.ntmps47
    go_wp2_with fail
    go_ret2
    exact ⟨rfl, Below.refl _ _⟩
  · have h2 : ¬ n < 0 := by omega
    go_enter Tryd.func47, Tryd.ntmps47
    go_wp2_with fail
    go_ret2
    exact ⟨rfl, Below.refl _ _⟩

set_option maxRecDepth 100000 in
set_option maxHeartbeats 4000000 in
theorem kExpand_any (key info : List UInt8) (n : Nat) (w : World) (hk : KAt w) (hn : n ≤ 8160) (hkl : key.length ≤ 700000000) (hil : info.length ≤ 700000000) :
    Calls Tryd.prog 48 #[.string (str key), .string (str info), .int .i64 (n : Int)] w fun e w' => e = .returned (.tuple #[.string (str (kExp key info n)), .int .i64 0]) ∧ Below w.heap.size w w' := by
  obtain ⟨i0, hi, hz0, hz1, hz2⟩ := info_parts infoByte
  have hn2 : (n : Int) ≤ 8160 := by omega
  have HK0 := Kept.mk hk
  clear hk
  go_enter Tryd.func48, Tryd.ntmps48
  go_wp2_with fail
  go_loopw [8, 9, 10] (fun o l i wr => ∃ j : Nat, j ≤ 255 ∧ 32 * j < n + 32 ∧ i = .int .i64 ((j : Int) + 1) ∧ l = .string (str (kT key info j)) ∧ Buf w wr o (kOut key info j) ∧ KAt wr) (fun _ _ i _ => 300 - (RowKit.intOf i).toNat)
  case atStart => exact ⟨0, by omega, by omega, rfl, by rw [kT_zero, str_nil]; rfl, by rw [kOut_zero]; exact buf_nil (Below.refl _ _), HK0.out⟩
  case round =>
    obtain ⟨j, hj, hjn, rfl, rfl, hbf, hkr⟩ := hrel
    have hol := kOut_length key info j
    have hsh := hbf.shape
    have HBF := Kept.mk hbf
    have HK := Kept.mk hkr
    have HN := Kept.mk (kOut_next key info j)
    have HT := Kept.mk (kT_next key info j)
    have htl := kT_le key info j
    have htl2 := kT_length key info j
    clear hbf hkr
    generalize hO : kOut key info j = O at *
    have HO := Kept.mk hO
    clear hO
    by_cases hlt : 32 * j < n
    · have hgo : ∃ A cap, u8 = Value.slice A O.length cap := by
        rcases hsh with ⟨rfl, rfl⟩ | ⟨g, cap, rfl, _⟩
        · exact ⟨none, 0, rfl⟩
        · exact ⟨_, cap, rfl⟩
      obtain ⟨A, cap, rfl⟩ := hgo
      clear hsh
      rw [hol] at HBF ⊢
      have hlt' : (32 * j : Nat) < n := hlt
      go_wp2_with fail
      refine (fixed_1 j wr (by omega)).mono ?_
      rintro e w1 ⟨rfl, hb1⟩
      have HBF1 := Kept.mk (HBF.out.below hb1)
      have HK1 := Kept.mk (HK.out.below hb1)
      clear hb1 HBF HK
      go_wp2_with fail
      refine (tag_three key (kT key info j) info [byt ((j : Int) + 1)] w1 HK1.out _ (by omega) (by rw [List.length_singleton]; omega)).mono ?_
      rintro e w2 ⟨rfl, hb2⟩
      have HBF2 := Kept.mk (HBF1.out.below hb2)
      have HK2 := Kept.mk (HK1.out.below hb2)
      clear hb2 HBF1 HK1
      rw [HT.out]
      have hs2 := str_size (kT key info (j + 1))
      have HTT := Kept.mk htl2
      generalize hTe : kT key info (j + 1) = T at *
      have HTe := Kept.mk hTe
      clear hTe
      rw [HTT.out] at hs2
      have hb : OwnBuf w.heap.size 5 _ O.length (Lib.byteCells O) w w2 := HBF2.out
      go_wp2_with (at_builtin; refine Lib.wpList_append_text rfl (.tmp 32) (.tmp 33) 33 9 rfl w.heap.size 5 i0 Tryd.underlying33 Tryd.underlying9 hi hz0 hz1 hz2 _ _ _ rfl w hb _ rfl ?_ ?_; omega; intro v' w' ho)
      have hbt := Buf.text ho
      refine ⟨⟨j + 1, by omega, by omega, by go_num, by rw [HTe.out], Buf.is hbt HN.out, HK0.out.below hbt.2.1⟩, by simp [RowKit.intOf]; omega⟩
    · have hn3 : n ≤ 32 * j := by omega
      have HE := Kept.mk (kExp_of key info j n hn3 hj)
      have hbl := HBF.out.2.1
      rcases hsh with ⟨rfl, rfl⟩ | ⟨g, cap, rfl, hrow, hc1, hc2, _⟩
      · have hn0 : n = 0 := by simp at hol; omega
        subst hn0
        have hcv := none_string wr
        go_wp2_with fail
        go_ret2
        refine ⟨?_, hbl⟩
        rw [← HE.out, List.take_zero]
        rfl
      · have hcv := row_string n cap hrow (by omega)
        have hnc : n ≤ cap := by omega
        rw [hol]
        clear hrow
        go_wp2_with fail
        go_ret2
        refine ⟨?_, hbl⟩
        rw [← HE.out, HO.out]
        rfl

set_option maxRecDepth 100000 in
set_option maxHeartbeats 4000000 in
theorem refExpand_any (key info : List UInt8) (n : Nat) (w : World) (hn : n ≤ 8160) (hkl : key.length ≤ 100000) (hil : info.length ≤ 100000) :
    Calls Tryd.prog 47 #[.string (str key), .string (str info), .int .i64 (n : Int)] w fun e w' => e = .returned (.tuple #[.string (str (kExp key info n)), .int .i64 0]) ∧ Below w.heap.size w w' := by
  have hn2 : (n : Int) ≤ 8160 := by omega
  have hsi := str_size info
  go_enter Tryd.func47, Tryd.ntmps47
  go_wp2_with fail
  go_loopw [8, 9, 10] (fun o l i wr => ∃ j : Nat, j ≤ 255 ∧ 32 * j < n + 32 ∧ i = .int .i64 ((j : Int) + 1) ∧ l = .string (str (kT key info j)) ∧ o = .string (str (kOut key info j)) ∧ Below w.heap.size w wr) (fun _ _ i _ => 300 - (RowKit.intOf i).toNat)
  case atStart => exact ⟨0, by omega, by omega, rfl, by rw [kT_zero, str_nil]; rfl, by rw [kOut_zero, str_nil]; rfl, Below.refl _ _⟩
  case round =>
    obtain ⟨j, hj, hjn, rfl, rfl, rfl, hbl⟩ := hrel
    have hol := kOut_length key info j
    have HB := Kept.mk hbl
    have HN := Kept.mk (kOut_next key info j)
    have HT := Kept.mk (kT_next key info j)
    have htl := kT_le key info j
    have htl2 := kT_length key info j
    clear hbl
    have HE := Kept.mk (kExp_of key info j n)
    generalize kOut key info j = O at *
    have hso := str_size O
    rw [hol] at hso
    by_cases hlt : 32 * j < n
    · have hlt' : (32 * j : Nat) < n := hlt
      have A1 := str_append (kT key info j) info
      have A2 := str_append (kT key info j ++ info) [byt ((j : Int) + 1)]
      have L1 : (kT key info j ++ info).length ≤ 200000 := by rw [List.length_append]; omega
      have L2 : (kT key info j ++ info ++ [byt ((j : Int) + 1)]).length ≤ 200001 := by rw [List.length_append, List.length_singleton]; omega
      have s1 := str_size (kT key info j)
      have s2 := str_size (kT key info j ++ info)
      have s3 := str_size [byt ((j : Int) + 1)]
      rw [List.length_singleton] at s3
      have hcv := fun w0 : World => conv_one (P := Tryd.prog) 33 9 5 Tryd.underlying33 Tryd.underlying5 Tryd.underlying9 ((j : Int) + 1) w0
      rw [show ((j : Int) + 1) % 256 = (j : Int) + 1 from by omega] at hcv
      go_wp2_with fail
      rw [← List.append_assoc (kT key info j) info]
      with_reducible refine (refTag_any key (kT key info j ++ info ++ [byt ((j : Int) + 1)]) _ hkl (by omega)).mono ?_
      rintro e w2 ⟨rfl, hb2⟩
      have HB2 := Kept.mk (HB.out.trans ((((Below.refl _ _).alloc (Nat.le_refl _) _).trans (hb2.mono (by simp))).mono HB.out.size))
      clear hb2 hcv
      rw [HT.out]
      have hs2 := str_size (kT key info (j + 1))
      rw [htl2] at hs2
      have A3 := str_append O (kT key info (j + 1))
      go_wp2_with fail
      refine ⟨⟨j + 1, by omega, by omega, by go_num, rfl, by rw [HN.out], HB2.out⟩, by simp [RowKit.intOf]; omega⟩
    · have hn3 : n ≤ 32 * j := by omega
      have HS := Kept.mk (str_take O n (by omega))
      go_wp2_with fail
      go_ret2
      refine ⟨?_, HB.out⟩
      rw [HS.out, HE.out hn3 hj]
      rfl
end Go.Proofs.YtabeehljpdehcaaDoor
