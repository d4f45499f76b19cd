/- HMAC-SHA-256: the chapter's examples; two texts held against one another; walked by the contracts. -/
import Derived.Test.YtihhjjcghocgaaaDoorMacB
import Derived.Lib.SlicesS
namespace Go.Proofs.YtihhjjcghocgaaaDoor
set_option linter.unusedVariables false
set_option linter.unusedSimpArgs false
open Go.RowKit Go.Lib

theorem jefe_lit : str (mTag [74, 101, 102, 101] [119, 104, 97, 116, 32, 100, 111, 32, 121, 97, 32, 119, 97, 110, 116, 32, 102, 111, 114, 32, 110, 111, 116, 104, 105, 110, 103, 63]) = ({ data := #[91, 220, 193, 70, 191, 96, 117, 78, 106, 4, 36, 38, 8, 149, 117, 199, 90, 0, 63, 8, 157, 39, 57, 131, 157, 236, 88, 185, 100, 236, 56, 67] } : ByteArray) := by
  rw [jefe]; rfl
theorem tag_jefe (w : World) (hk : KAt w) (T : TypeId) :
    Calls Tryd.prog 24 #[.string { data := #[74, 101, 102, 101] }, .slice (some ⟨w.heap.size, 0, none⟩) 1 1] (w.alloc (.cells #[.string { data := #[119, 104, 97, 116, 32, 100, 111, 32, 121, 97, 32, 119, 97, 110, 116, 32, 102, 111, 114, 32, 110, 111, 116, 104, 105, 110, 103, 63] }] T))
      fun e w' => e = .returned (.string ({ data := #[91, 220, 193, 70, 191, 96, 117, 78, 106, 4, 36, 38, 8, 149, 117, 199, 90, 0, 63, 8, 157, 39, 57, 131, 157, 236, 88, 185, 100, 236, 56, 67] } : ByteArray)) ∧ Below w.heap.size w w' :=
  (tag_one [74, 101, 102, 101] [119, 104, 97, 116, 32, 100, 111, 32, 121, 97, 32, 119, 97, 110, 116, 32, 102, 111, 114, 32, 110, 111, 116, 104, 105, 110, 103, 63] w hk T (by decide) (by decide)).mono fun e w' h => ⟨by rw [h.1, jefe_lit], h.2⟩
theorem equal_lit (w : World) :
    Calls Tryd.prog 27 #[.string { data := #[97, 98] }, .string { data := #[97, 99] }] w fun e w' => e = .returned (.tuple #[.bool false, .int .i64 2]) ∧ Below w.heap.size w w' :=
  equal_any [97, 98] [97, 99] w (by decide) (by decide)

set_option maxRecDepth 100000 in
set_option maxHeartbeats 2000000 in
theorem macAwake_any (w : World) (hk : KAt w) :
    Calls Tryd.prog 26 #[] w fun e w' => e = .returned (.bool true) ∧ Below w.heap.size w w' := by
  go_enter Tryd.func26, Tryd.ntmps26
  go_wp2_with fail
  refine (equal_lit w).mono ?_
  rintro e w1 ⟨rfl, hb1⟩
  have hk1 := hk.below hb1
  go_wp2_with fail
  refine (tag_jefe w1 hk1 _).mono ?_
  rintro e w2 ⟨rfl, hb2⟩
  have HB := Kept.mk (hb1.trans (hb2.mono hb1.size))
  clear hb1 hb2 hk hk1
  go_wp2_with fail
  go_ret
  exact ⟨rfl, HB.out⟩

theorem cut_10000 (l : List UInt8) (w : World) (hl : l.length ≤ 140737488351232) :
    Calls Tryd.prog 23 #[.string (str l), .int .i64 10000] w fun e w' => e = .returned (.string (str (l.take 10000))) ∧ Below w.heap.size w w' := cut_any l 10000 w hl (by decide)
theorem cut_5000 (l : List UInt8) (w : World) (hl : l.length ≤ 140737488351232) :
    Calls Tryd.prog 23 #[.string (str l), .int .i64 5000] w fun e w' => e = .returned (.string (str (l.take 5000))) ∧ Below w.heap.size w w' := cut_any l 5000 w hl (by decide)
theorem str_tl (a b : List UInt8) : ((str a).toList == (str b).toList) = decide (a = b) := by
  by_cases h : a = b
  · subst h; rw [decide_eq_true rfl]; exact beq_self_eq_true _
  · rw [decide_eq_false h, bytes_beq_false_iff]; exact fun e => h (str_inj e)
attribute [local irreducible] str

set_option maxRecDepth 100000 in
set_option maxHeartbeats 2000000 in
theorem macEquals_walk (x y : List UInt8) (w : World) (hx : x.length ≤ 140737488351232) (hy : y.length ≤ 140737488351232) (hk : KAt w) :
    Calls Tryd.prog 8 #[.string (str x), .string (str y)] w fun e w' => e = .returned (.bool true) ∧ Below w.heap.size w w' := by
  go_enter Tryd.func8, Tryd.ntmps8
  go_wp2_with fail
  refine (cut_10000 x w hx).mono ?_
  rintro e w1 ⟨rfl, hb1⟩
  have HB := Kept.mk hb1
  have ha : (x.take 10000).length ≤ 10000 := by rw [List.length_take]; omega
  generalize x.take 10000 = a at *
  clear hb1 hx
  go_wp2_with fail
  refine (cut_10000 y _ hy).mono ?_
  rintro e w2 ⟨rfl, hb2⟩
  have HB2 := Kept.mk (HB.out.trans (hb2.mono HB.out.size))
  have hb : (y.take 10000).length ≤ 10000 := by rw [List.length_take]; omega
  generalize y.take 10000 = b at *
  clear hb2 hy HB
  have sa := str_size a
  go_wp2_with fail
  refine (equal_any a b _ (by omega) (by omega)).mono ?_
  rintro e w3 ⟨rfl, hb3⟩
  have HB3 := Kept.mk (HB2.out.trans (hb3.mono HB2.out.size))
  clear hb3 HB2
  go_wp2_with fail
  refine (equal_any b a _ (by omega) (by omega)).mono ?_
  rintro e w4 ⟨rfl, hb4⟩
  have HB4 := Kept.mk (HB3.out.trans (hb4.mono HB3.out.size))
  clear hb4 HB3
  go_wp2_with fail
  refine (equal_any a a _ (by omega) (by omega)).mono ?_
  rintro e w5 ⟨rfl, hb5⟩
  have HB5 := Kept.mk (HB4.out.trans (hb5.mono HB4.out.size))
  clear hb5 HB4
  rw [show decide (b = a) = decide (a = b) from by simp [eq_comm], decide_eq_true (rfl : a = a), Nat.max_self]
  have h1 := str_tl a b
  generalize decide (a = b) = d at *
  have hkw := hk.below HB5.out
  have HK := Kept.mk hkw
  clear hk hkw
  go_wp2_with fail
  refine (macAwake_any w5 HK.out).mono ?_
  rintro e w6 ⟨rfl, hb6⟩
  have HB6 := Kept.mk (HB5.out.trans (hb6.mono HB5.out.size))
  clear hb6
  go_wp2_with fail
  go_ret
  exact ⟨rfl, HB6.out⟩

set_option maxRecDepth 100000 in
set_option maxHeartbeats 2000000 in
theorem macSteps_walk (x y : List UInt8) (c : UInt8) (w : World) (hx : x.length ≤ 140737488351232) (hy : y.length ≤ 140737488351232) (hk : KAt w) :
    Calls Tryd.prog 9 #[.string (str x), .string (str y), .int .u8 c.toNat] w fun e w' => e = .returned (.bool true) ∧ Below w.heap.size w w' := by
  obtain ⟨i0, hi, hz0, hz1, hz2⟩ := info_parts infoByte
  go_enter Tryd.func9, Tryd.ntmps9
  go_wp2_with fail
  refine (cut_5000 x w hx).mono ?_
  rintro e w1 ⟨rfl, hb1⟩
  have HB := Kept.mk hb1
  have ha : (x.take 5000).length ≤ 5000 := by rw [List.length_take]; omega
  generalize x.take 5000 = a at *
  clear hb1 hx
  go_wp2_with fail
  refine (cut_5000 y _ hy).mono ?_
  rintro e w2 ⟨rfl, hb2⟩
  have HB2 := Kept.mk (HB.out.trans (hb2.mono HB.out.size))
  have hb : (y.take 5000).length ≤ 5000 := by rw [List.length_take]; omega
  generalize y.take 5000 = b at *
  clear hb2 hy HB
  have sa := str_size a
  have sb := str_size b
  have hr := byte_range c
  go_wp2_with fail
  go_loopw [7, 9] (fun s7 s9 wr => ∃ k : Nat, k ≤ a.length ∧ s9 = .int .i64 k ∧ Buf w2 wr s7 (List.replicate k c)) (fun _ s9 _ => a.length - (RowKit.intOf s9).toNat)
  case atStart => exact ⟨0, by omega, rfl, buf_nil (Below.refl _ _)⟩
  case round =>
    obtain ⟨k, hka, rfl, hbf⟩ := hrel
    by_cases hlt : k < a.length
    · have hbf : OwnBuf w2.heap.size 5 _ (List.replicate k c).length (Lib.byteCells (List.replicate k c)) w2 wr := hbf
      have hlr : (List.replicate k c).length = k := by simp
      have HN := Kept.mk (show List.replicate k c ++ [c] = List.replicate (k + 1) c from (List.replicate_succ').symm)
      have HR := Kept.mk hlr
      generalize List.replicate k c = L at *
      go_wp2_with (at_builtin; refine Lib.wpList_append_byte rfl (.tmp 26) (.tmp 28) 34 rfl w2.heap.size 5 i0 Tryd.underlying34 hi hz0 hz1 hz2 _ _ _ rfl w2 _ _ hbf rfl ?_ ?_; omega; intro v' w' ho)
      exact ⟨⟨k + 1, by omega, by go_num, Buf.is (Buf.byte (d := c) ho rfl) HN.out⟩, by simp [RowKit.intOf]; omega⟩
    · have hkl : k = a.length := by omega
      subst hkl
      obtain ⟨W3, hW⟩ : ∃ W3, W3 = wr := ⟨wr, rfl⟩
      subst hW
      have HX := Kept.mk hbf
      have hsw := hbf.2.2
      have HBW := Kept.mk (HB2.out.trans (hbf.2.1.mono HB2.out.size))
      clear hbf HB2
      go_wp2_with fail
      go_loopw [8, 10] (fun s8 s10 wr => ∃ k : Nat, ∃ L : List UInt8, k ≤ b.length ∧ L.length = k ∧ s10 = .int .i64 k ∧ Buf W3 wr s8 L) (fun _ s10 _ => b.length - (RowKit.intOf s10).toNat)
      case atStart => exact ⟨0, [], by omega, rfl, rfl, buf_nil (Below.refl _ _)⟩
      case round =>
        obtain ⟨k, L, hkb, hL, rfl, hbf⟩ := hrel
        by_cases hlt : k < b.length
        · have hbf : OwnBuf W3.heap.size 5 _ L.length (Lib.byteCells L) W3 wr := hbf
          have h4 := and_mask (k : Int) 2 (by omega) 3 rfl
          simp only [Int.reducePow, Nat.reducePow] at h4
          go_wp2_with (at_builtin; refine Lib.wpList_append_byte rfl (.tmp 36) (.tmp 42) 34 rfl W3.heap.size 5 i0 Tryd.underlying34 hi hz0 hz1 hz2 _ _ _ rfl W3 _ _ hbf rfl ?_ ?_; omega; intro v' w' ho)
          have hd : ((UInt8.ofNat (k % 4)).toNat : Int) = (k : Int) % 4 := by
            rw [UInt8.toNat_ofNat']; omega
          refine ⟨⟨k + 1, L ++ [c ^^^ UInt8.ofNat (k % 4)], by omega, by rw [List.length_append, hL]; rfl, by go_num, Buf.byte ho ?_⟩, by simp [RowKit.intOf]; omega⟩
          rw [← hd]; exact xor_u8 _ _
        · have hkl : k = b.length := by omega
          subst hkl
          have HXX := Kept.mk (HX.out.below hbf.2.1)
          have HY := Kept.mk hbf
          have HBX := Kept.mk (HBW.out.trans (hbf.2.1.mono HBW.out.size))
          have hkx := hk.below HBX.out
          have HKX := Kept.mk hkx
          clear hbf hkx hk HX HBW
          have hll : (List.replicate a.length c).length = a.length := by simp
          generalize List.replicate a.length c = M at *
          have HM := Kept.mk hll; clear hll
          have HL := Kept.mk hL; clear hL
          go_wp2_with fail
          refine (equal_any a b _ (by omega) (by omega)).mono ?_
          rintro e w3 ⟨rfl, hb3⟩
          have HB3 := Kept.mk (HBX.out.trans (hb3.mono HBX.out.size))
          have HK3 := Kept.mk (HKX.out.below hb3)
          have hxs := (HXX.out.below hb3).string
          have hys := (HY.out.below hb3).string
          clear HXX HY HBX HKX hb3
          go_wp2_with fail
          clear hxs hys
          refine (equal_any M L w3 (by have := HM.out; omega) (by have := HL.out; omega)).mono ?_
          rintro e w4 ⟨rfl, hb4⟩
          have HB4 := Kept.mk (HB3.out.trans (hb4.mono HB3.out.size))
          have HK4 := Kept.mk (HK3.out.below hb4)
          clear HB3 HK3 hb4
          rw [HM.out, HL.out]
          clear HM HL
          generalize decide (M = L) = d1
          generalize decide (a = b) = d2
          by_cases hab : a.length < b.length
          · rw [Nat.max_eq_right (show a.length ≤ b.length by omega)]
            go_wp2_with fail
            refine (macAwake_any w4 HK4.out).mono ?_
            rintro e w5 ⟨rfl, hb5⟩
            have HB5 := Kept.mk (HB4.out.trans (hb5.mono HB4.out.size))
            clear hb5
            go_wp2_with fail
            go_ret
            exact ⟨rfl, HB5.out⟩
          · rw [Nat.max_eq_left (show b.length ≤ a.length by omega)]
            go_wp2_with fail
            refine (macAwake_any w4 HK4.out).mono ?_
            rintro e w5 ⟨rfl, hb5⟩
            have HB5 := Kept.mk (HB4.out.trans (hb5.mono HB4.out.size))
            clear hb5
            go_wp2_with fail
            go_ret
            exact ⟨rfl, HB5.out⟩
end Go.Proofs.YtihhjjcghocgaaaDoor
