/- SHA-256: texts of any length about a multiple of 64 bytes: walked by the contracts. -/
import Derived.Test.YtfplagbjcilpjaaDoorMerA
import Derived.Test.YtfplagbjcilpjaaDoorRfD
import Derived.Test.YtfplagbjcilpjaaDoorShW
import Derived.Deep.RegionHeld3
namespace Go.Proofs.YtfplagbjcilpjaaDoor
set_option linter.unusedVariables false
set_option linter.unusedSimpArgs false
open Go.RowKit Go.Lib
theorem RowAt.drewE {w : World} {A : Option Addr} {xs : List Value} (h : RowAt w A xs) : RowAt w.drew A xs := fun hx => h hx
theorem below_nextE {w X w' : World} (h : Below w.heap.size w X) (hb : Below X.heap.size X w') : Below w.heap.size w w' := h.trans (hb.mono h.size)
theorem below_allocE {w X : World} (h : Below w.heap.size w X) (o : Obj) : Below w.heap.size w (X.alloc o) := h.alloc h.size o
theorem e_sum1 (l : List UInt8) (W : World) (T : TypeId) (hk : KAt (W.alloc (.cells #[.string (str l)] T))) (hl : l.length ≤ 900000000) : Calls Tryd.prog 34 #[.slice (some ⟨W.heap.size, 0, none⟩) 1 1] (W.alloc (.cells #[.string (str l)] T)) fun e w' => e = .returned (.string (str (sSum l))) ∧ Below (W.alloc (.cells #[.string (str l)] T)).heap.size (W.alloc (.cells #[.string (str l)] T)) w' :=
  (shaSum_any _ 1 [l] _ (row_new W [l] T) hk (by simp; omega) (by simp)).mono fun e w' h => ⟨by rw [h.1]; simp, h.2⟩
theorem e_sum1d (l : List UInt8) (W : World) (T : TypeId) (hk : KAt W) (hl : l.length ≤ 900000000) : Calls Tryd.prog 34 #[.slice (some ⟨W.heap.size, 0, none⟩) 1 1] (W.alloc (.cells #[.string (str l)] T)).drew fun e w' => e = .returned (.string (str (sSum l))) ∧ Below (W.alloc (.cells #[.string (str l)] T)).drew.heap.size (W.alloc (.cells #[.string (str l)] T)).drew w' :=
  (shaSum_any _ 1 [l] (W.alloc (.cells #[.string (str l)] T)).drew (row_new W [l] T).drewE (hk.alloc _).drew (by simp; omega) (by simp)).mono fun e w' h => ⟨by rw [h.1]; simp, h.2⟩
theorem e_sum2 (l m : List UInt8) (W : World) (T : TypeId) (hk : KAt (W.alloc (.cells #[.string (str l), .string (str m)] T))) (hl : l.length + m.length ≤ 900000000) : Calls Tryd.prog 34 #[.slice (some ⟨W.heap.size, 0, none⟩) 2 2] (W.alloc (.cells #[.string (str l), .string (str m)] T)) fun e w' => e = .returned (.string (str (sSum (l ++ m)))) ∧ Below (W.alloc (.cells #[.string (str l), .string (str m)] T)).heap.size (W.alloc (.cells #[.string (str l), .string (str m)] T)) w' :=
  (shaSum_any _ 2 [l, m] _ (row_new W [l, m] T) hk (by simp; omega) (by simp)).mono fun e w' h => ⟨by rw [h.1]; simp, h.2⟩
theorem str_dropE (r : List UInt8) (n : Nat) (h : n ≤ r.length) : (str r).extract n r.length = str (r.drop n) := by
  apply ByteArray.ext; apply Array.toList_inj.1
  rw [ByteArray.data_extract, Array.toList_extract]
  show (r.extract n r.length) = r.drop n
  rw [List.extract_eq_take_drop, List.take_of_length_le (by rw [List.length_drop]; exact Nat.le_refl _)]
attribute [local irreducible] str sSum
set_option maxRecDepth 100000 in
set_option maxHeartbeats 1000000 in
theorem shaEdges_w {W : World} (b : Int) (hb : (Lit.int .i64 b).wf = true) (o : Int) (ho : (Lit.int .i64 o).wf = true) (x : Int) (hx : (Lit.int .u8 x).wf = true) (hk : KAt W) :
    Calls Tryd.prog 10 #[.int .i64 b, .int .i64 o, .int .u8 x] W fun e w' => e = .returned (.bool true) ∧ Below W.heap.size W w' := by
  obtain ⟨x0, x1⟩ := bounds_u8 hx
  obtain ⟨c, rfl⟩ : ∃ c : UInt8, x = c.toNat := ⟨byt x, by have := byt_toNat x; omega⟩
  obtain ⟨i0, hi, hz0, hz1, hz2⟩ := info_parts infoByte
  have h1 := and_mask b 2 (by omega) 3 rfl
  have h2 := and_mask o 7 (by omega) 127 rfl
  simp only [Int.reducePow, Nat.reducePow] at h1 h2
  obtain ⟨p, hp⟩ : ∃ p : Nat, b % ((4 : Nat) : Int) = p := ⟨(b % 4).toNat, by omega⟩
  obtain ⟨q, hq⟩ : ∃ q : Nat, o % ((128 : Nat) : Int) = q := ⟨(o % 128).toNat, by omega⟩
  rw [hp] at h1
  rw [hq] at h2
  have p1 : p ≤ 3 := by omega
  have q1 : q ≤ 127 := by omega
  clear hp hq hx hb ho x0 x1
  have hr := byte_range c
  have HK := Kept.mk (fun w' (h : Below W.heap.size W w') => hk.below h)
  clear hk
  go_enter Tryd.func10, Tryd.ntmps10
  go_upto_region 2 with fail
  obtain ⟨n, hn⟩ : ∃ n : Nat, (p : Int) * 64 + (q : Int) = n := ⟨p * 64 + q, by omega⟩
  rw [hn]
  have hn9 : n ≤ 400 := by omega
  clear h1 h2 hn p1 q1
  go_wp2_with fail
  go_loopw [8, 9] (fun v i wr => ∃ k : Nat, k ≤ n ∧ i = .int .i64 k ∧ Buf W wr v (List.replicate k c)) (fun _ i _ => n - (RowKit.intOf i).toNat)
  case atStart => exact ⟨0, by omega, rfl, buf_nil (Below.refl _ _)⟩
  case round =>
    obtain ⟨k, hka, rfl, hbf⟩ := hrel
    by_cases hlt : k < n
    · have hbf : OwnBuf W.heap.size 5 _ (List.replicate k c).length (Lib.byteCells (List.replicate k c)) W wr := hbf
      have hlr : (List.replicate k c).length = k := by simp
      have HN := Kept.mk (show List.replicate k c ++ [c] = List.replicate (k + 1) c from (List.replicate_succ').symm)
      generalize List.replicate k c = L at *
      go_wp2_with (at_builtin; refine Lib.wpList_append_byte rfl (.tmp 22) (.tmp 24) 48 rfl W.heap.size 5 i0 Tryd.underlying48 hi hz0 hz1 hz2 _ _ _ rfl W _ _ hbf rfl ?_ ?_; omega; intro v' w' ho)
      exact ⟨⟨k + 1, by omega, by go_num, Buf.is (Buf.byte (d := c) ho rfl) HN.out⟩, by simp [RowKit.intOf]; omega⟩
    · have hkl : k = n := by omega
      subst hkl
      have hcv := hbf.string
      have HB := Kept.mk hbf.2.1
      have hll : (List.replicate k c).length = k := by simp
      generalize List.replicate k c = L at *
      subst hll
      generalize wr = W9 at *
      clear hbf hi hz0 hz1 hz2 hr hka hlt
      have t1 := str_take L (L.length / 2) (by omega)
      have t2 := str_dropE L (L.length / 2) (by omega)
      have s0 := str_size L
      have hap := List.take_append_drop (L.length / 2) L
      have l1 : (L.take (L.length / 2)).length ≤ 400 := by rw [List.length_take]; omega
      have l2 : (L.drop (L.length / 2)).length ≤ 400 := by rw [List.length_drop]; omega
      generalize L.take (L.length / 2) = L1 at *
      generalize L.drop (L.length / 2) = L2 at *
      have hdv : (L.length : Int).tdiv 2 = ((L.length / 2 : Nat) : Int) := by rw [Int.tdiv_eq_ediv_of_nonneg (by omega)]; omega
      have hmle : L.length / 2 ≤ L.length := by omega
      have hln : L.length ≤ 400 := hn9
      generalize L.length / 2 = m at *
      have hdw := wrap_i64_small (m : Int) (by omega) (by omega)
      have hdx : IntKind.i64.wrap ((L.length : Int).tdiv 2) = (m : Int) := by rw [hdv]; exact hdw
      have hd1 : (0 : Int) ≤ (m : Int) := by omega
      have hd2 : (m : Int) ≤ (L.length : Int) := by omega
      have hd3 : ((m : Int)).toNat = m := by omega
      have hk9 := fun (w' : World) (h : Below W9.heap.size W9 w') => HK.out w' (HB.out.trans (h.mono HB.out.size))
      have HS1 := Kept.mk (fun w' (h : Below W9.heap.size W9 (w'.alloc (.cells #[.string (str L)] 9))) => e_sum1 L w' 9 (hk9 _ h) (by omega))
      have HS1d := Kept.mk (fun w' (h : Below W9.heap.size W9 w') => e_sum1d L w' 9 (hk9 w' h) (by omega))
      have hs2 := fun w' (h : Below W9.heap.size W9 (w'.alloc (.cells #[.string (str L1), .string (str L2)] 9))) => e_sum2 L1 L2 w' 9 (hk9 _ h) (by omega)
      rw [hap] at hs2
      have HS2 := Kept.mk hs2
      have HR := Kept.mk (fun w' => refSum_any L w' (by omega))
      have HA := Kept.mk (fun w' (h : Below W9.heap.size W9 w') => shaAwake_any w' (hk9 w' h))
      clear hs2 hap hk9
      generalize sSum L = Z at *
      go_wp2_with fail
      clear hcv
      go_region_held3 (fun w' => Below W9.heap.size W9 w')
        (first
          | exact (Below.refl _ _).drew
          | exact below_nextE (by assumption) hbA
          | exact below_allocE (by assumption) _
          | assumption)
        (first
          | (go_at_call 34; (first | (with_reducible refine (HS1.out _ (by assumption)).mono ?_) | (with_reducible refine (HS1d.out _ (Below.refl _ _)).mono ?_) | (with_reducible refine (HS2.out _ (by assumption)).mono ?_)); rintro e wA ⟨rfl, hbA⟩)
          | (go_at_call 35; (with_reducible refine (HR.out _).mono ?_); rintro e wA ⟨rfl, hbA⟩)
          | (go_at_call 36; (with_reducible refine (HA.out _ (by assumption)).mono ?_); rintro e wA ⟨rfl, hbA⟩))
      all_goals
        have HE := Kept.mk (HB.out.trans ((show Below W9.heap.size W9 _ by assumption).mono HB.out.size))
        go_wp2_with fail
        go_ret
        exact ⟨rfl, HE.out⟩
end Go.Proofs.YtfplagbjcilpjaaDoor
