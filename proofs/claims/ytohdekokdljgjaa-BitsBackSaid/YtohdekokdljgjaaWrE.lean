/- bits: the document's writer: Text and Bytes, each by a contract. -/
import Derived.Test.YtohdekokdljgjaaWrD
namespace Go.Proofs.Ytohdekokdljgjaa
set_option linter.unusedVariables false
set_option linter.unusedSimpArgs false
open Go.RowKit Go.Lib
theorem ct_8 : ct 8 = 8 := by decide
theorem txB_snoc (s : List UInt8) (i : Nat) (h : i < s.length) : txB (s.take i) ++ lowB (s[i].toNat : Int) 8 = txB (s.take (i + 1)) := by
  rw [List.take_add_one, List.getElem?_eq_getElem h, txB_app]
  show _ = _ ++ txB [s[i]]
  rw [txB, txB, List.append_nil]
theorem txB_zero (s : List UInt8) : txB (s.take 0) = [] := rfl
theorem str_at (l : List UInt8) (i : Nat) (h : i < l.length) (h2 : i < (str l).size) : (str l)[i] = l[i] := rfl
/-- the bytes ahead of the i-th bit's own -/
def pza (L : List Nat) (i : Nat) : List UInt8 := if i % 8 = 0 then packTo L i ++ [0] else packTo L i
theorem pza_length (L : List Nat) (i : Nat) : (pza L i).length = i / 8 + 1 := by
  unfold pza
  by_cases h : i % 8 = 0
  · rw [if_pos h, List.length_append, packTo_length, List.length_singleton]; omega
  · rw [if_neg h, packTo_length]; omega
theorem pza_put (L : List Nat) (i : Nat) : (pza L i).set (i / 8) ((pza L i).getD (i / 8) 0 ||| UInt8.ofNat (L.getD i 0 * 2 ^ (i % 8))) = packTo L (i + 1) := rfl
theorem set_same (z : List UInt8) (k : Nat) : z.set k (z.getD k 0) = z := by
  apply List.ext_getElem?
  intro i
  rw [List.getElem?_set]
  by_cases hi : k = i
  · subst hi
    by_cases hl : k < z.length
    · simp [hl, List.getD_eq_getElem?_getD]
    · simp [hl]
  · simp [hi]
theorem pza_none (L : List Nat) (i : Nat) (h : L.getD i 0 = 0) : pza L i = packTo L (i + 1) := by
  rw [← pza_put, h, Nat.zero_mul, show UInt8.ofNat 0 = 0 from rfl, or_zero8, set_same]
theorem row_get0 {w : World} {g : Nat} {xs : List Value} (h : RowAt w (some ⟨g, 0, none⟩) xs) {j : Nat} {u : Value} (hu : xs[j]? = some u) : w.cell? ⟨g, j, none⟩ = some u := by
  have hx : 0 < xs.length := by
    have := (List.getElem?_eq_some_iff.1 hu).1; omega
  obtain ⟨ad2, e, _, hc⟩ := h hx
  cases e
  have h2 := hc j u hu
  rwa [at_add] at h2
attribute [local irreducible] pk packTo pza lowB highB vb1 alg upTo txB str
set_option maxRecDepth 100000 in
theorem refWText_any (w W : World) (g : Nat) (v : Value) (L : List Nat) (s : List UInt8) (hs : WR w W g v L) (hL : L.length ≤ 800000) (hsl : s.length ≤ 1000) :
    Calls Try.prog 48 #[.pointer (some ⟨g, 0, none⟩), .string (str s)] W fun e W' => e = .returned (.tuple #[]) ∧ ∃ v', WR w W' g v' (alg L ++ txB s) ∧ Tn g v W v' W' := by
  have hss := str_size s
  have HS := Kept.mk hs
  clear hs
  go_enter Try.func48, Try.ntmps48
  go_wp2_with fail
  with_reducible refine (refWAlign_any w W g v L HS.out (by omega)).mono ?_
  rintro e w1 ⟨rfl, v1, hs1, ht1⟩
  have hal : (alg L).length ≤ 800008 := by rw [alg_length]; unfold upTo; omega
  generalize hme : alg L = M at *
  have HME := Kept.mk hme
  have HS1 := Kept.mk hs1
  have HT1 := Kept.mk ht1
  have HTL := Kept.mk (txB_length)
  clear hme HS hs1 ht1
  go_wp2_with fail
  go_loopw [4] (fun c wr => ∃ (i : Nat) (v' : Value), i ≤ s.length ∧ c = .int .i64 i ∧ WR w wr g v' (M ++ txB (s.take i)) ∧ Tn g v W v' wr) (fun c _ => s.length - (RowKit.intOf c).toNat)
  case atStart => exact ⟨0, v1, by omega, rfl, by rw [txB_zero, List.append_nil]; exact HS1.out, HT1.out⟩
  case round =>
    clear HS1 HT1
    obtain ⟨i, v', hi, rfl, hs, ht⟩ := hrel
    have HS := Kept.mk hs
    have HT := Kept.mk ht
    clear hs ht
    by_cases hlt : i < s.length
    · have hii : (i : Int) < (s.length : Int) := by omega
      have hg := str_at s i hlt (by rw [hss]; exact hlt)
      have HN := Kept.mk (show M ++ txB (s.take i) ++ lowB (s[i].toNat : Int) (ct 8) = M ++ txB (s.take (i + 1)) from by rw [ct_8, List.append_assoc, txB_snoc s i hlt])
      generalize s[i] = c at *
      obtain ⟨b0, b1⟩ := byte_range c
      go_wp2_with fail
      with_reducible refine (refWPut_any w wr g v' (M ++ txB (s.take i)) (c.toNat : Int) 8 HS.out (by rw [List.length_append, HTL.out, List.length_take]; omega)).mono ?_
      rintro e w2 ⟨rfl, v2, hs2, ht2⟩
      rw [HN.out] at hs2
      have HS2 := Kept.mk hs2
      have HT2 := Kept.mk (HT.out.trans ht2)
      clear hs2 ht2 HS HT
      go_wp2_with fail
      exact ⟨⟨i + 1, v2, by omega, by push_cast; rfl, HS2.out, HT2.out⟩, by show s.length - ((i : Int) + 1).toNat < s.length - ((i : Nat) : Int).toNat; omega⟩
    · have hii : ¬ (i : Int) < (s.length : Int) := by omega
      obtain rfl : i = s.length := by omega
      rw [List.take_length] at HS
      go_wp2_with fail
      go_returns
      exact ⟨rfl, v', by rw [HME.out]; exact HS.out, HT.out⟩
set_option maxRecDepth 100000 in
set_option maxHeartbeats 2000000 in
theorem refWBytes_any (w W : World) (g : Nat) (v : Value) (L : List Nat) (hs : WR w W g v L) (h2 : Two01 L) (hL : L.length ≤ 900000) :
    Calls Try.prog 16 #[.pointer (some ⟨g, 0, none⟩)] W fun e W' => e = .returned (.string (str (pk L))) ∧ Below W.heap.size W W' := by
  obtain ⟨A, cap, rfl, hcap⟩ := hs.vb.len
  have HPK := Kept.mk (show pk L = packTo L L.length from by unfold pk; rfl)
  have HP0 := Kept.mk (show packTo L 0 = [] from by unfold packTo; rfl)
  have c0 := Joins.cell_of_block hs.box 0
  have hgl := hs.lt
  have HS := Kept.mk hs
  have H2 := Kept.mk h2
  clear hs h2
  rw [ivs_length] at *
  go_enter Try.func16, Try.ntmps16
  go_wp2_with fail
  go_loopw [3, 4] (fun b c wr => ∃ i : Nat, i ≤ L.length ∧ c = .int .i64 i ∧ VB W wr b (Lib.byteCells (packTo L i))) (fun _ c _ => L.length - (RowKit.intOf c).toNat)
  case atStart => exact ⟨0, by omega, rfl, by rw [HP0.out]; exact vb_nil W⟩
  case round =>
    obtain ⟨i, hi, rfl, hb⟩ := hrel
    have d0 := (hb.1.cell (p := ⟨g, 0, none⟩) hgl).trans c0
    clear c0
    have HB := Kept.mk hb
    clear hb
    by_cases hlt : i < L.length
    · have hii : (i : Int) < (L.length : Int) := by omega
      have hi9 : (i : Int) ≤ 900000 := by omega
      obtain ⟨kb, cap2, hve, hgk, hgl2, hcap2, hrw⟩ := HS.out.vb.row (by rw [ivs_length]; omega)
      rw [ivs_length] at hve
      cases hve
      have hkbl : kb < W.heap.size := hgl2
      have HE := Kept.mk (fun (wx : World) (hbx : Below W.heap.size W wx) => (row_get0 (hrw.below hbx) (ivs_get L i hlt) : wx.cell? ⟨kb, i, none⟩ = _))
      have HD := Kept.mk (fun (wx : World) (hbx : Below W.heap.size W wx) => ((hbx.cell (p := ⟨g, 0, none⟩) hgl).trans (Joins.cell_of_block HS.out.box 0)))
      clear hrw hcap2
      have hd2 : L.getD i 0 < 2 := by
        rw [List.getD_eq_getElem?_getD, List.getElem?_eq_getElem hlt]
        exact H2.out _ (List.getElem_mem hlt)
      go_upto_if 16 with fail
      go_cut [3] from 14 to 19 (fun s3 wx => VB W wx s3 (Lib.byteCells (pza L i)))
      case first =>
        by_cases h : i % 8 = 0
        · have h8 : (i : Int) % 8 = 0 := by omega
          have HZ := Kept.mk (show pza L i = packTo L i ++ [0] from by unfold pza; rw [if_pos h])
          have HLN := Kept.mk (packTo_length L i)
          go_wp2_with (at_builtin; refine zero_append rfl _ _ (by rfl) (w := W) (l := packTo L i) (by rfl) HB.out (by rfl) (by rw [HLN.out]; omega) ?_; intro v1 w1 hv1 hk1 hz1)
          go_meet
          rw [HZ.out]; exact hv1
        · have h8 : ¬ (i : Int) % 8 = 0 := by omega
          have HZ := Kept.mk (show pza L i = packTo L i from by unfold pza; rw [if_neg h])
          go_wp2_with fail
          go_meet
          rw [HZ.out]; exact HB.out
      case rest =>
      clear HB d0
      have hzl := pza_length L i
      obtain ⟨b2, cap3, rfl, hgb, hgbl, hcb, hrb⟩ := hcut.row (by rw [Lib.byteCells_length, hzl]; omega)
      have hql : i / 8 < (Lib.byteCells (pza L i)).length := by rw [Lib.byteCells_length, hzl]; omega
      obtain ⟨e0, nb, hput⟩ := hcut.place hql
      rw [byteCells_at] at e0
      have f0 := HE.out wc hcut.1
      have g0 := HD.out wc hcut.1
      have HPZ := Kept.mk (pza_put L i)
      have HPN := Kept.mk (pza_none L i)
      clear hrb
      rw [Lib.byteCells_length, hzl] at *
      have HCUT := Kept.mk hcut
      clear hcut
      by_cases hd : L.getD i 0 = 1
      · rw [hd] at f0 HPZ
        generalize hq : i / 8 = q at *
        obtain ⟨r, hr⟩ : ∃ r, i % 8 = r := ⟨_, rfl⟩
        rw [hr] at HPZ
        generalize hX : (pza L i).getD q 0 = X at *
        generalize hB : UInt8.ofNat (1 * 2 ^ r) = B at *
        have hBi := small_bit 1 r (by decide) (by omega)
        rw [hB] at hBi
        have hor := or_u8 X B
        have i1 : (i : Int) / 8 = (q : Int) := by omega
        have i2 : (i : Int) % 8 = (r : Int) := by omega
        have i3 : (r : Int) < 8 := by omega
        have i4 : (q : Int) ≤ 1000000 := by omega
        have i5 : (q : Int) < ((q + 1 : Nat) : Int) := by omega
        have wq := wrap_i64_small (q : Int) (by omega) (by omega)
        have w8B : IntKind.u8.wrap (B.toNat : Int) = (B.toNat : Int) := by rw [IntKind.wrap_u8]; have := B.toNat_lt; omega
        rw [hBi] at w8B hor
        have hi1 : ((1 : Nat) : Int) * 2 ^ r = 2 ^ r := by simp
        rw [hi1] at w8B hor hBi
        have i8 : (i : Int).tmod 8 = (r : Int) := by rw [Int.tmod_eq_emod_of_nonneg (by omega)]; exact i2
        have i9 : (0 : Int) ≤ (r : Int) := by omega
        have i10 : ((r : Int)).toNat = r := by omega
        have i6 : (0 : Int) ≤ (q : Int) := by omega
        have i7 : ((q : Int)).toNat = q := by omega
        clear hq hr hql hzl hi1 hd hd2
        generalize q + 1 = m at *
        go_wp2_with fail
        go_still_tail 13, (by kernel_rfl)
        change wpList _ _ _ _ _ (World.drew _)
        go_wp2_with fail
        have eo : (X.toNat ||| B.toNat) = (X ||| B).toNat := (UInt8.toNat_or X B).symm
        rw [eo]
        have hv2 := (hput (.int .u8 ((X ||| B).toNat : Int))).drew
        rw [byteCells_set, HPZ.out] at hv2
        exact ⟨⟨i + 1, hlt, by push_cast; rfl, hv2⟩, by show L.length - ((i : Int) + 1).toNat < L.length - ((i : Nat) : Int).toNat; omega⟩
      · have hd0 : L.getD i 0 = 0 := by omega
        rw [hd0] at f0
        rw [HPN.out hd0] at HCUT
        clear hput
        go_wp2_with fail
        exact ⟨⟨i + 1, hlt, by push_cast; rfl, HCUT.out⟩, by show L.length - ((i : Int) + 1).toNat < L.length - ((i : Nat) : Int).toNat; omega⟩
    · have hii : ¬ (i : Int) < (L.length : Int) := by omega
      obtain rfl : i = L.length := by omega
      have HST := Kept.mk HB.out.string
      go_wp2_with (rw [HST.out])
      go_ret
      exact ⟨by rw [HPK.out]; rfl, HB.out.1⟩
end Go.Proofs.Ytohdekokdljgjaa
