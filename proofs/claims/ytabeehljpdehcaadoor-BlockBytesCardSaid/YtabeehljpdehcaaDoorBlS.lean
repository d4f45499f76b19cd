/- Blocks: what is sealed is opened as it was; turned tags; bytes: walked by the contracts. -/
import Derived.Test.YtabeehljpdehcaaDoorBlR
import Derived.Test.YtabeehljpdehcaaDoorShaK
namespace Go.Proofs.YtabeehljpdehcaaDoor
section
set_option linter.unusedVariables false
set_option linter.unusedSimpArgs false
open Go.RowKit Go.Lib
theorem three_set (W : World) (g : Nat) (T : TypeId) (c0 c1 c2 a0 : Value) (h : W.heap[g]? = some (.cells #[c0, c1, c2] T (0, 0))) :
    (W.setCell ⟨g, 0, none⟩ a0).heap[g]? = some (.cells #[a0, c1, c2] T (0, 0)) := Joins.block_setCell (i := 0) h a0
theorem three_free0 {X : World} {g : Nat} {T : TypeId} {a0 a1 a2 : Value} (h : X.heap[g]? = some (.cells #[a0, a1, a2] T (0, 0))) : X.frozen? ⟨g, 0, none⟩ = false := Joins.unfrozen_of_block h 0
attribute [local irreducible] str sS sE aS aE oS oE sz sg bSeal bTurn bTag

set_option maxRecDepth 100000 in
set_option maxHeartbeats 4000000 in
theorem blockBack_w {W : World} (ke km kh : List UInt8) (hP : ke.length ≤ 9223372036854775807 ∧ km.length ≤ 9223372036854775807 ∧ kh.length ≤ 9223372036854775807) (i : Int) (hi : (Lit.int .i64 i).wf = true) (s : List UInt8) (zs : s.length ≤ 140737488351232) (hk : KAt W) :
    Calls Tryd.prog 7 #[.agg #[.string (str ke), .string (str km), .string (str kh)], .int .i64 i, .string (str s)] W fun e w' => e = .returned (.bool true) ∧ Below W.heap.size W w' := by
  obtain ⟨z1, z2, z3⟩ := hP
  have hA := hnew W (.cells #[.string (str ke), .string (str km), .string (str kh)] 36)
  have hB := bnew W (.cells #[.string (str ke), .string (str km), .string (str kh)] 36)
  generalize hW : W.alloc (.cells #[.string (str ke), .string (str km), .string (str kh)] 36) = W1 at *
  have HW := Kept.mk hW
  have HS := Kept.mk (fun w' (h : Below W1.heap.size W1 w') => show w'.cell? ⟨W.heap.size, 0, none⟩ = some (.string (str ke)) ∧ w'.cell? ⟨W.heap.size, 1, none⟩ = some (.string (str km)) ∧ w'.cell? ⟨W.heap.size, 2, none⟩ = some (.string (str kh)) from three_atB (hkept hA h))
  have HA := Kept.mk hA
  have HB := Kept.mk (fun w' (h : Below W.heap.size W1 w') => hB.trans h)
  have HK := Kept.mk (fun w' (h : Below W.heap.size W1 w') => hk.below (hB.trans h))
  have h1s := hB.size
  clear hA hB hW hk hi
  by_cases hl : ke.length ≤ 100 ∧ km.length ≤ 1000 ∧ s.length ≤ 1000
  · have HL := Kept.mk (fun w' => short_yes ke km kh s w' hl)
    have H32 := Kept.mk (fun w' => sized_32 ke w' (by omega))
    have H192 := Kept.mk (fun w' => sized_192 s w' (by omega))
    have l1 := sz_length ke 32
    have l2 := sz_length s 192
    obtain ⟨y1, y2, y3⟩ := hl
    clear z1 z2 z3 zs y1 y3
    generalize sz ke 32 = k2 at *
    generalize sz s 192 = c at *
    have HSY := Kept.mk (fun (h : 0 ≤ i ∧ i < 256) w' hk => Seal_yes k2 km kh i c w' hk ⟨l1, h⟩ l2 y2)
    have HSN := Kept.mk (fun (h : ¬ (0 ≤ i ∧ i < 256)) w' => Seal_no k2 km kh i c w' (fun h2 => h h2.1.2) (by omega) (by omega))
    have HO := Kept.mk (fun (h : 0 ≤ i ∧ i < 256) w' hk => Open_all k2 km kh i (bSeal k2 km i c) w' hk ⟨l1, h⟩ (by rw [bSeal_length]; omega) y2)
    obtain ⟨e1, e2⟩ := open_seal k2 km i c l2
    rw [e1, e2] at HO
    have s1 := str_size (bSeal k2 km i c)
    rw [bSeal_length, l2] at s1
    have hbe := bytes_beq (str c)
    clear e1 e2 l1 l2 y2
    generalize bSeal k2 km i c = R at *
    by_cases hr : 0 ≤ i ∧ i < 256
    · have HO := Kept.mk (HO.out hr)
      have HSY := Kept.mk (HSY.out hr)
      obtain ⟨r1, r2⟩ := hr
      go_enter Tryd.func7, Tryd.ntmps7
      go_upto_region 1 with fail
      rw [HW.out]
      obtain ⟨c0, c1, c2⟩ := HS.out _ (Below.refl _ _)
      go_wp2_with fail
      with_reducible refine (HL.out _).mono ?_
      rintro e w1 ⟨rfl, b1⟩
      clear c0 c1 c2
      obtain ⟨c0, c1, c2⟩ := HS.out _ b1
      go_wp2_with fail
      with_reducible refine (H32.out _).mono ?_
      rintro e w2 ⟨rfl, b⟩
      have b2 := bnext b1 b
      have hA2 := hkept HA.out b2
      have f2 := three_free0 hA2
      have hA3 := three_set w2 W.heap.size _ _ _ _ (.string (str k2)) hA2
      have b3 : Below W.heap.size W1 (w2.setCell ⟨W.heap.size, 0, none⟩ (.string (str k2))) := (b2.mono h1s).setCell (Nat.le_refl _) _
      clear b b1 b2 c0 c1 c2
      obtain ⟨c0, c1, c2⟩ := three_atB hA2
      have HA3 := Kept.mk hA3
      have HB3 := Kept.mk b3
      clear hA2 hA3 b3
      go_upto_region 4 with fail
      have hA3 := HA3.out
      have b3 := HB3.out
      clear HA3 HB3 c0 c1 c2 f2
      generalize w2.setCell ⟨W.heap.size, 0, none⟩ (.string (str k2)) = W3 at *
      go_wp2_with fail
      with_reducible refine (H192.out _).mono ?_
      rintro e w4 ⟨rfl, b⟩
      have b4 := b3.trans (b.mono (Nat.le_trans h1s b3.size))
      have hA4 := hkept hA3 b
      clear b b3 hA3
      obtain ⟨c0, c1, c2⟩ := three_atB hA4
      have HA4 := Kept.mk hA4
      clear hA4
      go_wp2_with fail
      with_reducible refine (HSY.out _ (HK.out _ b4)).mono ?_
      rintro e w5 ⟨rfl, b⟩
      have b5 := b4.trans (b.mono (Nat.le_trans h1s b4.size))
      have hA5 := hkept HA4.out b
      clear b b4 HA4 c0 c1 c2
      obtain ⟨c0, c1, c2⟩ := three_atB hA5
      clear hA5
      go_wp2_with fail
      with_reducible refine (HO.out _ (HK.out _ b5)).mono ?_
      rintro e w6 ⟨rfl, b⟩
      have b6 := b5.trans (b.mono (Nat.le_trans h1s b5.size))
      clear b b5 c0 c1 c2
      go_wp2_with fail
      with_reducible refine (blAwake_any _ (HK.out _ b6)).mono ?_
      rintro e w7 ⟨rfl, b⟩
      have HB7 := Kept.mk (HB.out _ (b6.trans (b.mono (Nat.le_trans h1s b6.size))))
      clear b b6
      go_wp2_with fail
      go_ret
      exact ⟨rfl, HB7.out⟩
    · have HSN := Kept.mk (HSN.out hr)
      clear HSY HO
      by_cases hi0 : i < 0
      all_goals
        go_enter Tryd.func7, Tryd.ntmps7
        go_upto_region 1 with fail
        rw [HW.out]
        obtain ⟨c0, c1, c2⟩ := HS.out _ (Below.refl _ _)
        go_wp2_with fail
        with_reducible refine (HL.out _).mono ?_
        rintro e w1 ⟨rfl, b1⟩
        clear c0 c1 c2
        obtain ⟨c0, c1, c2⟩ := HS.out _ b1
        go_wp2_with fail
        with_reducible refine (H32.out _).mono ?_
        rintro e w2 ⟨rfl, b⟩
        have b2 := bnext b1 b
        have hA2 := hkept HA.out b2
        have f2 := three_free0 hA2
        have hA3 := three_set w2 W.heap.size _ _ _ _ (.string (str k2)) hA2
        have b3 : Below W.heap.size W1 (w2.setCell ⟨W.heap.size, 0, none⟩ (.string (str k2))) := (b2.mono h1s).setCell (Nat.le_refl _) _
        clear b b1 b2 c0 c1 c2
        obtain ⟨c0, c1, c2⟩ := three_atB hA2
        have HA3 := Kept.mk hA3
        have HB3 := Kept.mk b3
        clear hA2 hA3 b3
        go_upto_region 4 with fail
        have hA3 := HA3.out
        have b3 := HB3.out
        clear HA3 HB3 c0 c1 c2 f2
        generalize w2.setCell ⟨W.heap.size, 0, none⟩ (.string (str k2)) = W3 at *
        go_wp2_with fail
        with_reducible refine (H192.out _).mono ?_
        rintro e w4 ⟨rfl, b⟩
        have b4 := b3.trans (b.mono (Nat.le_trans h1s b3.size))
        have hA4 := hkept hA3 b
        clear b b3 hA3
        obtain ⟨c0, c1, c2⟩ := three_atB hA4
        clear hA4
        go_wp2_with fail
        with_reducible refine (HSN.out _).mono ?_
        rintro e w5 ⟨rfl, b⟩
        have b5 := b4.trans (b.mono (Nat.le_trans h1s b4.size))
        clear b b4 c0 c1 c2
        first
          | (have hi2 : 256 ≤ i := by omega
             clear hr
             go_wp2_with fail
             with_reducible refine (blAwake_any _ (HK.out _ b5)).mono ?_)
          | (clear hr
             go_wp2_with fail
             with_reducible refine (blAwake_any _ (HK.out _ b5)).mono ?_)
        rintro e w7 ⟨rfl, b⟩
        have HB7 := Kept.mk (HB.out _ (b5.trans (b.mono (Nat.le_trans h1s b5.size))))
        clear b b5
        go_wp2_with fail
        go_ret
        exact ⟨rfl, HB7.out⟩
  · have HL := Kept.mk (fun w' => short_no ke km kh s w' hl z1 z2 (by omega))
    clear hl z1 z2 z3 zs
    go_enter Tryd.func7, Tryd.ntmps7
    go_upto_region 1 with fail
    rw [HW.out]
    obtain ⟨c0, c1, c2⟩ := HS.out _ (Below.refl _ _)
    go_wp2_with fail
    with_reducible refine (HL.out _).mono ?_
    rintro e w1 ⟨rfl, b1⟩
    have b1 := b1.mono h1s
    clear c0 c1 c2
    go_wp2_with fail
    with_reducible refine (blAwake_any _ (HK.out _ b1)).mono ?_
    rintro e w7 ⟨rfl, b⟩
    have HB7 := Kept.mk (HB.out _ (b1.trans (b.mono (Nat.le_trans h1s b1.size))))
    clear b b1
    go_wp2_with fail
    go_ret
    exact ⟨rfl, HB7.out⟩
end
section
set_option linter.unusedVariables false
set_option linter.unusedSimpArgs false
open Go.RowKit Go.Lib
theorem set_neB (l : List UInt8) (i : Nat) (c : UInt8) (hi : i < l.length) (hc : c ≠ 0) : l.set i (l[i] ^^^ c) ≠ l := by
  intro h
  have h2 := congrArg (fun m : List UInt8 => m[i]?) h
  simp only [List.getElem?_set, hi, if_true, List.getElem?_eq_getElem hi, Option.some.injEq] at h2
  apply hc
  have h3 : l[i] ^^^ (l[i] ^^^ c) = l[i] ^^^ l[i] := by rw [h2]
  rwa [← UInt8.xor_assoc, UInt8.xor_self, UInt8.zero_xor] at h3
theorem seal_drop (ke km : List UInt8) (i : Int) (c : List UInt8) (h : c.length = 192) : (bSeal ke km i c).drop 192 = bTag km i (bTurn ke i c) := by
  rw [bSeal, List.drop_append_of_le_length (by rw [bTurn_length]; omega), List.drop_of_length_le (by rw [bTurn_length]; omega), List.nil_append]
theorem open_turned (ke km : List UInt8) (i : Int) (c : List UInt8) (h : c.length = 192) (j : Nat) (hj : j < 32) (x : UInt8) (hx : x ≠ 0) (hl : 192 + j < (bSeal ke km i c).length) :
    oS ke km i ((bSeal ke km i c).set (192 + j) ((bSeal ke km i c)[192 + j] ^^^ x)) = ByteArray.mk #[] ∧ oE km i ((bSeal ke km i c).set (192 + j) ((bSeal ke km i c)[192 + j] ^^^ x)) = 4 := by
  refine o_no ?_
  have e1 : ((bSeal ke km i c).set (192 + j) ((bSeal ke km i c)[192 + j] ^^^ x)).take 192 = bTurn ke i c := by
    rw [List.take_set_of_le (by omega), seal_take _ _ _ _ h]
  intro h2
  refine set_neB (bSeal ke km i c) (192 + j) x hl hx ?_
  rw [← List.take_append_drop 192 ((bSeal ke km i c).set (192 + j) ((bSeal ke km i c)[192 + j] ^^^ x)), h2, e1, ← seal_drop ke km i c h, ← seal_take ke km i c h, List.take_append_drop]
attribute [local irreducible] str sS sE aS aE oS oE sz sg bSeal bTurn bTag

set_option maxRecDepth 100000 in
set_option maxHeartbeats 4000000 in
theorem blockTags_w {W : World} (ke km kh : List UInt8) (hP : ke.length ≤ 9223372036854775807 ∧ km.length ≤ 9223372036854775807 ∧ kh.length ≤ 9223372036854775807) (i : Int) (hi : (Lit.int .i64 i).wf = true) (s : List UInt8) (zs : s.length ≤ 140737488351232) (at_ : Int) (hat : (Lit.int .i64 at_).wf = true) (x : Int) (hx : (Lit.int .u8 x).wf = true) (hk : KAt W) :
    Calls Tryd.prog 8 #[.agg #[.string (str ke), .string (str km), .string (str kh)], .int .i64 i, .string (str s), .int .i64 at_, .int .u8 x] W fun e w' => e = .returned (.bool true) ∧ Below W.heap.size W w' := by
  obtain ⟨z1, z2, z3⟩ := hP
  obtain ⟨x0, x1⟩ := bounds_u8 hx
  obtain ⟨c, rfl⟩ : ∃ c : UInt8, x = c.toNat := ⟨byt x, by have := byt_toNat x; omega⟩
  have hm := and_mask at_ 5 (by omega) 31 rfl
  have hn := and_mask i 8 (by omega) 255 rfl
  simp only [Int.reducePow, Nat.reducePow] at hm hn
  obtain ⟨j, hj⟩ : ∃ j : Nat, at_ % ((32 : Nat) : Int) = j := ⟨(at_ % 32).toNat, by omega⟩
  obtain ⟨n, hn2⟩ : ∃ n : Nat, i % ((256 : Nat) : Int) = n := ⟨(i % 256).toNat, by omega⟩
  rw [hj] at hm
  rw [hn2] at hn
  have hj1 : j < 32 := by omega
  have hn1 : n < 256 := by omega
  clear hj hx hat x0 x1 hn2 hi
  have hA := hnew W (.cells #[.string (str ke), .string (str km), .string (str kh)] 36)
  have hB := bnew W (.cells #[.string (str ke), .string (str km), .string (str kh)] 36)
  generalize hW : W.alloc (.cells #[.string (str ke), .string (str km), .string (str kh)] 36) = W1 at *
  have HW := Kept.mk hW
  have HS := Kept.mk (fun w' (h : Below W1.heap.size W1 w') => show w'.cell? ⟨W.heap.size, 0, none⟩ = some (.string (str ke)) ∧ w'.cell? ⟨W.heap.size, 1, none⟩ = some (.string (str km)) ∧ w'.cell? ⟨W.heap.size, 2, none⟩ = some (.string (str kh)) from three_atB (hkept hA h))
  have HA := Kept.mk hA
  have HB := Kept.mk (fun w' (h : Below W.heap.size W1 w') => hB.trans h)
  have HK := Kept.mk (fun w' (h : Below W.heap.size W1 w') => hk.below (hB.trans h))
  have h1s := hB.size
  have hlt := (Array.getElem?_eq_some_iff.1 hA).1
  clear hA hB hW hk
  by_cases hl : ke.length ≤ 100 ∧ km.length ≤ 1000 ∧ s.length ≤ 1000
  · have HL := Kept.mk (fun w' => short_yes ke km kh s w' hl)
    by_cases hc : (c.toNat : Int) = 0
    · clear hl z1 z2 z3 zs
      rw [hc]
      clear hc
      go_enter Tryd.func8, Tryd.ntmps8
      go_upto_region 1 with fail
      rw [HW.out]
      obtain ⟨c0, c1, c2⟩ := HS.out _ (Below.refl _ _)
      go_wp2_with fail
      with_reducible refine (HL.out _).mono ?_
      rintro e w1 ⟨rfl, b1⟩
      have b1 := b1.mono h1s
      clear c0 c1 c2
      go_wp2_with fail
      with_reducible refine (blAwake_any _ (HK.out _ b1)).mono ?_
      rintro e w7 ⟨rfl, b⟩
      have HB7 := Kept.mk (HB.out _ (b1.trans (b.mono (Nat.le_trans h1s b1.size))))
      clear b b1
      go_wp2_with fail
      go_ret
      exact ⟨rfl, HB7.out⟩
    · have hc0 : c ≠ 0 := fun h => hc (by rw [h]; rfl)
      have hcb : ((c.toNat : Int) == 0) = false := by simp only [beq_eq_false_iff_ne, ne_eq]; exact hc
      have H32 := Kept.mk (fun w' => sized_32 ke w' (by omega))
      have H192 := Kept.mk (fun w' => sized_192 s w' (by omega))
      have l1 := sz_length ke 32
      have l2 := sz_length s 192
      obtain ⟨y1, y2, y3⟩ := hl
      clear z1 z2 z3 zs y1 y3 hc
      generalize sz ke 32 = k2 at *
      generalize sz s 192 = q at *
      have hok : bOk k2 (n : Int) := ⟨l1, by omega, by omega⟩
      have HSY := Kept.mk (fun w' hk => Seal_yes k2 km kh n q w' hk hok l2 y2)
      have lR := bSeal_length k2 km n q
      rw [l2] at lR
      simp only [Nat.reduceAdd] at lR
      have HO := Kept.mk (fun (r : List UInt8) (hr : r.length = 224) w' hk => Open_all k2 km kh n r w' hk hok hr y2)
      have HT := Kept.mk (fun h => open_turned k2 km n q l2 j hj1 c hc0 h)
      have s1 := str_size (bSeal k2 km n q)
      rw [lR] at s1
      clear hok y2 hc0 l1 l2
      generalize bSeal k2 km n q = R at *
      go_enter Tryd.func8, Tryd.ntmps8
      go_upto_region 1 with fail
      rw [HW.out]
      obtain ⟨c0, c1, c2⟩ := HS.out _ (Below.refl _ _)
      go_wp2_with fail
      with_reducible refine (HL.out _).mono ?_
      rintro e w1 ⟨rfl, b1⟩
      clear c0 c1 c2
      obtain ⟨c0, c1, c2⟩ := HS.out _ b1
      go_wp2_with fail
      with_reducible refine (H32.out _).mono ?_
      rintro e w2 ⟨rfl, b⟩
      have b2 := bnext b1 b
      have hA2 := hkept HA.out b2
      have f2 := three_free0 hA2
      have hA3 := three_set w2 W.heap.size _ _ _ _ (.string (str k2)) hA2
      have b3 : Below W.heap.size W1 (w2.setCell ⟨W.heap.size, 0, none⟩ (.string (str k2))) := (b2.mono h1s).setCell (Nat.le_refl _) _
      clear b b1 b2 c0 c1 c2
      obtain ⟨c0, c1, c2⟩ := three_atB hA2
      have HA3 := Kept.mk hA3
      have HB3 := Kept.mk b3
      clear hA2 hA3 b3
      go_upto_region 4 with fail
      have hA3 := HA3.out
      have b3 := HB3.out
      clear HA3 HB3 c0 c1 c2 f2
      generalize w2.setCell ⟨W.heap.size, 0, none⟩ (.string (str k2)) = W3 at *
      have KS := Kept.mk (fun w' (h : Below W3.heap.size W3 w') => show (w'.cell? ⟨W.heap.size, 0, none⟩ = some (.string (str k2)) ∧ w'.cell? ⟨W.heap.size, 1, none⟩ = some (.string (str km)) ∧ w'.cell? ⟨W.heap.size, 2, none⟩ = some (.string (str kh))) ∧ Below W3.heap.size W3 w' from ⟨three_atB (hkept hA3 h), h⟩)
      have KS1 := Kept.mk (fun w' (h : Below W3.heap.size W3 w') => show w'.cell? ⟨W.heap.size, 0, none⟩ = some (.string (str k2)) ∧ w'.cell? ⟨W.heap.size, 1, none⟩ = some (.string (str km)) ∧ w'.cell? ⟨W.heap.size, 2, none⟩ = some (.string (str kh)) from three_atB (hkept hA3 h))
      have HB3 := Kept.mk (fun w' (h : Below W3.heap.size W3 w') => b3.trans (h.mono (Nat.le_trans h1s b3.size)))
      have hs3 := b3.size
      clear hA3 b3 HA HS HL H32
      go_upto_region 6 with fail
      go_region_held3 (fun w' => (w'.cell? ⟨W.heap.size, 0, none⟩ = some (.string (str k2)) ∧ w'.cell? ⟨W.heap.size, 1, none⟩ = some (.string (str km)) ∧ w'.cell? ⟨W.heap.size, 2, none⟩ = some (.string (str kh))) ∧ Below W3.heap.size W3 w')
        (first
          | exact KS.out _ (Below.refl _ _).drew
          | (go_split_ands; exact KS.out _ (bnext (by assumption) hbA))
          | (go_split_ands; exact KS.out _ (by assumption)))
        (first
          | (go_at_call 25; with_reducible refine (H192.out _).mono ?_; rintro e wA ⟨rfl, hbA⟩)
          | (go_at_call 21; go_split_ands; with_reducible refine (HSY.out _ (HK.out _ (HB3.out _ (by assumption)))).mono ?_; rintro e wA ⟨rfl, hbA⟩))
      all_goals
        go_split_ands
        have b5 : Below W3.heap.size W3 wA := by assumption
        clear KS HSY H192
        have HCV := Kept.mk (conv_bytes wA R)
        have hbg := bg_start wA R
        generalize bytesWorld wA 5 (str R) = W6 at *
        generalize grownCap wA R.length 0 5 = cap at *
        obtain ⟨g, cap', e, hc6, hf6, hst⟩ := hbg.place (i := 192 + j) (by omega)
        cases e
        obtain ⟨hT1, hT2⟩ := HT.out (by omega)
        have HO2 := Kept.mk (HO.out (R.set (192 + j) (R[192 + j]'(by omega) ^^^ c)) (by rw [List.length_set]; exact lR))
        rw [hT1, hT2] at HO2
        have hx6 := xor_u8M (R[192 + j]'(by omega)) c
        have HQ := Kept.mk (hst (R[192 + j]'(by omega) ^^^ c))
        clear hst hT1 hT2 HT HO
        generalize R[192 + j]'(by omega) ^^^ c = d at *
        generalize R.set (192 + j) d = T2 at *
        have b6 := bnext b5 hbg.1
        have HB6 := Kept.mk b6
        have hs5 := b5.size
        clear hbg b6 b5
        rw [lR] at HCV HQ
        have hi0 : (0 : Int) ≤ 192 + (j : Int) := by omega
        have hi9 : 192 + (j : Int) < 224 := by omega
        have hiw : IntKind.i64.wrap (192 + (j : Int)) = 192 + (j : Int) := wrap_i64_small _ (by omega) (by omega)
        have hit : (192 + (j : Int)).toNat = 192 + j := by omega
        go_upto_region 10 with (rw [HCV.out])
        go_upto_region 11 with fail
        clear hc6 hf6
        have hcv := HQ.out.string
        have b7 := HB6.out.setCell (p := ⟨wA.heap.size, 192 + j, none⟩) hs5 (.int .u8 (d.toNat : Int))
        clear HQ HB6 HCV
        generalize W6.setCell ⟨wA.heap.size, 192 + j, none⟩ (.int .u8 (d.toNat : Int)) = W7 at *
        obtain ⟨c0, c1, c2⟩ := KS1.out _ b7
        go_wp2_with fail
        with_reducible refine (HO2.out _ (HK.out _ (HB3.out _ b7))).mono ?_
        rintro e w8 ⟨rfl, b⟩
        have b8 := HB3.out _ (bnext b7 b)
        clear b b7 c0 c1 c2 hcv
        go_wp2_with fail
        with_reducible refine (blAwake_any _ (HK.out _ b8)).mono ?_
        rintro e w9 ⟨rfl, b⟩
        have HB9 := Kept.mk (HB.out _ (b8.trans (b.mono (Nat.le_trans h1s b8.size))))
        clear b b8
        go_wp2_with fail
        go_ret
        exact ⟨rfl, HB9.out⟩
  · have HL := Kept.mk (fun w' => short_no ke km kh s w' hl z1 z2 (by omega))
    clear hl z1 z2 z3 zs
    go_enter Tryd.func8, Tryd.ntmps8
    go_upto_region 1 with fail
    rw [HW.out]
    obtain ⟨c0, c1, c2⟩ := HS.out _ (Below.refl _ _)
    go_wp2_with fail
    with_reducible refine (HL.out _).mono ?_
    rintro e w1 ⟨rfl, b1⟩
    have b1 := b1.mono h1s
    clear c0 c1 c2
    go_wp2_with fail
    with_reducible refine (blAwake_any _ (HK.out _ b1)).mono ?_
    rintro e w7 ⟨rfl, b⟩
    have HB7 := Kept.mk (HB.out _ (b1.trans (b.mono (Nat.le_trans h1s b1.size))))
    clear b b1
    go_wp2_with fail
    go_ret
    exact ⟨rfl, HB7.out⟩
end
section
set_option linter.unusedVariables false
set_option linter.unusedSimpArgs false
open Go.RowKit Go.Lib
theorem seal_at (ke km : List UInt8) (i : Int) (q : List UInt8) (h : q.length = 192) (m : Nat) (hm : m < 192) (h1 : m < (bSeal ke km i q).length) :
    (bSeal ke km i q)[m] = q[m] ^^^ kb (nblk ke (bNonce i) 1 (m / 64)) (m % 64) := by
  have h2 := turn_get ke (bNonce i) 1 q m
  have h3 : (bSeal ke km i q)[m]? = (turn ke (bNonce i) 1 q)[m]? := by
    show (turn ke (bNonce i) 1 q ++ _)[m]? = _
    rw [List.getElem?_append_left (by rw [turn_length]; omega)]
  rw [h2, List.getElem?_eq_getElem h1, List.getElem?_eq_getElem (show m < q.length by omega)] at h3
  simpa using h3
theorem xor_both (a b k : UInt8) : (a ^^^ k) ^^^ (b ^^^ k) = a ^^^ b := by
  rw [UInt8.xor_comm b k, ← UInt8.xor_assoc, UInt8.xor_assoc a k k, UInt8.xor_self, UInt8.xor_zero]
theorem str_getB (l : List UInt8) (m : Nat) (h : m < l.length) (h2 : m < (str l).size) : (str l)[m] = l[m] := rfl
theorem seal_bytes (ke km : List UInt8) (i : Int) (p q : List UInt8) (hp : p.length = 192) (hq : q.length = 192) (m : Nat) (hm : m < 192)
    (h1 : m < (str (bSeal ke km i p)).size) (h2 : m < (str (bSeal ke km i q)).size) (h3 : m < (str p).size) (h4 : m < (str q).size) :
    bits .xor .u8 (((str (bSeal ke km i p))[m]'h1).toNat : Int) (((str (bSeal ke km i q))[m]'h2).toNat : Int) = bits .xor .u8 (((str p)[m]'h3).toNat : Int) (((str q)[m]'h4).toNat : Int) := by
  have g1 : m < (bSeal ke km i p).length := by rw [bSeal_length]; omega
  have g2 : m < (bSeal ke km i q).length := by rw [bSeal_length]; omega
  have g3 : m < p.length := by omega
  have g4 : m < q.length := by omega
  have e1 : (str (bSeal ke km i p))[m]'h1 = (bSeal ke km i p)[m]'g1 := str_getB _ m g1 h1
  have e2 : (str (bSeal ke km i q))[m]'h2 = (bSeal ke km i q)[m]'g2 := str_getB _ m g2 h2
  have e3 : (str p)[m]'h3 = p[m]'g3 := str_getB _ m g3 h3
  have e4 : (str q)[m]'h4 = q[m]'g4 := str_getB _ m g4 h4
  have d1 := seal_at ke km i p hp m hm g1
  have d2 := seal_at ke km i q hq m hm g2
  have f := xor_both (p[m]'g3) (q[m]'g4) (kb (nblk ke (bNonce i) 1 (m / 64)) (m % 64))
  rw [e1, e2, e3, e4, d1, d2, xor_u8M, xor_u8M, f]
attribute [local irreducible] str sS sE aS aE oS oE sz sg bSeal bTurn bTag

set_option maxRecDepth 100000 in
set_option maxHeartbeats 4000000 in
theorem blockBytes_w {W : World} (ke km kh : List UInt8) (hP : ke.length ≤ 9223372036854775807 ∧ km.length ≤ 9223372036854775807 ∧ kh.length ≤ 9223372036854775807) (i : Int) (hi : (Lit.int .i64 i).wf = true) (s : List UInt8) (zs : s.length ≤ 140737488351232) (t : List UInt8) (zt : t.length ≤ 140737488351232) (hk : KAt W) :
    Calls Tryd.prog 9 #[.agg #[.string (str ke), .string (str km), .string (str kh)], .int .i64 i, .string (str s), .string (str t)] W fun e w' => e = .returned (.bool true) ∧ Below W.heap.size W w' := by
  obtain ⟨z1, z2, z3⟩ := hP
  have hn := and_mask i 8 (by omega) 255 rfl
  simp only [Int.reducePow, Nat.reducePow] at hn
  obtain ⟨n, hn2⟩ : ∃ n : Nat, i % ((256 : Nat) : Int) = n := ⟨(i % 256).toNat, by omega⟩
  rw [hn2] at hn
  have hn1 : n < 256 := by omega
  clear hn2 hi
  have st := str_size t
  have hA := hnew W (.cells #[.string (str ke), .string (str km), .string (str kh)] 36)
  have hB := bnew W (.cells #[.string (str ke), .string (str km), .string (str kh)] 36)
  generalize hW : W.alloc (.cells #[.string (str ke), .string (str km), .string (str kh)] 36) = W1 at *
  have HW := Kept.mk hW
  have HS := Kept.mk (fun w' (h : Below W1.heap.size W1 w') => show w'.cell? ⟨W.heap.size, 0, none⟩ = some (.string (str ke)) ∧ w'.cell? ⟨W.heap.size, 1, none⟩ = some (.string (str km)) ∧ w'.cell? ⟨W.heap.size, 2, none⟩ = some (.string (str kh)) from three_atB (hkept hA h))
  have HA := Kept.mk hA
  have HB := Kept.mk (fun w' (h : Below W.heap.size W1 w') => hB.trans h)
  have HK := Kept.mk (fun w' (h : Below W.heap.size W1 w') => hk.below (hB.trans h))
  have h1s := hB.size
  have hlt := (Array.getElem?_eq_some_iff.1 hA).1
  clear hA hB hW hk
  by_cases hl : ke.length ≤ 100 ∧ km.length ≤ 1000 ∧ s.length ≤ 1000
  · have HL := Kept.mk (fun w' => short_yes ke km kh s w' hl)
    by_cases htl : t.length ≤ 1000
    · have H32 := Kept.mk (fun w' => sized_32 ke w' (by omega))
      have HP1 := Kept.mk (fun w' => sized_192 s w' (by omega))
      have HP2 := Kept.mk (fun w' => sized_192 t w' (by omega))
      have l1 := sz_length ke 32
      have lp := sz_length s 192
      have lq := sz_length t 192
      obtain ⟨y1, y2, y3⟩ := hl
      clear z1 z2 z3 zs zt y1 y3
      generalize sz ke 32 = k2 at *
      generalize sz s 192 = p at *
      generalize sz t 192 = q at *
      have hok : bOk k2 (n : Int) := ⟨l1, by omega, by omega⟩
      have HSP := Kept.mk (fun w' hk => Seal_yes k2 km kh n p w' hk hok lp y2)
      have HSQ := Kept.mk (fun w' hk => Seal_yes k2 km kh n q w' hk hok lq y2)
      have HX := Kept.mk (seal_bytes k2 km n p q lp lq)
      have HPQ := Kept.mk (fun (h : p = q) => congrArg (fun v => bSeal k2 km n v) h)
      have s1 := str_size (bSeal k2 km n p)
      have s2 := str_size (bSeal k2 km n q)
      have s3 := str_size p
      have s4 := str_size q
      rw [bSeal_length, lp] at s1
      rw [bSeal_length, lq] at s2
      rw [lp] at s3
      rw [lq] at s4
      simp only [Nat.reduceAdd] at s1 s2
      have ht := str_tl p q
      clear hok y2 l1 lp lq
      generalize bSeal k2 km n p = R at *
      generalize bSeal k2 km n q = T at *
      go_enter Tryd.func9, Tryd.ntmps9
      go_upto_region 1 with fail
      rw [HW.out]
      obtain ⟨c0, c1, c2⟩ := HS.out _ (Below.refl _ _)
      go_wp2_with fail
      with_reducible refine (HL.out _).mono ?_
      rintro e w1 ⟨rfl, b1⟩
      clear c0 c1 c2
      obtain ⟨c0, c1, c2⟩ := HS.out _ b1
      go_wp2_with fail
      with_reducible refine (H32.out _).mono ?_
      rintro e w2 ⟨rfl, b⟩
      have b2 := bnext b1 b
      have hA2 := hkept HA.out b2
      have f2 := three_free0 hA2
      have hA3 := three_set w2 W.heap.size _ _ _ _ (.string (str k2)) hA2
      have b3 : Below W.heap.size W1 (w2.setCell ⟨W.heap.size, 0, none⟩ (.string (str k2))) := (b2.mono h1s).setCell (Nat.le_refl _) _
      clear b b1 b2 c0 c1 c2
      obtain ⟨c0, c1, c2⟩ := three_atB hA2
      have HA3 := Kept.mk hA3
      have HB3 := Kept.mk b3
      clear hA2 hA3 b3
      go_upto_region 4 with fail
      have hA3 := HA3.out
      have b3 := HB3.out
      clear HA3 HB3 c0 c1 c2 f2
      generalize w2.setCell ⟨W.heap.size, 0, none⟩ (.string (str k2)) = W3 at *
      have KS1 := Kept.mk (fun w' (h : Below W3.heap.size W3 w') => show w'.cell? ⟨W.heap.size, 0, none⟩ = some (.string (str k2)) ∧ w'.cell? ⟨W.heap.size, 1, none⟩ = some (.string (str km)) ∧ w'.cell? ⟨W.heap.size, 2, none⟩ = some (.string (str kh)) from three_atB (hkept hA3 h))
      have HB3 := Kept.mk (fun w' (h : Below W3.heap.size W3 w') => b3.trans (h.mono (Nat.le_trans h1s b3.size)))
      clear hA3 b3 HA HS HL H32
      go_wp2_with fail
      with_reducible refine (HP1.out _).mono ?_
      rintro e w4 ⟨rfl, b4⟩
      go_wp2_with fail
      with_reducible refine (HP2.out _).mono ?_
      rintro e w5 ⟨rfl, b⟩
      have b5 := bnext b4 b
      clear b b4
      obtain ⟨c0, c1, c2⟩ := KS1.out _ b5
      go_wp2_with fail
      with_reducible refine (HSP.out _ (HK.out _ (HB3.out _ b5))).mono ?_
      rintro e w6 ⟨rfl, b⟩
      have b6 := bnext b5 b
      clear b b5 c0 c1 c2
      obtain ⟨c0, c1, c2⟩ := KS1.out _ b6
      go_wp2_with fail
      with_reducible refine (HSQ.out _ (HK.out _ (HB3.out _ b6))).mono ?_
      rintro e w7 ⟨rfl, b⟩
      have b7 := bnext b6 b
      clear b b6 c0 c1 c2
      have HB7 := Kept.mk (fun w' (h : Below w7.heap.size w7 w') => HB3.out _ (bnext b7 h))
      clear b7 KS1 HB3 HP1 HP2 HSP HSQ
      go_wp2_with fail
      go_loopw [13] (fun s13 wr => ∃ m : Nat, m ≤ 192 ∧ s13 = .int .i64 m ∧ Below w7.heap.size w7 wr) (fun s13 _ => 192 - (RowKit.intOf s13).toNat)
      case atStart => exact ⟨0, by omega, rfl, Below.refl _ _⟩
      case round =>
        obtain ⟨m, hm, rfl, hb⟩ := hrel
        by_cases hlt9 : m < 192
        · have hi0 : (0 : Int) ≤ (m : Int) := by omega
          have h9 : (m : Int) < 192 := by omega
          have h92 : (m : Int) < 224 := by omega
          have hx := HX.out m hlt9 (by omega) (by omega) (by omega) (by omega)
          have HBW := Kept.mk hb
          clear hb
          go_wp2_with fail
          go_quiet (fail)
          go_wp2_with fail
          exact ⟨⟨m + 1, by omega, by go_num, below_drewN HBW.out _⟩, by simp [RowKit.intOf]; omega⟩
        · have hme : m = 192 := by omega
          subst hme
          have HAW := Kept.mk (blAwake_any wr (HK.out _ (HB7.out _ hb)))
          have HBE := Kept.mk (fun w' (h : Below wr.heap.size wr w') => HB.out _ (HB7.out _ (bnext hb h)))
          clear hb HX
          by_cases hpq : p = q
          · have hbe : ((str R).toList == (str T).toList) = true := by rw [HPQ.out hpq]; simp
            rw [decide_eq_true hpq] at ht
            clear hpq HPQ
            go_wp2_with fail
            with_reducible refine HAW.out.mono ?_
            rintro e w9 ⟨rfl, b⟩
            have HB9 := Kept.mk (HBE.out _ b)
            clear b
            go_wp2_with fail
            go_ret
            exact ⟨rfl, HB9.out⟩
          · rw [decide_eq_false hpq] at ht
            clear hpq HPQ
            go_wp2_with fail
            with_reducible refine HAW.out.mono ?_
            rintro e w9 ⟨rfl, b⟩
            have HB9 := Kept.mk (HBE.out _ b)
            clear b
            go_wp2_with fail
            go_ret
            exact ⟨rfl, HB9.out⟩
    · have htl2 : ¬ (t.length : Int) ≤ 1000 := by omega
      clear z1 z2 z3 zs
      go_enter Tryd.func9, Tryd.ntmps9
      go_upto_region 1 with fail
      rw [HW.out]
      obtain ⟨c0, c1, c2⟩ := HS.out _ (Below.refl _ _)
      go_wp2_with fail
      with_reducible refine (HL.out _).mono ?_
      rintro e w1 ⟨rfl, b1⟩
      have b1 := b1.mono h1s
      clear c0 c1 c2
      go_wp2_with fail
      with_reducible refine (blAwake_any _ (HK.out _ b1)).mono ?_
      rintro e w7 ⟨rfl, b⟩
      have HB7 := Kept.mk (HB.out _ (b1.trans (b.mono (Nat.le_trans h1s b1.size))))
      clear b b1
      go_wp2_with fail
      go_ret
      exact ⟨rfl, HB7.out⟩
  · have HL := Kept.mk (fun w' => short_no ke km kh s w' hl z1 z2 (by omega))
    clear hl z1 z2 z3 zs
    go_enter Tryd.func9, Tryd.ntmps9
    go_upto_region 1 with fail
    rw [HW.out]
    obtain ⟨c0, c1, c2⟩ := HS.out _ (Below.refl _ _)
    go_wp2_with fail
    with_reducible refine (HL.out _).mono ?_
    rintro e w1 ⟨rfl, b1⟩
    have b1 := b1.mono h1s
    clear c0 c1 c2
    go_wp2_with fail
    with_reducible refine (blAwake_any _ (HK.out _ b1)).mono ?_
    rintro e w7 ⟨rfl, b⟩
    have HB7 := Kept.mk (HB.out _ (b1.trans (b.mono (Nat.le_trans h1s b1.size))))
    clear b b1
    go_wp2_with fail
    go_ret
    exact ⟨rfl, HB7.out⟩
end
end Go.Proofs.YtabeehljpdehcaaDoor
