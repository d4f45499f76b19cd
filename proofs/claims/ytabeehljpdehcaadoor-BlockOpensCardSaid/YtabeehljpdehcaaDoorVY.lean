/- ChaCha's block by definition: the walk. -/
import Derived.Test.YtabeehljpdehcaaDoorVQ
import Derived.StillTailTactics
namespace Go.Proofs.YtabeehljpdehcaaDoor
set_option linter.unusedVariables false
set_option linter.unusedSimpArgs false
open Go.RowKit Go.Lib
theorem refWords_n (l : List UInt8) (n : Nat) (w : World) (hl : l.length = 4 * n) (hn : n ≤ 8) (h0 : 0 < n) :
    Calls Tryd.prog 75 #[.string (str l)] w fun e w' => ∃ g cap, e = .returned (.slice (some ⟨g, 0, none⟩) n cap) ∧ RowAt w' (some ⟨g, 0, none⟩) (ivs (wls l n)) ∧ Below w.heap.size w w' :=
  (refWords_any l n w hl hn).mono fun e w' h => by
    obtain ⟨v, rfl, hv⟩ := h
    have hb := hv.1
    obtain ⟨g, cap, rfl, _, _, _, hr⟩ := hv.row (by rw [ivs_length, wls_length]; exact h0)
    exact ⟨g, cap, by rw [ivs_length, wls_length], hr, hb⟩
theorem refWords_8 (l : List UInt8) (w : World) (hl : l.length = 32) :
    Calls Tryd.prog 75 #[.string (str l)] w fun e w' => ∃ g cap, e = .returned (.slice (some ⟨g, 0, none⟩) 8 cap) ∧ RowAt w' (some ⟨g, 0, none⟩) (ivs (wls l 8)) ∧ Below w.heap.size w w' := refWords_n l 8 w hl (by decide) (by decide)
theorem refWords_3 (l : List UInt8) (w : World) (hl : l.length = 12) :
    Calls Tryd.prog 75 #[.string (str l)] w fun e w' => ∃ g cap, e = .returned (.slice (some ⟨g, 0, none⟩) 3 cap) ∧ RowAt w' (some ⟨g, 0, none⟩) (ivs (wls l 3)) ∧ Below w.heap.size w w' := refWords_n l 3 w hl (by decide) (by decide)
theorem int_spread2 {ops : Array Oper} {rest : List Oper} {o : Oper} {a : Act} {Q : Exit → Act → World → Prop} (hgd : o.guard = none) (s x : Operand)
    (ho : o.op = .call { callee := .builtin .append, args := #[s, x], argTypes := #[72, 72] })
    {w X : World} {L M : List Nat} {v : Value} (hs : a.eval s = v) (hb : VB w X v (ivs L)) {g c m : Nat} (hm : M.length = m)
    (hx : a.eval x = .slice (some ⟨g, 0, none⟩) m c) (hr : RowAt X (some ⟨g, 0, none⟩) (ivs M)) (hM : 0 < m) (hlen : L.length + m ≤ 1000000)
    (h : ∀ v' w', VB w w' v' (ivs (L ++ M)) → wpList Tryd.prog ops Q rest (a.put o.dst v') w') : wpList Tryd.prog ops Q (o :: rest) a X := by
  subst hm
  exact int_spread hgd s x ho hs hb hx hr hM hlen fun v' w' h1 _ _ => h v' w' h1
attribute [local irreducible] str wls ivs le4 stW wat

set_option maxRecDepth 100000 in
set_option maxHeartbeats 4000000 in
theorem refBlock_any (key nonce : List UInt8) (c : Nat) (w : World) (hk : key.length = 32) (hn : nonce.length = 12) (hc : c < 4294967296) :
    Calls Tryd.prog 68 #[.string (str key), .string (str nonce), .int .i64 (c : Int)] w fun e w' => ∃ v, e = .returned v ∧ VB w w' v (Lib.byteCells (kbs (blk (stW key nonce c)) 64)) := by
  have hv0 : VB w (w.alloc (.cells #[.int .i64 1634760805, .int .i64 857760878, .int .i64 2036477234, .int .i64 1797285236] 3)) (.slice (some ⟨w.heap.size, 0, none⟩) 4 4) (ivs [1634760805, 857760878, 2036477234, 1797285236]) := by
    unfold ivs; exact vb_built w [.int .i64 1634760805, .int .i64 857760878, .int .i64 2036477234, .int .i64 1797285236] 3
  have HW := Kept.mk (stW_words key nonce c)
  have K8 := Kept.mk (wls_length key 8)
  have N3 := Kept.mk (wls_length nonce 3)
  have HK := Kept.mk hk
  have HN := Kept.mk hn
  have HV0 := Kept.mk hv0
  clear hk hn hv0
  go_enter Tryd.func68, Tryd.ntmps68
  go_upto_region 2 with fail
  generalize w.alloc _ = W1 at *
  generalize w.heap.size = gs0 at *
  go_upto_region 3 with (first
    | (with_reducible refine (refWords_8 key _ HK.out).mono ?_; rintro e w2 ⟨g2, cap2, rfl, hr2, hb2⟩; have HV1 := Kept.mk (HV0.out.below hb2); have HR2 := Kept.mk hr2; clear HV0 hr2)
    | (at_builtin; refine int_spread2 rfl (.tmp 22) (.tmp 24) rfl (w := w) (M := wls key 8) rfl HV1.out K8.out rfl HR2.out ?_ ?_ ?_; decide; decide; intro v3 w3 hv3))
  have HV3 := Kept.mk hv3
  clear hv3 HV1 HR2
  have LE1 := Kept.mk (show ([1634760805, 857760878, 2036477234, 1797285236] ++ wls key 8).length + 1 ≤ 1000000 from by rw [List.length_append, K8.out]; decide)
  have LE2 := Kept.mk (show ([1634760805, 857760878, 2036477234, 1797285236] ++ wls key 8 ++ [c]).length + 3 ≤ 1000000 from by rw [List.length_append, List.length_append, K8.out, List.length_singleton]; decide)
  have LS := Kept.mk (show (stW key nonce c).length = 16 from by rw [← HW.out, List.length_append, List.length_append, List.length_append, K8.out, N3.out]; rfl)
  go_upto_region 4 with (at_builtin; refine int_append rfl (.tmp 26) (.tmp 28) rfl (w := w) rfl HV3.out (d := c) rfl rfl LE1.out ?_; intro v4 w4 hv4)
  have HV4 := Kept.mk hv4
  clear hv4 HV3
  go_upto_region 6 with (first
    | (with_reducible refine (refWords_3 nonce _ HN.out).mono ?_; rintro e w5 ⟨g5, cap5, rfl, hr5, hb5⟩; have HV5 := Kept.mk (HV4.out.below hb5); have HR5 := Kept.mk hr5; clear HV4 hr5)
    | (at_builtin; refine int_spread2 rfl (.tmp 30) (.tmp 32) rfl (w := w) (M := wls nonce 3) rfl HV5.out N3.out rfl HR5.out ?_ LE2.out ?_; decide; intro v6 w6 hv6))
  rw [HW.out] at hv6
  obtain ⟨gs, caps, rfl, _, hgsl, hcs, hrs⟩ := hv6.row (by rw [ivs_length, LS.out]; omega)
  rw [ivs_length, LS.out] at hcs ⊢
  have HB6 := Kept.mk hv6.1
  have HRS := Kept.mk hrs
  clear hv6 hrs HV5 HR5 hb5 hb2 HW
  go_upto_region 7 with (at_builtin; refine int_spread2 rfl (.tmp 34) (.tmp 35) rfl (w := w6) (M := stW key nonce c) (L := []) rfl ((vb_nil w6).is (by unfold ivs; rfl)) LS.out rfl HRS.out ?_ ?_ ?_; decide; decide; intro v7 w7 hv7)
  rw [List.nil_append] at hv7
  obtain ⟨gx, capx, rfl, hgx, hgxl, hcx, _⟩ := hv7.row (by rw [ivs_length, LS.out]; omega)
  rw [ivs_length, LS.out] at hv7 hcx ⊢
  have HRS7 := Kept.mk (HRS.out.below hv7.1)
  have HX7 := Kept.mk hv7
  have hne : gx ≠ gs := by omega
  obtain ⟨hR, hRB⟩ := rounds_here w7
  have HX8 := hv7.below hRB
  have HRS8 := HRS7.out.below hRB
  clear hv7 HRS K8 N3 HK HN LE1 LE2 HRS7 HX7
  go_upto_region 8 with fail
  generalize ((((((((w7.alloc _).alloc _).alloc _).alloc _).alloc _).alloc _).alloc _).alloc _).alloc _ = W8 at *
  obtain ⟨h, hh⟩ : ∃ h, w7.heap.size = h := ⟨_, rfl⟩
  rw [hh] at hR hgxl
  simp only [hh]
  clear hRB hh
  have SM := Kept.mk (stW_small key nonce c hc)
  have HS := Kept.mk HRS8
  have HR := Kept.mk hR
  have HX := Kept.mk HX8
  have HL := Kept.mk LS.out
  clear HRS8 hR HX8 LS
  generalize hSE : stW key nonce c = S at *
  have HSE := Kept.mk hSE
  clear hSE
  obtain ⟨hq, hqe⟩ : ∃ hq, h + 1 + 1 + 1 + 1 + 1 + 1 + 1 + 1 = hq := ⟨_, rfl⟩
  rw [hqe]
  have HQE := Kept.mk (show hq = h + 8 from by omega)
  clear hqe
  have HP := Kept.mk (show PX w6 W8 gx capx W8 S from ⟨HX.out, ButB.refl _ _, HL.out, SM.out⟩)
  clear HX
  go_wp2_with fail
  go_loopw [10] (fun s10 wr => ∃ n : Nat, n ≤ 10 ∧ s10 = .int .i64 n ∧ PX w6 W8 gx capx wr (dbls n S)) (fun s10 _ => 10 - (RowKit.intOf s10).toNat)
  case atStart => exact ⟨0, by omega, rfl, by rw [dbls_zero]; exact HP.out⟩
  case round =>
    clear HP
    obtain ⟨n, hn10, rfl, hp⟩ := hrel
    by_cases hlt : n < 10
    · have hni : (n : Int) < 10 := by omega
      have HD := Kept.mk (show rqs (dbls n S) 8 = dbls (n + 1) S from by rw [rqs_dbl _ hp.2.2.1, dbls_next])
      have HP := Kept.mk hp
      clear hp
      generalize dbls n S = D at *
      go_wp2_with fail
      go_loopw [11] (fun s11 wr => ∃ r : Nat, r ≤ 8 ∧ s11 = .int .i64 r ∧ PX w6 W8 gx capx wr (rqs D r)) (fun s11 _ => 8 - (RowKit.intOf s11).toNat)
      case atStart => exact ⟨0, by omega, rfl, HP.out⟩
      case round =>
        clear HP
        obtain ⟨r, hr8, rfl, hp⟩ := hrel
        by_cases hlr : r < 8
        · have hri : (r : Int) < 8 := by omega
          have HRX := Kept.mk (show rq (rqs D r) (wat (qt r) 0) (wat (qt r) 1) (wat (qt r) 2) (wat (qt r) 3) = rqs D (r + 1) from rfl)
          obtain ⟨m0, m1, m2, m3⟩ := qt_small r
          have hro := HR.out.but hp.2.1 hgxl
          have cs := hro.sl r hlr
          rw [← HQE.out] at cs
          have i0 := hro.ix r 0 hlr (by decide)
          have i1 := hro.ix r 1 hlr (by decide)
          have i2 := hro.ix r 2 hlr (by decide)
          have i3 := hro.ix r 3 hlr (by decide)
          have HI0 := Kept.mk (fun W (hb : ButB gx W8 W) => (HR.out.but hb hgxl).ix r 0 hlr (by decide))
          have HI1 := Kept.mk (fun W (hb : ButB gx W8 W) => (HR.out.but hb hgxl).ix r 1 hlr (by decide))
          have HI2 := Kept.mk (fun W (hb : ButB gx W8 W) => (HR.out.but hb hgxl).ix r 2 hlr (by decide))
          have HI3 := Kept.mk (fun W (hb : ButB gx W8 W) => (HR.out.but hb hgxl).ix r 3 hlr (by decide))
          generalize wat (qt r) 0 = a at *
          generalize wat (qt r) 1 = b at *
          generalize wat (qt r) 2 = c2 at *
          generalize wat (qt r) 3 = d at *
          generalize rqs D r = X at *
          have x0 := hp.cell m0
          have x1 := hp.cell m1
          have x2 := hp.cell m2
          have x3 := hp.cell m3
          have s0 := hp.2.2.2 a
          have s1 := hp.2.2.2 b
          have s2 := hp.2.2.2 c2
          have s3 := hp.2.2.2 d
          have HRQ := Kept.mk (show (((X.set a (quart (wat X a) (wat X b) (wat X c2) (wat X d)).1).set b (quart (wat X a) (wat X b) (wat X c2) (wat X d)).2.1).set c2 (quart (wat X a) (wat X b) (wat X c2) (wat X d)).2.2.1).set d (quart (wat X a) (wat X b) (wat X c2) (wat X d)).2.2.2 = rq X a b c2 d from rfl)
          rw [HRX.out] at HRQ
          have HQL := Kept.mk (quart_lt (wat X a) (wat X b) (wat X c2) (wat X d) s0 s1 s2 s3)
          generalize wat X a = xa at *
          generalize wat X b = xb at *
          generalize wat X c2 = xc at *
          generalize wat X d = xd at *
          have HQQ := Kept.mk (fun w => refQuarter_q xa xb xc xd w s0 s1 s2 s3)
          generalize quart xa xb xc xd = q at *
          have ia : (a : Int) < 16 := by omega
          have ib : (b : Int) < 16 := by omega
          have ic : (c2 : Int) < 16 := by omega
          have id4 : (d : Int) < 16 := by omega
          have HP := Kept.mk hp
          clear hp HRX s0 s1 s2 s3 hro
          go_upto_region 15 with fail
          go_quiet ((go_at_call 76; exact Calls.quiet_of (HQQ.out _)))
          obtain ⟨q0, q1, q2, q3⟩ := q
          obtain ⟨l0, l1, l2, l3⟩ := HQL.out
          dsimp only at *
          have hpA := HP.out.drewN nq
          have hpB := hpA.set m0 l0
          have hpC := hpB.set m1 l1
          have hpD := hpC.set m2 l2
          have i0 := HI0.out _ hpA.2.1
          have i1 := HI1.out _ hpB.2.1
          have i2 := HI2.out _ hpC.2.1
          have i3 := HI3.out _ hpD.2.1
          have f0 := hpA.free m0
          have f1 := hpB.free m1
          have f2 := hpC.free m2
          have f3 := hpD.free m3
          have y0 := hpA.cell m0
          have y1 := hpB.cell m1
          have y2 := hpC.cell m2
          have y3 := hpD.cell m3
          clear hpA hpB hpC hpD
          have hpE := Kept.mk (((((HP.out.drewN nq).set m0 l0).set m1 l1).set m2 l2).set m3 l3)
          rw [HRQ.out] at hpE
          have hn1 : ¬ (h + r = gx) := by omega
          have hn2 : ¬ (gx = h + r) := by omega
          clear HP HQQ x1 x2 x3 cs
          generalize wat (X.set a q0) b = t1 at *
          generalize wat ((X.set a q0).set b q1) c2 = t2 at *
          generalize wat (((X.set a q0).set b q1).set c2 q2) d = t3 at *
          go_wp2_with fail
          exact ⟨⟨r + 1, by omega, by push_cast; rfl, hpE.out⟩, by show 8 - ((r : Int) + 1).toNat < 8 - ((r : Nat) : Int).toNat; omega⟩
        · have hri : ¬ (r : Int) < 8 := by omega
          obtain rfl : r = 8 := by omega
          rw [HD.out] at hp
          have HP := Kept.mk hp
          clear hp
          go_wp2_with fail
          exact ⟨⟨n + 1, by omega, by push_cast; rfl, HP.out⟩, by show 10 - ((n : Int) + 1).toNat < 10 - ((n : Nat) : Int).toNat; omega⟩
    · have hni : ¬ (n : Int) < 10 := by omega
      obtain rfl : n = 10 := by omega
      rw [show (((10 : Nat)) : Int) = 10 from rfl]
      have HBW := Kept.mk (HB6.out.trans (hp.1.1.mono HB6.out.size))
      have hrs := row_but HS.out hp.2.1 (Ne.symm hne)
      have HRS := Kept.mk (fun i (hi : i < 16) => row_cell hrs (i := i) (by rw [HL.out]; exact hi))
      have HRX := Kept.mk (fun i (hi : i < 16) => hp.cell hi)
      have HGX := Kept.mk (show gx < wr.heap.size from by have := hp.2.1.size; have := HR.out.lt; omega)
      have HSD := Kept.mk hp.2.2.2
      have HBL := Kept.mk (fun i (hi : i < 16) => wat_blk S i hi)
      clear hp hrs HS HL HR HQE hgxl hni
      generalize dbls 10 S = D at *
      generalize hBE : blk S = B at *
      have HBE := Kept.mk hBE
      clear hBE
      generalize wr = W9 at *
      go_wp2_with fail
      go_loopw [17, 18] (fun s17 s18 wr => ∃ i : Nat, i ≤ 16 ∧ s18 = .int .i64 i ∧ VB W9 wr s17 (Lib.byteCells (kbs B (4 * i)))) (fun _ s18 _ => 16 - (RowKit.intOf s18).toNat)
      case atStart => exact ⟨0, by omega, rfl, (vb_nil W9).is (by rw [kbs_zero]; rfl)⟩
      case round =>
        obtain ⟨i, hi16, rfl, hb⟩ := hrel
        by_cases hli : i < 16
        · have hii : (i : Int) < 16 := by omega
          have hx : wr.cell? ⟨gx, i, none⟩ = some (.int .i64 ((wat D i : Nat) : Int)) := (hb.1.cell (p := ⟨gx, i, none⟩) HGX.out).trans (HRX.out i hli)
          have hs : wr.cell? ⟨gs, i, none⟩ = some (.int .i64 ((wat S i : Nat) : Int)) := (hb.1.cell (p := ⟨gs, i, none⟩) (HRS.out i hli).1).trans (HRS.out i hli).2
          have sx := HSD.out i
          have ss := SM.out i
          have HBI := Kept.mk (HBL.out i hli)
          have HKB := Kept.mk (fun k (hk : k < 4) => (by have h := kb_int B (4 * i + k); rw [show (4 * i + k) / 4 = i by omega, show (4 * i + k) % 4 = k by omega] at h; exact h : ((kb B (4 * i + k)).toNat : Int) = ((wat B i / 2 ^ (8 * k) % 256 : Nat) : Int)))
          have HKN := Kept.mk (fun k => kbs_next B (4 * i + k))
          generalize wat D i = x at *
          generalize wat S i = y at *
          have eW := wrap_i64_small ((x : Int) + (y : Int)) (by omega) (by omega)
          have eA := (and_word ((x : Int) + (y : Int))).trans (mod_ad x y)
          rw [← HBI.out] at eA
          have hbl : wat B i < 4294967296 := by rw [HBI.out]; exact ad_lt _ _
          generalize wat B i = z at *
          have HB := Kept.mk hb
          clear hb HBI
          go_wp2_with fail
          go_quiet (fail)
          go_wp2_with fail
          have HB2 := Kept.mk (HB.out.below (below_drewN (Below.refl _ _) nq))
          clear HB hx hs eW eA
          generalize wr.drewN nq = wy at *
          go_loopw [17, 19, 20] (fun s17 s19 s20 wr => ∃ k : Nat, k ≤ 4 ∧ s20 = .int .i64 k ∧ s19 = .int .i64 ((z / 2 ^ (8 * k) : Nat) : Int) ∧ VB W9 wr s17 (Lib.byteCells (kbs B (4 * i + k)))) (fun _ _ s20 _ => 4 - (RowKit.intOf s20).toNat)
          case atStart => exact ⟨0, by omega, rfl, by simp, HB2.out⟩
          case round =>
            clear HB2
            obtain ⟨k, hk4, rfl, rfl, hb⟩ := hrel
            by_cases hlk : k < 4
            · have hki : (k : Int) < 4 := by omega
              have HV := Kept.mk (HKB.out k hlk)
              have HN := Kept.mk (HKN.out k)
              have HS := Kept.mk (show z / 2 ^ (8 * k) / 256 = z / 2 ^ (8 * (k + 1)) from by
                rw [Nat.div_div_eq_div_mul, show 2 ^ (8 * (k + 1)) = 2 ^ (8 * k) * 256 from by rw [show 8 * (k + 1) = 8 * k + 8 by omega, Nat.pow_add]])
              have hvl : z / 2 ^ (8 * k) < 4294967296 := Nat.lt_of_le_of_lt (Nat.div_le_self _ _) hbl
              generalize z / 2 ^ (8 * k) = v at *
              have e255 := and_255 (v : Int)
              have HB := Kept.mk hb
              have HLB := Kept.mk (show (kbs B (4 * i + k)).length + 1 ≤ 100000000 from by rw [kbs_length]; omega)
              clear hb
              go_wp2_with (at_builtin; refine byte_append rfl (.tmp 130) (.tmp 134) rfl (w := W9) rfl HB.out (d := kb B (4 * i + k)) rfl ?_ HLB.out ?_; (rw [HV.out]; omega); intro v' w' hq2)
              rw [HN.out] at hq2
              refine ⟨⟨k + 1, by omega, by push_cast; rfl, ?_, hq2⟩, by show 4 - ((k : Int) + 1).toNat < 4 - ((k : Nat) : Int).toNat; omega⟩
              rw [← HS.out]; push_cast; rfl
            · have hki : ¬ (k : Int) < 4 := by omega
              obtain rfl : k = 4 := by omega
              have HB := Kept.mk hb
              clear hb
              go_wp2_with fail
              exact ⟨⟨i + 1, by omega, by push_cast; rfl, HB.out⟩, by show 16 - ((i : Int) + 1).toNat < 16 - ((i : Nat) : Int).toNat; omega⟩
        · have hii : ¬ (i : Int) < 16 := by omega
          obtain rfl : i = 16 := by omega
          have HB := Kept.mk (hb.base HBW.out)
          clear hb
          go_wp2_with fail
          go_returns
          exact ⟨_, rfl, by have h := HB.out; rw [← HBE.out, ← HSE.out] at h; exact h⟩
end Go.Proofs.YtabeehljpdehcaaDoor
