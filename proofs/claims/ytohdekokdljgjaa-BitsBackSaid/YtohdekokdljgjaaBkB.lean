/- bits: what is put is taken as it was: walked by the contracts. -/
import Derived.Test.YtohdekokdljgjaaBkA
namespace Go.Proofs.Ytohdekokdljgjaa
set_option linter.unusedVariables false
set_option linter.unusedSimpArgs false
open Go.RowKit Go.Lib
theorem mix_get2 (ds : List Dd) (i : Nat) (h : i < ds.length) (h2 : i < (mix ds (i + 1)).length) : (mix ds (i + 1))[i] = dn ds[i] := by
  have e : (mix ds (i + 1))[i]? = some (dn ds[i]) := by
    unfold mix
    rw [List.getElem?_append_left (by rw [List.length_map, List.length_take]; omega), List.getElem?_map, List.getElem?_take, if_pos (by omega), List.getElem?_eq_getElem h]; rfl
  rw [List.getElem?_eq_getElem h2] at e
  exact Option.some.inj e
theorem VD.set2 {w wr : World} {v : Value} {l : List Dd} (h : VD w wr v l) {i : Nat} (hi : i < l.length) {kl m cap : Nat} (hv : v = .slice (some ⟨kl, 0, none⟩) m cap) (x y : Int) : VD w ((wr.setCell ⟨kl, i * 4 + 2, none⟩ (.int .i64 x)).setCell ⟨kl, i * 4 + 2, none⟩ (.int .i64 y)) v (l.set i { l[i] with n := y }) := by
  obtain ⟨k1, c1, e1, _, _, p1⟩ := h.place hi
  have e2 := hv.symm.trans e1
  cases e2
  have h1 := p1 x
  obtain ⟨k2, c2, e3, _, _, p2⟩ := h1.place (i := i) (by rw [List.length_set]; exact hi)
  rw [List.length_set] at e3
  have e4 := e1.symm.trans e3
  cases e4
  refine (p2 y).is ?_
  rw [List.set_set, List.getElem_set_self]
theorem lp_next2 (ds : List Dd) (i : Nat) (h : i < ds.length) : lp (ds.map dn) (i + 1) = dbits (lp (ds.map dn) i) (dn ds[i]) := by
  rw [lp_next _ i (by rw [List.length_map]; exact h)]; simp
theorem VD.one {w W W' : World} {v : Value} {ls : List Dd} (h : VD w W v ls) {g : Nat} (ho : OneB g W W') (hg : w.heap.size ≤ g) (hne : ∀ k, ¬ Apart v k → k ≠ g) : VD w W' v ls :=
  ⟨h.1.trans (ho.below hg), h.2.imp id fun ⟨k, cap, cs, f0, f1, h1, h2, h3, h4⟩ => ⟨k, cap, cs, f0, f1, h1, h2, (ho.block k (hne k (fun hn => hn _ _ h1))).trans h3, h4⟩⟩
theorem RS.alloc {W : World} {T : TypeId} {g : Nat} {l : List UInt8} {u : Nat} (h : RS W T g l u) (o : Obj) : RS (W.alloc o) T g l u := ⟨block_old h.hg o⟩
theorem VD.drewN {w wr : World} {v : Value} {l : List Dd} (h : VD w wr v l) (n : Nat) : VD w (wr.drewN n) v l := ⟨below_drewN h.1 n, h.2⟩
theorem RS.lt {W : World} {T : TypeId} {g : Nat} {l : List UInt8} {u : Nat} (h : RS W T g l u) : g < W.heap.size := block_lt h.hg
/-- what a reader of the bits finds where a deed's own begin -/
theorem low_found {Lt L R : List Nat} {l : List UInt8} (hbt : ∀ p, bt l p = Lt.getD p 0) (v : Int) (N : Nat) (h : Lt = L ++ lowB v N ++ R) : ((bv l L.length N : Nat) : Int) = v % 2 ^ N :=
  bv_low l _ v N fun i hi => by rw [hbt, h, mid_get _ _ _ _ (by rw [lowB_length]; exact hi), lowB_get v N i hi]
theorem high_found {Lt L R : List Nat} {l : List UInt8} (hbt : ∀ p, bt l p = Lt.getD p 0) (v : Int) (N i : Nat) (hi : i < N) (h : Lt = L ++ highB v N ++ R) : bv l (L.length + i) 1 = vb1 v (N - 1 - i) := by
  rw [bv_one, hbt, h, mid_get _ _ _ _ (by rw [highB_length]; exact hi), highB_get v N i hi]
theorem end_found {Lt : List Nat} {l : List UInt8} (hbt : ∀ p, bt l p = Lt.getD p 0) (n : Nat) : bv l Lt.length n = 0 :=
  bv_none l _ n fun i _ => by rw [hbt, List.getD_eq_getElem?_getD, List.getElem?_eq_none (by omega)]; rfl
theorem rdTake_one (g : Nat) (l : List UInt8) (u : Nat) (w : World) (hr : RS w 72 g l u) (hl : l.length ≤ 10000) (hu : u + 1 ≤ 8 * l.length) :
    Calls Try.prog 19 #[.pointer (some ⟨g, 0, none⟩), .int .i64 1] w fun e w' => e = .returned (.tuple #[.int .i64 ((bv l u 1 : Nat) : Int), .bool true]) ∧ RS w' 72 g l (u + 1) ∧ OneB g w w' :=
  rdTake_round g l u 1 w hr hl (by decide) hu
theorem al8_up2 (n : Nat) : al8 n = upTo n := rfl
attribute [local irreducible] pk packTo lowB highB vb1 alg upTo txB str dbits ct dsome mix lp nn
set_option maxRecDepth 100000 in
set_option maxHeartbeats 4000000 in
theorem bitsBack_w {w : World} (A : Option Addr) (c : Nat) (ls : List Dd) (hls : ls.length ≤ 9223372036854775807) (hr : DdsAt w A ls ∧ ∀ d ∈ ls, d.s.length ≤ 9223372036854775807) :
    Calls Try.prog 5 #[.slice A ls.length c] w fun e w' => e = .returned (.bool true) ∧ Below w.heap.size w w' := by
  obtain ⟨hr1, hr2⟩ := hr
  have HR1 := Kept.mk hr1
  have HR2 := Kept.mk hr2
  have HDS := Kept.mk (dsome_small ls)
  have HDL := Kept.mk (dsome_len ls)
  clear hr1 hr2
  go_enter Try.func5, Try.ntmps5
  go_upto_region 2 with fail
  have hWA : WA w (w.alloc (.cells #[.slice none 0 0, .int .i64 0] 25)) w.heap.size (.slice none 0 0) [] :=
    ⟨Nat.le_refl _, heap_new w _ _ rfl, ((vb_nil w).alloc _).is (by rw [pk_nil]; rfl), apart_nil _⟩
  have hsz : (w.alloc (.cells #[.slice none 0 0, .int .i64 0] 25)).heap.size = w.heap.size + 1 := by simp
  generalize w.alloc (.cells #[.slice none 0 0, .int .i64 0] 25) = W2 at *
  have HW := Kept.mk (And.intro hWA hsz)
  have HBW := Kept.mk (hWA.vb.1)
  clear hWA hsz
  go_wp2_with fail
  with_reducible refine (some_any A c ls W2 (HR1.out.below HBW.out) HR2.out hls).mono ?_
  rintro e w3 ⟨vl, rfl, hvd⟩
  have HK := Kept.mk (show ∀ k, ¬ Apart vl k → w.heap.size < k from fun k hk => by
    have h1 := hvd.fresh hk
    have h2 := HW.out.2
    omega)
  have HWA := Kept.mk (HW.out.1.below hvd.1)
  have HVD := Kept.mk (hvd.base HBW.out)
  clear HW HR1 HR2 hvd hls
  generalize dsome ls = ds at *
  obtain ⟨B, cl, rfl, hcl⟩ := HVD.out.len
  obtain ⟨ga, hga⟩ : ∃ ga, w.heap.size = ga := ⟨_, rfl⟩
  have HGA := Kept.mk hga
  rw [hga] at HWA HK ⊢
  clear hga
  go_wp2_with fail
  go_loopw [4] (fun s wr => ∃ (i : Nat) (va : Value), i ≤ ds.length ∧ s = .int .i64 i ∧ WA w wr ga va (lp (ds.map dn) i) ∧ VD w wr (.slice B ds.length cl) (mix ds i) ∧ (∀ k, ¬ Apart (.slice B ds.length cl) k → Apart va k)) (fun s _ => ds.length - (RowKit.intOf s).toNat)
  case atStart => exact ⟨0, _, by omega, rfl, by rw [lp_zero]; exact HWA.out, by rw [mix_zero]; exact HVD.out, fun k _ => apart_nil k⟩
  case round =>
    clear HWA HVD
    obtain ⟨i, va, hi, rfl, h1, h2, h3⟩ := hrel
    have HA := Kept.mk h1
    have HV := Kept.mk h2
    have HP := Kept.mk h3
    clear h1 h2 h3
    have hdl := HDL.out
    by_cases hlt : i < ds.length
    · have hii : (i : Int) < (ds.length : Int) := by omega
      have hi60 : (i : Int) < 60 := by omega
      have hil : i < (mix ds i).length := by rw [mix_length]; exact hlt
      have hil2 : i < (mix ds (i + 1)).length := by rw [mix_length]; exact hlt
      have HST := Kept.mk (mix_step ds i hlt hil)
      have HM1 := Kept.mk (mix_get ds i hlt hil)
      have HM2 := Kept.mk (mix_get2 ds i hlt hil2)
      obtain ⟨kl, cap, hve, hna, hnf, hput⟩ := HV.out.place hil
      obtain ⟨kl2, cap2, hve2, _, hcells⟩ := HV.out.get hil
      rw [hve] at hve2
      cases hve2
      rw [mix_length] at hve
      cases hve
      have hng := HK.out kl hna
      have hap := HP.out kl hna
      obtain ⟨c0, c1, c2, c3⟩ := hcells wr rfl
      rw [HM1.out] at c0 c1 c2 c3
      have HPT := Kept.mk hput
      clear hcells hput
      have HSM := Kept.mk (HDS.out _ (List.getElem_mem hlt))
      have HLN := Kept.mk (lp_next2 ds i hlt)
      have HLL := Kept.mk (lp_len (ds.map dn) (dn_small HDS.out) i (by rw [List.length_map]; omega))
      generalize ds[i] = d at *
      have hand := and_mask d.n 6 (by decide) 63 (by decide)
      have h64 : ((2 ^ 6 : Nat) : Int) = 64 := by decide
      rw [h64] at hand
      go_upto_if 41 with fail
      go_cut [] from 26 to 45 (fun wx => VD w wx (.slice (some ⟨kl, 0, none⟩) ds.length cl) (mix ds (i + 1)) ∧ WA w wx ga va (lp (ds.map dn) i))
      case first =>
        by_cases h62 : 62 < d.n % 64
        · have HNN := Kept.mk (show nn d.n = 62 from by unfold nn; rw [if_pos h62])
          go_wp2_with fail
          go_meet
          exact ⟨(HV.out.set2 hil rfl _ _).is (by rw [← HST.out, HM1.out, HNN.out]), (St.off (St.off HA.out (by rw [HGA.out]; omega) (by omega) hap _ _) (by rw [HGA.out]; omega) (by omega) hap _ _)⟩
        · have HNN := Kept.mk (show nn d.n = d.n % 64 from by unfold nn; rw [if_neg h62])
          go_wp2_with fail
          go_meet
          exact ⟨(HPT.out _).is (by rw [← HST.out, HM1.out, HNN.out]), St.off HA.out (by rw [HGA.out]; omega) (by omega) hap _ _⟩
      case rest =>
      obtain ⟨hv2, ha2⟩ := hcut
      obtain ⟨kl3, cap3, hve3, _, hcells⟩ := hv2.get hil2
      rw [mix_length] at hve3
      cases hve3
      obtain ⟨e0, e1, e2, e3⟩ := hcells wc rfl
      rw [HM2.out] at e0 e1 e2 e3
      have HV2 := Kept.mk hv2
      have HA2 := Kept.mk ha2
      have hds := HSM.out
      clear hv2 ha2 hcells HST HM1 HM2 c0 c1 c2 c3 hand h64 HV HA hnf HPT HSM
      have hds2 : (dn d).s.length ≤ 100 := hds
      clear hds hna hap hng
      generalize dn d = x at *
      go_wp2_with fail
      with_reducible refine (does_any w wc ga va (lp (ds.map dn) i) x HA2.out (by have := HLL.out; omega) hds2).mono ?_
      rintro e w4 ⟨rfl, va2, ha3, ht3⟩
      have HA3 := Kept.mk ha3
      have HV3 := Kept.mk (HV2.out.kept ha3.vb.1 ht3 (fun k hk => ⟨by have := HK.out k hk; omega, HP.out k hk⟩))
      have HP3 := Kept.mk (show ∀ k, ¬ Apart (.slice (some ⟨kl, 0, none⟩) ds.length cl) k → Apart va2 k from fun k hk => (ht3.keep k (HV2.out.lt hk) (by have := HK.out k hk; omega) (HP.out k hk)).2)
      clear ha3 ht3 HV2 HA2 HP HLL hil hil2 e0 e1 e2 e3 hds2
      rw [← HLN.out] at HA3
      go_wp2_with fail
      exact ⟨⟨i + 1, va2, hlt, by push_cast; rfl, HA3.out, HV3.out, HP3.out⟩, by show ds.length - ((i : Int) + 1).toNat < ds.length - ((i : Nat) : Int).toNat; omega⟩
    · have hii : ¬ (i : Int) < (ds.length : Int) := by omega
      obtain rfl : i = ds.length := by omega
      rw [mix_all] at HV
      have hPK := pk_length (lp (ds.map dn) ds.length)
      have hLL := lp_len (ds.map dn) (dn_small HDS.out) ds.length (by rw [List.length_map]; omega)
      have HBT := Kept.mk (bt_pk (lp (ds.map dn) ds.length) (lp_two _ _))
      have HPX := Kept.mk (fun j => lp_prefix (ds.map dn) j)
      rw [List.length_map] at HPX
      have HMID := Kept.mk (fun (M R : List Nat) (s : List UInt8) (h : M.length % 8 = 0) (e : lp (ds.map dn) ds.length = M ++ txB s ++ R) => (by rw [e]; exact pk_mid M R s h : ((pk (lp (ds.map dn) ds.length)).take (M.length / 8 + s.length)).drop (M.length / 8) = s))
      go_wp2_with fail
      with_reducible refine (bytes_any w wr ga va _ HA.out).mono ?_
      rintro e w4 ⟨rfl, rfl⟩
      generalize hl : pk (lp (ds.map dn) ds.length) = l at *
      generalize hLt : lp (ds.map dn) ds.length = Lt at *
      have HLT := Kept.mk hLt
      have HA0 := Kept.mk (show ga < wr.heap.size from block_lt (St.box HA.out))
      clear hl hLt HA HP
      go_wp2_with fail
      with_reducible refine (rdNew_any l wr).mono ?_
      rintro e w5 ⟨rfl, rfl⟩
      have hgr : ga < wr.heap.size := by
        exact HA0.out
      have HRS := Kept.mk (show RS (wr.alloc (.cells #[.string (str l), .int .i64 ((0 : Nat) : Int)] 72)) 72 wr.heap.size l 0 from ⟨heap_new wr _ _ rfl⟩)
      have HVR := Kept.mk (HV.out.alloc (.cells #[.string (str l), .int .i64 ((0 : Nat) : Int)] 72))
      have HKR := Kept.mk (show ∀ k, ¬ Apart (.slice B ds.length cl) k → k ≠ wr.heap.size from fun k hk => by have := HV.out.lt hk; omega)
      have HWR := Kept.mk (HV.out.1.size)
      clear HV hgr
      generalize wr.alloc (.cells #[.string (str l), .int .i64 ((0 : Nat) : Int)] 72) = w6 at *
      generalize wr.heap.size = gr at *
      go_wp2_with fail
      go_loopw [6] (fun s wr => ∃ j : Nat, j ≤ ds.length ∧ s = .int .i64 j ∧ RS wr 72 gr l (lp (ds.map dn) j).length ∧ VD w wr (.slice B ds.length cl) (ds.map dn)) (fun s _ => ds.length - (RowKit.intOf s).toNat)
      case atStart => exact ⟨0, by omega, rfl, by rw [lp_zero]; exact HRS.out, HVR.out⟩
      case round =>
        clear HRS HVR w6
        obtain ⟨j, hj, rfl, hrs, hvd⟩ := hrel
        have HR := Kept.mk hrs
        have HV := Kept.mk hvd
        clear hrs hvd
        by_cases hlt : j < ds.length
        · have hii : (j : Int) < (ds.length : Int) := by omega
          have hil : j < (ds.map dn).length := by rw [List.length_map]; exact hlt
          obtain ⟨kl, cap, hve, hna, hcells⟩ := HV.out.get hil
          rw [List.length_map] at hve
          cases hve
          obtain ⟨c0, c1, c2, c3⟩ := hcells wr rfl
          have hrange := dn_in _ (List.getElem_mem hil)
          have hsm := dn_small HDS.out _ (List.getElem_mem hil)
          have hnext := lp_next (ds.map dn) j hil
          obtain ⟨R, hR⟩ := HPX.out (j + 1)
          rw [hnext] at hR
          have HNX := Kept.mk hnext
          have HRR := Kept.mk hR
          clear hcells hnext hR
          generalize hx : (ds.map dn)[j] = x at *
          clear hx
          generalize hL : lp (ds.map dn) j = L at *
          have HL := Kept.mk hL
          clear hL
          go_upto_region 15 with fail
          have hgr := HR.out.lt
          have HR7 := Kept.mk (HR.out.alloc (.cells #[.int .i64 x.k, .int .i64 x.v, .int .i64 x.n, .string (str x.s)] 34))
          have HV7 := Kept.mk (HV.out.alloc (.cells #[.int .i64 x.k, .int .i64 x.v, .int .i64 x.n, .string (str x.s)] 34))
          have hX7 := heap_new wr (.cells #[.int .i64 x.k, .int .i64 x.v, .int .i64 x.n, .string (str x.s)] 34) _ rfl
          generalize wr.alloc (.cells #[.int .i64 x.k, .int .i64 x.v, .int .i64 x.n, .string (str x.s)] 34) = W7 at *
          generalize wr.heap.size = gx at *
          clear c0 c1 c2 c3 HR HV hna
          have hxr : gx ≠ gr := by omega
          have d0 := Joins.cell_of_block hX7 0
          have d1 := Joins.cell_of_block hX7 1
          have d2 := Joins.cell_of_block hX7 2
          have d3 := Joins.cell_of_block hX7 3
          have hll : l.length ≤ 10000 := by have := HDL.out; omega
          have HLEN := Kept.mk (show (dbits L x).length ≤ 8 * l.length from by have := congrArg List.length HRR.out; rw [List.length_append] at this; omega)
          have hj60 : (j : Int) < 60 := by have := HDL.out; omega
          have HX7 := Kept.mk hX7
          obtain ⟨xk, xv, xn, xs⟩ := x
          simp only at d0 d1 d2 d3 hsm
          obtain ⟨N, hN⟩ : ∃ N : Nat, xn = (N : Int) := ⟨xn.toNat, by have := hrange.1; simp only at this; omega⟩
          subst hN
          have hN62 : N ≤ 62 := by have := hrange.2; simp only at this; omega
          have hct : ct (N : Int) = N := by unfold ct; rw [if_neg (by omega), if_neg (by omega)]; omega
          clear hX7 hrange hgr
          by_cases hk01 : xk = 0 ∨ xk = 1
          · have hD := dbits_01 L ⟨xk, xv, (N : Int), xs⟩ hk01
            simp only at hD
            rw [hct] at hD
            rw [hD] at HNX HRR HLEN
            have hf := low_found HBT.out xv N HRR.out
            have hand := and_mask xv N hN62 (2 ^ N - 1) (by rw [Int.natCast_sub (Nat.pow_pos (by decide)), Int.natCast_pow]; rfl)
            rw [Int.natCast_pow] at hand
            have hp62 : (2 : Int) ^ N ≤ 4611686018427387904 := by
              have h1 : 2 ^ N ≤ 2 ^ 62 := Nat.pow_le_pow_right (by decide) hN62
              have h2 : ((2 ^ N : Nat) : Int) ≤ ((2 ^ 62 : Nat) : Int) := Int.ofNat_le.2 h1
              rw [Int.natCast_pow] at h2
              exact h2
            have hp0 : 0 < (2 : Int) ^ N := Int.pow_pos (by decide)
            have ww := wrap_i64_small ((2 : Int) ^ N) (by omega) (by omega)
            have ww1 := wrap_i64_small ((2 : Int) ^ N - 1) (by omega) (by omega)
            have HU := Kept.mk (show L.length + N ≤ 8 * l.length from by have := HLEN.out; rw [List.length_append, lowB_length] at this; exact this)
            have HNL := Kept.mk (show (lp (ds.map dn) (j + 1)).length = L.length + N from by rw [HNX.out, List.length_append, lowB_length])
            clear hD hct HNX HRR HLEN
            have hnat2 : ((2 : Nat) : Int) = 2 := rfl
            generalize hV : bv l L.length N = V at hf
            have HVV := Kept.mk hV
            clear hV
            rcases hk01 with rfl | rfl
            all_goals (
              go_wp2_with fail
              with_reducible refine (rdTake_round gr l L.length N W7 HR7.out hll hN62 HU.out).mono ?_
              rintro e w8 ⟨rfl, hr8, ho8⟩
              rw [HVV.out]
              have hx8 := (ho8.block gx hxr).trans HX7.out
              have f1 := Joins.cell_of_block hx8 1
              have f2 := Joins.cell_of_block hx8 2
              have HR8 := Kept.mk hr8
              have HV8 := Kept.mk (HV7.out.one ho8 HWR.out HKR.out)
              clear hr8 ho8 hx8 d0 d1 d2 d3
              go_upto_region 22 with fail
              go_quiet (fail)
              go_wp2_with fail
              refine ⟨⟨j + 1, hlt, by push_cast; rfl, ?_, HV8.out.drewN _⟩, by show ds.length - ((j : Int) + 1).toNat < ds.length - ((j : Nat) : Int).toNat; omega⟩
              rw [HNL.out]; exact HR8.out.drewN _)
          · have hk0 : ¬ xk = 0 := fun h => hk01 (.inl h)
            have hk1 : ¬ xk = 1 := fun h => hk01 (.inr h)
            by_cases hk2 : xk = 2
            · have hD := dbits_2 L ⟨xk, xv, (N : Int), xs⟩ hk2
              simp only at hD
              rw [hct] at hD
              rw [hD] at HNX HRR HLEN
              have HF := Kept.mk (fun i (hi : i < N) => high_found HBT.out xv N i hi HRR.out)
              have HU := Kept.mk (show L.length + N ≤ 8 * l.length from by have := HLEN.out; rw [List.length_append, highB_length] at this; exact this)
              have HNL := Kept.mk (show (lp (ds.map dn) (j + 1)).length = L.length + N from by rw [HNX.out, List.length_append, highB_length])
              clear hD hct HNX HRR HLEN hk0 hk1 hk01
              subst hk2
              have wN := wrap_i64_small ((N : Int) - 1) (by omega) (by omega)
              go_wp2_with fail
              go_loopw [10] (fun s wr => ∃ i : Nat, i ≤ N ∧ s = .int .i64 ((N : Int) - 1 - i) ∧ RS wr 72 gr l (L.length + i) ∧ VD w wr (.slice (some ⟨kl, 0, none⟩) ds.length cl) (ds.map dn) ∧ wr.heap[gx]? = some (.cells #[.int .i64 2, .int .i64 xv, .int .i64 (N : Int), .string (str xs)] 34 (0, 0))) (fun s _ => ((RowKit.intOf s) + 1).toNat)
              case atStart => exact ⟨0, by omega, by simp, HR7.out, HV7.out, HX7.out⟩
              case round =>
                clear d0 d1 d2 d3 HR7 HV7 HX7 wN
                obtain ⟨i, hi, rfl, hr, hv, hx⟩ := hrel
                have f1 := Joins.cell_of_block hx 1
                have HR9 := Kept.mk hr
                have HV9 := Kept.mk hv
                have HX9 := Kept.mk hx
                clear hr hv hx
                by_cases hin : i < N
                · obtain ⟨k, hk⟩ : ∃ k, N - 1 - i = k := ⟨_, rfl⟩
                  have hki : ((N : Int) - 1 - (i : Int)) = (k : Int) := by omega
                  have HK2 := Kept.mk (show ((N : Int) - 1 - ((i + 1 : Nat) : Int)) = (k : Int) - 1 from by omega)
                  have k0 : (0 : Int) ≤ (k : Int) := by omega
                  have k62 : (k : Int) ≤ 62 := by omega
                  have kn : ((k : Int)).toNat = k := by omega
                  rw [hki]
                  have hal := and_low xv k
                  have hf := HF.out i hin
                  rw [hk] at hf
                  have HFF := Kept.mk hf
                  clear hf hk hki
                  go_wp2_with fail
                  with_reducible refine (rdTake_one gr l (L.length + i) wr HR9.out hll (by have := HU.out; omega)).mono ?_
                  rintro e w8 ⟨rfl, hr8, ho8⟩
                  rw [HFF.out]
                  have hx8 := (ho8.block gx hxr).trans HX9.out
                  have g1 := Joins.cell_of_block hx8 1
                  have HR8 := Kept.mk hr8
                  have HV8 := Kept.mk (HV9.out.one ho8 HWR.out HKR.out)
                  have HX8 := Kept.mk hx8
                  clear hr8 ho8 hx8 f1
                  go_wp2_with fail
                  exact ⟨⟨i + 1, hin, by rw [HK2.out], HR8.out, HV8.out, HX8.out⟩, by show (((k : Int) - 1) + 1).toNat < (((k : Nat) : Int) + 1).toNat; omega⟩
                · have him : i = N := by omega
                  have hneg : ((N : Int) - 1 - (i : Int)) = -1 := by omega
                  rw [hneg]
                  subst him
                  clear hneg hin
                  go_wp2_with fail
                  refine ⟨⟨j + 1, hlt, by push_cast; rfl, ?_, HV9.out⟩, by show ds.length - ((j : Int) + 1).toNat < ds.length - ((j : Nat) : Int).toNat; omega⟩
                  rw [HNL.out]; exact HR9.out
            · by_cases hk3 : xk = 3
              · have hD := dbits_3 L ⟨xk, xv, (N : Int), xs⟩ hk3
                rw [hD] at HNX
                have HNL := Kept.mk (show (lp (ds.map dn) (j + 1)).length = al8 L.length from by rw [HNX.out, alg_length, al8_up2])
                have hu : L.length ≤ 100000 := by have := congrArg List.length HRR.out; have h2 := dbits_prefix L ⟨xk, xv, (N : Int), xs⟩; obtain ⟨R2, h3⟩ := h2; rw [h3, List.length_append, List.length_append] at this; omega
                clear hD hct HNX HRR HLEN hk0 hk1 hk01 hk2
                subst hk3
                go_wp2_with fail
                with_reducible refine (rdAlign_any gr l L.length W7 HR7.out hu).mono ?_
                rintro e w8 ⟨rfl, hr8, ho8⟩
                have HR8 := Kept.mk hr8
                have HV8 := Kept.mk (HV7.out.one ho8 HWR.out HKR.out)
                clear hr8 ho8 d0 d1 d2 d3
                go_wp2_with fail
                refine ⟨⟨j + 1, hlt, by push_cast; rfl, ?_, HV8.out⟩, by show ds.length - ((j : Int) + 1).toNat < ds.length - ((j : Nat) : Int).toNat; omega⟩
                rw [HNL.out]; exact HR8.out
              · have hD := dbits_o L ⟨xk, xv, (N : Int), xs⟩ hk0 hk1 hk2 hk3
                simp only at hD
                rw [hD] at HNX HRR HLEN
                obtain ⟨T, hT⟩ : ∃ T, (L.length + 7) / 8 = T := ⟨_, rfl⟩
                have hA8 : (alg L).length = 8 * T := by rw [alg_length]; unfold upTo; omega
                have hmid := HMID.out (alg L) R xs (by omega) HRR.out
                rw [show (alg L).length / 8 = T by omega] at hmid
                have HU := Kept.mk (show T + xs.length ≤ l.length from by have := HLEN.out; rw [List.length_append, hA8, txB_length] at this; omega)
                have HNL := Kept.mk (show (lp (ds.map dn) (j + 1)).length = 8 * (T + xs.length) from by rw [HNX.out, List.length_append, hA8, txB_length]; omega)
                have HMD := Kept.mk hmid
                have hss := str_size xs
                clear hD hct HNX HRR HLEN hk01 hA8 hmid
                go_wp2_with fail
                with_reducible refine (rdText_yes gr l L.length T xs.length W7 HR7.out hll hT HU.out).mono ?_
                rintro e w8 ⟨rfl, hr8, ho8⟩
                rw [HMD.out]
                have hx8 := (ho8.block gx hxr).trans HX7.out
                have f3 := Joins.cell_of_block hx8 3
                have HR8 := Kept.mk hr8
                have HV8 := Kept.mk (HV7.out.one ho8 HWR.out HKR.out)
                clear hr8 ho8 hx8 d0 d1 d2 d3
                go_wp2_with fail
                refine ⟨⟨j + 1, hlt, by push_cast; rfl, ?_, HV8.out⟩, by show ds.length - ((j : Int) + 1).toNat < ds.length - ((j : Nat) : Int).toNat; omega⟩
                rw [HNL.out]; exact HR8.out
        · have hii : ¬ (j : Int) < (ds.length : Int) := by omega
          obtain rfl : j = ds.length := by omega
          rw [HLT.out] at HR
          have hll : l.length ≤ 10000 := by have := HDL.out; omega
          have hu8 : Lt.length ≤ 8 * l.length := by omega
          obtain ⟨lf, hlf⟩ : ∃ lf, 8 * l.length - Lt.length = lf := ⟨_, rfl⟩
          have hl8 : lf < 8 := by omega
          have hl8i : (lf : Int) < 8 := by omega
          have HEND := Kept.mk (end_found HBT.out lf)
          go_wp2_with fail
          with_reducible refine (rdLeft_any gr l Lt.length wr HR.out hll hu8).mono ?_
          rintro e w8 ⟨rfl, nq, rfl⟩
          rw [hlf]
          have HR8 := Kept.mk (HR.out.drewN nq)
          have HV8 := Kept.mk (HV.out.drewN nq)
          clear HR HV
          generalize wr.drewN nq = w8 at *
          go_wp2_with fail
          with_reducible refine (rdTake_round gr l Lt.length lf w8 HR8.out hll (by omega) (by omega)).mono ?_
          rintro e w9 ⟨rfl, hr9, ho9⟩
          rw [HEND.out]
          have HB9 := Kept.mk (HV8.out.one ho9 HWR.out HKR.out).1
          clear hr9 ho9
          go_wp2_with fail
          with_reducible refine (bitsAwake_any w9).mono ?_
          rintro e w10 ⟨rfl, hb10⟩
          have HB10 := Kept.mk (HB9.out.trans (hb10.mono HB9.out.size))
          clear hb10
          go_wp2_with fail
          go_ret
          exact ⟨by first | rfl | simp, HB10.out⟩
end Go.Proofs.Ytohdekokdljgjaa
