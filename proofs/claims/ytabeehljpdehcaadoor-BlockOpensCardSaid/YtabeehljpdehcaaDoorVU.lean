/- The document's XOR, by a contract. -/
import Derived.Test.YtabeehljpdehcaaDoorVT
namespace Go.Proofs.YtabeehljpdehcaaDoor
set_option linter.unusedVariables false
set_option linter.unusedSimpArgs false
open Go.RowKit Go.Lib
theorem take_next (T : List UInt8) (o : Nat) (d : UInt8) (h : T[o]? = some d) : T.take o ++ [d] = T.take (o + 1) := by
  rw [List.take_add_one, h]; rfl
theorem xor_int (p q : UInt8) : bits .xor .i64 (p.toNat : Int) (q.toNat : Int) = ((q ^^^ p).toNat : Int) := by
  rw [xor_i64 _ _ (by have := p.toNat_lt; omega) (by have := q.toNat_lt; omega)]
  unfold xo
  rw [UInt8.toNat_xor, Nat.xor_comm]
theorem kbs_get (B : List Nat) (j : Nat) (h : j < 64) : (Lib.byteCells (kbs B 64))[j]? = some (.int .u8 ((kb B j).toNat : Int)) := by
  unfold Lib.byteCells kbs
  rw [List.getElem?_map, List.getElem?_map, List.getElem?_range h]; rfl
theorem _root_.Go.Proofs.YtabeehljpdehcaaDoor.RowAt.off0' {w : World} {g : Nat} {xs : List Value} (h : RowAt w (some ⟨g, 0, none⟩) xs) {j : Nat} {u : Value} (hu : xs[j]? = some u) : w.cell? ⟨g, j, none⟩ = some u := by
  have hx : 0 < xs.length := by
    have := (List.getElem?_eq_some_iff.1 hu).1; omega
  obtain ⟨ad2, e, _, hc⟩ := h hx
  cases e
  have h2 := hc j u hu
  rwa [at_add] at h2
attribute [local irreducible] str turn stW blk nblk xoJ wcells wat kbs xorAt kb

set_option maxRecDepth 100000 in
set_option maxHeartbeats 4000000 in
theorem refXor_any (key nonce s : List UInt8) (c N : Nat) (w : World) (hk : key.length = 32) (hn : nonce.length = 12) (hs : s.length ≤ 5000) (hc : c < 4294967296) (hN : (s.length + 63) / 64 = N) (hr : N ≤ 4294967296 - c) :
    Calls Tryd.prog 44 #[.string (str key), .string (str nonce), .int .i64 (c : Int), .string (str s)] w fun e w' => e = .returned (.tuple #[.string (str (turn key nonce c s)), .int .i64 0]) ∧ Below w.heap.size w w' := by
  have hss := str_size s
  have hNi : ((s.length : Int) + 63) / 64 = (N : Int) := by omega
  have hd1 : ¬ (4294967295 - (c : Int) < (N : Int) - 1) := by omega
  have hN100 : (N : Int) ≤ 100 := by omega
  have HV := Kept.mk (right_any key nonce (c : Int))
  have HD := Kept.mk (show (decide (key.length = 32) && decide (nonce.length = 12) && decide (0 ≤ (c : Int)) && decide ((c : Int) ≤ 4294967295)) = true from by
    rw [decide_eq_true hk, decide_eq_true hn, decide_eq_true (show 0 ≤ (c : Int) by omega), decide_eq_true (show (c : Int) ≤ 4294967295 by omega)]; rfl)
  have hk2 : key.length ≤ 140737488355328 := by omega
  have hn2 : nonce.length ≤ 140737488355328 := by omega
  have HRB := Kept.mk (fun d w (hd : d < 4294967296) => refBlock_any key nonce d w hk hn hd)
  have HTG := Kept.mk (turn_get key nonce c s)
  have HTL := Kept.mk (turn_length key nonce c s)
  have HNB := Kept.mk (nblk_eq key nonce c)
  clear hk hn
  generalize hTE : turn key nonce c s = T at HTG HTL
  have HTE := Kept.mk hTE
  clear hTE
  go_enter Tryd.func44, Tryd.ntmps44
  go_upto_region 3 with (with_reducible refine (HV.out _ hk2 hn2).mono ?_; rintro e w1 ⟨rfl, rfl⟩; rw [HD.out])
  go_wp2_with fail
  go_loopw [11, 12] (fun s11 s12 wr => ∃ k : Nat, k ≤ N ∧ s12 = .int .i64 k ∧ VB w wr s11 (Lib.byteCells (T.take (64 * k)))) (fun _ s12 _ => N - (RowKit.intOf s12).toNat)
  case atStart => exact ⟨0, by omega, rfl, (vb_nil w).is rfl⟩
  case round =>
    obtain ⟨k, hkN, rfl, hb⟩ := hrel
    by_cases hlt : k < N
    · have hki : (k : Int) < (N : Int) := by omega
      have HDR := Kept.mk (show (c : Int) + (k : Int) = ((c + k : Nat) : Int) from by omega)
      have HNK := Kept.mk (show nblk key nonce c k = blk (stW key nonce (c + k)) from by rw [HNB.out, Nat.mod_eq_of_lt (by omega)])
      have HBK := Kept.mk (HRB.out (c + k) wr (by omega))
      rw [← HNK.out] at HBK
      have HB := Kept.mk hb
      clear hb
      go_upto_region 11 with fail
      rw [HDR.out]
      with_reducible refine HBK.out.mono ?_
      rintro e w2 ⟨v, rfl, hv⟩
      obtain ⟨gb, capb, rfl, hgb, hgbl, hcb, hrb⟩ := hv.row (by rw [Lib.byteCells_length, kbs_length]; decide)
      rw [Lib.byteCells_length, kbs_length] at hcb ⊢
      have HA2 := Kept.mk (HB.out.apart hgb)
      have HB2 := Kept.mk (HB.out.below hv.1)
      have HRW := Kept.mk (fun j (hj : j < 64) => hrb.off0' (kbs_get (nblk key nonce c k) j hj))
      have hgl2 := hgbl
      clear HB HBK hv hrb
      have HTK := Kept.mk (fun i (hi : i < 64) (ho : 64 * k + i < s.length) => (by have h := HTG.out (64 * k + i); rw [show (64 * k + i) / 64 = k by omega, show (64 * k + i) % 64 = i by omega, List.getElem?_eq_getElem ho] at h; exact take_next T (64 * k + i) _ h : T.take (64 * k + i) ++ [s[64 * k + i] ^^^ kb (nblk key nonce c k) i] = T.take (64 * k + i + 1)))
      generalize nblk key nonce c k = B at *
      have hk64 : 64 * k ≤ s.length := by omega
      go_wp2_with fail
      go_loopw [11, 14] (fun s11 s14 wr => ∃ i : Nat, i ≤ 64 ∧ 64 * k + i ≤ s.length ∧ s14 = .int .i64 i ∧ VB w wr s11 (Lib.byteCells (T.take (64 * k + i))) ∧ Apart s11 gb ∧ gb < wr.heap.size ∧ ∀ j, j < 64 → wr.cell? ⟨gb, j, none⟩ = some (.int .u8 ((kb B j).toNat : Int))) (fun _ s14 _ => 64 - (RowKit.intOf s14).toNat)
      case atStart => exact ⟨0, by omega, by omega, rfl, HB2.out, HA2.out, hgl2, HRW.out⟩
      case round =>
        clear HB2 HA2 HRW
        obtain ⟨i, hi64, hio, rfl, hb, ha, hgl3, hrw⟩ := hrel
        by_cases hi : i < 64
        · by_cases ho : 64 * k + i < s.length
          · have hii : (i : Int) < 64 := by omega
            have hoi : 64 * (k : Int) + (i : Int) < (s.length : Int) := by omega
            have ho0 : 0 ≤ 64 * (k : Int) + (i : Int) := by omega
            have hot : (64 * (k : Int) + (i : Int)).toNat = 64 * k + i := by omega
            have w1 := wrap_i64_small (64 * (k : Int)) (by omega) (by omega)
            have w2 := wrap_i64_small (64 * (k : Int) + (i : Int)) (by omega) (by omega)
            have g0 := str_get s (64 * k + i) ho (by rw [str_size]; omega)
            have c0 := hrw i hi
            have HN := Kept.mk (HTK.out i hi ho)
            generalize s[64 * k + i] = q at *
            have hpe : ∃ p, kb B i = p := ⟨_, rfl⟩
            have HRW := Kept.mk hrw
            clear hrw
            generalize kb B i = p at c0 HN
            clear hpe
            obtain ⟨p0, p1⟩ := byte_range p
            obtain ⟨q0, q1⟩ := byte_range q
            obtain ⟨x0, x1⟩ := byte_range (q ^^^ p)
            have wp := wrap_i64_small (p.toNat : Int) (by omega) (by omega)
            have wq := wrap_i64_small (q.toNat : Int) (by omega) (by omega)
            have hx := xor_int p q
            generalize q ^^^ p = x at *
            have hx256 : (x.toNat : Int) % 256 = (x.toNat : Int) := by omega
            have hu8 : IntKind.u8.wrap (x.toNat : Int) = (x.toNat : Int) := by show (x.toNat : Int) % 256 = _; exact hx256
            have HB := Kept.mk hb
            have HA := Kept.mk ha
            have HLE := Kept.mk (show (T.take (64 * k + i)).length + 1 ≤ 1000000 from by rw [List.length_take]; omega)
            have HGL := Kept.mk (show ∀ o, gb < ((wr.alloc o).drew).heap.size from fun o => Nat.lt_of_lt_of_le hgl3 (by simp))
            have HOLD := Kept.mk (show ∀ o, ((wr.alloc o).drew).heap[gb]? = wr.heap[gb]? from fun o => Below.heap_alloc wr o gb hgl3)
            clear hb ha hkN hk64 hio hi64 hlt hgb
            go_wp2_with fail
            go_region_held3 (fun w' => w'.cell? ⟨gb, i, none⟩ = some (.int .u8 (p.toNat : Int)))
              (first
                | go_keep
                | (rw [cell_block k4.1]; assumption))
              ((refine byte_step (by rfl) _ _ (by rfl) (w := w) (l := T.take (64 * k + i)) (by rfl) ((HB.out.alloc _).drew) (b := wr.heap.size) (d := x) (by rfl) (by exact cell_of_cells (j := 0) (heap_new wr _ _ rfl)) HLE.out ?_; intro v' w' hq2 ksz k3; have k4 := k3 gb (HGL.out _) HA.out; rw [HOLD.out] at k4))
            all_goals (go_wp2_with fail)
            all_goals (
              rw [HN.out] at hq2
              exact ⟨⟨i + 1, by omega, by omega, by push_cast; rfl, hq2, k4.2, Nat.lt_of_lt_of_le (HGL.out _) ksz, fun j hj => (cell_block k4.1).trans (HRW.out j hj)⟩, by show 64 - ((i : Int) + 1).toNat < 64 - ((i : Nat) : Int).toNat; omega⟩)
          · have hii : (i : Int) < 64 := by omega
            have hoi : ¬ 64 * (k : Int) + (i : Int) < (s.length : Int) := by omega
            have HE := Kept.mk (show T.take (64 * k + i) = T.take (64 * (k + 1)) from by rw [List.take_of_length_le (by rw [HTL.out]; omega), List.take_of_length_le (by rw [HTL.out]; omega)])
            rw [HE.out] at hb
            have HB := Kept.mk hb
            clear hb ha hrw
            go_wp2_with fail
            exact ⟨⟨k + 1, by omega, by push_cast; rfl, HB.out⟩, by show N - ((k : Int) + 1).toNat < N - ((k : Nat) : Int).toNat; omega⟩
        · have hii : ¬ (i : Int) < 64 := by omega
          obtain rfl : i = 64 := by omega
          have HB := Kept.mk (show VB w wr _ (Lib.byteCells (T.take (64 * (k + 1)))) from hb)
          clear hb ha hrw
          go_wp2_with fail
          exact ⟨⟨k + 1, by omega, by push_cast; rfl, HB.out⟩, by show N - ((k : Int) + 1).toNat < N - ((k : Nat) : Int).toNat; omega⟩
    · have hki : ¬ (k : Int) < (N : Int) := by omega
      obtain rfl : k = N := by omega
      rw [List.take_of_length_le (by rw [HTL.out]; omega)] at hb
      have HS := Kept.mk hb.string
      have HBB := Kept.mk hb.1
      clear hb
      go_wp2_with (rw [HS.out])
      go_returns
      exact ⟨by first | rfl | (rw [HTE.out]), HBB.out⟩
end Go.Proofs.YtabeehljpdehcaaDoor
