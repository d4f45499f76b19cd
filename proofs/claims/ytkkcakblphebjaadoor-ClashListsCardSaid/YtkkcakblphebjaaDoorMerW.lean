/- Ways up a tree: the program's and the document's, by a contract each. -/
import Derived.Test.YtkkcakblphebjaaDoorMerB
import Derived.Test.YtkkcakblphebjaaDoorMvb
import Derived.Laws.MakeOwn
namespace Go.Proofs.YtkkcakblphebjaaDoor
set_option linter.unusedVariables false
set_option linter.unusedSimpArgs false
open Go.RowKit Go.Lib
/-- yes and no as cells -/
def bls (L : List Bool) : List Value := L.map Value.bool
theorem bls_length (L : List Bool) : (bls L).length = L.length := by simp [bls]
theorem bls_snoc (L : List Bool) (x : Bool) : bls (L ++ [x]) = bls L ++ [.bool x] := by simp [bls]
theorem bls_get (L : List Bool) (i : Nat) (h : i < L.length) : (bls L)[i]? = some (.bool L[i]) := by
  unfold bls
  rw [List.getElem?_map, List.getElem?_eq_getElem h]; rfl
theorem bls_set (L : List Bool) (i : Nat) (x : Bool) : (bls L).set i (.bool x) = bls (L.set i x) := by simp [bls, List.map_set]
theorem infoBool : (Tryd.prog.info? 4).map (fun i => (i.zero, i.size, i.bytes)) = some (some (.bool false), 1, 1) := by kernel_rfl
theorem bool_append1 {ops : Array Oper} {rest : List Oper} {o : Oper} {a : Act} {Q : Exit → Act → World → Prop} (hgd : o.guard = none) (s x : Operand)
    (ho : o.op = .call { callee := .builtin .append, args := #[s, x], argTypes := #[61, 61] })
    {w wr : World} {L : List Bool} {d : Bool} {v : Value} (hs : a.eval s = v) (hb : VB w wr v (bls L))
    (hx : a.eval x = .slice (some ⟨wr.heap.size, 0, none⟩) 1 1) (hlen : L.length + 1 ≤ 1000000)
    (h : ∀ v' w', VB w w' v' (bls (L ++ [d])) → wpList Tryd.prog ops Q rest (a.put o.dst v') w') : wpList Tryd.prog ops Q (o :: rest) a (wr.alloc (.cells #[.bool d] 4)) := by
  obtain ⟨i0, hi, hz0, hz1, hz2⟩ := info_parts infoBool
  refine vb_append2 hgd s x Tryd.underlying61 hi hz0 hz1 rfl (by rw [hz2]; decide) ho hs (hb.alloc _) hx (src_one Tryd.underlying61 wr (.bool d) 4 rfl) (Nat.zero_lt_one) (by rw [bls_length]; show L.length + 1 ≤ _; omega) fun v' w' h1 _ _ _ => h v' w' ?_
  rw [bls_snoc]; exact h1
theorem VB.off {w W : World} {v : Value} {cs : List Value} (h : VB w W v cs) {g : Nat} (hg : w.heap.size ≤ g) (ha : Apart v g) (i : Nat) (u : Value) : VB w (W.setCell ⟨g, i, none⟩ u) v cs :=
  ⟨h.1.setCell hg _, h.2.imp id fun ⟨k, cap, ds, T, f0, f1, h1, h2, h3, h4⟩ => ⟨k, cap, ds, T, f0, f1, h1, h2, (Below.heap_setCell W ⟨g, i, none⟩ u k (fun e => ha cs.length cap (by rw [h1, show k = g from e]))).trans h3, h4⟩⟩
def noes (k : Nat) : Array Value := madeCells #[.bool false] k
theorem noes_get (k i : Nat) (h : i < k) : (noes k)[i]? = some (.bool false) := by
  unfold noes madeCells
  simp [Array.getElem?_map, h, Nat.mod_one]
theorem noes_size (k : Nat) : (noes k).size = k := size_madeCells _ _
theorem make_bools (W : World) (c : Nat) (hc : c ≤ 1000000000) :
    (Instr.makeSlice 61 (.int .i64 (c : Int)) (.int .i64 (c : Int))).run Tryd.prog W = .ok (.slice (some ⟨W.heap.size, 0, none⟩) c c) (W.alloc (.cells (noes c) 4)) := by
  obtain ⟨i0, hi, hz0, hz1, hz2⟩ := info_parts infoBool
  have h := run_make (P := Tryd.prog) W 61 4 i0 (.bool false) Tryd.underlying61 hi hz0 .i64 .i64 (c : Int) (c : Int) (by omega) (by omega) (by rw [hz2]; omega) (by omega)
  rw [hz1] at h
  simp only [Int.toNat_natCast, Nat.mul_one] at h
  exact h
theorem vb_noes {w W : World} (hb : Below w.heap.size w W) (k : Nat) : VB w (W.alloc (.cells (noes k) 4)) (.slice (some ⟨W.heap.size, 0, none⟩) k k) (bls (List.replicate k false)) := by
  refine ⟨hb.alloc hb.size _, .inr ⟨W.heap.size, k, _, _, 0, 0, by rw [bls_length, List.length_replicate], hb.size, heap_new _ _ _ rfl, by rw [bls_length, List.length_replicate]; exact Nat.le_refl _, by rw [noes_size]; exact Nat.le_refl _, .inr rfl, ?_⟩⟩
  apply List.ext_getElem?
  intro i
  rw [bls_length, List.length_replicate, List.getElem?_take]
  by_cases hi : i < k
  · rw [if_pos hi, Array.getElem?_toList, noes_get k i hi, bls_get _ i (by rw [List.length_replicate]; exact hi), List.getElem_replicate]
  · rw [if_neg hi, List.getElem?_eq_none (by rw [bls_length, List.length_replicate]; omega)]
/-- turned around so far -/
def upL (D : List Bool) (j : Nat) : List Bool := List.replicate (D.length - j) false ++ (D.take j).reverse
theorem upL_zero (D : List Bool) : upL D 0 = List.replicate D.length false := by simp [upL]
theorem upL_all (D : List Bool) : upL D D.length = D.reverse := by simp [upL]
theorem upL_length (D : List Bool) (j : Nat) (h : j ≤ D.length) : (upL D j).length = D.length := by simp [upL]; omega
theorem upL_set (D : List Bool) (j : Nat) (h : j < D.length) : (upL D j).set (D.length - 1 - j) D[j] = upL D (j + 1) := by
  have e : D.length - j = (D.length - 1 - j) + 1 := by omega
  unfold upL
  rw [e, List.replicate_succ', List.append_assoc, List.set_append_right _ _ (by rw [List.length_replicate]; exact Nat.le_refl _), List.length_replicate, Nat.sub_self, List.take_add_one, List.getElem?_eq_getElem h, Option.toList_some, List.reverse_append, show D.length - (j + 1) = D.length - 1 - j from by omega]
  rfl
attribute [local irreducible] bls noes upL
set_option maxRecDepth 100000 in
set_option maxHeartbeats 2000000 in
theorem Way_any (i n : Nat) (W : World) (h0 : i < n) (hn : n ≤ 1099511627776) :
    Calls Tryd.prog 57 #[.int .i64 i, .int .i64 n] W fun e w' => ∃ v, e = .returned v ∧ VB W w' v (bls (tWay i n)) := by
  have hL : (tDown i n).length ≤ 40 := by rw [tDown_length]; exact tWay_le 40 i n (by have : (2 : Nat) ^ 40 = 1099511627776 := by decide
                                                                                      omega)
  have HU := Kept.mk (tDown_up i n)
  have hii : ¬ (i : Int) < 0 := by omega
  have hin : ¬ (n : Int) ≤ (i : Int) := by omega
  generalize hD : tDown i n = D at *
  go_enter Tryd.func57, Tryd.ntmps57
  go_wp2_with fail
  go_loopw [0, 1, 5] (fun a b d wr => ∃ (x y : Nat) (E : List Bool), a = .int .i64 x ∧ b = .int .i64 y ∧ x < y ∧ y ≤ 1099511627776 ∧ D = E ++ tDown x y ∧ VB W wr d (bls E)) (fun _ b _ _ => (RowKit.intOf b).toNat)
  case atStart => exact ⟨i, n, [], rfl, rfl, h0, hn, by rw [hD]; rfl, by unfold bls; exact vb_nil W⟩
  case round =>
    obtain ⟨x, y, E, rfl, rfl, hxy, hy, hE, hv⟩ := hrel
    have HV := Kept.mk hv
    clear hv hii hin h0 hn hD
    by_cases h1 : y < 2
    · have h1i : ¬ (1 : Int) < (y : Int) := by omega
      rw [tDown_short _ _ h1, List.append_nil] at hE
      subst hE
      obtain ⟨A, cap, hve, hcap⟩ := HV.out.len
      rw [bls_length] at hve hcap
      subst hve
      have hmk := make_bools wr D.length (by omega)
      have HN := Kept.mk (vb_noes HV.out.1 D.length)
      have HA := Kept.mk (HV.out.apart (Nat.le_refl wr.heap.size))
      have HV2 := Kept.mk (HV.out.alloc (.cells (noes D.length) 4))
      have HN0 := HN
      have HV20 := HV2
      have hgw := HV.out.1.size
      clear HV hxy hy
      generalize hK : D.length = K at *
      go_wp2_with fail
      have HKW := Kept.mk hgw
      generalize wr.heap.size = g at *
      generalize wr.alloc (.cells (noes K) 4) = W1 at *
      generalize wr = W9 at *
      clear hmk HN HV2 hgw
      go_loopw [42] (fun c wr => ∃ j : Nat, j ≤ K ∧ c = .int .i64 j ∧ VB W wr (.slice (some ⟨g, 0, none⟩) K K) (bls (upL D j)) ∧ VB W wr (.slice A K cap) (bls D)) (fun c _ => K - (RowKit.intOf c).toNat)
      case atStart => exact ⟨0, Nat.zero_le _, rfl, HN0.out.is (by rw [upL_zero, hK]), HV20.out⟩
      case round =>
        obtain ⟨j, hj, rfl, hu, hd⟩ := hrel
        have HU1 := Kept.mk hu
        have HD1 := Kept.mk hd
        clear hu hd
        by_cases hlt : j < K
        · have hji : (j : Int) < (K : Int) := by omega
          have hjD : j < D.length := by omega
          obtain ⟨g2, cap2, hve, hgw2, hgl2, hcp2, hrow⟩ := HD1.out.row (by rw [bls_length]; omega)
          rw [bls_length, hK] at hve
          cases hve
          have c0 := hrow.off0 (bls_get D j hjD)
          have hul := upL_length D j (by omega)
          obtain ⟨c1p, f1, hset⟩ := HU1.out.place (i := K - 1 - j) (by rw [bls_length, hul]; omega)
          have HS := Kept.mk ((hset (.bool D[j])).is (show (bls (upL D j)).set (K - 1 - j) (.bool D[j]) = bls (upL D (j + 1)) from by rw [bls_set, ← upL_set D j hjD, hK]))
          have HO := Kept.mk (HD1.out.off HKW.out HA.out (K - 1 - j) (.bool D[j]))
          have hex : ∃ u, wr.cell? ⟨g, K - 1 - j, none⟩ = some u := ⟨_, c1p⟩
          clear c1p
          obtain ⟨u0, c1⟩ := hex
          have ht : ((K : Int) - 1 - (j : Int)).toNat = K - 1 - j := by omega
          have ht2 : (K : Int) - 1 - (j : Int) = ((K - 1 - j : Nat) : Int) := by omega
          generalize D[j] = b at *
          generalize K - 1 - j = m at *
          clear hrow hset hul
          go_wp2_with fail
          go_round
          case rel => exact ⟨j + 1, hlt, by push_cast; rfl, HS.out, HO.out⟩
          case measure => simp [RowKit.intOf]; omega
        · have hji : ¬ (j : Int) < (K : Int) := by omega
          obtain rfl : j = K := by omega
          have HF := Kept.mk (HU1.out.is (show bls (upL D j) = bls (tWay i n) from by rw [← hK, upL_all, HU.out]))
          go_wp2_with fail
          go_ret
          exact ⟨_, rfl, HF.out⟩
    · have h1i : (1 : Int) < (y : Int) := by omega
      have hcl := cutN_lt y (by omega)
      have hcp := cutN_pos y
      have hEl : E.length ≤ 40 := by
        have := congrArg List.length hE
        rw [List.length_append] at this
        omega
      by_cases hx : x < cutN y
      · rw [tDown_left x y (by omega) hx] at hE
        have hxi : ¬ ((cutN y : Nat) : Int) ≤ (x : Int) := by omega
        have HC := Kept.mk (fun w => Cut_any y w (by omega))
        have HE := Kept.mk (show D = (E ++ [decide (cutN y ≤ x)]) ++ tDown x (cutN y) from by rw [decide_eq_false (by omega), hE]; simp)
        clear hE
        generalize cutN y = k at *
        go_wp2_with fail
        with_reducible refine (HC.out wr).mono ?_
        rintro e w1 ⟨rfl, rfl⟩
        go_wp2_with (at_builtin; refine bool_append1 rfl _ _ (by rfl) (w := W) (L := E) (d := decide (k ≤ x)) (by rfl) HV.out (by rfl) (by omega) ?_; intro v1 w1 hv1)
        exact ⟨⟨x, k, E ++ [decide (k ≤ x)], rfl, rfl, hx, by omega, HE.out, hv1⟩, by simp [RowKit.intOf]; omega⟩
      · rw [tDown_right x y (by omega) hx] at hE
        have hxi : ((cutN y : Nat) : Int) ≤ (x : Int) := by omega
        have HC := Kept.mk (fun w => Cut_any y w (by omega))
        have HE := Kept.mk (show D = (E ++ [true]) ++ tDown (x - cutN y) (y - cutN y) from by rw [hE]; simp)
        clear hE
        generalize cutN y = k at *
        have e1 : (x : Int) - (k : Int) = ((x - k : Nat) : Int) := by omega
        have e2 : (y : Int) - (k : Int) = ((y - k : Nat) : Int) := by omega
        have b1 : x - k < y - k := by omega
        have b2 : y - k ≤ 1099511627776 := by omega
        have b3 : y - k < y := by omega
        go_wp2_with fail
        with_reducible refine (HC.out wr).mono ?_
        rintro e w1 ⟨rfl, rfl⟩
        go_wp2_with (at_builtin; refine bool_append1 rfl _ _ (by rfl) (w := W) (L := E) (d := true) (by rfl) HV.out (by rfl) (by omega) ?_; intro v1 w1 hv1)
        exact ⟨⟨x - k, y - k, E ++ [true], rfl, rfl, b1, b2, HE.out, hv1⟩, by simp [RowKit.intOf]; omega⟩
end Go.Proofs.YtkkcakblphebjaaDoor
