/- Trees of sums: the program's proof of any leaf: its closure, which calls itself, by a contract. -/
import Derived.Test.YtfplagbjcilpjaaDoorMerD
import Derived.Test.YtfplagbjcilpjaaDoorMerF
import Derived.Test.YtfplagbjcilpjaaDoorMerG
import Derived.Test.YtfplagbjcilpjaaDoorMerW
import Derived.Handy
namespace Go.Proofs.YtfplagbjcilpjaaDoor
set_option linter.unusedVariables false
set_option linter.unusedSimpArgs false
open Go.RowKit Go.Lib
/-- the closure's value -/
def colF (bc bo bw : Nat) : Value := .func (.func 42) #[] #[.pointer (some ⟨bc, 0, none⟩), .pointer (some ⟨bo, 0, none⟩), .pointer (some ⟨bw, 0, none⟩)]
/-- the closure, the list so far and the width, each in a box of its own -/
structure Col (W0 W : World) (bc bo bw : Nat) (w : Int) (v : Value) (L : List (List UInt8)) : Prop where
  lc : W0.heap.size ≤ bc
  lo : W0.heap.size ≤ bo
  lw : W0.heap.size ≤ bw
  co : bc ≠ bo
  wo : bw ≠ bo
  box : W.heap[bo]? = some (.cells #[v] 28 (0, 0))
  fc : W.heap[bc]? = some (.cells #[colF bc bo bw] 59 (0, 0))
  fw : W.heap[bw]? = some (.cells #[.int .i64 w] 3 (0, 0))
  vb : VB W0 W v (strs L)
  ac : Apart v bc
  ao : Apart v bo
  aw : Apart v bw
theorem Col.keep {W0 W W' : World} {bc bo bw : Nat} {w : Int} {v : Value} {L : List (List UInt8)} (h : Col W0 W bc bo bw w v L) (hb : Below W.heap.size W W') : Col W0 W' bc bo bw w v L :=
  ⟨h.lc, h.lo, h.lw, h.co, h.wo, block_kept h.box hb, block_kept h.fc hb, block_kept h.fw hb, h.vb.below hb, h.ac, h.ao, h.aw⟩
theorem Col.drew {W0 W : World} {bc bo bw : Nat} {w : Int} {v : Value} {L : List (List UInt8)} (h : Col W0 W bc bo bw w v L) : Col W0 W.drew bc bo bw w v L := h.keep (Below.refl _ _).drew
theorem Col.call {W0 W : World} {bc bo bw : Nat} {w : Int} {v : Value} {L : List (List UInt8)} (h : Col W0 W bc bo bw w v L) : W.cell? ⟨bc, 0, none⟩ = some (.func (.func 42) #[] #[.pointer (some ⟨bc, 0, none⟩), .pointer (some ⟨bo, 0, none⟩), .pointer (some ⟨bw, 0, none⟩)]) := Joins.cell_of_block h.fc 0
theorem Col.out {W0 W : World} {bc bo bw : Nat} {w : Int} {v : Value} {L : List (List UInt8)} (h : Col W0 W bc bo bw w v L) : W.cell? ⟨bo, 0, none⟩ = some v := Joins.cell_of_block h.box 0
theorem Col.wide {W0 W : World} {bc bo bw : Nat} {w : Int} {v : Value} {L : List (List UInt8)} (h : Col W0 W bc bo bw w v L) : W.cell? ⟨bw, 0, none⟩ = some (.int .i64 w) := Joins.cell_of_block h.fw 0
theorem Col.app {W0 X w2 : World} {bc bo bw : Nat} {w : Int} {v v1 : Value} {L M : List (List UInt8)} (h : Col W0 X bc bo bw w v L) (hv : VB W0 w2 v1 (strs M))
    (hk : ∀ g, g < X.heap.size → Apart v g → w2.heap[g]? = X.heap[g]? ∧ Apart v1 g) :
    w2.heap[bo]? = some (.cells #[v] 28 (0, 0)) ∧ Col W0 (w2.setCell ⟨bo, 0, none⟩ v1) bc bo bw w v1 M := by
  obtain ⟨k1, k2⟩ := hk bo (block_lt h.box) h.ao
  obtain ⟨c1, c2⟩ := hk bc (block_lt h.fc) h.ac
  obtain ⟨w1, w3⟩ := hk bw (block_lt h.fw) h.aw
  refine ⟨k1.trans h.box, ⟨h.lc, h.lo, h.lw, h.co, h.wo, (Joins.block_setCell (i := 0) (k1.trans h.box) _).trans rfl, ?_, ?_, hv.off h.lo k2 0 _, c2, k2, w3⟩⟩
  · exact (Below.heap_setCell w2 ⟨bo, 0, none⟩ v1 bc h.co).trans (c1.trans h.fc)
  · exact (Below.heap_setCell w2 ⟨bo, 0, none⟩ v1 bw h.wo).trans (w1.trans h.fw)
theorem root_enters : ∀ args w, (callFunc 22 args).run Tryd.prog w = .ok (.enter 22 args) w := enters_at Tryd.func22 (by kernel_rfl) rfl
attribute [local irreducible] str sSum wid tS tLeaf tNode cutN strs
set_option maxRecDepth 100000 in
set_option maxHeartbeats 4000000 in
theorem collect_any (w : Int) (W0 : World) (bc bo bw : Nat) (hk : KAt W0) (n : Nat) : ∀ (i : Nat) (A : Option Addr) (c : Nat) (ls L : List (List UInt8)) (v : Value) (W : World), ls.length = n → i ≤ 4611686018427387903 → RowAt W0 A (strs ls) → (∀ l ∈ ls, l.length ≤ 400000000) → ls.length ≤ c → ls.length ≤ 4611686018427387903 → L.length + ls.length ≤ 900000 → Col W0 W bc bo bw w v L →
    Calls Tryd.prog 42 #[.int .i64 i, .slice A ls.length c, .pointer (some ⟨bc, 0, none⟩), .pointer (some ⟨bo, 0, none⟩), .pointer (some ⟨bw, 0, none⟩)] W fun e w' => e = .returned (.tuple #[]) ∧ ∃ v', Col W0 w' bc bo bw w v' (L ++ tProof (wid w) i ls) := by
  induction n using Nat.strongRecOn with
  | _ n ih =>
    intro i A c ls L v W hn hi hr hl hc hc2 hL hcol
    by_cases h2 : ls.length < 2
    · have HT := Kept.mk (show L ++ tProof (wid w) i ls = L from by rw [tProof_short _ _ _ h2, List.append_nil])
      rw [HT.out]
      have HC := Kept.mk hcol
      have h2i : (ls.length : Int) < 2 := by omega
      clear ih hr hl hcol
      go_enter Tryd.func42, Tryd.ntmps42
      go_wp2_with fail
      go_returns
      exact ⟨rfl, v, HC.out⟩
    · have hcl := cutN_lt ls.length (by omega)
      have hcp := cutN_pos ls.length
      have h2i : ¬ (ls.length : Int) < 2 := by omega
      have HC := Kept.mk (fun w => Cut_any ls.length w (by omega))
      obtain ⟨ad, rfl, hl2, hcell⟩ := hr (by rw [strs_length]; omega)
      have HLP := Kept.mk (show ∀ (w' : World) (j : Nat) (v : Value) (L : List (List UInt8)), Col W0 w' bc bo bw w v L → L.length + cutN ls.length ≤ 900000 → j ≤ 4611686018427387903 → Calls Tryd.prog 42 #[.int .i64 j, .slice (some ad) (cutN ls.length) c, .pointer (some ⟨bc, 0, none⟩), .pointer (some ⟨bo, 0, none⟩), .pointer (some ⟨bw, 0, none⟩)] w' fun e w'' => e = .returned (.tuple #[]) ∧ ∃ v', Col W0 w'' bc bo bw w v' (L ++ tProof (wid w) j (ls.take (cutN ls.length))) from fun w' j v L hcl' hLl hj => by
        have h := ih (cutN ls.length) (by omega) j (some ad) c (ls.take (cutN ls.length)) L v w' (by rw [List.length_take]; omega) hj ((strs_take ls (cutN ls.length)) ▸ hr.take _) (fun l h => hl l (List.mem_of_mem_take h)) (by rw [List.length_take]; omega) (by rw [List.length_take]; omega) (by rw [List.length_take]; omega) hcl'
        rw [List.length_take, Nat.min_eq_left (by omega)] at h
        exact h)
      have HRP := Kept.mk (show ∀ (w' : World) (j : Nat) (v : Value) (L : List (List UInt8)), Col W0 w' bc bo bw w v L → L.length + (ls.length - cutN ls.length) ≤ 900000 → j ≤ 4611686018427387903 → Calls Tryd.prog 42 #[.int .i64 j, .slice (some (ad.add (cutN ls.length))) (ls.length - cutN ls.length) (c - cutN ls.length), .pointer (some ⟨bc, 0, none⟩), .pointer (some ⟨bo, 0, none⟩), .pointer (some ⟨bw, 0, none⟩)] w' fun e w'' => e = .returned (.tuple #[]) ∧ ∃ v', Col W0 w'' bc bo bw w v' (L ++ tProof (wid w) j (ls.drop (cutN ls.length))) from fun w' j v L hcl' hLl hj => by
        have h := ih (ls.length - cutN ls.length) (by omega) j (some (ad.add (cutN ls.length))) (c - cutN ls.length) (ls.drop (cutN ls.length)) L v w' (by rw [List.length_drop]) hj ((strs_drop ls (cutN ls.length)) ▸ hr.drop _ (by rw [strs_length]; omega)) (fun l h => hl l (List.mem_of_mem_drop h)) (by rw [List.length_drop]; omega) (by rw [List.length_drop]; omega) (by rw [List.length_drop]; omega) hcl'
        rw [List.length_drop] at h
        exact h)
      have HLR := Kept.mk (fun w' (hb : Below W0.heap.size W0 w') => Root_any w (cutN ls.length) (some ad) c (ls.take (cutN ls.length)) w' (by rw [List.length_take]; omega) ((strs_take ls (cutN ls.length)) ▸ (hr.below hb).take _) (hk.below hb) (fun l h => hl l (List.mem_of_mem_take h)) (by rw [List.length_take]; omega) (by rw [List.length_take]; omega))
      have HRR := Kept.mk (fun w' (hb : Below W0.heap.size W0 w') => Root_any w (ls.length - cutN ls.length) (some (ad.add (cutN ls.length))) (c - cutN ls.length) (ls.drop (cutN ls.length)) w' (by rw [List.length_drop]) ((strs_drop ls (cutN ls.length)) ▸ (hr.below hb).drop _ (by rw [strs_length]; omega)) (hk.below hb) (fun l h => hl l (List.mem_of_mem_drop h)) (by rw [List.length_drop]; omega) (by rw [List.length_drop]; omega))
      rw [List.length_take, Nat.min_eq_left (by omega)] at HLR
      rw [List.length_drop] at HRR
      have p62 : (2 : Nat) ^ 62 = 4611686018427387904 := by decide
      by_cases hx : i < cutN ls.length
      · have HT := Kept.mk (show ∀ M, M ++ tProof (wid w) i ls = (M ++ tProof (wid w) i (ls.take (cutN ls.length))) ++ [tRoot (wid w) (ls.drop (cutN ls.length))] from fun M => by rw [tProof_left (wid w) i ls (by omega) hx, List.append_assoc])
        rw [HT.out]
        have hxi : (i : Int) < ((cutN ls.length : Nat) : Int) := by omega
        have hPl := tProof_length_le (wid w) i (ls.take (cutN ls.length)) (by rw [List.length_take]; omega)
        have HP := Kept.mk (fun w' v hcl' => HLP.out w' i v L hcl' (by omega) hi)
        have HCOL := Kept.mk hcol
        have c0 := hcol.call
        clear ih hr hl hcell HLP HRP HLR HT hk hcol
        generalize tProof (wid w) i (ls.take (cutN ls.length)) = P at *
        generalize tRoot (wid w) (ls.drop (cutN ls.length)) = b at *
        generalize cutN ls.length = k at *
        generalize ls.length = m at *
        clear hn p62
        have k0 : (0 : Int) ≤ (k : Int) := by omega
        have k1 : (k : Int) ≤ (m : Int) := by omega
        have k2 : (k : Int) ≤ (c : Int) := by omega
        have k3 : (m : Int) ≤ (c : Int) := by omega
        have k4 : k ≤ m := by omega
        have k9 : ¬ c = k := by omega
        have k5 : k ≤ c := by omega
        have hLP : (L ++ P).length + 1 ≤ 1000000 := by rw [List.length_append]; omega
        go_enter Tryd.func42, Tryd.ntmps42
        go_wp2_with fail
        with_reducible refine (HC.out W).mono ?_
        rintro e w1 ⟨rfl, rfl⟩
        go_wp2_with fail
        go_region_with (first
          | (go_at_call 42; (with_reducible refine (HP.out _ _ HCOL.out.drew).mono ?_); rintro e w2 ⟨rfl, v2, hc2⟩))
        go_upto_region 4 with fail
        have HC2 := Kept.mk hc2
        obtain ⟨A2, cap2, rfl, hcap2⟩ := hc2.vb.len
        have d0 := hc2.out
        have d1 := hc2.wide
        clear hc2 c0
        rw [strs_length, List.length_append] at HC2 hcap2 d0
        go_region_law (first
          | (refine str_step2 (by rfl) _ _ (by rfl) (w := W0) (L := L ++ P) (d := b) (by rfl) (HCR.out.vb.alloc _) (by rfl) (by exact cell_of_cells (j := 0) (heap_new _ _ _ rfl)) hLP ?_; intro v1 w3 hv1 hz1 hk1; obtain ⟨A1, cap1, hve, hcap1⟩ := hv1.len; generalize (strs (L ++ P ++ [b])).length = N1 at hve hcap1; subst hve; have HA := Kept.mk (((HCR.out.keep ((Below.refl _ _).alloc (Nat.le_refl _) _)).app hv1 hk1)); have f0 := Joins.cell_of_block HA.out.1 0; have f1 := fun j => Joins.unfrozen_of_block HA.out.1 j)
          | (refine call_step0 #[.int .i64 w, .slice (some (ad.add k)) (m - k) (c - k)] (by rfl) (by rfl) (by rfl) (by rfl) root_enters (HRR.out _ HC2.out.drew.vb.lies) ?_; intro e wR hR; obtain ⟨rfl, hbR⟩ := hR; refine ⟨_, rfl, ?_⟩; have HCR := Kept.mk (HC2.out.drew.keep hbR); have e0 := HCR.out.out; have e1 := HCR.out.wide; have e2 := fun o => (HCR.out.keep ((Below.refl _ _).alloc (Nat.le_refl _) o)).out))
        all_goals
          go_wp2_with fail
          go_returns
          exact ⟨rfl, _, HA.out.2⟩
      · have HT := Kept.mk (show ∀ M, M ++ tProof (wid w) i ls = (M ++ tProof (wid w) (i - cutN ls.length) (ls.drop (cutN ls.length))) ++ [tRoot (wid w) (ls.take (cutN ls.length))] from fun M => by rw [tProof_right (wid w) i ls (by omega) hx, List.append_assoc])
        rw [HT.out]
        have hxi : ¬ (i : Int) < ((cutN ls.length : Nat) : Int) := by omega
        have hPl := tProof_length_le (wid w) (i - cutN ls.length) (ls.drop (cutN ls.length)) (by rw [List.length_drop]; omega)
        have HP := Kept.mk (fun w' v hcl' => HRP.out w' (i - cutN ls.length) v L hcl' (by omega) (by omega))
        have HCOL := Kept.mk hcol
        have c0 := hcol.call
        clear ih hr hl hcell HLP HRP HRR HT hk hcol
        generalize tProof (wid w) (i - cutN ls.length) (ls.drop (cutN ls.length)) = P at *
        generalize tRoot (wid w) (ls.take (cutN ls.length)) = b at *
        generalize cutN ls.length = k at *
        generalize ls.length = m at *
        clear hn p62
        have k0 : (0 : Int) ≤ (k : Int) := by omega
        have k1 : (k : Int) ≤ (m : Int) := by omega
        have k2 : (k : Int) ≤ (c : Int) := by omega
        have k3 : (m : Int) ≤ (c : Int) := by omega
        have k4 : k ≤ m := by omega
        have k9 : ¬ c = k := by omega
        have k5 : k ≤ c := by omega
        have hLP : (L ++ P).length + 1 ≤ 1000000 := by rw [List.length_append]; omega
        have k6 : (i : Int) - (k : Int) = ((i - k : Nat) : Int) := by omega
        rw [← k6] at HP
        clear k6
        have k7 : (k : Int) ≤ (i : Int) := by omega
        have k8 := wrap_i64_small ((i : Int) - (k : Int)) (by omega) (by omega)
        go_enter Tryd.func42, Tryd.ntmps42
        go_wp2_with fail
        with_reducible refine (HC.out W).mono ?_
        rintro e w1 ⟨rfl, rfl⟩
        go_wp2_with fail
        go_region_with (first
          | (go_at_call 42; (with_reducible refine (HP.out _ _ HCOL.out.drew).mono ?_); rintro e w2 ⟨rfl, v2, hc2⟩))
        go_upto_region 6 with fail
        have HC2 := Kept.mk hc2
        obtain ⟨A2, cap2, rfl, hcap2⟩ := hc2.vb.len
        have d0 := hc2.out
        have d1 := hc2.wide
        clear hc2 c0
        rw [strs_length, List.length_append] at HC2 hcap2 d0
        go_region_law (first
          | (refine str_step2 (by rfl) _ _ (by rfl) (w := W0) (L := L ++ P) (d := b) (by rfl) (HCR.out.vb.alloc _) (by rfl) (by exact cell_of_cells (j := 0) (heap_new _ _ _ rfl)) hLP ?_; intro v1 w3 hv1 hz1 hk1; obtain ⟨A1, cap1, hve, hcap1⟩ := hv1.len; generalize (strs (L ++ P ++ [b])).length = N1 at hve hcap1; subst hve; have HA := Kept.mk (((HCR.out.keep ((Below.refl _ _).alloc (Nat.le_refl _) _)).app hv1 hk1)); have f0 := Joins.cell_of_block HA.out.1 0; have f1 := fun j => Joins.unfrozen_of_block HA.out.1 j)
          | (refine call_step0 #[.int .i64 w, .slice (some ad) k c] (by rfl) (by rfl) (by rfl) (by rfl) root_enters (HLR.out _ HC2.out.drew.vb.lies) ?_; intro e wR hR; obtain ⟨rfl, hbR⟩ := hR; refine ⟨_, rfl, ?_⟩; have HCR := Kept.mk (HC2.out.drew.keep hbR); have e0 := HCR.out.out; have e1 := HCR.out.wide; have e2 := fun o => (HCR.out.keep ((Below.refl _ _).alloc (Nat.le_refl _) o)).out))
        all_goals
          go_wp2_with fail
          go_returns
          exact ⟨rfl, _, HA.out.2⟩
end Go.Proofs.YtfplagbjcilpjaaDoor
