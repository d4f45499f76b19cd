/- Trees of sums: the document's proof of any leaf, by a contract; texts appended in a region that draws; two rows of one list. -/
import Derived.Test.YtkkcakblphebjaaDoorMerE
import Derived.Test.YtkkcakblphebjaaDoorMvb
namespace Go.Proofs.YtkkcakblphebjaaDoor
set_option linter.unusedVariables false
set_option linter.unusedSimpArgs false
open Go.RowKit Go.Lib
theorem infoStr : (Tryd.prog.info? 9).map (fun i => (i.zero, i.size, i.bytes)) = some (some (.string ByteArray.empty), 1, 16) := by kernel_rfl
theorem strs_snoc (L : List (List UInt8)) (x : List UInt8) : strs (L ++ [x]) = strs L ++ [.string (str x)] := by simp [strs]
theorem strs_get? (L : List (List UInt8)) (i : Nat) (h : i < L.length) : (strs L)[i]? = some (.string (str L[i])) := by
  unfold strs
  rw [List.getElem?_map, List.getElem?_eq_getElem h]; rfl
theorem vb_strs_nil (w : World) : VB w w (.slice none 0 0) (strs []) := vb_nil w
theorem str_step2 {ops : Array Oper} {E : Prop} {o : Oper} {a : Act} {K : Act → World → Prop} {Q : Exit → Act → World → Prop} (hgd : o.guard = none) (s x : Operand)
    (ho : o.op = .call { callee := .builtin .append, args := #[s, x], argTypes := #[24, 24] })
    {w X : World} {L : List (List UInt8)} {v : Value} (hs : a.eval s = v) (hb : VB w X v (strs L)) {b : Nat} {d : List UInt8}
    (hx : a.eval x = .slice (some ⟨b, 0, none⟩) 1 1) (hc : X.cell? ⟨b, 0, none⟩ = some (.string (str d))) (hlen : L.length + 1 ≤ 1000000)
    (h : ∀ v' w', VB w w' v' (strs (L ++ [d])) → X.heap.size ≤ w'.heap.size → (∀ g, g < X.heap.size → Apart v g → w'.heap[g]? = X.heap[g]? ∧ Apart v' g) → K (a.put o.dst v') w') :
    if Region.wanted o (yielded ops a.tmps) = true then Oper.wp Tryd.prog o a X K Q else E := by
  have hw : Region.wanted o (yielded ops a.tmps) = true := by simp [Region.wanted, hgd]
  rw [if_pos hw]
  obtain ⟨i0, hi, hz0, hz1, hz2⟩ := info_parts infoStr
  have hS : Src Tryd.prog 1 24 (.slice (some ⟨b, 0, none⟩) 1 1) [Value.string (str d)].length [Value.string (str d)] X :=
    Src.ofSlice _ Tryd.underlying24 _ 1 1 _ rfl (fun j u2 hj => by
      match j, hj with
      | 0, hj => simp at hj; subst hj; exact hc
      | (j + 1), hj => simp at hj) (fun u2 hu2 => by simp at hu2; subst hu2; rfl)
  refine vb_step2 s x Tryd.underlying24 hi hz0 hz1 rfl (by rw [hz2]; decide) ho hs hb hx hS (Nat.zero_lt_one) (by rw [strs_length]; show L.length + 1 ≤ _; omega) fun v' w' h1 _ h3 h4 => h v' w' ?_ h3 h4
  rw [strs_snoc]; exact h1
theorem VB.lies {w wr : World} {v : Value} {l : List Value} (h : VB w wr v l) : Below w.heap.size w wr := h.1
theorem new_lt (W : World) (o : Obj) : W.heap.size < (W.alloc o).heap.size := by simp
theorem tProof_length_le (w i : Nat) (l : List (List UInt8)) (h : l.length ≤ 2 ^ 62) : (tProof w i l).length ≤ 62 := by
  rw [tProof_way]; exact tWay_le 62 i _ h
attribute [local irreducible] str sSum wid tS tLeaf tNode cutN strs
set_option maxRecDepth 100000 in
set_option maxHeartbeats 4000000 in
theorem refProof_any (w : Int) (n : Nat) : ∀ (i : Nat) (A : Option Addr) (c : Nat) (ls : List (List UInt8)) (W : World), ls.length = n → i ≤ 4611686018427387903 → RowAt W A (strs ls) → (∀ l ∈ ls, l.length ≤ 400000000) → ls.length ≤ c → ls.length ≤ 4611686018427387903 →
    Calls Tryd.prog 20 #[.int .i64 w, .int .i64 i, .slice A ls.length c] W fun e w' => ∃ v, e = .returned v ∧ VB W w' v (strs (tProof (wid w) i ls)) := by
  induction n using Nat.strongRecOn with
  | _ n ih =>
    intro i A c ls W hn hi hr hl hc hc2
    by_cases h2 : ls.length < 2
    · rw [tProof_short _ _ _ h2]
      have h2i : (ls.length : Int) < 2 := by omega
      clear ih hr hl
      go_enter Tryd.func20, Tryd.ntmps20
      go_wp2_with fail
      go_ret
      exact ⟨_, rfl, vb_strs_nil W⟩
    · have hcl := cutN_lt ls.length (by omega)
      have hcp := cutN_pos ls.length
      have h2i : ¬ (ls.length : Int) < 2 := by omega
      have HC := Kept.mk (fun w => refCut_any ls.length w (by omega))
      obtain ⟨ad, rfl, hl2, hcell⟩ := hr (by rw [strs_length]; omega)
      have hLP : ∀ (w' : World) (j : Nat), Below W.heap.size W w' → j ≤ 4611686018427387903 → Calls Tryd.prog 20 #[.int .i64 w, .int .i64 j, .slice (some ad) (cutN ls.length) c] w' fun e w'' => ∃ v, e = .returned v ∧ VB W w'' v (strs (tProof (wid w) j (ls.take (cutN ls.length)))) ∧ Below w'.heap.size w' w'' := fun w' j hb hj => by
        have h := ih (cutN ls.length) (by omega) j (some ad) c (ls.take (cutN ls.length)) w' (by rw [List.length_take]; omega) hj ((strs_take ls (cutN ls.length)) ▸ (hr.below hb).take _) (fun l h => hl l (List.mem_of_mem_take h)) (by rw [List.length_take]; omega) (by rw [List.length_take]; omega)
        rw [List.length_take, Nat.min_eq_left (by omega)] at h
        exact h.mono fun e w'' ⟨v, he, hv⟩ => ⟨v, he, hv.base hb, hv.1⟩
      have hRP : ∀ (w' : World) (j : Nat), Below W.heap.size W w' → j ≤ 4611686018427387903 → Calls Tryd.prog 20 #[.int .i64 w, .int .i64 j, .slice (some (ad.add (cutN ls.length))) (ls.length - cutN ls.length) (c - cutN ls.length)] w' fun e w'' => ∃ v, e = .returned v ∧ VB W w'' v (strs (tProof (wid w) j (ls.drop (cutN ls.length)))) ∧ Below w'.heap.size w' w'' := fun w' j hb hj => by
        have h := ih (ls.length - cutN ls.length) (by omega) j (some (ad.add (cutN ls.length))) (c - cutN ls.length) (ls.drop (cutN ls.length)) w' (by rw [List.length_drop]) hj ((strs_drop ls (cutN ls.length)) ▸ (hr.below hb).drop _ (by rw [strs_length]; omega)) (fun l h => hl l (List.mem_of_mem_drop h)) (by rw [List.length_drop]; omega) (by rw [List.length_drop]; omega)
        rw [List.length_drop] at h
        exact h.mono fun e w'' ⟨v, he, hv⟩ => ⟨v, he, hv.base hb, hv.1⟩
      have HLR := Kept.mk (fun w' (hb : Below W.heap.size W w') => refRoot_any w (cutN ls.length) (some ad) c (ls.take (cutN ls.length)) w' (by rw [List.length_take]; omega) ((strs_take ls (cutN ls.length)) ▸ (hr.below hb).take _) (fun l h => hl l (List.mem_of_mem_take h)) (by rw [List.length_take]; omega) (by rw [List.length_take]; omega))
      have HRR := Kept.mk (fun w' (hb : Below W.heap.size W w') => refRoot_any w (ls.length - cutN ls.length) (some (ad.add (cutN ls.length))) (c - cutN ls.length) (ls.drop (cutN ls.length)) w' (by rw [List.length_drop]) ((strs_drop ls (cutN ls.length)) ▸ (hr.below hb).drop _ (by rw [strs_length]; omega)) (fun l h => hl l (List.mem_of_mem_drop h)) (by rw [List.length_drop]; omega) (by rw [List.length_drop]; omega))
      rw [List.length_take, Nat.min_eq_left (by omega)] at HLR
      rw [List.length_drop] at HRR
      have p62 : (2 : Nat) ^ 62 = 4611686018427387904 := by decide
      by_cases hx : i < cutN ls.length
      · have hT := tProof_left (wid w) i ls (by omega) hx
        rw [hT]
        have hxi : (i : Int) < ((cutN ls.length : Nat) : Int) := by omega
        have hPl := tProof_length_le (wid w) i (ls.take (cutN ls.length)) (by rw [List.length_take]; omega)
        have HP := Kept.mk (fun w' hb => hLP w' i hb hi)
        clear ih hr hl hcell hLP hRP HLR hT
        generalize tProof (wid w) i (ls.take (cutN ls.length)) = P at *
        generalize tRoot (wid w) (ls.drop (cutN ls.length)) = b at *
        generalize cutN ls.length = k at *
        generalize ls.length = m at *
        clear hn p62
        have k0 : (0 : Int) ≤ (k : Int) := by omega
        have k1 : (k : Int) ≤ (m : Int) := by omega
        have k2 : (k : Int) ≤ (c : Int) := by omega
        have k3 : (m : Int) ≤ (c : Int) := by omega
        have k4 : k ≤ m := by omega
        have k9 : ¬ c = k := by omega
        have k5 : k ≤ c := by omega
        go_enter Tryd.func20, Tryd.ntmps20
        go_wp2_with fail
        with_reducible refine (HC.out W).mono ?_
        rintro e w1 ⟨rfl, rfl⟩
        go_wp2_with fail
        go_region_held3 (fun w' => True)
          (first
            | trivial
            | go_keep)
          (first
            | (refine str_step2 (by rfl) _ _ (by rfl) (w := W) (L := P) (d := b) (by rfl) (by first | exact (hvP.below hbR).alloc _ | exact hvP) (by rfl) (by first | exact cell_of_cells (j := 0) (heap_new _ _ _ rfl) | exact (hbP.cell (p := ⟨_, 0, none⟩) (new_lt _ _)).trans (cell_of_cells (j := 0) (heap_new _ _ _ rfl)) | exact hvP.alloc _) (by omega) ?_; intro v1 w2 hv1 hz1 hk1)
            | (go_at_call 20; (with_reducible refine (HP.out _ ?_).mono ?_); (with_reducible first | exact (Below.refl _ _).drew | assumption | (exact hbW.alloc hbW.size _)); rintro e wP ⟨vP, rfl, hvP, hbP⟩)
            | (go_at_call 22; (with_reducible refine (HRR.out _ ?_).mono ?_); (with_reducible first | exact (Below.refl _ _).drew | exact hvP.lies); rintro e wR ⟨rfl, hbR⟩; (have hbW : Below W.heap.size W wR := below_nextM (by with_reducible first | exact (Below.refl _ _).drew | exact hvP.lies) hbR)))
        all_goals
          go_wp2_with fail
          go_ret
          exact ⟨_, rfl, hv1⟩
      · have hT := tProof_right (wid w) i ls (by omega) hx
        rw [hT]
        have hxi : ¬ (i : Int) < ((cutN ls.length : Nat) : Int) := by omega
        have hPl := tProof_length_le (wid w) (i - cutN ls.length) (ls.drop (cutN ls.length)) (by rw [List.length_drop]; omega)
        have HP := Kept.mk (fun w' hb => hRP w' (i - cutN ls.length) hb (by omega))
        clear ih hr hl hcell hLP hRP HRR hT
        generalize tProof (wid w) (i - cutN ls.length) (ls.drop (cutN ls.length)) = P at *
        generalize tRoot (wid w) (ls.take (cutN ls.length)) = b at *
        generalize cutN ls.length = k at *
        generalize ls.length = m at *
        clear hn p62
        have k0 : (0 : Int) ≤ (k : Int) := by omega
        have k1 : (k : Int) ≤ (m : Int) := by omega
        have k2 : (k : Int) ≤ (c : Int) := by omega
        have k3 : (m : Int) ≤ (c : Int) := by omega
        have k6 : (i : Int) - (k : Int) = ((i - k : Nat) : Int) := by omega
        rw [← k6] at HP
        clear k6
        have k7 : (k : Int) ≤ (i : Int) := by omega
        have k8 := wrap_i64_small ((i : Int) - (k : Int)) (by omega) (by omega)
        have k4 : k ≤ m := by omega
        have k9 : ¬ c = k := by omega
        have k5 : k ≤ c := by omega
        go_enter Tryd.func20, Tryd.ntmps20
        go_wp2_with fail
        with_reducible refine (HC.out W).mono ?_
        rintro e w1 ⟨rfl, rfl⟩
        go_wp2_with fail
        go_region_held3 (fun w' => True)
          (first
            | trivial
            | go_keep)
          (first
            | (refine str_step2 (by rfl) _ _ (by rfl) (w := W) (L := P) (d := b) (by rfl) (by first | exact (hvP.below hbR).alloc _ | exact hvP) (by rfl) (by first | exact cell_of_cells (j := 0) (heap_new _ _ _ rfl) | exact (hbP.cell (p := ⟨_, 0, none⟩) (new_lt _ _)).trans (cell_of_cells (j := 0) (heap_new _ _ _ rfl)) | exact hvP.alloc _) (by omega) ?_; intro v1 w2 hv1 hz1 hk1)
            | (go_at_call 20; (with_reducible refine (HP.out _ ?_).mono ?_); (with_reducible first | exact (Below.refl _ _).drew | assumption | (exact hbW.alloc hbW.size _)); rintro e wP ⟨vP, rfl, hvP, hbP⟩)
            | (go_at_call 22; (with_reducible refine (HLR.out _ ?_).mono ?_); (with_reducible first | exact (Below.refl _ _).drew | exact hvP.lies); rintro e wR ⟨rfl, hbR⟩; (have hbW : Below W.heap.size W wR := below_nextM (by with_reducible first | exact (Below.refl _ _).drew | exact hvP.lies) hbR)))
        all_goals
          go_wp2_with fail
          go_ret
          exact ⟨_, rfl, hv1⟩
end Go.Proofs.YtkkcakblphebjaaDoor
