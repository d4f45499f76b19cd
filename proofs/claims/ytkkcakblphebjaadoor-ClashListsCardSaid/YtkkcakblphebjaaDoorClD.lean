/- Growing of longer lists. -/
import Derived.Test.YtkkcakblphebjaaDoorClC
import Derived.StillTailTactics
namespace Go.Proofs.YtkkcakblphebjaaDoor
set_option linter.unusedVariables false
set_option linter.unusedSimpArgs false
open Go.RowKit Go.Lib
theorem size_set (X : World) (g j : Nat) (v : Value) : (X.setCell ⟨g, j, none⟩ v).heap.size = X.heap.size := by simp [World.setCell]
theorem b_next2 {W cur wA : World} {G : Prop} (h : Below W.heap.size W cur) (bA : Below cur.heap.size cur wA) (k : Below W.heap.size W wA → G) : G := k (bnext h bA)
attribute [local irreducible] str sSum wid tS tLeaf tNode cutN cRoot
set_option maxRecDepth 100000 in
set_option maxHeartbeats 8000000 in
theorem grown_n (w : Int) (ad : Addr) (ls : List BL) (c m k : Nat) (W : World) (hm : ls.length = m) (hkm : k = cutN m) (h2 : 2 ≤ m) (hk : KAt W) (hl : ∀ l ∈ ls, l.length ≤ 400000000) (hr : RowAt W (some ad) (strs ls)) (hc : m ≤ c) (hm2 : m ≤ 4611686018427387903)
    (HL : Kept (∀ w', Below W.heap.size W w' → Calls Tryd.prog 29 #[.int .i64 w, .slice (some ad) k c] w' fun e w2 => Grown w w' (ls.take k) e w2))
    (HR : Kept (∀ w', Below W.heap.size W w' → Calls Tryd.prog 29 #[.int .i64 w, .slice (some (ad.add k)) (m - k) (c - k)] w' fun e w2 => Grown w w' (ls.drop k) e w2)) :
    Calls Tryd.prog 29 #[.int .i64 w, .slice (some ad) m c] W fun e w' => Grown w W ls e w' := by
  have hcl : k < m := hkm ▸ cutN_lt m h2
  have hcp : 0 < k := hkm ▸ cutN_pos m
  have HC := Kept.mk (fun w => hkm ▸ Cut_any m w hm2)
  have hwid := (wid_range w).2
  have HN := Kept.mk (fun X g gl gr (hg : W.heap.size ≤ g) (tl : TreeAt (wid w) W.heap.size X gl (ls.take k)) (tr : TreeAt (wid w) W.heap.size X gr (ls.drop k)) h =>
    TreeAt.node (w := wid w) (lo := W.heap.size) (X := X) g gl gr ls (hm ▸ h2) hg (by rw [hm, ← hkm]; exact tl) (by rw [hm, ← hkm]; exact tr) h)
  have HT := cTop_node (wid w) ls (by omega)
  rw [hm, ← hkm, cRoot_of, cRoot_of] at HT
  have HS := Kept.mk (fun w' T n (hn : n = w'.heap.size) (hb : Below W.heap.size W w') => (show Calls Tryd.prog 26 #[.int .i64 w, .slice (some ⟨n, 0, none⟩) 1 1] ((w'.alloc (.cells #[.string (str (cTop (wid w) ls))] T)).drew) (fun e w2 => e = .returned (.string (str (tS (wid w) (cTop (wid w) ls)))) ∧ Below w'.drew.heap.size w'.drew w2) from
    Sum_1n w (cTop (wid w) ls) w'.drew T n hn (hk.below hb.drew) (by have := cTop_le (wid w) hwid 400000000 (by omega) ls hl; omega)))
  simp only [cRoot_of] at HS
  have q1 := str_size (cRoot (wid w) (ls.take k))
  have q2 := str_size (cRoot (wid w) (ls.drop k))
  rw [← cRoot_of, tS_length _ _ hwid, cRoot_of] at q1 q2
  have A1 := str_append [1] (cRoot (wid w) (ls.take k))
  have A2 := str_append ([1] ++ cRoot (wid w) (ls.take k)) (cRoot (wid w) (ls.drop k))
  rw [show [1] ++ cRoot (wid w) (ls.take k) ++ cRoot (wid w) (ls.drop k) = cTop (wid w) ls from by rw [HT]; simp] at A2
  have q3 := str_size ([1] ++ cRoot (wid w) (ls.take k))
  rw [List.length_append, ← str_size (cRoot (wid w) (ls.take k)), q1, List.length_singleton] at q3
  have q0 := str1_size
  have e1 := lit_1
  have p1 : ¬ (9223372036854775807 < (str [1]).size + (str (cRoot (wid w) (ls.take k))).size) := by omega
  have p1b : ¬ (9223372036854775807 < 1 + (str (cRoot (wid w) (ls.take k))).size) := by omega
  have p2 : ¬ (9223372036854775807 < (str ([1] ++ cRoot (wid w) (ls.take k))).size + (str (cRoot (wid w) (ls.drop k))).size) := by omega
  have k0 : (0 : Int) ≤ (k : Int) := by omega
  have k1 : (k : Int) ≤ (m : Int) := by omega
  have k2 : (m : Int) ≤ (c : Int) := by omega
  have k3 : (k : Int) ≤ (c : Int) := by omega
  have k4 : (0 : Int) ≤ (m : Int) := by omega
  have k5 : ¬ k = m := by omega
  have k6 : k ≤ m := by omega
  have k7 : k ≤ c := by omega
  have z0 : ((m : Int) == 0) = false := by simp; omega
  have z1 : ((m : Int) == 1) = false := by simp; omega
  clear hk hl hr q0 q1 q2 q3 HT hwid
  generalize hY : [1] ++ cRoot (wid w) (ls.take k) = Y at *
  clear hY hkm hm
  go_enter Tryd.func29, Tryd.ntmps29
  go_upto_region 2 with fail
  have hg : GB (W.alloc (.cells #[.string { data := #[] }, .string { data := #[] }, .pointer none, .pointer none] 55)) W.heap.size _ _ _ _ := hnew W _
  have hb := bnew W (.cells #[.string { data := #[] }, .string { data := #[] }, .pointer none, .pointer none] 55)
  generalize W.alloc (.cells #[.string { data := #[] }, .string { data := #[] }, .pointer none, .pointer none] 55) = X at *
  generalize hq : W.heap.size = g at hg ⊢
  have hgl : W.heap.size ≤ g := by omega
  obtain ⟨⟨c0, c1, c2, c3⟩, nf⟩ := hg.cells
  go_wp2_with fail
  with_reducible refine (HC.out X).mono ?_
  rintro e w1 ⟨rfl, rfl⟩
  go_wp2_with fail
  go_region_with ((go_at_call 29; (first | (with_reducible refine (HL.out _ ?_).mono ?_) | (with_reducible refine (HR.out _ ?_).mono ?_)); (first | with_reducible exact hbA | with_reducible exact bset hbA g _ _ hgl | with_reducible exact hb.drew); rintro e wA ⟨gA, rfl, tA, bA⟩; (first | with_reducible refine gb_next hgA bA ?_ | with_reducible refine gb_next (hgA.set2 _) bA ?_ | with_reducible refine gb_next (hgA.set3 _) bA ?_ | with_reducible refine gb_next hg.drew bA ?_); (first | with_reducible refine b_next2 hbA bA ?_ | with_reducible refine b_next2 (bset hbA g _ _ hgl) bA ?_ | with_reducible refine b_next2 hb.drew bA ?_); (try ((first | with_reducible refine tree_next tP bA ?_ | with_reducible refine tree_next (tP.set g _ _ (Nat.lt_succ_self _)) bA ?_); intro tQ rQ)); intro hbA hgA cA0 cA1 cA2 cA3 nfA hltA; (have tP := tA.lower hltA); (have rP := tP.root.1); (have nP : ¬ gA = g := by have := tP.lo_le; omega); clear tA bA))
  rename_i wL gL hbL hgL cL0 cL1 cL2 cL3 nfL hltL tL rL nL
  have hgY := (hgA.set2 (.pointer (some ⟨gL, 0, none⟩))).set3 (.pointer (some ⟨gA, 0, none⟩))
  have tLY := (tQ.set g 2 (.pointer (some ⟨gL, 0, none⟩)) (Nat.lt_succ_self _)).set g 3 (.pointer (some ⟨gA, 0, none⟩)) (Nat.lt_succ_self _)
  have tRY := (tP.set g 2 (.pointer (some ⟨gL, 0, none⟩)) (Nat.lt_succ_self _)).set g 3 (.pointer (some ⟨gA, 0, none⟩)) (Nat.lt_succ_self _)
  have hbY := bset (bset hbA g 2 (.pointer (some ⟨gL, 0, none⟩)) hgl) g 3 (.pointer (some ⟨gA, 0, none⟩)) hgl
  generalize (wA.setCell ⟨g, 2, none⟩ (.pointer (some ⟨gL, 0, none⟩))).setCell ⟨g, 3, none⟩ (.pointer (some ⟨gA, 0, none⟩)) = Z at *
  clear tQ tP rQ rP hbA hgA cA0 cA1 cA2 cA3 nfA hltA cL0 cL1 cL2 cL3 nfL hltL tL rL nL nP hbL hgL nf c0 c1 c2 c3 hg hb HL HR HC
  obtain ⟨⟨c0, c1, c2, c3⟩, nf⟩ := hgY.cells
  have rL := tLY.root.1
  have rR := tRY.root.1
  have HGZ := Kept.mk (hgY.set0 (.string (str (cTop (wid w) ls))))
  have HBZ := Kept.mk (bset hbY g 0 (.string (str (cTop (wid w) ls))) hgl)
  have HTL := Kept.mk (tLY.set g 0 (.string (str (cTop (wid w) ls))) (Nat.lt_succ_self _))
  have HTR := Kept.mk (tRY.set g 0 (.string (str (cTop (wid w) ls))) (Nat.lt_succ_self _))
  clear hgY hbY tLY tRY
  generalize cRoot (wid w) (ls.take k) = a at *
  generalize cRoot (wid w) (ls.drop k) = b at *
  go_wp2_with fail
  go_still_tail 19, (by kernel_rfl)
  change wpList _ _ _ _ _ (World.drew _)
  go_wp2_with fail
  with_reducible refine (HS.out _ _ _ (size_set Z g 0 _).symm HBZ.out).mono ?_
  rintro e X2 ⟨rfl, b2⟩
  clear c0 c1 c2 c3 nf rL rR
  refine gb_next HGZ.out.drew b2 ?_
  intro hg2 c0 c1 c2 c3 nf _
  have HG2 := Kept.mk hg2
  have HB2 := Kept.mk (bnext HBZ.out.drew b2)
  have TL2 := Kept.mk (HTL.out.drew.belowT b2)
  have TR2 := Kept.mk (HTR.out.drew.belowT b2)
  clear hg2 b2
  go_wp2_with fail
  go_ret
  exact ⟨g, rfl, HN.out _ g gL gA hgl ((TL2.out.set g 1 _ (Nat.lt_succ_self _)).lower (by omega)) ((TR2.out.set g 1 _ (Nat.lt_succ_self _)).lower (by omega)) (HG2.out.set1 _), bset HB2.out g 1 _ hgl⟩
end Go.Proofs.YtkkcakblphebjaaDoor
