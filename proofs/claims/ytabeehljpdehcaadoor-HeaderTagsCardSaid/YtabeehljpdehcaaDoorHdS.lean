/- header.Sign, by a contract. -/
import Derived.Test.YtabeehljpdehcaaDoorHdC
import Derived.Test.YtabeehljpdehcaaDoorMacE
import Derived.Test.YtabeehljpdehcaaDoorRfV
namespace Go.Proofs.YtabeehljpdehcaaDoor
set_option linter.unusedVariables false
set_option linter.unusedSimpArgs false
open Go.RowKit Go.Lib
/-- the tag of a header's fields -/
def hT (key : List UInt8) (id : Int) (salt : List UInt8) (n b raw : Int) (root : List UInt8) : List UInt8 := mTag key (hF id salt n b raw root)
theorem hT_length (key : List UInt8) (id : Int) (salt : List UInt8) (n b raw : Int) (root : List UInt8) : (hT key id salt n b raw root).length = 32 := mTag_length _ _
theorem hT_of (key : List UInt8) (id : Int) (salt : List UInt8) (n b raw : Int) (root : List UInt8) : mTag key (hF id salt n b raw root) = hT key id salt n b raw root := rfl
theorem seven_cells (W : World) (g : Nat) (T : TypeId) (c0 c1 c2 c3 c4 c5 c6 a0 a1 a2 a3 a4 a5 a6 : Value) (h : W.heap[g]? = some (.cells #[c0, c1, c2, c3, c4, c5, c6] T (0, 0))) :
    (((((((W.setCell ⟨g, 0, none⟩ a0).setCell ⟨g, 1, none⟩ a1).setCell ⟨g, 2, none⟩ a2).setCell ⟨g, 3, none⟩ a3).setCell ⟨g, 4, none⟩ a4).setCell ⟨g, 5, none⟩ a5).setCell ⟨g, 6, none⟩ a6).heap[g]? = some (.cells #[a0, a1, a2, a3, a4, a5, a6] T (0, 0)) := by
  have h0 : (W.setCell ⟨g, 0, none⟩ a0).heap[g]? = some (.cells #[a0, c1, c2, c3, c4, c5, c6] T (0, 0)) := Joins.block_setCell (i := 0) h a0
  have h1 : ((W.setCell ⟨g, 0, none⟩ a0).setCell ⟨g, 1, none⟩ a1).heap[g]? = some (.cells #[a0, a1, c2, c3, c4, c5, c6] T (0, 0)) := Joins.block_setCell (i := 1) h0 a1
  have h2 : (((W.setCell ⟨g, 0, none⟩ a0).setCell ⟨g, 1, none⟩ a1).setCell ⟨g, 2, none⟩ a2).heap[g]? = some (.cells #[a0, a1, a2, c3, c4, c5, c6] T (0, 0)) := Joins.block_setCell (i := 2) h1 a2
  have h3 : ((((W.setCell ⟨g, 0, none⟩ a0).setCell ⟨g, 1, none⟩ a1).setCell ⟨g, 2, none⟩ a2).setCell ⟨g, 3, none⟩ a3).heap[g]? = some (.cells #[a0, a1, a2, a3, c4, c5, c6] T (0, 0)) := Joins.block_setCell (i := 3) h2 a3
  have h4 : (((((W.setCell ⟨g, 0, none⟩ a0).setCell ⟨g, 1, none⟩ a1).setCell ⟨g, 2, none⟩ a2).setCell ⟨g, 3, none⟩ a3).setCell ⟨g, 4, none⟩ a4).heap[g]? = some (.cells #[a0, a1, a2, a3, a4, c5, c6] T (0, 0)) := Joins.block_setCell (i := 4) h3 a4
  have h5 : ((((((W.setCell ⟨g, 0, none⟩ a0).setCell ⟨g, 1, none⟩ a1).setCell ⟨g, 2, none⟩ a2).setCell ⟨g, 3, none⟩ a3).setCell ⟨g, 4, none⟩ a4).setCell ⟨g, 5, none⟩ a5).heap[g]? = some (.cells #[a0, a1, a2, a3, a4, a5, c6] T (0, 0)) := Joins.block_setCell (i := 5) h4 a5
  have h6 : (((((((W.setCell ⟨g, 0, none⟩ a0).setCell ⟨g, 1, none⟩ a1).setCell ⟨g, 2, none⟩ a2).setCell ⟨g, 3, none⟩ a3).setCell ⟨g, 4, none⟩ a4).setCell ⟨g, 5, none⟩ a5).setCell ⟨g, 6, none⟩ a6).heap[g]? = some (.cells #[a0, a1, a2, a3, a4, a5, a6] T (0, 0)) := Joins.block_setCell (i := 6) h5 a6
  exact h6
theorem seven_free {X : World} {g : Nat} {T : TypeId} {a0 a1 a2 a3 a4 a5 a6 : Value} (h : X.heap[g]? = some (.cells #[a0, a1, a2, a3, a4, a5, a6] T (0, 0))) :
    X.frozen? ⟨g, 0, none⟩ = false ∧ X.frozen? ⟨g, 1, none⟩ = false ∧ X.frozen? ⟨g, 2, none⟩ = false ∧ X.frozen? ⟨g, 3, none⟩ = false ∧ X.frozen? ⟨g, 4, none⟩ = false ∧ X.frozen? ⟨g, 5, none⟩ = false ∧ X.frozen? ⟨g, 6, none⟩ = false :=
  ⟨Joins.unfrozen_of_block h 0, Joins.unfrozen_of_block h 1, Joins.unfrozen_of_block h 2, Joins.unfrozen_of_block h 3, Joins.unfrozen_of_block h 4, Joins.unfrozen_of_block h 5, Joins.unfrozen_of_block h 6⟩
theorem set_otherS (W : World) (g g2 j : Nat) (v : Value) (h : g ≠ g2) : (W.setCell ⟨g, j, none⟩ v).heap[g2]? = W.heap[g2]? := heap_setCell_other W { block := g, off := j } g2 v (id (Ne.symm h))
theorem sign_end {R : Ending → World → Prop} {a : Act} {X : World} {g : Nat} {c0 c1 c2 c3 c4 c5 c6 : Value} (h4 : a.tmps.getD 4 undef = .pointer (some ⟨g, 0, none⟩)) (hd : a.defers = [])
    (hX : X.heap[g]? = some (.cells #[c0, c1, c2, c3, c4, c5, c6] 23 (0, 0))) (hR : R (.returned (.agg #[c0, c1, c2, c3, c4, c5, c6])) X) : bodyPost Tryd.prog Tryd.f13 R .ret a X := by
  obtain ⟨y0, y1, y2, y3, y4, y5, y6⟩ := seven_at hX
  have h4' : a.tmps[4]?.getD undef = .pointer (some ⟨g, 0, none⟩) := by rw [← h4]; simp
  exact bodyPost_ret (v := .agg #[c0, c1, c2, c3, c4, c5, c6]) (by simp [results, Tryd.results13, h4', go_sem, y0, y1, y2, y3, y4, y5, y6]) hd hR
attribute [local irreducible] str beL hF hP hMark mTag hT sSum mXor mPad mKey

set_option maxRecDepth 100000 in
set_option maxHeartbeats 2000000 in
theorem Sign_any (key : List UInt8) (id : Int) (salt : List UInt8) (n b raw : Int) (root tag : List UInt8) (w : World) (hk : KAt w) (r1 : I64 id) (r2 : I64 n) (r3 : I64 b) (r4 : I64 raw) (z1 : salt.length ≤ 1000) (z2 : root.length ≤ 1000) (z3 : key.length ≤ 1000) :
    Calls Tryd.prog 13 #[.string (str key), .agg #[.int .i64 id, .string (str salt), .int .i64 n, .int .i64 b, .int .i64 raw, .string (str root), .string (str tag)]] w fun e w' => e = .returned (.agg #[.int .i64 id, .string (str salt), .int .i64 n, .int .i64 b, .int .i64 raw, .string (str root), .string (str (hT key id salt n b raw root))]) ∧ Below w.heap.size w w' := by
  have HF := Kept.mk (fun w' => fields_any id salt n b raw root tag w' r1 r2 r3 r4 z1 z2)
  have HT := Kept.mk (hT_of key id salt n b raw root)
  have l1 := hF_length id salt n b raw root
  have l2 : (hF id salt n b raw root).length ≤ 800000000 := by omega
  clear l1 r1 r2 r3 r4 z1 z2
  generalize hT key id salt n b raw root = TT at *
  generalize hF id salt n b raw root = F at *
  have hA := hnew w (.cells #[.int .i64 id, .string (str salt), .int .i64 n, .int .i64 b, .int .i64 raw, .string (str root), .string (str tag)] 23)
  have hB := bnew w (.cells #[.int .i64 id, .string (str salt), .int .i64 n, .int .i64 b, .int .i64 raw, .string (str root), .string (str tag)] 23)
  have hz : (w.alloc (.cells #[.int .i64 id, .string (str salt), .int .i64 n, .int .i64 b, .int .i64 raw, .string (str root), .string (str tag)] 23)).heap.size = w.heap.size + 1 := by simp
  go_enter Tryd.func13, Tryd.ntmps13
  go_upto_region 1 with fail
  generalize w.alloc (.cells #[.int .i64 id, .string (str salt), .int .i64 n, .int .i64 b, .int .i64 raw, .string (str root), .string (str tag)] 23) = W1 at *
  have hA2 := hnew W1 (.cells #[.int .i64 0, .string (ByteArray.mk #[]), .int .i64 0, .int .i64 0, .int .i64 0, .string (ByteArray.mk #[]), .string (ByteArray.mk #[])] 23)
  have hB2 := bnew W1 (.cells #[.int .i64 0, .string (ByteArray.mk #[]), .int .i64 0, .int .i64 0, .int .i64 0, .string (ByteArray.mk #[]), .string (ByteArray.mk #[])] 23)
  generalize W1.alloc (.cells #[.int .i64 0, .string (ByteArray.mk #[]), .int .i64 0, .int .i64 0, .int .i64 0, .string (ByteArray.mk #[]), .string (ByteArray.mk #[])] 23) = W2 at *
  have hA := hkept hA hB2
  rw [hz] at hA2
  have HB := Kept.mk (fun w' (h : Below W2.heap.size W2 w') => bnext (bnext hB hB2) h)
  have HK := Kept.mk (fun w' (h : Below W2.heap.size W2 w') => hk.below (bnext (bnext hB hB2) h))
  clear hB hB2 hk hz
  obtain ⟨c0, c1, c2, c3, c4, c5, c6⟩ := seven_at hA
  have HA := Kept.mk hA
  have HA2 := Kept.mk hA2
  clear hA hA2
  go_wp2_with fail
  with_reducible refine (HF.out _).mono ?_
  rintro e w1 ⟨rfl, b1⟩
  have HB1 := Kept.mk b1
  clear b1
  go_wp2_with fail
  with_reducible refine (tag_one key F _ (HK.out _ HB1.out) _ (by omega) (by omega)).mono ?_
  rintro e w3 ⟨rfl, b3⟩
  rw [HT.out]
  have b3 := bnext HB1.out b3
  have hA3 := hkept HA.out b3
  have hA4 := hkept HA2.out b3
  clear c0 c1 c2 c3 c4 c5 c6
  obtain ⟨c0, c1, c2, c3, c4, c5, c6⟩ := seven_at hA3
  obtain ⟨f0, f1, f2, f3, f4, f5, f6⟩ := seven_free hA4
  obtain ⟨d0, d1, d2, d3, d4, d5, d6⟩ := seven_at hA4
  have g6 := (seven_free hA3).2.2.2.2.2.2
  have HA3 := Kept.mk hA3
  have HA4 := Kept.mk hA4
  have HB3 := Kept.mk (HB.out _ b3)
  clear hA3 hA4 b3
  go_wp2_with fail
  refine sign_end rfl rfl (seven_cells _ _ _ _ _ _ _ _ _ _ _ _ _ _ _ _ _ (by rw [set_otherS _ _ _ _ _ (by omega)]; exact HA4.out)) ⟨rfl, ?_⟩
  exact (((((((HB3.out.setCell (Nat.le_refl _) _).setCell (Nat.le_succ _) _).setCell (Nat.le_succ _) _).setCell (Nat.le_succ _) _).setCell (Nat.le_succ _) _).setCell (Nat.le_succ _) _).setCell (Nat.le_succ _) _).setCell (Nat.le_succ _) _
end Go.Proofs.YtabeehljpdehcaaDoor
