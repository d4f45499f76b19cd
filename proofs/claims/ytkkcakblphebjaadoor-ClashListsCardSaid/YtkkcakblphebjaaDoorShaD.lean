/- SHA-256: a group mixed into the words, by a contract. -/
import Derived.Test.YtkkcakblphebjaaDoorShaC
import Derived.Lib.SlBuf
namespace Go.Proofs.YtkkcakblphebjaaDoor
set_option linter.unusedVariables false
open Go.RowKit Go.Lib

def eight (s : St) : Array Value := #[.int .u32 (s.a : Int), .int .u32 (s.b : Int), .int .u32 (s.c : Int), .int .u32 (s.d : Int), .int .u32 (s.e : Int), .int .u32 (s.f : Int), .int .u32 (s.g : Int), .int .u32 (s.h : Int)]
def St.zero : St := ⟨0, 0, 0, 0, 0, 0, 0, 0⟩
theorem eight_lit (s : St) : (#[.int .u32 (s.a : Int), .int .u32 (s.b : Int), .int .u32 (s.c : Int), .int .u32 (s.d : Int), .int .u32 (s.e : Int), .int .u32 (s.f : Int), .int .u32 (s.g : Int), .int .u32 (s.h : Int)] : Array Value) = eight s := rfl
theorem eight_zero : (#[.int .u32 0, .int .u32 0, .int .u32 0, .int .u32 0, .int .u32 0, .int .u32 0, .int .u32 0, .int .u32 0] : Array Value) = eight St.zero := rfl
theorem eight_at {X : World} {g : Nat} {T : TypeId} {s : St} (h : X.heap[g]? = some (.cells (eight s) T (0, 0))) :
    X.cell? ⟨g, 0, none⟩ = some (.int .u32 (s.a : Int)) ∧ X.cell? ⟨g, 1, none⟩ = some (.int .u32 (s.b : Int)) ∧ X.cell? ⟨g, 2, none⟩ = some (.int .u32 (s.c : Int)) ∧ X.cell? ⟨g, 3, none⟩ = some (.int .u32 (s.d : Int)) ∧ X.cell? ⟨g, 4, none⟩ = some (.int .u32 (s.e : Int)) ∧ X.cell? ⟨g, 5, none⟩ = some (.int .u32 (s.f : Int)) ∧ X.cell? ⟨g, 6, none⟩ = some (.int .u32 (s.g : Int)) ∧ X.cell? ⟨g, 7, none⟩ = some (.int .u32 (s.h : Int)) :=
  ⟨Joins.cell_of_block h 0, Joins.cell_of_block h 1, Joins.cell_of_block h 2, Joins.cell_of_block h 3, Joins.cell_of_block h 4, Joins.cell_of_block h 5, Joins.cell_of_block h 6, Joins.cell_of_block h 7⟩
/-- the table of the rounds' words in memory -/
structure KAt (w : World) : Prop where
  lt : 0 < w.heap.size
  cell : ∀ i, i < 64 → w.cell? ⟨0, i, none⟩ = some (.int .u32 ((nth sK i : Nat) : Int))
theorem KAt.below {w w' : World} (h : KAt w) (hb : Below w.heap.size w w') : KAt w' :=
  ⟨Nat.lt_of_lt_of_le h.lt hb.size, fun i hi => (hb.cell (p := ⟨0, i, none⟩) h.lt).trans (h.cell i hi)⟩
structure MixR (w wr : World) (s v : St) (W : List Nat) : Prop where
  h : wr.heap[w.heap.size]? = some (.cells (eight s) 125 (0, 0))
  W : wr.heap[w.heap.size + 1]? = some (.cells (wc64 W) 130 (0, 0))
  r : wr.heap[w.heap.size + 2]? = some (.cells (eight St.zero) 125 (0, 0))
  v : wr.heap[w.heap.size + 3]? = some (.cells (eight v) 125 (0, 0))
  below : Below w.heap.size w wr
theorem MixR.drewN {w wr : World} {s v : St} {W : List Nat} (h : MixR w wr s v W) (n : Nat) : MixR w (wr.drewN n) s v W := ⟨h.h, h.W, h.r, h.v, below_drewN h.below n⟩
theorem MixR.drew {w wr : World} {s v : St} {W : List Nat} (h : MixR w wr s v W) : MixR w wr.drew s v W := ⟨h.h, h.W, h.r, h.v, h.below.drew⟩
theorem MixR.row {w wr : World} {s v : St} {W : List Nat} (h : MixR w wr s v W) (v' : St) : MixR w (wr.setRow (w.heap.size + 3) (eight v')) s v' W :=
  ⟨(setRow_other _ _ _ _ (by omega)).trans h.h, (setRow_other _ _ _ _ (by omega)).trans h.W, (setRow_other _ _ _ _ (by omega)).trans h.r, setRow_heap _ _ _ _ _ _ h.v, below_setRow h.below (by omega) _⟩
theorem MixR.set {w wr : World} {s v v' : St} {W : List Nat} (h : MixR w wr s v W) {i x : Nat} (hv : (eight v).setIfInBounds i (.int .u32 (x : Int)) = eight v') : MixR w (wr.setCell ⟨w.heap.size + 3, i, none⟩ (.int .u32 (x : Int))) s v' W :=
  ⟨(setCell_other_block _ _ _ _ _ (by omega)).trans h.h, (setCell_other_block _ _ _ _ _ (by omega)).trans h.W, (setCell_other_block _ _ _ _ _ (by omega)).trans h.r, by rw [Joins.block_setCell h.v, hv], h.below.setCell (by show w.heap.size ≤ w.heap.size + 3; omega) _⟩
theorem not_nat (e : Nat) (he : e < 4294967296) : 4294967295 ^^^ e = 4294967295 - e := by
  have h := BitVec.toNat_not (x := BitVec.ofNat 32 e)
  rw [← BitVec.allOnes_xor, BitVec.toNat_xor, BitVec.toNat_allOnes, BitVec.toNat_ofNat, Nat.mod_eq_of_lt (by omega)] at h
  exact h
theorem not_u32 (e : Nat) (he : e < 4294967296) : bits .xor .u32 4294967295 (e : Int) = ((4294967295 - e : Nat) : Int) := by
  have h := xor_u32 4294967295 e (by omega) he
  unfold xo at h
  rw [not_nat e he] at h
  exact h
theorem sS0_eq (a : Nat) : sS0 a = xo (xo (rot a 30) (rot a 19)) (rot a 10) := rfl
theorem sS1_eq (e : Nat) : sS1 e = xo (xo (rot e 26) (rot e 21)) (rot e 7) := rfl
theorem sch_eq (e f g : Nat) : sch e f g = xo (e &&& f) ((4294967295 - e) &&& g) := rfl
theorem smaj_eq (a b c : Nat) : smaj a b c = xo (xo (a &&& b) (a &&& c)) (b &&& c) := rfl
def St.shift (v : St) : St := ⟨v.a, v.a, v.b, v.c, v.d, v.e, v.f, v.g⟩
def St.tmp (v : St) (x : Nat) : St := ⟨v.a, v.a, v.b, v.c, ad v.d x, v.e, v.f, v.g⟩
theorem shift_e (v : St) (x : Nat) : (eight v.shift).setIfInBounds 4 (.int .u32 ((ad v.d x : Nat) : Int)) = eight (v.tmp x) := rfl
theorem tmp_a (v : St) (k w : Nat) : (eight (v.tmp (st1 v k w))).setIfInBounds 0 (.int .u32 ((ad (st1 v k w) (st2 v) : Nat) : Int)) = eight (v.rnd k w) := rfl
theorem rnds_next (s : St) (W : List Nat) (t : Nat) : rnds s W (t + 1) = (rnds s W t).rnd (nth sK t) (nth W t) := rfl
theorem rnds_zero (s : St) (W : List Nat) : rnds s W 0 = s := rfl
theorem add_eq (s v : St) : s.add v = ⟨ad s.a v.a, ad s.b v.b, ad s.c v.c, ad s.d v.d, ad s.e v.e, ad s.f v.f, ad s.g v.g, ad s.h v.h⟩ := rfl
theorem st1_eq (s : St) (k w : Nat) : st1 s k w = ad (ad (ad (ad s.h (sS1 s.e)) (sch s.e s.f s.g)) k) w := rfl
theorem st2_eq (s : St) : st2 s = ad (sS0 s.a) (smaj s.a s.b s.c) := rfl
theorem copy_shift (W : World) (g : Nat) (v : St) (hg : W.heap[g]? = some (.cells (eight v) 125 (0, 0))) :
    (Builtin.copy_ #[139, 139] 3 #[.slice (some ⟨g, 1, none⟩) 7 7, .slice (some ⟨g, 0, none⟩) 7 8]).run Tryd.prog W = .ok (goInt 7) (W.setRow g (eight v.shift)) := by
  have h := run_copy_row Tryd.prog W 139 139 3 124 g 1 7 7 ⟨g, 0, none⟩ 7 8 (eight v) 125 ((eight v).toList.take 7) Tryd.underlying139 (by kernel_rfl) hg rfl (fun j u hu => by
    have hj : j < 7 := by
      have := (List.getElem?_eq_some_iff.1 hu).1
      exact Nat.lt_of_lt_of_le this (by simp [eight])
    have hadd : (⟨g, 0, none⟩ : Addr).add j = ⟨g, j, none⟩ := by unfold Addr.add; split <;> simp_all
    rw [hadd, Joins.cell_of_block hg j, ← hu, List.getElem?_take_of_lt hj]
    simp) (by simp [eight]) (fun u hu => by simp [eight] at hu; rcases hu with rfl | rfl | rfl | rfl | rfl | rfl | rfl <;> rfl)
  exact h
theorem mod3 (x y k w : Nat) : ((x : Int) + (y : Int) + (k : Int) + (w : Int)) % 4294967296 = ((ad (ad (ad x y) k) w : Nat) : Int) := by unfold ad; omega
theorem eight_size (a b : St) : (eight a).size = (eight b).size := rfl
theorem eight_one (a : St) : (eight a).all (·.oneCell') = true :=
  Array.all_eq_true_iff_forall_mem.2 fun v hv => by simp [eight] at hv; rcases hv with rfl | rfl | rfl | rfl | rfl | rfl | rfl | rfl <;> rfl
def paddS (s v : St) (n : Nat) : St := ⟨if 0 < n then ad s.a v.a else s.a, if 1 < n then ad s.b v.b else s.b, if 2 < n then ad s.c v.c else s.c, if 3 < n then ad s.d v.d else s.d, if 4 < n then ad s.e v.e else s.e, if 5 < n then ad s.f v.f else s.f, if 6 < n then ad s.g v.g else s.g, if 7 < n then ad s.h v.h else s.h⟩
theorem paddS_0 (s v : St) : (eight (paddS s v 0))[0]? = some (.int .u32 (s.a : Int)) := rfl
theorem paddT_0 (s v : St) : (eight (paddS s v 0)).setIfInBounds 0 (.int .u32 ((ad s.a v.a : Nat) : Int)) = eight (paddS s v 1) := rfl
theorem paddS_1 (s v : St) : (eight (paddS s v 1))[1]? = some (.int .u32 (s.b : Int)) := rfl
theorem paddT_1 (s v : St) : (eight (paddS s v 1)).setIfInBounds 1 (.int .u32 ((ad s.b v.b : Nat) : Int)) = eight (paddS s v 2) := rfl
theorem paddS_2 (s v : St) : (eight (paddS s v 2))[2]? = some (.int .u32 (s.c : Int)) := rfl
theorem paddT_2 (s v : St) : (eight (paddS s v 2)).setIfInBounds 2 (.int .u32 ((ad s.c v.c : Nat) : Int)) = eight (paddS s v 3) := rfl
theorem paddS_3 (s v : St) : (eight (paddS s v 3))[3]? = some (.int .u32 (s.d : Int)) := rfl
theorem paddT_3 (s v : St) : (eight (paddS s v 3)).setIfInBounds 3 (.int .u32 ((ad s.d v.d : Nat) : Int)) = eight (paddS s v 4) := rfl
theorem paddS_4 (s v : St) : (eight (paddS s v 4))[4]? = some (.int .u32 (s.e : Int)) := rfl
theorem paddT_4 (s v : St) : (eight (paddS s v 4)).setIfInBounds 4 (.int .u32 ((ad s.e v.e : Nat) : Int)) = eight (paddS s v 5) := rfl
theorem paddS_5 (s v : St) : (eight (paddS s v 5))[5]? = some (.int .u32 (s.f : Int)) := rfl
theorem paddT_5 (s v : St) : (eight (paddS s v 5)).setIfInBounds 5 (.int .u32 ((ad s.f v.f : Nat) : Int)) = eight (paddS s v 6) := rfl
theorem paddS_6 (s v : St) : (eight (paddS s v 6))[6]? = some (.int .u32 (s.g : Int)) := rfl
theorem paddT_6 (s v : St) : (eight (paddS s v 6)).setIfInBounds 6 (.int .u32 ((ad s.g v.g : Nat) : Int)) = eight (paddS s v 7) := rfl
theorem paddS_7 (s v : St) : (eight (paddS s v 7))[7]? = some (.int .u32 (s.h : Int)) := rfl
theorem paddT_7 (s v : St) : (eight (paddS s v 7)).setIfInBounds 7 (.int .u32 ((ad s.h v.h : Nat) : Int)) = eight (paddS s v 8) := rfl
theorem paddS_8 (s v : St) : paddS s v 8 = s.add v := rfl
structure Mix2 (w wr : World) (s v : St) (n : Nat) : Prop where
  h : wr.heap[w.heap.size]? = some (.cells (eight (paddS s v n)) 125 (0, 0))
  r : wr.heap[w.heap.size + 2]? = some (.cells (eight St.zero) 125 (0, 0))
  v : wr.heap[w.heap.size + 3]? = some (.cells (eight v) 125 (0, 0))
  below : Below w.heap.size w wr
theorem Mix2.of {w wr : World} {s v : St} {W : List Nat} (h : MixR w wr s v W) : Mix2 w wr s v 0 := ⟨h.h, h.r, h.v, h.below⟩
theorem Mix2.drew {w wr : World} {s v : St} {n : Nat} (h : Mix2 w wr s v n) : Mix2 w wr.drew s v n := ⟨h.h, h.r, h.v, h.below.drew⟩
theorem Mix2.set {w wr : World} {s v : St} {n m i x : Nat} (h : Mix2 w wr s v n) (hx : (eight (paddS s v n)).setIfInBounds i (.int .u32 (x : Int)) = eight (paddS s v m)) : Mix2 w (wr.setCell ⟨w.heap.size, i, none⟩ (.int .u32 (x : Int))) s v m :=
  ⟨by rw [Joins.block_setCell h.h, hx], (setCell_other_block _ _ _ _ _ (by omega)).trans h.r, (setCell_other_block _ _ _ _ _ (by omega)).trans h.v, h.below.setCell (Nat.le_refl _) _⟩
attribute [local irreducible] wc64 sW nth rot xo ad sS0 sS1 sch smaj st1 st2 eight rnds St.rnd sK paddS St.add

set_option maxRecDepth 100000 in
set_option maxHeartbeats 4000000 in
theorem mix_any (s : St) (W : List Nat) (w : World) (hs : s.Ok) (hW : W.length = 64) (hWs : ∀ i, nth W i < 4294967296) (hk : KAt w) :
    Calls Tryd.prog 99 #[.agg #[.int .u32 (s.a : Int), .int .u32 (s.b : Int), .int .u32 (s.c : Int), .int .u32 (s.d : Int), .int .u32 (s.e : Int), .int .u32 (s.f : Int), .int .u32 (s.g : Int), .int .u32 (s.h : Int)], .agg (wc64 W)] w fun e w' => e = .returned (.agg #[.int .u32 ((s.add (rnds s W 64)).a : Int), .int .u32 ((s.add (rnds s W 64)).b : Int), .int .u32 ((s.add (rnds s W 64)).c : Int), .int .u32 ((s.add (rnds s W 64)).d : Int), .int .u32 ((s.add (rnds s W 64)).e : Int), .int .u32 ((s.add (rnds s W 64)).f : Int), .int .u32 ((s.add (rnds s W 64)).g : Int), .int .u32 ((s.add (rnds s W 64)).h : Int)]) ∧ Below w.heap.size w w' := by
  have HW := Kept.mk hW; clear hW
  have HWs := Kept.mk hWs; clear hWs
  have HK := Kept.mk hk; clear hk
  have HS := Kept.mk hs; clear hs
  go_enter Tryd.func99, Tryd.ntmps99
  go_wp2_with fail
  rw [eight_zero, eight_lit s]
  go_loopw [17] (fun i wr => ∃ t : Nat, t ≤ 64 ∧ i = .int .i64 t ∧ MixR w wr s (rnds s W t) W) (fun i _ => 64 - (RowKit.intOf i).toNat)
  case atStart =>
    refine ⟨0, by omega, rfl, ?_⟩
    rw [rnds_zero]
    exact ⟨block_old (block_old (block_old (heap_new _ _ _ rfl) _) _) _, block_old (block_old (heap_new (w.alloc _) _ (w.heap.size + 1) (by simp)) _) _, block_old (heap_new ((w.alloc _).alloc _) _ (w.heap.size + 2) (by simp)) _, heap_new (((w.alloc _).alloc _).alloc _) _ (w.heap.size + 3) (by simp), ((((Below.refl _ _).alloc (Nat.le_refl _) _).alloc (by simp) _).alloc (by simp; omega) _).alloc (by simp; omega) _⟩
  case round =>
    obtain ⟨t, ht, rfl, hm⟩ := hrel
    by_cases hlt : t < 64
    · have hok := rnds_ok HS.out W t
      have hn := rnds_next s W t
      generalize rnds s W t = v at *
      have HN := Kept.mk hn; clear hn
      have hka := HK.out.below hm.below
      have ck := hka.cell t hlt
      have cw := (Joins.cell_of_block hm.W t).trans (wc64_get (by rw [HW.out]; exact hlt))
      have kl := sK_small t
      have wl := HWs.out t
      generalize hk0 : nth sK t = k0 at *
      generalize hw0 : nth W t = w0 at *
      have HK0 := Kept.mk hk0; clear hk0
      have HW0 := Kept.mk hw0; clear hw0
      obtain ⟨oa, ob, oc, od, oe, of, og, oh⟩ := hok
      obtain ⟨c0, c1, c2, c3, c4, c5, c6, c7⟩ := eight_at hm.v
      have HM := Kept.mk hm
      have t64 : (t : Int) < 64 := by omega
      have HV1 := Kept.mk (show st1 v k0 w0 = ad (ad (ad (ad v.h (sS1 v.e)) (sch v.e v.f v.g)) k0) w0 from st1_eq v k0 w0)
      have HV2 := Kept.mk (show st2 v = ad (sS0 v.a) (smaj v.a v.b v.c) from st2_eq v)
      have HE := Kept.mk (shift_e v (st1 v k0 w0))
      have HT := Kept.mk (tmp_a v k0 w0)
      have q1 := xor_u32 (rot v.e 26) (rot v.e 21) (rot_lt _ 26 oe (by omega)) (rot_lt _ 21 oe (by omega))
      have q2 : bits .xor .u32 ((xo (rot v.e 26) (rot v.e 21) : Nat) : Int) ((rot v.e 7 : Nat) : Int) = ((sS1 v.e : Nat) : Int) := by
        rw [sS1_eq]; exact xor_u32 _ _ (xo_lt (rot_lt _ 26 oe (by omega)) (rot_lt _ 21 oe (by omega))) (rot_lt _ 7 oe (by omega))
      have q3 := and_u32 v.e v.f oe of
      have q4 : bits .xor .u32 IntKind.u32.max (v.e : Int) = ((4294967295 - v.e : Nat) : Int) := not_u32 v.e oe
      have q5 := and_u32 (4294967295 - v.e) v.g (by omega) og
      have q6 : bits .xor .u32 ((v.e &&& v.f : Nat) : Int) (((4294967295 - v.e) &&& v.g : Nat) : Int) = ((sch v.e v.f v.g : Nat) : Int) := by
        rw [sch_eq]; exact xor_u32 _ _ (and_lt32 _ _ oe) (and_lt32 _ _ (by omega))
      have p1 := xor_u32 (rot v.a 30) (rot v.a 19) (rot_lt _ 30 oa (by omega)) (rot_lt _ 19 oa (by omega))
      have p2 : bits .xor .u32 ((xo (rot v.a 30) (rot v.a 19) : Nat) : Int) ((rot v.a 10 : Nat) : Int) = ((sS0 v.a : Nat) : Int) := by
        rw [sS0_eq]; exact xor_u32 _ _ (xo_lt (rot_lt _ 30 oa (by omega)) (rot_lt _ 19 oa (by omega))) (rot_lt _ 10 oa (by omega))
      have p3 := and_u32 v.a v.b oa ob
      have p4 := and_u32 v.a v.c oa oc
      have p5 := and_u32 v.b v.c ob oc
      have p6 := xor_u32 (v.a &&& v.b) (v.a &&& v.c) (and_lt32 _ _ oa) (and_lt32 _ _ oa)
      have p7 : bits .xor .u32 ((xo (v.a &&& v.b) (v.a &&& v.c) : Nat) : Int) ((v.b &&& v.c : Nat) : Int) = ((smaj v.a v.b v.c : Nat) : Int) := by
        rw [smaj_eq]; exact xor_u32 _ _ (xo_lt (and_lt32 _ _ oa) (and_lt32 _ _ oa)) (and_lt32 _ _ ob)
      have a1 := wrap_u32_ad
      have a2 := mod_u32_ad
      clear hm hka
      go_upto_region 5 with fail
      go_cut [7, 8, 9, 10, 11, 12] (fun s7 s8 s9 s10 s11 s12 wx => s7 = .int .u32 (v.a : Int) ∧ s8 = .int .u32 (v.b : Int) ∧ s9 = .int .u32 (v.c : Int) ∧ s10 = .int .u32 (v.e : Int) ∧ s11 = .int .u32 (v.f : Int) ∧ s12 = .int .u32 (v.g : Int) ∧ ∃ k, wx = wr.drewN k)
      case first =>
        go_quiet (fail)
        go_wp2_with fail
        go_meet
        exact ⟨rfl, rfl, rfl, rfl, rfl, rfl, _, rfl⟩
      case rest =>
        obtain ⟨rfl, rfl, rfl, rfl, rfl, rfl, k5, rfl⟩ := hcut
        have HM := Kept.mk (HM.out.drewN k5)
        have ck : (wr.drewN k5).cell? ⟨0, t, none⟩ = _ := ck
        have cw : (wr.drewN k5).cell? ⟨w.heap.size + 1, t, none⟩ = _ := cw
        have c7 : (wr.drewN k5).cell? ⟨w.heap.size + 3, 7, none⟩ = _ := c7
        generalize wr.drewN k5 = wr at *
        go_upto_region 6 with fail
        go_cut [13] (fun s13 wx => s13 = .int .u32 ((st1 v k0 w0 : Nat) : Int) ∧ ∃ k, wx = wr.drewN k)
        case first =>
          go_quiet ((first | (go_at_call_of 109 (Value.int .i64 6); exact Calls.quiet_of (rotr_any v.e 6 _ oe (by omega) (by omega))) | (go_at_call_of 109 (Value.int .i64 11); exact Calls.quiet_of (rotr_any v.e 11 _ oe (by omega) (by omega))) | (go_at_call_of 109 (Value.int .i64 25); exact Calls.quiet_of (rotr_any v.e 25 _ oe (by omega) (by omega)))))
          go_wp2_with fail
          go_meet
          rw [HV1.out]
          exact ⟨by first | rfl | rw [mod3], _, rfl⟩
        case rest =>
          obtain ⟨rfl, k6, rfl⟩ := hcut
          have HM := Kept.mk (HM.out.drewN k6)
          clear ck cw c7
          generalize wr.drewN k6 = wr at *
          go_upto_region 8 with (first | (go_at_call_of 109 (Value.int .i64 2); refine (rotr_any v.a 2 _ oa (by omega) (by omega)).mono ?_; rintro e w1 ⟨rfl, j1, rfl⟩) | (go_at_call_of 109 (Value.int .i64 13); refine (rotr_any v.a 13 _ oa (by omega) (by omega)).mono ?_; rintro e w1 ⟨rfl, j2, rfl⟩) | (go_at_call_of 109 (Value.int .i64 22); refine (rotr_any v.a 22 _ oa (by omega) (by omega)).mono ?_; rintro e w1 ⟨rfl, j3, rfl⟩))
          go_cut [14] (fun s14 wx => s14 = .int .u32 ((st2 v : Nat) : Int) ∧ MixR w wx s v.shift W)
          case first =>
            have hm0 := HM.out.drewN (j1 + j2 + j3)
            have HM := Kept.mk hm0
            have HCP := Kept.mk (copy_shift _ _ v hm0.v)
            have HCQ := Kept.mk (copy_shift _ _ v hm0.drew.v)
            clear hm0
            generalize wr.drewN (j1 + j2 + j3) = wr at *
            go_still_tail 2, (by kernel_rfl)
            change wpList _ _ _ _ _ (World.drew _)
            refine wpList_copy_run _ rfl (.tmp 80) (.tmp 81) 139 139 rfl _ _ rfl rfl HCQ.out ?_
            go_wp2_with fail
            go_meet
            rw [HV2.out]
            exact ⟨rfl, HM.out.drew.row _⟩
          case rest =>
            obtain ⟨rfl, hm⟩ := hcut
            obtain ⟨c0, c1, c2, c3, c4, c5, c6, c7⟩ := eight_at hm.v
            have nf := fun j => Joins.unfrozen_of_block hm.v j
            have HM := Kept.mk hm
            clear hm
            go_wp2_with fail
            refine ⟨⟨t + 1, by omega, by go_num, ?_⟩, by simp [RowKit.intOf]; omega⟩
            rw [HN.out]
            exact (HM.out.set HE.out).set HT.out
    · have h64 : t = 64 := by omega
      subst h64
      have hv := rnds_ok HS.out W 64
      generalize hV : rnds s W 64 = v at *
      have HV := Kept.mk hV; clear hV
      have HM := Kept.mk (Mix2.of hm)
      clear hm
      go_upto_region 12 with fail
      rw [show ((64 : Nat) : Int) = 64 from rfl]
      go_wp2_with fail
      go_loopw [93] (fun i wr => ∃ n : Nat, n ≤ 8 ∧ i = .int .i64 n ∧ Mix2 w wr s v n) (fun i _ => 8 - (RowKit.intOf i).toNat)
      case atStart => exact ⟨0, by omega, rfl, HM.out⟩
      case round =>
        clear HM
        obtain ⟨n, hn, rfl, hm⟩ := hrel
        have hc : n = 0 ∨ n = 1 ∨ n = 2 ∨ n = 3 ∨ n = 4 ∨ n = 5 ∨ n = 6 ∨ n = 7 ∨ n = 8 := by omega
        obtain ⟨oa, ob, oc, od, oe, of, og, oh⟩ := HS.out
        obtain ⟨va, vb, vc, vd, ve, vf, vg, vh⟩ := hv
        obtain ⟨e0, e1, e2, e3, e4, e5, e6, e7⟩ := eight_at hm.v
        have a1 := wrap_u32_ad
        have a2 := mod_u32_ad
        rcases hc with rfl | rfl | rfl | rfl | rfl | rfl | rfl | rfl | rfl
        · have c0 : wr.cell? ⟨w.heap.size, 0, none⟩ = some (.int .u32 (s.a : Int)) := (Joins.cell_of_block hm.h 0).trans (paddS_0 s v)
          have nf := Joins.unfrozen_of_block hm.h 0
          have HN := Kept.mk (hm.set (paddT_0 s v))
          clear hm
          go_wp2_with fail
          go_still_tail 8, (by kernel_rfl)
          change wpList _ _ _ _ _ (World.drew _)
          go_wp2
          exact ⟨⟨1, by omega, rfl, HN.out.drew⟩, by decide⟩
        · have c1 : wr.cell? ⟨w.heap.size, 1, none⟩ = some (.int .u32 (s.b : Int)) := (Joins.cell_of_block hm.h 1).trans (paddS_1 s v)
          have nf := Joins.unfrozen_of_block hm.h 1
          have HN := Kept.mk (hm.set (paddT_1 s v))
          clear hm
          go_wp2_with fail
          go_still_tail 8, (by kernel_rfl)
          change wpList _ _ _ _ _ (World.drew _)
          go_wp2
          exact ⟨⟨2, by omega, rfl, HN.out.drew⟩, by decide⟩
        · have c2 : wr.cell? ⟨w.heap.size, 2, none⟩ = some (.int .u32 (s.c : Int)) := (Joins.cell_of_block hm.h 2).trans (paddS_2 s v)
          have nf := Joins.unfrozen_of_block hm.h 2
          have HN := Kept.mk (hm.set (paddT_2 s v))
          clear hm
          go_wp2_with fail
          go_still_tail 8, (by kernel_rfl)
          change wpList _ _ _ _ _ (World.drew _)
          go_wp2
          exact ⟨⟨3, by omega, rfl, HN.out.drew⟩, by decide⟩
        · have c3 : wr.cell? ⟨w.heap.size, 3, none⟩ = some (.int .u32 (s.d : Int)) := (Joins.cell_of_block hm.h 3).trans (paddS_3 s v)
          have nf := Joins.unfrozen_of_block hm.h 3
          have HN := Kept.mk (hm.set (paddT_3 s v))
          clear hm
          go_wp2_with fail
          go_still_tail 8, (by kernel_rfl)
          change wpList _ _ _ _ _ (World.drew _)
          go_wp2
          exact ⟨⟨4, by omega, rfl, HN.out.drew⟩, by decide⟩
        · have c4 : wr.cell? ⟨w.heap.size, 4, none⟩ = some (.int .u32 (s.e : Int)) := (Joins.cell_of_block hm.h 4).trans (paddS_4 s v)
          have nf := Joins.unfrozen_of_block hm.h 4
          have HN := Kept.mk (hm.set (paddT_4 s v))
          clear hm
          go_wp2_with fail
          go_still_tail 8, (by kernel_rfl)
          change wpList _ _ _ _ _ (World.drew _)
          go_wp2
          exact ⟨⟨5, by omega, rfl, HN.out.drew⟩, by decide⟩
        · have c5 : wr.cell? ⟨w.heap.size, 5, none⟩ = some (.int .u32 (s.f : Int)) := (Joins.cell_of_block hm.h 5).trans (paddS_5 s v)
          have nf := Joins.unfrozen_of_block hm.h 5
          have HN := Kept.mk (hm.set (paddT_5 s v))
          clear hm
          go_wp2_with fail
          go_still_tail 8, (by kernel_rfl)
          change wpList _ _ _ _ _ (World.drew _)
          go_wp2
          exact ⟨⟨6, by omega, rfl, HN.out.drew⟩, by decide⟩
        · have c6 : wr.cell? ⟨w.heap.size, 6, none⟩ = some (.int .u32 (s.g : Int)) := (Joins.cell_of_block hm.h 6).trans (paddS_6 s v)
          have nf := Joins.unfrozen_of_block hm.h 6
          have HN := Kept.mk (hm.set (paddT_6 s v))
          clear hm
          go_wp2_with fail
          go_still_tail 8, (by kernel_rfl)
          change wpList _ _ _ _ _ (World.drew _)
          go_wp2
          exact ⟨⟨7, by omega, rfl, HN.out.drew⟩, by decide⟩
        · have c7 : wr.cell? ⟨w.heap.size, 7, none⟩ = some (.int .u32 (s.h : Int)) := (Joins.cell_of_block hm.h 7).trans (paddS_7 s v)
          have nf := Joins.unfrozen_of_block hm.h 7
          have HN := Kept.mk (hm.set (paddT_7 s v))
          clear hm
          go_wp2_with fail
          go_still_tail 8, (by kernel_rfl)
          change wpList _ _ _ _ _ (World.drew _)
          go_wp2
          exact ⟨⟨8, by omega, rfl, HN.out.drew⟩, by decide⟩
        · have HI := Kept.mk hm
          clear e0 e1 e2 e3 e4 e5 e6 e7
          have hr := hm.r
          have hh := hm.h
          rw [paddS_8] at hh
          have hi : (Tryd.prog.info? 125).map (·.size) = some (eight (s.add v)).size := by kernel_rfl
          have h1 := eight_one (s.add v)
          have HR := Kept.mk hr
          have HH := Kept.mk hh
          have HII := Kept.mk hi
          have H1 := Kept.mk h1
          have HB := Kept.mk hm.below
          clear hr hh hi h1 hm HI
          go_wp2_with (first | (with_reducible refine wpList_load_row rfl 125 (.tmp 2) rfl w.heap.size rfl _ _ _ _ HH.out Tryd.underlying125 rfl HII.out ?_) | (with_reducible refine wpList_store_row rfl 125 (.tmp 4) (.tmp 105) rfl (w.heap.size + 2) (eight (s.add v)) rfl rfl _ _ HR.out HII.out (eight_size _ _) H1.out ?_))
          refine bodyPost_ret (results_cell_row rfl _ _ (w.heap.size + 2) _ (eight (s.add v)) (0, 0) _ rfl (setRow_heap _ _ _ _ _ _ HR.out) Tryd.underlying125 rfl HII.out) rfl ⟨?_, ?_⟩
          · rw [eight_lit, HV.out]
          · exact below_setRow HB.out (by omega) _
end Go.Proofs.YtkkcakblphebjaaDoor
