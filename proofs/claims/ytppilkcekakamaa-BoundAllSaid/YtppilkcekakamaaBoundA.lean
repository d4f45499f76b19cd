/- bound: any headers have the document's bound, or its error: walked by the contracts. -/
import Derived.Test.YtppilkcekakamaaBoundW
import Derived.Test.YtppilkcekakamaaKit
import Derived.Deep.Slices
import Derived.WideShapes
import Derived.Deep.AppendLies
namespace Go.Proofs.Ytppilkcekakamaa
set_option linter.unusedVariables false
set_option linter.unusedSimpArgs false
open Go.RowKit Go.Lib Go.ChangeShapes Go.WideShapes

/-- the i-th header's seven cells; its third is n -/
structure HdAt (W : World) (ad : Addr) (i : Nat) (n : Int) : Prop where
  ex : ∃ (z0 : Int) (z1 : ByteArray) (z3 z4 : Int) (z5 z6 : ByteArray), W.cell? (ad.add (i * 7)) = some (.int .i64 z0) ∧ W.cell? (ad.add (i * 7 + 1)) = some (.string z1) ∧ W.cell? (ad.add (i * 7 + 2)) = some (.int .i64 n) ∧
    W.cell? (ad.add (i * 7 + 3)) = some (.int .i64 z3) ∧ W.cell? (ad.add (i * 7 + 4)) = some (.int .i64 z4) ∧ W.cell? (ad.add (i * 7 + 5)) = some (.string z5) ∧ W.cell? (ad.add (i * 7 + 6)) = some (.string z6)
def HeadsAt (W : World) (A : Option Addr) (ns : List Int) : Prop :=
  0 < ns.length → ∃ ad : Addr, A = some ad ∧ ad.block < W.heap.size ∧ ∀ i n, ns[i]? = some n → HdAt W ad i n
theorem HdAt.below {W W' : World} {ad : Addr} {i : Nat} {n : Int} (h : HdAt W ad i n) (hl : ad.block < W.heap.size) (hb : Below W.heap.size W W') : HdAt W' ad i n := by
  obtain ⟨z0, z1, z3, z4, z5, z6, c0, c1, c2, c3, c4, c5, c6⟩ := h
  have k : ∀ j, W'.cell? (ad.add j) = W.cell? (ad.add j) := fun j => hb.cell (p := ad.add j) (by rw [add_block]; exact hl)
  exact ⟨z0, z1, z3, z4, z5, z6, (k _).trans c0, (k _).trans c1, (k _).trans c2, (k _).trans c3, (k _).trans c4, (k _).trans c5, (k _).trans c6⟩
theorem HeadsAt.below {W W' : World} {A : Option Addr} {ns : List Int} (h : HeadsAt W A ns) (hb : Below W.heap.size W W') : HeadsAt W' A ns := by
  intro h0
  obtain ⟨ad, e, hl, hc⟩ := h h0
  exact ⟨ad, e, Nat.lt_of_lt_of_le hl hb.size, fun i n hi => (hc i n hi).below hl hb⟩
theorem HeadsAt.get {W : World} {A : Option Addr} {ns : List Int} (h : HeadsAt W A ns) {k : Nat} (hk : k < ns.length) : ∃ ad : Addr, A = some ad ∧ ad.block < W.heap.size ∧ HdAt W ad k ns[k] := by
  obtain ⟨ad, e, hl, hc⟩ := h (by omega)
  exact ⟨ad, e, hl, hc k _ (List.getElem?_eq_getElem hk)⟩
theorem HeadsAt.take {W : World} {A : Option Addr} {ns : List Int} (h : HeadsAt W A ns) (k : Nat) : HeadsAt W A (ns.take k) := by
  intro h0
  rw [List.length_take] at h0
  obtain ⟨ad, e, hl, hc⟩ := h (by omega)
  refine ⟨ad, e, hl, fun i n hi => hc i n ?_⟩
  rw [List.getElem?_take] at hi
  split at hi
  · exact hi
  · cases hi

set_option maxRecDepth 100000 in
theorem open_heads {H : Type} {enc : TypeId × Value → H} {W : World} {fuel : Nat} {cs : List Value} {x : DataW H × List MemPlace}
    (h : DataW.trod enc Try.prog W 0 (fun _ => true) true fuel 64 cs = some x) :
    ∃ (A : Option Addr) (ns : List Int) (cap : Nat), cs = [.slice A ns.length cap] ∧ ns.length ≤ 9223372036854775807 ∧ (HeadsAt W A ns ∧ ns.length ≤ cap ∧ cap ≤ 9223372036854775807) := by
  have hC : Try.prog.cellsOf 96 = 7 := by kernel_rfl
  have hI : Try.prog.cellsOf 3 = 1 := by kernel_rfl
  have hS : Try.prog.cellsOf 9 = 1 := by kernel_rfl
  rcases Deep.open_slice Try.underlying64 h with ⟨hcs, _⟩ | ⟨a, len, cap, m, n, D, Pl, hcs, _, hl, hm, hmm, _, hi⟩
  · exact ⟨none, [], 0, hcs, by decide, fun h => absurd h (by simp), by simp, by simp⟩
  · have hlm : len ≤ m := by rw [hmm]; simpa using hl
    have hex : ∀ i : Nat, ∃ k : Int, i < m → HdAt W a i k := by
      intro i
      by_cases him : i < m
      · obtain ⟨cs', hc, ht⟩ := hi i him
        rw [hC] at hc
        obtain ⟨_, hlen, hcell⟩ := World.cells?_some hc
        obtain ⟨xs, n', _, _, _, hlx, hg⟩ := DataW.trod_struct Try.underlying96 ht
        match cs', hlen with
        | [c0, c1, c2, c3, c4, c5, c6], _ =>
          have hxl : xs.length = 7 := hlx
          have g0 : DataW.trod enc Try.prog W 0 (fun _ => true) true n' 3 (([c0, c1, c2, c3, c4, c5, c6].drop 0).take (Try.prog.cellsOf 3)) = xs[0]? := hg 0 _ rfl
          have g1 : DataW.trod enc Try.prog W 0 (fun _ => true) true n' 9 (([c0, c1, c2, c3, c4, c5, c6].drop 1).take (Try.prog.cellsOf 9)) = xs[1]? := hg 1 _ rfl
          have g2 : DataW.trod enc Try.prog W 0 (fun _ => true) true n' 3 (([c0, c1, c2, c3, c4, c5, c6].drop 2).take (Try.prog.cellsOf 3)) = xs[2]? := hg 2 _ rfl
          have g3 : DataW.trod enc Try.prog W 0 (fun _ => true) true n' 3 (([c0, c1, c2, c3, c4, c5, c6].drop 3).take (Try.prog.cellsOf 3)) = xs[3]? := hg 3 _ rfl
          have g4 : DataW.trod enc Try.prog W 0 (fun _ => true) true n' 3 (([c0, c1, c2, c3, c4, c5, c6].drop 4).take (Try.prog.cellsOf 3)) = xs[4]? := hg 4 _ rfl
          have g5 : DataW.trod enc Try.prog W 0 (fun _ => true) true n' 9 (([c0, c1, c2, c3, c4, c5, c6].drop 5).take (Try.prog.cellsOf 9)) = xs[5]? := hg 5 _ rfl
          have g6 : DataW.trod enc Try.prog W 0 (fun _ => true) true n' 9 (([c0, c1, c2, c3, c4, c5, c6].drop 6).take (Try.prog.cellsOf 9)) = xs[6]? := hg 6 _ rfl
          rw [hI] at g0 g2 g3 g4
          rw [hS] at g1 g5 g6
          simp only [List.drop_zero, List.take_succ_cons, List.take_zero, List.drop_succ_cons] at g0 g1 g2 g3 g4 g5 g6
          have e0 := hcell 0 (by decide)
          have e1 := hcell 1 (by decide)
          have e2 := hcell 2 (by decide)
          have e3 := hcell 3 (by decide)
          have e4 := hcell 4 (by decide)
          have e5 := hcell 5 (by decide)
          have e6 := hcell 6 (by decide)
          simp only [List.getElem?_cons_zero, List.getElem?_cons_succ] at e0 e1 e2 e3 e4 e5 e6
          rw [Go.Deep.add_add] at e0 e1 e2 e3 e4 e5 e6
          rw [List.getElem?_eq_getElem (by omega)] at g0 g1 g2 g3 g4 g5 g6
          obtain ⟨z0, h0, _, _⟩ := DataW.trod_int Try.underlying3 g0
          obtain ⟨z1, h1, _, _⟩ := DataW.trod_string Try.underlying9 g1
          obtain ⟨z2, h2, _, _⟩ := DataW.trod_int Try.underlying3 g2
          obtain ⟨z3, h3, _, _⟩ := DataW.trod_int Try.underlying3 g3
          obtain ⟨z4, h4, _, _⟩ := DataW.trod_int Try.underlying3 g4
          obtain ⟨z5, h5, _, _⟩ := DataW.trod_string Try.underlying9 g5
          obtain ⟨z6, h6, _, _⟩ := DataW.trod_string Try.underlying9 g6
          simp only [List.cons.injEq, and_true] at h0 h1 h2 h3 h4 h5 h6
          subst h0 h1 h2 h3 h4 h5 h6
          exact ⟨z2, fun _ => ⟨z0, z1, z3, z4, z5, z6, e0, e1, e2, e3, e4, e5, e6⟩⟩
      · exact ⟨0, fun h => absurd h him⟩
    obtain ⟨f, hf⟩ := Classical.axiomOfChoice hex
    have hfl : ((List.range len).map f).length = len := by simp
    refine ⟨some a, (List.range len).map f, cap, ?_, ?_, ?_, by rw [hfl]; exact hl, by unfold maxLen at hm; omega⟩
    · rw [hfl]; exact hcs
    · unfold maxLen at hm; rw [hfl]; omega
    · intro h0
      rw [hfl] at h0
      refine ⟨a, rfl, ?_, fun i n2 hi2 => ?_⟩
      · obtain ⟨z0, z1, z3, z4, z5, z6, c0, _⟩ := hf 0 (by omega)
        have := block_of_cell c0
        rwa [add_block] at this
      · have hil : i < len := by
          have := (List.getElem?_eq_some_iff.1 hi2).1
          rwa [hfl] at this
        rw [List.getElem?_map, List.getElem?_range hil] at hi2
        simp only [Option.map_some, Option.some.injEq] at hi2
        subst hi2
        exact hf i (by omega)

theorem infoInt : (Try.prog.info? 3).map (fun i => (i.zero, i.size, i.bytes)) = some (some (.int .i64 0), 1, 8) := by kernel_rfl
/-- a slice of numbers that the call has grown itself -/
def IB (w wr : World) (v : Value) (ns : List Int) : Prop := OwnBuf w.heap.size 3 v ns.length (ints ns) w wr
theorem IB.is {w wr : World} {v : Value} {l m : List Int} (h : IB w wr v l) (e : l = m) : IB w wr v m := by rw [← e]; exact h
theorem ib_nil {w wr : World} (h : Below w.heap.size w wr) : IB w wr (.slice none 0 0) [] := ⟨World.ownsRowF_nil _ _ _ _, h, h.size⟩
theorem IB.below {w wr wx : World} {v : Value} {l : List Int} (h : IB w wr v l) (hb : Below wr.heap.size wr wx) : IB w wx v l := by
  obtain ⟨h1, h2, h3⟩ := h
  refine ⟨?_, h2.trans (hb.mono h3), Nat.le_trans h3 hb.size⟩
  obtain ⟨e, hv⟩ := h1
  refine ⟨e, hv.imp id fun ⟨g, cap, cur, fz, e1, hg, hh, r⟩ => ⟨g, cap, cur, fz, e1, hg, ?_, r⟩⟩
  rw [hb.block g (Array.getElem?_eq_some_iff.1 hh).1]; exact hh
theorem add_off (a : Addr) (k : Nat) (hk : 0 < k) : a.add k = ⟨a.block, a.off + k, none⟩ := by unfold Addr.add; rw [if_neg (by omega)]
theorem IB.shape {w wr : World} {v : Value} {ns : List Int} (h : IB w wr v ns) : ∃ A cap, v = .slice A ns.length cap ∧ RowAt wr A (ints ns) := by
  obtain ⟨h1, _, _⟩ := h
  obtain ⟨_, hv⟩ := id h1
  rcases hv with ⟨rfl, hx⟩ | ⟨g, cap, cur, fz, rfl, hr⟩
  · cases ns with
    | nil => exact ⟨none, 0, rfl, fun h0 => absurd h0 (by simp [ints])⟩
    | cons c r => simp at hx
  · have hc := h1.cells (g := g) rfl
    refine ⟨some ⟨g, 0, none⟩, cap, rfl, fun h0 => ⟨_, rfl, ?_, fun j u hu => hc j u hu⟩⟩
    have := block_of_cell (hc 0 _ (List.getElem?_eq_getElem h0))
    rwa [add_block] at this
theorem append_int {ops : Array Oper} {rest : List Oper} {o : Oper} {a : Act} {Q : Exit → Act → World → Prop} (hgd : o.guard = none) (s x : Operand)
    (ho : o.op = .call { callee := .builtin .append, args := #[s, x], argTypes := #[39, 39] })
    {w w0 : World} {v : Value} {ns : List Int} (hb : IB w w0 v ns) (n : Int) (hs : a.eval s = v)
    (hx : a.eval x = .slice (some ⟨w0.heap.size, 0, none⟩) 1 1) (hlen : ns.length + 1 ≤ 1000000)
    (h : ∀ v' w', IB w w' v' (ns ++ [n]) → wpList Try.prog ops Q rest (a.put o.dst v') w') : wpList Try.prog ops Q (o :: rest) a (w0.alloc (.cells #[.int .i64 n] 3)) := by
  obtain ⟨i0, hi, hz0, hz1, hz2⟩ := info_parts infoInt
  have hb : OwnBuf w.heap.size 3 v ns.length (ints ns) w w0 := hb
  have hb' := hb.alloc (.cells #[.int .i64 n] 3)
  refine wpList_append_ownF _ hgd s x 39 ho w.heap.size 3 i0 (.int .i64 0) 1 8 Try.underlying39 hi hz0 hz1 hz2 rfl (by decide) v ns.length (ints ns) hs hb'.1 ⟨w0.heap.size, 0, none⟩ 1 1 [.int .i64 n] hx rfl ?_ ?_ (by unfold maxLen; omega) (by omega) hb'.2.2 ?_
  · intro j u hj
    match j, hj with
    | 0, hj => simp at hj; subst hj; simp [Addr.add]
    | (j + 1), hj => simp at hj
  · intro u hu; simp at hu; subst hu; rfl
  · intro v' w' ho' hg _
    refine h v' w' ?_
    have := hb'.grown ho' hg
    unfold IB
    rw [List.length_append, List.length_singleton]
    have e : ints (ns ++ [n]) = ints ns ++ [.int .i64 n] := by simp [ints]
    rw [e]; exact this
theorem ints_get (zs : List Int) (k : Nat) (h : k < zs.length) : (ints zs)[k]'(by rw [ints_length]; exact h) = .int .i64 zs[k] := by simp [ints]
theorem sum_snoc (zs : List Int) (k : Nat) (h : k < zs.length) : (zs.take (k + 1)).sum = (zs.take k).sum + zs[k] := by
  rw [List.take_succ_eq_append_getElem h, List.sum_append]; simp
theorem sum_range (zs : List Int) (B : Int) (h : ∀ z ∈ zs, 0 ≤ z ∧ z ≤ B) : 0 ≤ zs.sum ∧ zs.sum ≤ B * zs.length := by
  induction zs with
  | nil => simp
  | cons a r ih =>
    have h1 := h a (by simp)
    obtain ⟨i1, i2⟩ := ih fun z hz => h z (by simp [hz])
    simp only [List.sum_cons, List.length_cons]
    have e : B * ((r.length + 1 : Nat) : Int) = B * r.length + B := by rw [Int.natCast_add, Int.mul_add]; simp
    rw [e]
    omega

set_option maxRecDepth 100000 in
set_option maxHeartbeats 1000000 in
theorem bsum_any (A : Option Addr) (n c : Nat) (zs : List Int) (w : World) (hn : zs.length = n) (hr : RowAt w A (ints zs)) (hl : zs.length ≤ 100) (hz : ∀ z ∈ zs, 0 ≤ z ∧ z ≤ 5000000000) :
    Calls Try.prog 70 #[.slice A n c] w fun e w' => e = .returned (.int .i64 zs.sum) ∧ w = w' := by
  subst hn
  have HR := Kept.mk hr
  have HZ := Kept.mk hz
  clear hr hz
  go_enter Try.func70, Try.ntmps70
  go_wp2_with fail
  go_loop [3, 8] (fun t i => ∃ k : Nat, k ≤ zs.length ∧ i = .int .i64 k ∧ t = .int .i64 (zs.take k).sum) (fun _ i => zs.length - (RowKit.intOf i).toNat)
  case atStart => exact ⟨0, Nat.zero_le _, rfl, rfl⟩
  case round =>
    obtain ⟨k, hk, rfl, rfl⟩ := hrel
    by_cases hlt : k < zs.length
    · obtain ⟨ad, rfl, had, hc⟩ := HR.out.get (k := k) (by rw [ints_length]; exact hlt)
      rw [ints_get zs k hlt] at hc
      have HS := Kept.mk (sum_snoc zs k hlt)
      have h1 := sum_range (zs.take k) 5000000000 (fun z hz => HZ.out z (List.mem_of_mem_take hz))
      have h2 := HZ.out _ (List.getElem_mem hlt)
      rw [List.length_take, Nat.min_eq_left hk] at h1
      generalize (zs.take k).sum = q at *
      generalize zs[k] = z at *
      obtain ⟨h1, h3⟩ := h1
      obtain ⟨h2, h4⟩ := h2
      have h5 : q ≤ 500000000000 := by omega
      clear h3
      go_wp2_with fail
      go_round
      case rel => exact ⟨k + 1, by omega, by go_num, by rw [HS.out]⟩
      case measure => simp [RowKit.intOf]; omega
    · have hkl : k = zs.length := by omega
      subst hkl
      rw [List.take_length]
      go_wp2_with fail
      go_ret
      exact ⟨rfl, rfl⟩

/-- the bounds of headers of so many blocks each -/
def bsV (ns : List Int) (k d : Int) : List Int := ns.map fun n => tkN n k d
def bOk (ns : List Int) (k d : Int) : Bool := ns.all fun n => decide (tkE n k d = 0)
def allN (ns : List Int) (k d : Int) : Int := if bOk ns k d = true then (bsV ns k d).sum else 0
def allE (ns : List Int) (k d : Int) : Int := if bOk ns k d = true then 0 else 1
theorem bsV_range (ns : List Int) (k d : Int) : ∀ z ∈ bsV ns k d, 0 ≤ z ∧ z ≤ 5000000000 := by
  intro z hz
  obtain ⟨n, _, rfl⟩ := List.mem_map.1 hz
  have := tkN_range n k d
  omega
theorem bOk_all (ns : List Int) (k d : Int) (h : bOk ns k d = true) : allN ns k d = (bsV ns k d).sum ∧ allE ns k d = 0 := by
  unfold allN allE; rw [if_pos h, if_pos h]; exact ⟨rfl, rfl⟩
theorem bOk_not (ns : List Int) (k d : Int) (i : Nat) (hi : i < ns.length) (h : tkE ns[i] k d ≠ 0) : allN ns k d = 0 ∧ allE ns k d = 1 := by
  have : bOk ns k d = false := by
    unfold bOk
    rw [List.all_eq_false]
    exact ⟨ns[i], List.getElem_mem hi, by simpa using h⟩
  unfold allN allE; rw [this]; exact ⟨rfl, rfl⟩
theorem bOk_next (ns : List Int) (k d : Int) (i : Nat) (hi : i < ns.length) (h : bOk (ns.take i) k d = true) (h2 : tkE ns[i] k d = 0) : bOk (ns.take (i + 1)) k d = true := by
  unfold bOk at *
  rw [List.take_succ_eq_append_getElem hi, List.all_append, h]
  simp [h2]
theorem bsV_next (ns : List Int) (k d : Int) (i : Nat) (hi : i < ns.length) : bsV (ns.take i) k d ++ [tkN ns[i] k d] = bsV (ns.take (i + 1)) k d := by
  unfold bsV
  rw [List.take_succ_eq_append_getElem hi, List.map_append]; rfl
theorem bsV_length (ns : List Int) (k d : Int) : (bsV ns k d).length = ns.length := by simp [bsV]
attribute [local irreducible] exV exN exE tkN tkE bsV bOk allN allE

set_option maxRecDepth 100000 in
set_option maxHeartbeats 2000000 in
theorem All_any (A : Option Addr) (m c : Nat) (ns : List Int) (k d : Int) (w : World) (hm : ns.length = m) (hr : HeadsAt w A ns) (hl : ns.length ≤ 100) :
    Calls Try.prog 38 #[.slice A m c, .int .i64 k, .int .i64 d] w fun e w' => e = .returned (.tuple #[.int .i64 (allN ns k d), .int .i64 (allE ns k d)]) ∧ Below w.heap.size w w' := by
  subst hm
  have HR := Kept.mk hr
  clear hr
  go_enter Try.func38, Try.ntmps38
  go_wp2_with fail
  go_loopw [8, 15] (fun v i wr => ∃ j : Nat, j ≤ ns.length ∧ i = .int .i64 j ∧ IB w wr v (bsV (ns.take j) k d) ∧ bOk (ns.take j) k d = true) (fun _ i _ => ns.length - (RowKit.intOf i).toNat)
  case atStart => exact ⟨0, Nat.zero_le _, rfl, (ib_nil (Below.refl _ _)).is (by unfold bsV; rfl), by unfold bOk; rfl⟩
  case round =>
    obtain ⟨j, hj, rfl, hib, hok⟩ := hrel
    by_cases hlt : j < ns.length
    · obtain ⟨ad, rfl, had, ⟨z0, z1, z3, z4, z5, z6, c0, c1, c2, c3, c4, c5, c6⟩⟩ := (HR.out.below hib.2.1).get hlt
      rw [← Go.Deep.add_add, add_off _ _ (by decide)] at c1 c2 c3 c4 c5 c6
      have HN := Kept.mk (bOk_not ns k d j hlt)
      have HX := Kept.mk (bOk_next ns k d j hlt hok)
      have HV := Kept.mk (bsV_next ns k d j hlt)
      have hvl := bsV_length (ns.take j) k d
      rw [List.length_take, Nat.min_eq_left hj] at hvl
      have HIB := Kept.mk hib
      clear hib hok
      generalize ns[j] = n at *
      generalize bsV (ns.take j) k d = V at *
      have her := tkE_range n k d
      go_wp2_with fail
      with_reducible refine (ticks_any n k d _).mono ?_
      rintro e w1 ⟨rfl, hb1⟩
      have HIB1 := Kept.mk ((HIB.out.below ((Below.refl _ _).alloc (Nat.le_refl _) _)).below hb1)
      have HBL := Kept.mk HIB1.out.2.1
      clear hb1 HIB c0 c1 c2 c3 c4 c5 c6
      by_cases he : tkE n k d = 0
      · rw [he]
        have HX2 := Kept.mk (HX.out he)
        clear he her HX
        generalize tkN n k d = q at *
        go_wp2_with (at_builtin; refine append_int rfl (.tmp 30) (.tmp 32) rfl HIB1.out q rfl rfl ?_ ?_; omega; intro v' w' ho)
        exact ⟨⟨j + 1, by omega, by go_num, ho.is HV.out, HX2.out⟩, by simp [RowKit.intOf]; omega⟩
      · have e1 := tk_err he
        rw [e1.1, e1.2]
        have HF := Kept.mk (HN.out he)
        clear he e1 her HX HN
        go_wp2_with fail
        go_ret2
        exact ⟨by rw [HF.out.1, HF.out.2]; rfl, HBL.out⟩
    · have hjl : j = ns.length := by omega
      subst hjl
      rw [List.take_length] at hib hok
      have HF := Kept.mk (bOk_all ns k d hok)
      have hvl := bsV_length ns k d
      have hvr := bsV_range ns k d
      generalize bsV ns k d = V at *
      obtain ⟨B, cap, rfl, hrow⟩ := hib.shape
      have HBL := Kept.mk hib.2.1
      have HRW := Kept.mk hrow
      have HVR := Kept.mk hvr
      clear hib hrow hvr hok
      go_wp2_with fail
      with_reducible refine (bsum_any B _ cap V wr hvl HRW.out (by omega) HVR.out).mono ?_
      rintro e w1 ⟨rfl, rfl⟩
      generalize V.sum = q at *
      go_wp2_with fail
      go_ret2
      exact ⟨by rw [HF.out.1, HF.out.2]; rfl, HBL.out⟩

set_option maxRecDepth 100000 in
set_option maxHeartbeats 2000000 in
theorem refAll_any (A : Option Addr) (m c : Nat) (ns : List Int) (k d : Int) (w : World) (hm : ns.length = m) (hr : HeadsAt w A ns) (hl : ns.length ≤ 100) :
    Calls Try.prog 39 #[.slice A m c, .int .i64 k, .int .i64 d] w fun e w' => e = .returned (.tuple #[.int .i64 (allN ns k d), .int .i64 (allE ns k d)]) ∧ Below w.heap.size w w' := by
  subst hm
  have HR := Kept.mk hr
  clear hr
  go_enter Try.func39, Try.ntmps39
  go_wp2_with fail
  go_loopw [8, 9] (fun v i wr => ∃ j : Nat, j ≤ ns.length ∧ i = .int .i64 j ∧ v = .int .i64 (bsV (ns.take j) k d).sum ∧ Below w.heap.size w wr ∧ bOk (ns.take j) k d = true) (fun _ i _ => ns.length - (RowKit.intOf i).toNat)
  case atStart => exact ⟨0, Nat.zero_le _, rfl, by unfold bsV; rfl, Below.refl _ _, by unfold bOk; rfl⟩
  case round =>
    obtain ⟨j, hj, rfl, rfl, hbl, hok⟩ := hrel
    by_cases hlt : j < ns.length
    · obtain ⟨ad, rfl, had, ⟨z0, z1, z3, z4, z5, z6, c0, c1, c2, c3, c4, c5, c6⟩⟩ := (HR.out.below hbl).get hlt
      rw [← Go.Deep.add_add, add_off _ _ (by decide)] at c2
      clear c0 c1 c3 c4 c5 c6
      have HN := Kept.mk (bOk_not ns k d j hlt)
      have HX := Kept.mk (bOk_next ns k d j hlt hok)
      have HV := Kept.mk (bsV_next ns k d j hlt)
      have hvl := bsV_length (ns.take j) k d
      have hvr := sum_range _ _ (bsV_range (ns.take j) k d)
      rw [hvl, List.length_take, Nat.min_eq_left hj] at hvr
      have HBL := Kept.mk hbl
      clear hbl hok hvl
      generalize ns[j] = n at *
      generalize bsV (ns.take j) k d = V at *
      have her := tkE_range n k d
      have hnr := tkN_range n k d
      go_wp2_with fail
      with_reducible refine (refTicks_any n k d _).mono ?_
      rintro e w1 ⟨rfl, hb1⟩
      have HBL1 := Kept.mk (HBL.out.trans (hb1.mono HBL.out.size))
      clear hb1 HBL c2
      by_cases he : tkE n k d = 0
      · rw [he]
        have HX2 := Kept.mk (HX.out he)
        have HSN := Kept.mk (show V.sum + tkN n k d = (bsV (ns.take (j + 1)) k d).sum from by rw [← HV.out, List.sum_append]; simp)
        clear he her HX
        generalize tkN n k d = q at *
        generalize V.sum = vs at *
        obtain ⟨q0, q1⟩ := hnr
        obtain ⟨v0, v1⟩ := hvr
        have v2 : vs ≤ 500000000000 := by omega
        have q2 : q ≤ 5000000000 := by omega
        clear v1 q1
        go_wp2_with fail
        exact ⟨⟨j + 1, by omega, by go_num, by rw [HSN.out], HBL1.out, HX2.out⟩, by simp [RowKit.intOf]; omega⟩
      · have e1 := tk_err he
        rw [e1.1, e1.2]
        have HF := Kept.mk (HN.out he)
        clear he e1 her HX HN
        go_wp2_with fail
        go_ret2
        exact ⟨by rw [HF.out.1, HF.out.2]; rfl, HBL1.out⟩
    · have hjl : j = ns.length := by omega
      subst hjl
      rw [List.take_length] at hok
      rw [List.take_length]
      have HF := Kept.mk (bOk_all ns k d hok)
      have HBL := Kept.mk hbl
      clear hbl hok
      generalize (bsV ns k d).sum = q at *
      go_wp2_with fail
      go_ret2
      exact ⟨by rw [HF.out.1, HF.out.2]; rfl, HBL.out⟩

set_option maxRecDepth 100000 in
set_option maxHeartbeats 2000000 in
theorem boundAll_short (A : Option Addr) (m c : Nat) (ns : List Int) (k d : Int) (w : World) (hm : ns.length = m) (hr : HeadsAt w A ns) (hl : ns.length ≤ 100) :
    Calls Try.prog 10 #[.slice A m c, .int .i64 k, .int .i64 d] w fun e w' => e = .returned (.bool true) ∧ Below w.heap.size w w' := by
  have HR := Kept.mk hr
  clear hr
  have hm1 : (m : Int) ≤ 100 := by omega
  go_enter Try.func10, Try.ntmps10
  go_wp2_with fail
  with_reducible refine (All_any A m c ns k d w hm HR.out hl).mono ?_
  rintro e w1 ⟨rfl, hb1⟩
  have HB1 := Kept.mk hb1
  have HR1 := Kept.mk (HR.out.below hb1)
  clear hb1 HR
  go_wp2_with fail
  with_reducible refine (refAll_any A m c ns k d w1 hm HR1.out hl).mono ?_
  rintro e w2 ⟨rfl, hb2⟩
  have HB2 := Kept.mk (HB1.out.trans (hb2.mono HB1.out.size))
  clear hb2 HB1
  go_wp2_with fail
  with_reducible refine (awake_any w2).mono ?_
  rintro e w3 ⟨rfl, hb3⟩
  have HB3 := Kept.mk (HB2.out.trans (hb3.mono HB2.out.size))
  clear hb3 HB2
  go_wp2_with fail
  go_ret
  exact ⟨rfl, HB3.out⟩

set_option maxRecDepth 100000 in
set_option maxHeartbeats 2000000 in
theorem boundAll_w {w : World} (A : Option Addr) (c : Nat) (ns : List Int) (hl : ns.length ≤ 9223372036854775807) (hp : HeadsAt w A ns ∧ ns.length ≤ c ∧ c ≤ 9223372036854775807) (k : Int) (hk : (Lit.int .i64 k).wf = true) (d : Int) (hd : (Lit.int .i64 d).wf = true) :
    Calls Try.prog 10 #[.slice A ns.length c, .int .i64 k, .int .i64 d] w fun e w' => e = .returned (.bool true) ∧ Below w.heap.size w w' := by
  by_cases h : ns.length ≤ 100
  · exact boundAll_short A _ c ns k d w rfl hp.1 h
  · have h1 : (100 : Int) < (ns.length : Int) := by omega
    have hc1 : 100 ≤ c := by omega
    have hc2 := hp.2.2
    have hr := hp.1.take 100
    have hlt : (ns.take 100).length = 100 := by rw [List.length_take]; omega
    obtain ⟨ad, rfl, had, hx⟩ := hp.1.get (k := 0) (by omega)
    clear hp hx
    generalize ns.length = m at *
    generalize ns.take 100 = ns at *
    have HR := Kept.mk hr
    clear hr
    go_enter Try.func10, Try.ntmps10
    go_wp2_with fail
    with_reducible refine (All_any (some ad) 100 c ns k d w hlt HR.out (by omega)).mono ?_
    rintro e w1 ⟨rfl, hb1⟩
    have HB1 := Kept.mk hb1
    have HR1 := Kept.mk (HR.out.below hb1)
    clear hb1 HR
    go_wp2_with fail
    with_reducible refine (refAll_any (some ad) 100 c ns k d w1 hlt HR1.out (by omega)).mono ?_
    rintro e w2 ⟨rfl, hb2⟩
    have HB2 := Kept.mk (HB1.out.trans (hb2.mono HB1.out.size))
    clear hb2 HB1
    go_wp2_with fail
    with_reducible refine (awake_any w2).mono ?_
    rintro e w3 ⟨rfl, hb3⟩
    have HB3 := Kept.mk (HB2.out.trans (hb3.mono HB2.out.size))
    clear hb3 HB2
    go_wp2_with fail
    go_ret
    exact ⟨rfl, HB3.out⟩
end Go.Proofs.Ytppilkcekakamaa
