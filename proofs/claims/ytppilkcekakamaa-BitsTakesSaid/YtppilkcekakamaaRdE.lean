/- bits: whatever is taken of any bytes is the document's: walked by the contracts. -/
import Derived.Test.YtppilkcekakamaaRdD
import Derived.Test.YtppilkcekakamaaBitB
import Derived.Deep.Slices
import Derived.Deep.Fields
namespace Go.Proofs.Ytppilkcekakamaa
set_option linter.unusedVariables false
set_option linter.unusedSimpArgs false
open Go.RowKit Go.Lib

/-- deeds in memory -/
def DeedsAt (w : World) (A : Option Addr) (l : List (Int × Int)) : Prop :=
  0 < l.length → ∃ ad : Addr, A = some ad ∧ ad.block < w.heap.size ∧ ∀ i k n, l[i]? = some (k, n) → w.cell? (ad.add (i * 2)) = some (.int .i64 k) ∧ w.cell? (ad.add (i * 2 + 1)) = some (.int .i64 n)
theorem DeedsAt.below {w w' : World} {A : Option Addr} {l : List (Int × Int)} (h : DeedsAt w A l) (hb : Below w.heap.size w w') : DeedsAt w' A l := by
  intro h0
  obtain ⟨ad, e, hl, hc⟩ := h h0
  refine ⟨ad, e, Nat.lt_of_lt_of_le hl hb.size, fun i k n hi => ?_⟩
  obtain ⟨c1, c2⟩ := hc i k n hi
  exact ⟨(hb.cell (p := ad.add (i * 2)) (by rw [add_block]; exact hl)).trans c1, (hb.cell (p := ad.add (i * 2 + 1)) (by rw [add_block]; exact hl)).trans c2⟩
theorem DeedsAt.get {w : World} {A : Option Addr} {l : List (Int × Int)} (h : DeedsAt w A l) {i : Nat} (hi : i < l.length) :
    ∃ ad : Addr, A = some ad ∧ ad.block < w.heap.size ∧ w.cell? (ad.add (i * 2)) = some (.int .i64 l[i].1) ∧ w.cell? (ad.add (i * 2 + 1)) = some (.int .i64 l[i].2) := by
  obtain ⟨ad, e, hl, hc⟩ := h (by omega)
  exact ⟨ad, e, hl, hc i l[i].1 l[i].2 (List.getElem?_eq_getElem hi)⟩

theorem add_next (ad : Addr) (n : Nat) : ad.add (n + 1) = ⟨(ad.add n).block, (ad.add n).off + 1, none⟩ := by
  unfold Addr.add
  by_cases h : n = 0 <;> simp [h, Nat.add_assoc]
set_option maxRecDepth 100000 in
theorem open_deeds {H : Type} {enc : TypeId × Value → H} {W : World} {fuel : Nat} {cs : List Value} {x : DataW H × List MemPlace}
    (h : DataW.trod enc Try.prog W 0 (fun _ => true) true fuel 51 cs = some x) :
    ∃ (A : Option Addr) (l : List (Int × Int)) (cap : Nat), cs = [.slice A l.length cap] ∧ l.length ≤ 9223372036854775807 ∧ DeedsAt W A l := by
  have hC : Try.prog.cellsOf 58 = 2 := by kernel_rfl
  have hI : Try.prog.cellsOf 3 = 1 := by kernel_rfl
  rcases Deep.open_slice Try.underlying51 h with ⟨hcs, _⟩ | ⟨a, len, cap, m, n, D, Pl, hcs, _, hl, hm, hmm, _, hi⟩
  · exact ⟨none, [], 0, hcs, by decide, fun h => absurd h (by simp)⟩
  · have hlm : len ≤ m := by rw [hmm]; simpa using hl
    have hex : ∀ i : Nat, ∃ kn : Int × Int, i < m → W.cell? (a.add (i * 2)) = some (.int .i64 kn.1) ∧ W.cell? (a.add (i * 2 + 1)) = some (.int .i64 kn.2) := by
      intro i
      by_cases him : i < m
      · obtain ⟨cs', hc, ht⟩ := hi i him
        rw [hC] at hc
        obtain ⟨_, hlen, hcell⟩ := World.cells?_some hc
        obtain ⟨xs, n', _, _, _, hlx, hg⟩ := DataW.trod_struct Try.underlying58 ht
        match cs', hlen with
        | [c0, c1], _ =>
          have g0 := hg 0 _ rfl
          have g1 := hg 1 _ rfl
          have g0' : DataW.trod enc Try.prog W 0 (fun _ => true) true n' 3 (([c0, c1].drop 0).take (Try.prog.cellsOf 3)) = xs[0]? := g0
          have g1' : DataW.trod enc Try.prog W 0 (fun _ => true) true n' 3 (([c0, c1].drop 1).take (Try.prog.cellsOf 3)) = xs[1]? := g1
          rw [hI] at g0' g1'
          simp only [List.drop_zero, List.take_succ_cons, List.take_zero, List.drop_succ_cons] at g0' g1'
          have e0 := hcell 0 (by decide)
          have e1 := hcell 1 (by decide)
          simp only [List.getElem?_cons_zero, List.getElem?_cons_succ] at e0 e1
          rw [show (a.add (i * 2)).add 0 = a.add (i * 2) from rfl] at e0
          rw [show (a.add (i * 2)).add 1 = a.add (i * 2 + 1) from (add_next a (i * 2)).symm] at e1
          have hxl : xs.length = 2 := hlx
          rw [List.getElem?_eq_getElem (by omega)] at g0' g1'
          obtain ⟨k, hk, _, _⟩ := DataW.trod_int Try.underlying3 g0'
          obtain ⟨n2, hn, _, _⟩ := DataW.trod_int Try.underlying3 g1'
          simp only [List.cons.injEq, and_true] at hk hn
          subst hk
          subst hn
          exact ⟨(k, n2), fun _ => ⟨e0, e1⟩⟩
      · exact ⟨(0, 0), fun h => absurd h him⟩
    obtain ⟨f, hf⟩ := Classical.axiomOfChoice hex
    refine ⟨some a, (List.range len).map f, cap, ?_, ?_, ?_⟩
    · simp [hcs]
    · unfold maxLen at hm; simp; omega
    · intro h0
      simp only [List.length_map, List.length_range] at h0
      refine ⟨a, rfl, ?_, fun i k n hi2 => ?_⟩
      · have := block_of_cell (hf 0 (by omega)).1
        rwa [add_block] at this
      · have hil : i < len := by
          have := (List.getElem?_eq_some_iff.1 hi2).1
          simpa using this
        have := hf i (by omega)
        simp only [List.getElem?_map, List.getElem?_range hil, Option.map_some, Option.some.injEq] at hi2
        rw [hi2] at this
        exact this

theorem str_take (r : List UInt8) (n : Nat) (h : n ≤ r.length) : (str r).extract 0 n = str (r.take n) := by
  apply ByteArray.ext; apply Array.toList_inj.1
  rw [ByteArray.data_extract, Array.toList_extract]
  simp [str]
attribute [local irreducible] str bt bv al8

set_option maxRecDepth 100000 in
set_option maxHeartbeats 8000000 in
theorem bitsTakes_w {w : World} (l0 : List UInt8) (hl0 : l0.length ≤ 140737488351232) (A : Option Addr) (c : Nat) (ls : List (Int × Int)) (hls : ls.length ≤ 9223372036854775807) (hr : DeedsAt w A ls) :
    Calls Try.prog 8 #[.string (str l0), .slice A ls.length c] w fun e w' => e = .returned (.bool true) ∧ Below w.heap.size w w' := by
  have hs0 := str_size l0
  have HD := Kept.mk hr
  clear hr
  go_enter Try.func8, Try.ntmps8
  go_upto_if 18 with fail
  go_cut [0] from 16 to 20 (fun s0 wx => s0 = .string (str (l0.take 1000)) ∧ w = wx)
  case first =>
    by_cases h : l0.length ≤ 1000
    · have hl1 : (l0.length : Int) ≤ 1000 := by omega
      have HT := Kept.mk (show l0.take 1000 = l0 from List.take_of_length_le h)
      go_wp2_with fail
      go_meet
      exact ⟨by rw [HT.out], rfl⟩
    · have hl1 : (1000 : Int) < (l0.length : Int) := by omega
      have ht := str_take l0 1000 (by omega)
      generalize l0.take 1000 = l at *
      go_wp2_with fail
      go_meet
      exact ⟨rfl, rfl⟩
  case rest =>
  obtain ⟨rfl, rfl⟩ := hcut
  have hl : (l0.take 1000).length ≤ 1000 := by rw [List.length_take]; omega
  generalize l0.take 1000 = l at *
  have hs := str_size l
  have hl2 : (l.length : Int) ≤ 1000 := by omega
  clear hs0 hl0
  go_wp2_with fail
  with_reducible refine (rdNew_any l w).mono ?_
  rintro e w1 ⟨rfl, hw1⟩
  have ha1 : RS w1 93 w.heap.size l 0 := ⟨by rw [hw1]; exact heap_new _ _ _ rfl⟩
  have hb1 : Below w.heap.size w w1 := by rw [hw1]; exact (Below.refl _ _).alloc (Nat.le_refl _) _
  have hz1 : w1.heap.size = w.heap.size + 1 := by rw [hw1]; simp
  have HA1 := Kept.mk ha1
  have HB1 := Kept.mk hb1
  clear ha1 hb1 hw1
  go_wp2_with fail
  have hrw : RS (w1.alloc (.cells #[.string (str l), .int .i64 ((0 : Nat) : Int)] 56)) 56 (w.heap.size + 1) l 0 := ⟨heap_new _ _ _ hz1.symm⟩
  have hra : RS (w1.alloc (.cells #[.string (str l), .int .i64 ((0 : Nat) : Int)] 56)) 93 w.heap.size l 0 := ⟨by
    have := HA1.out.hg
    rw [Below.heap_alloc w1 _ _ (by omega)]; exact this⟩
  have hbw : Below w.heap.size w (w1.alloc (.cells #[.string (str l), .int .i64 ((0 : Nat) : Int)] 56)) := HB1.out.alloc (by omega) _
  have HRW := Kept.mk hrw
  have HRA := Kept.mk hra
  have HBW := Kept.mk hbw
  clear hrw hra hbw HA1 HB1
  clear hz1
  go_loopw [7] (fun i wr => ∃ j u : Nat, j ≤ ls.length ∧ j ≤ 60 ∧ i = .int .i64 j ∧ RS wr 93 w.heap.size l u ∧ RS wr 56 (w.heap.size + 1) l u ∧ u ≤ 8 * l.length ∧ Below w.heap.size w wr) (fun i _ => 60 - (RowKit.intOf i).toNat)
  case atStart => exact ⟨0, 0, by omega, by omega, rfl, HRA.out, HRW.out, by omega, HBW.out⟩
  case round =>
    clear HRA HRW HBW w1
    obtain ⟨j, u, hj, hj2, rfl, hra, hrb, hu, hbl⟩ := hrel
    have HA0 := Kept.mk hra
    have HB0 := Kept.mk hrb
    have HW0 := Kept.mk hbl
    clear hra hrb hbl
    by_cases hlt : j < ls.length
    · by_cases h60 : j < 60
      · obtain ⟨ad, rfl, had, c0, c1⟩ := (HD.out.below HW0.out).get hlt
        have HC := Kept.mk (fun (wx : World) (hb : Below w.heap.size w wx) => show wx.cell? (ad.add (j * 2)) = some (.int .i64 ls[j].1) ∧ wx.cell? (ad.add (j * 2 + 1)) = some (.int .i64 ls[j].2) from by
          obtain ⟨ad', e, _, c0, c1⟩ := (HD.out.below hb).get hlt
          cases e
          exact ⟨c0, c1⟩)
        rw [add_next] at c1
        have HC := Kept.mk (fun (wx : World) (hb : Below w.heap.size w wx) => show wx.cell? (ad.add (j * 2)) = some (.int .i64 ls[j].1) ∧ wx.cell? ⟨(ad.add (j * 2)).block, (ad.add (j * 2)).off + 1, none⟩ = some (.int .i64 ls[j].2) from by
          have h := HC.out wx hb
          rw [add_next] at h
          exact h)
        generalize ls[j].1 = k at *
        generalize ls[j].2 = n at *
        have h60i : (j : Int) < 60 := by omega
        by_cases hk0 : k = 0
        · subst hk0
          by_cases hy : 0 ≤ n ∧ n ≤ 62 ∧ n ≤ ((8 * l.length - u : Nat) : Int)
          · obtain ⟨m, rfl⟩ : ∃ m : Nat, n = (m : Int) := ⟨n.toNat, by omega⟩
            have hm1 : m ≤ 62 := by omega
            have hm2 : u + m ≤ 8 * l.length := by omega
            have HU := Kept.mk hm2
            clear hy
            go_wp2_with fail
            with_reducible refine (rdTake_round w.heap.size l u m wr HA0.out hl hm1 hm2).mono ?_
            rintro e w2 ⟨rfl, hr2, ho2⟩
            have hbl2 := HW0.out.trans (ho2.below (Nat.le_refl _))
            obtain ⟨c0, c1⟩ := HC.out w2 hbl2
            have HB2 := Kept.mk (ho2.other HB0.out (by omega))
            have HA2 := Kept.mk hr2
            have HW2 := Kept.mk hbl2
            clear hr2 ho2 hbl2 HA0 HB0 HW0
            go_wp2_with fail
            with_reducible refine (refTake_yes (w.heap.size + 1) l u m w2 HB2.out hl hm1 hm2).mono ?_
            rintro e w3 ⟨rfl, hr3, ho3⟩
            have HA := Kept.mk (ho3.other HA2.out (by omega))
            have HB := Kept.mk hr3
            have HW := Kept.mk (HW2.out.trans (ho3.below (by omega)))
            clear hr3 ho3 HA2 HB2 HW2 c0 c1
            generalize bv l u m = V at *
            have d1 := HB.out.c1
            go_wp2_with fail
            go_quiet ((first
              | (go_at_call 35; exact Calls.quiet_of (rdLeft_any w.heap.size l (u + m) _ (HA.out.drewN _) hl HU.out))
              | (go_at_call 36; exact Calls.quiet_of (refLeft_any (w.heap.size + 1) l (u + m) _ (HB.out.drewN _) hl HU.out))
              | (go_at_call 37; exact Calls.quiet_of_same ((rdUsed_any w.heap.size l (u + m) _ (HA.out.drewN _)).mono fun _ _ h => ⟨h.1, h.2.symm⟩))))
            go_wp2_with fail
            exact ⟨⟨j + 1, (u + m), by omega, by omega, by go_num, HA.out.drewN _, HB.out.drewN _, HU.out, below_drewN HW.out _⟩, by simp [RowKit.intOf]; omega⟩
          · have hno : n < 0 ∨ 62 < n ∨ ((8 * l.length - u : Nat) : Int) < n := by omega
            have HU := Kept.mk hu
            clear hy
            go_wp2_with fail
            with_reducible refine (rdTake_no w.heap.size l u n wr HA0.out hl hu hno).mono ?_
            rintro e w2 ⟨rfl, q2, rfl⟩
            have hbl2 := below_drewN HW0.out q2
            obtain ⟨c0, c1⟩ := HC.out _ hbl2
            have HB2 := Kept.mk (HB0.out.drewN q2)
            have HA2 := Kept.mk (HA0.out.drewN q2)
            have HW2 := Kept.mk hbl2
            clear hbl2 HA0 HB0 HW0
            generalize wr.drewN q2 = w2 at *
            go_wp2_with fail
            with_reducible refine (refTake_no (w.heap.size + 1) l u n w2 HB2.out hl hu hno).mono ?_
            rintro e w3 ⟨rfl, q3, rfl⟩
            have HA := Kept.mk (HA2.out.drewN q3)
            have HB := Kept.mk (HB2.out.drewN q3)
            have HW := Kept.mk (below_drewN HW2.out q3)
            clear HA2 HB2 HW2 c0 c1
            generalize w2.drewN q3 = w3 at *
            have d1 := HB.out.c1
            go_wp2_with fail
            go_quiet ((first
              | (go_at_call 35; exact Calls.quiet_of (rdLeft_any w.heap.size l u _ (HA.out.drewN _) hl HU.out))
              | (go_at_call 36; exact Calls.quiet_of (refLeft_any (w.heap.size + 1) l u _ (HB.out.drewN _) hl HU.out))
              | (go_at_call 37; exact Calls.quiet_of_same ((rdUsed_any w.heap.size l u _ (HA.out.drewN _)).mono fun _ _ h => ⟨h.1, h.2.symm⟩))))
            go_wp2_with fail
            exact ⟨⟨j + 1, u, by omega, by omega, by go_num, HA.out.drewN _, HB.out.drewN _, HU.out, below_drewN HW.out _⟩, by simp [RowKit.intOf]; omega⟩
        · by_cases hk1 : k = 1
          · subst hk1
            by_cases hy : 0 ≤ n ∧ n ≤ 62 ∧ n ≤ ((8 * l.length - u : Nat) : Int)
            · obtain ⟨m, rfl⟩ : ∃ m : Nat, n = (m : Int) := ⟨n.toNat, by omega⟩
              have hm1 : m ≤ 62 := by omega
              have hm2 : u + m ≤ 8 * l.length := by omega
              have HU := Kept.mk hm2
              clear hy
              go_wp2_with fail
              with_reducible refine (rdTake_round w.heap.size l u m wr HA0.out hl hm1 hm2).mono ?_
              rintro e w2 ⟨rfl, hr2, ho2⟩
              have hbl2 := HW0.out.trans (ho2.below (Nat.le_refl _))
              obtain ⟨c0, c1⟩ := HC.out w2 hbl2
              have HB2 := Kept.mk (ho2.other HB0.out (by omega))
              have HA2 := Kept.mk hr2
              have HW2 := Kept.mk hbl2
              clear hr2 ho2 hbl2 HA0 HB0 HW0
              go_wp2_with fail
              with_reducible refine (refTake_yes (w.heap.size + 1) l u m w2 HB2.out hl hm1 hm2).mono ?_
              rintro e w3 ⟨rfl, hr3, ho3⟩
              have HA := Kept.mk (ho3.other HA2.out (by omega))
              have HB := Kept.mk hr3
              have HW := Kept.mk (HW2.out.trans (ho3.below (by omega)))
              clear hr3 ho3 HA2 HB2 HW2 c0 c1
              generalize bv l u m = V at *
              have d1 := HB.out.c1
              go_wp2_with fail
              go_quiet ((first
                | (go_at_call 35; exact Calls.quiet_of (rdLeft_any w.heap.size l (u + m) _ (HA.out.drewN _) hl HU.out))
                | (go_at_call 36; exact Calls.quiet_of (refLeft_any (w.heap.size + 1) l (u + m) _ (HB.out.drewN _) hl HU.out))
                | (go_at_call 37; exact Calls.quiet_of_same ((rdUsed_any w.heap.size l (u + m) _ (HA.out.drewN _)).mono fun _ _ h => ⟨h.1, h.2.symm⟩))))
              go_wp2_with fail
              exact ⟨⟨j + 1, (u + m), by omega, by omega, by go_num, HA.out.drewN _, HB.out.drewN _, HU.out, below_drewN HW.out _⟩, by simp [RowKit.intOf]; omega⟩
            · have hno : n < 0 ∨ 62 < n ∨ ((8 * l.length - u : Nat) : Int) < n := by omega
              have HU := Kept.mk hu
              clear hy
              go_wp2_with fail
              with_reducible refine (rdTake_no w.heap.size l u n wr HA0.out hl hu hno).mono ?_
              rintro e w2 ⟨rfl, q2, rfl⟩
              have hbl2 := below_drewN HW0.out q2
              obtain ⟨c0, c1⟩ := HC.out _ hbl2
              have HB2 := Kept.mk (HB0.out.drewN q2)
              have HA2 := Kept.mk (HA0.out.drewN q2)
              have HW2 := Kept.mk hbl2
              clear hbl2 HA0 HB0 HW0
              generalize wr.drewN q2 = w2 at *
              go_wp2_with fail
              with_reducible refine (refTake_no (w.heap.size + 1) l u n w2 HB2.out hl hu hno).mono ?_
              rintro e w3 ⟨rfl, q3, rfl⟩
              have HA := Kept.mk (HA2.out.drewN q3)
              have HB := Kept.mk (HB2.out.drewN q3)
              have HW := Kept.mk (below_drewN HW2.out q3)
              clear HA2 HB2 HW2 c0 c1
              generalize w2.drewN q3 = w3 at *
              have d1 := HB.out.c1
              go_wp2_with fail
              go_quiet ((first
                | (go_at_call 35; exact Calls.quiet_of (rdLeft_any w.heap.size l u _ (HA.out.drewN _) hl HU.out))
                | (go_at_call 36; exact Calls.quiet_of (refLeft_any (w.heap.size + 1) l u _ (HB.out.drewN _) hl HU.out))
                | (go_at_call 37; exact Calls.quiet_of_same ((rdUsed_any w.heap.size l u _ (HA.out.drewN _)).mono fun _ _ h => ⟨h.1, h.2.symm⟩))))
              go_wp2_with fail
              exact ⟨⟨j + 1, u, by omega, by omega, by go_num, HA.out.drewN _, HB.out.drewN _, HU.out, below_drewN HW.out _⟩, by simp [RowKit.intOf]; omega⟩
          · by_cases hk2 : k = 2
            · subst hk2
              have hal := al8_facts u
              have HU := Kept.mk (show al8 u ≤ 8 * l.length from by omega)
              have hu2 : u ≤ 10000 := by omega
              clear hal
              go_wp2_with fail
              with_reducible refine (rdAlign_any w.heap.size l u wr HA0.out hu2).mono ?_
              rintro e w2 ⟨rfl, hr2, ho2⟩
              have hbl2 := HW0.out.trans (ho2.below (Nat.le_refl _))
              have HB2 := Kept.mk (ho2.other HB0.out (by omega))
              have HA2 := Kept.mk hr2
              have HW2 := Kept.mk hbl2
              clear hr2 ho2 hbl2 HA0 HB0 HW0
              go_wp2_with fail
              with_reducible refine (refAlign_any (w.heap.size + 1) l u w2 HB2.out hu2).mono ?_
              rintro e w3 ⟨rfl, hr3, ho3⟩
              have HA := Kept.mk (ho3.other HA2.out (by omega))
              have HB := Kept.mk hr3
              have HW := Kept.mk (HW2.out.trans (ho3.below (by omega)))
              clear hr3 ho3 HA2 HB2 HW2
              have d1 := HB.out.c1
              go_wp2_with fail
              go_quiet ((first
                | (go_at_call 35; exact Calls.quiet_of (rdLeft_any w.heap.size l (al8 u) _ (HA.out.drewN _) hl HU.out))
                | (go_at_call 36; exact Calls.quiet_of (refLeft_any (w.heap.size + 1) l (al8 u) _ (HB.out.drewN _) hl HU.out))
                | (go_at_call 37; exact Calls.quiet_of_same ((rdUsed_any w.heap.size l (al8 u) _ (HA.out.drewN _)).mono fun _ _ h => ⟨h.1, h.2.symm⟩))))
              go_wp2_with fail
              exact ⟨⟨j + 1, (al8 u), by omega, by omega, by go_num, HA.out.drewN _, HB.out.drewN _, HU.out, below_drewN HW.out _⟩, by simp [RowKit.intOf]; omega⟩
            · skip
              obtain ⟨t, ht⟩ : ∃ t, (u + 7) / 8 = t := ⟨_, rfl⟩
              by_cases hy : 0 ≤ n ∧ n ≤ (l.length : Int) - t
              · obtain ⟨m, rfl⟩ : ∃ m : Nat, n = (m : Int) := ⟨n.toNat, by omega⟩
                have hm : t + m ≤ l.length := by omega
                have HU := Kept.mk (show 8 * (t + m) ≤ 8 * l.length from by omega)
                clear hy
                go_wp2_with fail
                with_reducible refine (rdText_yes w.heap.size l u t m wr HA0.out hl ht hm).mono ?_
                rintro e w2 ⟨rfl, hr2, ho2⟩
                have hbl2 := HW0.out.trans (ho2.below (Nat.le_refl _))
                obtain ⟨c0, c1⟩ := HC.out w2 hbl2
                have HB2 := Kept.mk (ho2.other HB0.out (by omega))
                have HA2 := Kept.mk hr2
                have HW2 := Kept.mk hbl2
                clear hr2 ho2 hbl2 HA0 HB0 HW0
                go_wp2_with fail
                with_reducible refine (refText_yes (w.heap.size + 1) l u t m w2 HB2.out hl ht hm).mono ?_
                rintro e w3 ⟨rfl, hr3, ho3⟩
                have HA := Kept.mk (ho3.other HA2.out (by omega))
                have HB := Kept.mk hr3
                have HW := Kept.mk (HW2.out.trans (ho3.below (by omega)))
                clear hr3 ho3 HA2 HB2 HW2 c0 c1 ht
                generalize (l.take (t + m)).drop t = X at *
                have d1 := HB.out.c1
                go_wp2_with fail
                go_quiet ((first
                  | (go_at_call 35; exact Calls.quiet_of (rdLeft_any w.heap.size l (8 * (t + m)) _ (HA.out.drewN _) hl HU.out))
                  | (go_at_call 36; exact Calls.quiet_of (refLeft_any (w.heap.size + 1) l (8 * (t + m)) _ (HB.out.drewN _) hl HU.out))
                  | (go_at_call 37; exact Calls.quiet_of_same ((rdUsed_any w.heap.size l (8 * (t + m)) _ (HA.out.drewN _)).mono fun _ _ h => ⟨h.1, h.2.symm⟩))))
                go_wp2_with fail
                exact ⟨⟨j + 1, (8 * (t + m)), by omega, by omega, by go_num, HA.out.drewN _, HB.out.drewN _, HU.out, below_drewN HW.out _⟩, by simp [RowKit.intOf]; omega⟩
              · have hno : n < 0 ∨ (l.length : Int) - t < n := by omega
                have HU := Kept.mk hu
                clear hy
                go_wp2_with fail
                with_reducible refine (rdText_no w.heap.size l u t n wr HA0.out hl hu ht hno).mono ?_
                rintro e w2 ⟨rfl, rfl⟩
                go_wp2_with fail
                with_reducible refine (refText_no (w.heap.size + 1) l u t n wr HB0.out hl hu ht hno).mono ?_
                rintro e w2 ⟨rfl, rfl⟩
                have HA := HA0
                have HB := HB0
                have HW := HW0
                clear HA0 HB0 HW0 ht
                have d1 := HB.out.c1
                go_wp2_with fail
                go_quiet ((first
                  | (go_at_call 35; exact Calls.quiet_of (rdLeft_any w.heap.size l u _ (HA.out.drewN _) hl HU.out))
                  | (go_at_call 36; exact Calls.quiet_of (refLeft_any (w.heap.size + 1) l u _ (HB.out.drewN _) hl HU.out))
                  | (go_at_call 37; exact Calls.quiet_of_same ((rdUsed_any w.heap.size l u _ (HA.out.drewN _)).mono fun _ _ h => ⟨h.1, h.2.symm⟩))))
                go_wp2_with fail
                exact ⟨⟨j + 1, u, by omega, by omega, by go_num, HA.out.drewN _, HB.out.drewN _, HU.out, below_drewN HW.out _⟩, by simp [RowKit.intOf]; omega⟩
      · have h60i : (60 : Int) ≤ (j : Int) := by omega
        clear HD
        go_wp2_with fail
        with_reducible refine (rdLeft_any w.heap.size l u wr HA0.out hl hu).mono ?_
        rintro e w2 ⟨rfl, q2, rfl⟩
        have HB2 := Kept.mk (HB0.out.drewN q2)
        have HW2 := Kept.mk (below_drewN HW0.out q2)
        clear HA0 HB0 HW0
        generalize wr.drewN q2 = w2 at *
        go_wp2_with fail
        with_reducible refine (refLeft_any (w.heap.size + 1) l u w2 HB2.out hl hu).mono ?_
        rintro e w3 ⟨rfl, q3, rfl⟩
        have HW3 := Kept.mk (below_drewN HW2.out q3)
        clear HB2 HW2
        generalize w2.drewN q3 = w3 at *
        go_wp2_with fail
        with_reducible refine (bitsAwake_any w3).mono ?_
        rintro e w4 ⟨rfl, hb4⟩
        have HW4 := Kept.mk (HW3.out.trans (hb4.mono HW3.out.size))
        clear hb4 HW3
        go_wp2_with fail
        go_ret
        exact ⟨rfl, HW4.out⟩
    · clear HD
      go_wp2_with fail
      with_reducible refine (rdLeft_any w.heap.size l u wr HA0.out hl hu).mono ?_
      rintro e w2 ⟨rfl, q2, rfl⟩
      have HB2 := Kept.mk (HB0.out.drewN q2)
      have HW2 := Kept.mk (below_drewN HW0.out q2)
      clear HA0 HB0 HW0
      generalize wr.drewN q2 = w2 at *
      go_wp2_with fail
      with_reducible refine (refLeft_any (w.heap.size + 1) l u w2 HB2.out hl hu).mono ?_
      rintro e w3 ⟨rfl, q3, rfl⟩
      have HW3 := Kept.mk (below_drewN HW2.out q3)
      clear HB2 HW2
      generalize w2.drewN q3 = w3 at *
      go_wp2_with fail
      with_reducible refine (bitsAwake_any w3).mono ?_
      rintro e w4 ⟨rfl, hb4⟩
      have HW4 := Kept.mk (HW3.out.trans (hb4.mono HW3.out.size))
      clear hb4 HW3
      go_wp2_with fail
      go_ret
      exact ⟨rfl, HW4.out⟩
end Go.Proofs.Ytppilkcekakamaa
