/- bits: whatever is put, the bytes are the document's: walked by the contracts. -/
import Derived.Test.YtohdekokdljgjaaDdC
namespace Go.Proofs.Ytohdekokdljgjaa
set_option linter.unusedVariables false
set_option linter.unusedSimpArgs false
open Go.RowKit Go.Lib
theorem St.below {w W W' : World} {T : TypeId} {g : Nat} {xs : Array Value} {v : Value} {cs : List Value} (h : St w W T g xs v cs) (hb : Below W.heap.size W W') : St w W' T g xs v cs :=
  ⟨h.ge, block_kept h.box hb, h.vb.below hb, h.ap⟩
/-- the deeds' own row is as it was, and lies apart from both boxes and their slices -/
def Rl (v : Value) (w3 wr : World) (ga gb : Nat) (va vb : Value) : Prop :=
  ∀ k, ¬ Apart v k → k < wr.heap.size ∧ wr.heap[k]? = w3.heap[k]? ∧ k ≠ ga ∧ k ≠ gb ∧ Apart va k ∧ Apart vb k
theorem Rl.below {v : Value} {w3 wr wx : World} {ga gb : Nat} {va vb : Value} (h : Rl v w3 wr ga gb va vb) (hb : Below wr.heap.size wr wx) : Rl v w3 wx ga gb va vb := fun k hk => by
  obtain ⟨h1, h2, h3⟩ := h k hk
  exact ⟨Nat.lt_of_lt_of_le h1 hb.size, (hb.block k h1).trans h2, h3⟩
theorem Rl.stepA {v : Value} {w3 wr wx : World} {ga gb : Nat} {va vb va' : Value} (h : Rl v w3 wr ga gb va vb) (ht : Tn ga va wr va' wx) : Rl v w3 wx ga gb va' vb := fun k hk => by
  obtain ⟨h1, h2, h3, h4, h5, h6⟩ := h k hk
  obtain ⟨k1, k2⟩ := ht.keep k h1 h3 h5
  exact ⟨Nat.lt_of_lt_of_le h1 ht.size, k1.trans h2, h3, h4, k2, h6⟩
theorem Rl.stepB {v : Value} {w3 wr wx : World} {ga gb : Nat} {va vb vb' : Value} (h : Rl v w3 wr ga gb va vb) (ht : Tn gb vb wr vb' wx) : Rl v w3 wx ga gb va vb' := fun k hk => by
  obtain ⟨h1, h2, h3, h4, h5, h6⟩ := h k hk
  obtain ⟨k1, k2⟩ := ht.keep k h1 h4 h6
  exact ⟨Nat.lt_of_lt_of_le h1 ht.size, k1.trans h2, h3, h4, h5, k2⟩
theorem VD.fresh {w wr : World} {v : Value} {l : List Dd} (h : VD w wr v l) {k : Nat} (hk : ¬ Apart v k) : w.heap.size ≤ k := by
  rcases h.2 with ⟨rfl, _⟩ | ⟨g, cap, cs, f0, f1, rfl, hg, hh, _⟩
  · exact absurd (apart_nil k) hk
  · rcases Nat.lt_or_ge k w.heap.size with h1 | h1
    · refine absurd (fun m c e => ?_) hk
      cases e
      omega
    · exact h1
/-- the i-th deed's cells, in a world in which the row is as it was -/
theorem VD.get {w wr : World} {v : Value} {l : List Dd} (h : VD w wr v l) {i : Nat} (hi : i < l.length) :
    ∃ kl cap, v = .slice (some ⟨kl, 0, none⟩) l.length cap ∧ ¬ Apart v kl ∧ ∀ wx : World, wx.heap[kl]? = wr.heap[kl]? → wx.cell? ⟨kl, i * 4, none⟩ = some (.int .i64 l[i].k) ∧ wx.cell? ⟨kl, i * 4 + 1, none⟩ = some (.int .i64 l[i].v) ∧ wx.cell? ⟨kl, i * 4 + 2, none⟩ = some (.int .i64 l[i].n) ∧ wx.cell? ⟨kl, i * 4 + 3, none⟩ = some (.string (str l[i].s)) := by
  rcases h.2 with ⟨rfl, rfl⟩ | ⟨g, cap, cs, f0, f1, rfl, hg, hh, h1, h2, h3, h4⟩
  · simp at hi
  · refine ⟨g, cap, rfl, fun hn => hn _ _ rfl, fun wx hx => ?_⟩
    have hw := hx.trans hh
    have key : ∀ j u, j < 4 → (dcells l[i])[j]? = some u → wx.cell? ⟨g, i * 4 + j, none⟩ = some u := by
      intro j u hj hu
      rw [cell_of_cells hw]
      refine take_get h4 ?_
      rw [Nat.mul_comm i 4, dflat_get l i hi j hj]; exact hu
    exact ⟨key 0 _ (by decide) rfl, key 1 _ (by decide) rfl, key 2 _ (by decide) rfl, key 3 _ (by decide) rfl⟩
theorem WR.drew1 {w W : World} {g : Nat} {v : Value} {L : List Nat} (h : WR w W g v L) : WR w W.drew g v L := ⟨h.ge, h.box, h.vb.drew, h.ap⟩
theorem behind {W W' : World} (h : Below W.drew.heap.size W.drew W') : Below W.heap.size W W' := ((Below.refl W.heap.size W).drew).trans h
theorem dsome_small (ls : List Dd) : ∀ d ∈ dsome ls, d.s.length ≤ 100 := by
  intro d hd
  obtain ⟨x, _, rfl⟩ := List.mem_map.1 hd
  show (x.s.take 100).length ≤ 100
  rw [List.length_take]; omega
theorem dsome_len (ls : List Dd) : (dsome ls).length ≤ 60 := by
  unfold dsome; rw [List.length_map, List.length_take]; omega
attribute [local irreducible] pk packTo lowB highB vb1 alg upTo txB str dbits ct dsome
set_option maxRecDepth 100000 in
set_option maxHeartbeats 4000000 in
theorem bitsPuts_w {w : World} (A : Option Addr) (c : Nat) (ls : List Dd) (hls : ls.length ≤ 9223372036854775807) (hr : DdsAt w A ls ∧ ∀ d ∈ ls, d.s.length ≤ 9223372036854775807) :
    Calls Try.prog 3 #[.slice A ls.length c] w fun e w' => e = .returned (.bool true) ∧ Below w.heap.size w w' := by
  obtain ⟨hr1, hr2⟩ := hr
  have HR1 := Kept.mk hr1
  have HR2 := Kept.mk hr2
  have HDS := Kept.mk (dsome_small ls)
  have HDL := Kept.mk (dsome_len ls)
  clear hr1 hr2
  go_enter Try.func3, Try.ntmps3
  go_upto_region 3 with fail
  have hWA : WA w ((w.alloc (.cells #[.slice none 0 0, .int .i64 0] 25)).alloc (.cells #[.slice none 0 0] 29)) w.heap.size (.slice none 0 0) [] :=
    ⟨Nat.le_refl _, block_old (heap_new w _ _ rfl) _, (((vb_nil w).alloc _).alloc _).is (by rw [pk_nil]; rfl), apart_nil _⟩
  have hWR : WR w ((w.alloc (.cells #[.slice none 0 0, .int .i64 0] 25)).alloc (.cells #[.slice none 0 0] 29)) (w.heap.size + 1) (.slice none 0 0) [] :=
    ⟨Nat.le_succ _, heap_new _ _ _ (by simp), ((vb_nil w).alloc _).alloc _, apart_nil _⟩
  have hbw : Below w.heap.size w ((w.alloc (.cells #[.slice none 0 0, .int .i64 0] 25)).alloc (.cells #[.slice none 0 0] 29)) := hWA.vb.1
  have hsz : ((w.alloc (.cells #[.slice none 0 0, .int .i64 0] 25)).alloc (.cells #[.slice none 0 0] 29)).heap.size = w.heap.size + 2 := by simp
  generalize (w.alloc (.cells #[.slice none 0 0, .int .i64 0] 25)).alloc (.cells #[.slice none 0 0] 29) = W2 at *
  have HTW := Kept.mk (show Two w.heap.size (w.heap.size + 1) (.slice none 0 0) (.slice none 0 0) from ⟨by omega, apart_nil _, apart_nil _, fun k hk => apart_nil _⟩)
  have HW := Kept.mk (And.intro hWA (And.intro hWR (And.intro hbw hsz)))
  clear hWA hWR hbw hsz
  have hga : w.heap.size ≤ w.heap.size := Nat.le_refl _
  have HGA := Kept.mk (show w.heap.size + 1 = w.heap.size + 1 from rfl)
  go_wp2_with fail
  with_reducible refine (some_any A c ls W2 (HR1.out.below HW.out.2.2.1) HR2.out hls).mono ?_
  rintro e w3 ⟨vl, rfl, hvd⟩
  have hrl : Rl vl w3 w3 w.heap.size (w.heap.size + 1) (.slice none 0 0) (.slice none 0 0) := fun k hk => by
    have h1 := hvd.fresh hk
    have h2 := HW.out.2.2.2
    exact ⟨hvd.lt hk, rfl, by omega, by omega, apart_nil _, apart_nil _⟩
  have hb3 := hvd.1
  have HWA := Kept.mk (HW.out.1.below hb3)
  have HWR := Kept.mk (HW.out.2.1.below hb3)
  have HRL := Kept.mk hrl
  have HVD := Kept.mk hvd
  clear hrl hb3 HW HR1 HR2 hvd hls
  generalize dsome ls = ds at *
  obtain ⟨B, cl, rfl, hcl⟩ := HVD.out.len
  generalize w.heap.size + 1 = gb at *
  have HW0 := Kept.mk (show w.heap.size = w.heap.size from rfl)
  go_wp2_with fail
  go_loopw [5] (fun s wr => ∃ (i : Nat) (va vb : Value) (L : List Nat), i ≤ ds.length ∧ s = .int .i64 i ∧ WA w wr w.heap.size va L ∧ WR w wr gb vb L ∧ Two w.heap.size gb va vb ∧ Rl (.slice B ds.length cl) w3 wr w.heap.size gb va vb ∧ Two01 L ∧ L.length ≤ 900 * i) (fun s _ => ds.length - (RowKit.intOf s).toNat)
  case atStart => exact ⟨0, _, _, [], by omega, rfl, HWA.out, HWR.out, HTW.out, HRL.out, two_nil, by simp⟩
  case round =>
    clear HWA HWR HTW HRL
    obtain ⟨i, va, vb, L, hi, rfl, h1, h2, h3, h4, h5, h6⟩ := hrel
    have HA := Kept.mk h1
    have HB := Kept.mk h2
    have HT := Kept.mk h3
    have HRL := Kept.mk h4
    have H2 := Kept.mk h5
    have hdl := HDL.out
    clear h1 h2 h3 h4 h5
    by_cases hlt : i < ds.length
    · have hii : (i : Int) < (ds.length : Int) := by omega
      obtain ⟨kl, cap, hve, hna, hcells⟩ := HVD.out.get hlt
      cases hve
      have HX := Kept.mk (And.intro hna hcells)
      clear hna hcells
      obtain ⟨c0, c1, c2, c3⟩ := HX.out.2 wr (HRL.out kl HX.out.1).2.1
      have hds := HDS.out _ (List.getElem_mem hlt)
      generalize ds[i] = d at *
      go_upto_region 7 with fail
      go_wp2_with fail
      with_reducible refine (does_any w wr w.heap.size va L d HA.out (by omega) hds).mono ?_
      rintro e w4 ⟨rfl, va2, ha2, hta⟩
      obtain ⟨hb4, ht4⟩ := HT.out.step ha2 HB.out hta
      have hrl4 := HRL.out.stepA hta
      obtain ⟨e0, e1, e2, e3⟩ := HX.out.2 w4 (hrl4 kl HX.out.1).2.1
      have HA4 := Kept.mk ha2
      have HB4 := Kept.mk (show WR w w4 gb vb L from hb4)
      have HT4 := Kept.mk ht4
      have HRL4 := Kept.mk hrl4
      clear ha2 hb4 ht4 hrl4 hta HA HB HT HRL c0 c1 c2 c3
      go_wp2_with fail
      with_reducible refine (did_any w w4 gb vb L d HB4.out (by omega) hds).mono ?_
      rintro e w5 ⟨rfl, vb2, hb2, htb⟩
      obtain ⟨ha5, ht5⟩ := HT4.out.swap.step hb2 HA4.out htb
      have HA5 := Kept.mk (show WA w w5 w.heap.size va2 (dbits L d) from ha5)
      have HB5 := Kept.mk hb2
      have HT5 := Kept.mk ht5.swap
      have HRL5 := Kept.mk (HRL4.out.stepB htb)
      have HL5 := Kept.mk (dbits_len L d hds)
      have H25 := Kept.mk (dbits_two L d H2.out)
      clear ha5 hb2 ht5 htb HA4 HB4 HT4 HRL4 H2 e0 e1 e2 e3 hds
      generalize dbits L d = M at *
      have HM := Kept.mk (show M.length ≤ 900 * (i + 1) from by have := HL5.out; omega)
      clear HL5 h6
      obtain ⟨Av, capv, rfl, hcapv⟩ := HB5.out.vb.len
      rw [ivs_length] at *
      have d0 := Joins.cell_of_block HB5.out.box 0
      have hm9 : M.length ≤ 900000 := by have := HM.out; omega
      have hi60 : (i : Int) < 60 := by omega
      clear hcapv hi hdl
      go_upto_region 9 with fail
      go_region_with (first
        | (go_at_call 14; with_reducible refine (len_any w _ w.heap.size va2 M (by first | exact HA5.out | exact HA5.out.drew)).mono ?_; rintro e wa ⟨rfl, rfl⟩)
        | (go_at_call 15; with_reducible refine (bytes_any w _ w.heap.size va2 M (by first | exact HA5.out | exact HA5.out.drew)).mono ?_; rintro e wa ⟨rfl, rfl⟩)
        | (go_at_call 16; with_reducible refine (refWBytes_any w _ gb _ M (by first | exact HB5.out | exact HB5.out.drew1) H25.out hm9).mono ?_; rintro e wb ⟨rfl, hbb⟩; have hbc := behind hbb))
      all_goals (go_wp2_with fail)
      all_goals (
        exact ⟨⟨i + 1, _, _, M, hlt, by push_cast; rfl, by first | exact HA5.out.below hbc | exact HA5.out.below hbc.drew, by first | exact HB5.out.below hbc | exact HB5.out.below hbc.drew, HT5.out, by first | exact HRL5.out.below hbc | exact HRL5.out.below hbc.drew, H25.out, HM.out⟩, by show ds.length - ((i : Int) + 1).toNat < ds.length - ((i : Nat) : Int).toNat; omega⟩)
    · have hii : ¬ (i : Int) < (ds.length : Int) := by omega
      have hm9 : L.length ≤ 900000 := by omega
      clear hi h6 hdl hlt
      obtain ⟨Av, capv, rfl, hcapv⟩ := HB.out.vb.len
      go_wp2_with fail
      with_reducible refine (bytes_any w wr w.heap.size va L HA.out).mono ?_
      rintro e w4 ⟨rfl, rfl⟩
      go_wp2_with fail
      with_reducible refine (refWBytes_any w wr gb _ L HB.out H2.out hm9).mono ?_
      rintro e w5 ⟨rfl, hb5⟩
      have HB5 := Kept.mk (HA.out.vb.1.trans (hb5.mono HA.out.vb.1.size))
      clear hb5
      go_wp2_with fail
      with_reducible refine (bitsAwake_any w5).mono ?_
      rintro e w6 ⟨rfl, hb6⟩
      have HB6 := Kept.mk (HB5.out.trans (hb6.mono HB5.out.size))
      clear hb6
      go_wp2_with fail
      go_ret
      exact ⟨by simp, HB6.out⟩
end Go.Proofs.Ytohdekokdljgjaa
