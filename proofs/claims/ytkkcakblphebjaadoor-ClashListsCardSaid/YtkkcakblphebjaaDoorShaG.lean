/- SHA-256: a new hash, its sum, the sum of texts, each by a contract. -/
import Derived.Test.YtkkcakblphebjaaDoorShaF
import Derived.Deep.WholeRow
namespace Go.Proofs.YtkkcakblphebjaaDoor
set_option linter.unusedSimpArgs false
set_option linter.unusedVariables false
set_option linter.unusedVariables false
open Go.RowKit Go.Lib

theorem new_cells : hcells sInit (List.replicate 64 0) 0 0 = #[.int .u32 1779033703, .int .u32 3144134277, .int .u32 1013904242, .int .u32 2773480762, .int .u32 1359893119, .int .u32 2600822924, .int .u32 528734635, .int .u32 1541459225, .int .u8 0, .int .u8 0, .int .u8 0, .int .u8 0, .int .u8 0, .int .u8 0, .int .u8 0, .int .u8 0, .int .u8 0, .int .u8 0, .int .u8 0, .int .u8 0, .int .u8 0, .int .u8 0, .int .u8 0, .int .u8 0, .int .u8 0, .int .u8 0, .int .u8 0, .int .u8 0, .int .u8 0, .int .u8 0, .int .u8 0, .int .u8 0, .int .u8 0, .int .u8 0, .int .u8 0, .int .u8 0, .int .u8 0, .int .u8 0, .int .u8 0, .int .u8 0, .int .u8 0, .int .u8 0, .int .u8 0, .int .u8 0, .int .u8 0, .int .u8 0, .int .u8 0, .int .u8 0, .int .u8 0, .int .u8 0, .int .u8 0, .int .u8 0, .int .u8 0, .int .u8 0, .int .u8 0, .int .u8 0, .int .u8 0, .int .u8 0, .int .u8 0, .int .u8 0, .int .u8 0, .int .u8 0, .int .u8 0, .int .u8 0, .int .u8 0, .int .u8 0, .int .u8 0, .int .u8 0, .int .u8 0, .int .u8 0, .int .u8 0, .int .u8 0, .int .i64 0, .int .i64 0] := by rfl
theorem new_hash (w : World) : HashT (w.alloc (.cells #[.int .u32 1779033703, .int .u32 3144134277, .int .u32 1013904242, .int .u32 2773480762, .int .u32 1359893119, .int .u32 2600822924, .int .u32 528734635, .int .u32 1541459225, .int .u8 0, .int .u8 0, .int .u8 0, .int .u8 0, .int .u8 0, .int .u8 0, .int .u8 0, .int .u8 0, .int .u8 0, .int .u8 0, .int .u8 0, .int .u8 0, .int .u8 0, .int .u8 0, .int .u8 0, .int .u8 0, .int .u8 0, .int .u8 0, .int .u8 0, .int .u8 0, .int .u8 0, .int .u8 0, .int .u8 0, .int .u8 0, .int .u8 0, .int .u8 0, .int .u8 0, .int .u8 0, .int .u8 0, .int .u8 0, .int .u8 0, .int .u8 0, .int .u8 0, .int .u8 0, .int .u8 0, .int .u8 0, .int .u8 0, .int .u8 0, .int .u8 0, .int .u8 0, .int .u8 0, .int .u8 0, .int .u8 0, .int .u8 0, .int .u8 0, .int .u8 0, .int .u8 0, .int .u8 0, .int .u8 0, .int .u8 0, .int .u8 0, .int .u8 0, .int .u8 0, .int .u8 0, .int .u8 0, .int .u8 0, .int .u8 0, .int .u8 0, .int .u8 0, .int .u8 0, .int .u8 0, .int .u8 0, .int .u8 0, .int .u8 0, .int .i64 0, .int .i64 0] 128)) w.heap.size [] 0 := by
  refine ⟨List.replicate 64 0, by simp, ?_, rfl⟩
  rw [heap_new _ _ _ rfl, ← new_cells]
  rfl
set_option maxRecDepth 100000 in
set_option maxHeartbeats 4000000 in
theorem New_any (w : World) :
    Calls Tryd.prog 81 #[] w fun e w' => e = .returned (.pointer (some ⟨w.heap.size, 0, none⟩)) ∧ w' = w.alloc (.cells #[.int .u32 1779033703, .int .u32 3144134277, .int .u32 1013904242, .int .u32 2773480762, .int .u32 1359893119, .int .u32 2600822924, .int .u32 528734635, .int .u32 1541459225, .int .u8 0, .int .u8 0, .int .u8 0, .int .u8 0, .int .u8 0, .int .u8 0, .int .u8 0, .int .u8 0, .int .u8 0, .int .u8 0, .int .u8 0, .int .u8 0, .int .u8 0, .int .u8 0, .int .u8 0, .int .u8 0, .int .u8 0, .int .u8 0, .int .u8 0, .int .u8 0, .int .u8 0, .int .u8 0, .int .u8 0, .int .u8 0, .int .u8 0, .int .u8 0, .int .u8 0, .int .u8 0, .int .u8 0, .int .u8 0, .int .u8 0, .int .u8 0, .int .u8 0, .int .u8 0, .int .u8 0, .int .u8 0, .int .u8 0, .int .u8 0, .int .u8 0, .int .u8 0, .int .u8 0, .int .u8 0, .int .u8 0, .int .u8 0, .int .u8 0, .int .u8 0, .int .u8 0, .int .u8 0, .int .u8 0, .int .u8 0, .int .u8 0, .int .u8 0, .int .u8 0, .int .u8 0, .int .u8 0, .int .u8 0, .int .u8 0, .int .u8 0, .int .u8 0, .int .u8 0, .int .u8 0, .int .u8 0, .int .u8 0, .int .u8 0, .int .i64 0, .int .i64 0] 128) := by
  have hzv : ∀ W : World, (zeroValue 128).run Tryd.prog W = .ok (.agg #[.int .u32 0, .int .u32 0, .int .u32 0, .int .u32 0, .int .u32 0, .int .u32 0, .int .u32 0, .int .u32 0, .int .u8 0, .int .u8 0, .int .u8 0, .int .u8 0, .int .u8 0, .int .u8 0, .int .u8 0, .int .u8 0, .int .u8 0, .int .u8 0, .int .u8 0, .int .u8 0, .int .u8 0, .int .u8 0, .int .u8 0, .int .u8 0, .int .u8 0, .int .u8 0, .int .u8 0, .int .u8 0, .int .u8 0, .int .u8 0, .int .u8 0, .int .u8 0, .int .u8 0, .int .u8 0, .int .u8 0, .int .u8 0, .int .u8 0, .int .u8 0, .int .u8 0, .int .u8 0, .int .u8 0, .int .u8 0, .int .u8 0, .int .u8 0, .int .u8 0, .int .u8 0, .int .u8 0, .int .u8 0, .int .u8 0, .int .u8 0, .int .u8 0, .int .u8 0, .int .u8 0, .int .u8 0, .int .u8 0, .int .u8 0, .int .u8 0, .int .u8 0, .int .u8 0, .int .u8 0, .int .u8 0, .int .u8 0, .int .u8 0, .int .u8 0, .int .u8 0, .int .u8 0, .int .u8 0, .int .u8 0, .int .u8 0, .int .u8 0, .int .u8 0, .int .u8 0, .int .i64 0, .int .i64 0]) W := fun W => by kernel_rfl
  go_enter Tryd.func81, Tryd.ntmps81
  go_wp2_with fail
  go_ret
  exact ⟨rfl, rfl⟩
theorem write_nil (m : List UInt8) (w : World) :
    Calls Tryd.prog 82 #[.pointer none, .string (str m)] w fun e w' => e = .returned (.tuple #[]) ∧ w = w' := by
  go_enter Tryd.func82, Tryd.ntmps82
  go_wp2_with fail
  refine bodyPost_ret (results_none rfl _ _ _) rfl ⟨rfl, rfl⟩
theorem sum_nil (w : World) :
    Calls Tryd.prog 83 #[.pointer none] w fun e w' => e = .returned (.string (str [])) ∧ w = w' := by
  go_enter Tryd.func83, Tryd.ntmps83
  go_wp2_with fail
  go_ret
  exact ⟨rfl, rfl⟩
theorem hcells_one (s : St) {gr : List UInt8} (held total : Int) : (hcells s gr held total).all (·.oneCell') = true := by
  refine Array.all_eq_true_iff_forall_mem.2 fun v hv => ?_
  unfold hcells eightL at hv
  simp only [List.mem_toArray, List.mem_append, List.mem_cons, List.not_mem_nil, or_false] at hv
  rcases hv with ((rfl | rfl | rfl | rfl | rfl | rfl | rfl | rfl) | hv) | (rfl | rfl)
  all_goals first | rfl | exact byteCells_one _ _ hv
theorem HashT.below {w w' : World} {g : Nat} {l : List UInt8} {total : Int} (h : HashT w g l total) (hb : Below w.heap.size w w') : HashT w' g l total := by
  obtain ⟨gr, h1, h2, h3⟩ := h.ex
  exact ⟨gr, h1, block_kept h2 hb, h3⟩
theorem HashT.but {w w' : World} {g k : Nat} {l : List UInt8} {total : Int} (h : HashT w g l total) (hb : But k w w') (hk : g ≠ k) : HashT w' g l total := by
  obtain ⟨gr, h1, h2, h3⟩ := h.ex
  exact ⟨gr, h1, by rw [hb.block g (block_lt h2) hk]; exact h2, h3⟩
theorem HashT.lt {w : World} {g : Nat} {l : List UInt8} {total : Int} (h : HashT w g l total) : g < w.heap.size := by
  obtain ⟨gr, h1, h2, h3⟩ := h.ex
  exact block_lt h2
theorem sSum_eq (l : List UInt8) : sSum l = sOut (sFold (l ++ sPad l.length) ((l ++ sPad l.length).length / 64)).list 8 := rfl
theorem sOut_zero (L : List Nat) : sOut L 0 = [] := rfl
theorem below_but {g B : Nat} {a b c : World} (h : Below B a b) (k : But g b c) (hg : B ≤ g) (hB : B ≤ b.heap.size) : Below B a c := But.below h k hg hB
theorem sOut_next (L : List Nat) (k : Nat) : sOut L (k + 1) = sOut L k ++ by4 (nth L k) := rfl
theorem list_0 (s : St) : nth s.list 0 = s.a := rfl
theorem list_1 (s : St) : nth s.list 1 = s.b := rfl
theorem list_2 (s : St) : nth s.list 2 = s.c := rfl
theorem list_3 (s : St) : nth s.list 3 = s.d := rfl
theorem list_4 (s : St) : nth s.list 4 = s.e := rfl
theorem list_5 (s : St) : nth s.list 5 = s.f := rfl
theorem list_6 (s : St) : nth s.list 6 = s.g := rfl
theorem list_7 (s : St) : nth s.list 7 = s.h := rfl
theorem index_0 (F : St) (W : World) : (Instr.index 125 (.agg #[.int .u32 (F.a : Int), .int .u32 (F.b : Int), .int .u32 (F.c : Int), .int .u32 (F.d : Int), .int .u32 (F.e : Int), .int .u32 (F.f : Int), .int .u32 (F.g : Int), .int .u32 (F.h : Int)]) (.int .i64 0)).run Tryd.prog W = .ok (.int .u32 (F.a : Int)) W := by kernel_rfl
theorem index_1 (F : St) (W : World) : (Instr.index 125 (.agg #[.int .u32 (F.a : Int), .int .u32 (F.b : Int), .int .u32 (F.c : Int), .int .u32 (F.d : Int), .int .u32 (F.e : Int), .int .u32 (F.f : Int), .int .u32 (F.g : Int), .int .u32 (F.h : Int)]) (.int .i64 1)).run Tryd.prog W = .ok (.int .u32 (F.b : Int)) W := by kernel_rfl
theorem index_2 (F : St) (W : World) : (Instr.index 125 (.agg #[.int .u32 (F.a : Int), .int .u32 (F.b : Int), .int .u32 (F.c : Int), .int .u32 (F.d : Int), .int .u32 (F.e : Int), .int .u32 (F.f : Int), .int .u32 (F.g : Int), .int .u32 (F.h : Int)]) (.int .i64 2)).run Tryd.prog W = .ok (.int .u32 (F.c : Int)) W := by kernel_rfl
theorem index_3 (F : St) (W : World) : (Instr.index 125 (.agg #[.int .u32 (F.a : Int), .int .u32 (F.b : Int), .int .u32 (F.c : Int), .int .u32 (F.d : Int), .int .u32 (F.e : Int), .int .u32 (F.f : Int), .int .u32 (F.g : Int), .int .u32 (F.h : Int)]) (.int .i64 3)).run Tryd.prog W = .ok (.int .u32 (F.d : Int)) W := by kernel_rfl
theorem index_4 (F : St) (W : World) : (Instr.index 125 (.agg #[.int .u32 (F.a : Int), .int .u32 (F.b : Int), .int .u32 (F.c : Int), .int .u32 (F.d : Int), .int .u32 (F.e : Int), .int .u32 (F.f : Int), .int .u32 (F.g : Int), .int .u32 (F.h : Int)]) (.int .i64 4)).run Tryd.prog W = .ok (.int .u32 (F.e : Int)) W := by kernel_rfl
theorem index_5 (F : St) (W : World) : (Instr.index 125 (.agg #[.int .u32 (F.a : Int), .int .u32 (F.b : Int), .int .u32 (F.c : Int), .int .u32 (F.d : Int), .int .u32 (F.e : Int), .int .u32 (F.f : Int), .int .u32 (F.g : Int), .int .u32 (F.h : Int)]) (.int .i64 5)).run Tryd.prog W = .ok (.int .u32 (F.f : Int)) W := by kernel_rfl
theorem index_6 (F : St) (W : World) : (Instr.index 125 (.agg #[.int .u32 (F.a : Int), .int .u32 (F.b : Int), .int .u32 (F.c : Int), .int .u32 (F.d : Int), .int .u32 (F.e : Int), .int .u32 (F.f : Int), .int .u32 (F.g : Int), .int .u32 (F.h : Int)]) (.int .i64 6)).run Tryd.prog W = .ok (.int .u32 (F.g : Int)) W := by kernel_rfl
theorem index_7 (F : St) (W : World) : (Instr.index 125 (.agg #[.int .u32 (F.a : Int), .int .u32 (F.b : Int), .int .u32 (F.c : Int), .int .u32 (F.d : Int), .int .u32 (F.e : Int), .int .u32 (F.f : Int), .int .u32 (F.g : Int), .int .u32 (F.h : Int)]) (.int .i64 7)).run Tryd.prog W = .ok (.int .u32 (F.h : Int)) W := by kernel_rfl
attribute [local irreducible] hcells sFold Lib.byteCells eightL gput sMix str sW rnds St.add wc64 sPad sOut

set_option maxRecDepth 100000 in
set_option maxHeartbeats 4000000 in
theorem hashSum_any (g : Nat) (l : List UInt8) (w : World) (hh : HashT w g l l.length) (hk : KAt w) (hl : l.length ≤ 900000000) :
    Calls Tryd.prog 83 #[.pointer (some ⟨g, 0, none⟩)] w fun e w' => e = .returned (.string (str (sSum l))) ∧ Below w.heap.size w w' := by
  have hgl := hh.lt
  obtain ⟨gr, hgr, hb, htk⟩ := hh.ex
  have hi : (Tryd.prog.info? 128).map (·.size) = some (hcells (sFold l (l.length / 64)) gr ((l.length % 64 : Nat) : Int) l.length).size := by rw [hcells_size _ hgr]; kernel_rfl
  have h1 := hcells_one (sFold l (l.length / 64)) (gr := gr) ((l.length % 64 : Nat) : Int) l.length
  have hz : ∀ a : Array Value, a.size = 74 → a.size = (hcells (sFold l (l.length / 64)) gr ((l.length % 64 : Nat) : Int) l.length).size := fun a ha => by rw [ha, hcells_size _ hgr]
  have c73 := (Joins.cell_of_block hb 73).trans (hcells_total _ hgr _ _)
  have hzv : ∀ W : World, (zeroValue 128).run Tryd.prog W = .ok (.agg #[.int .u32 0, .int .u32 0, .int .u32 0, .int .u32 0, .int .u32 0, .int .u32 0, .int .u32 0, .int .u32 0, .int .u8 0, .int .u8 0, .int .u8 0, .int .u8 0, .int .u8 0, .int .u8 0, .int .u8 0, .int .u8 0, .int .u8 0, .int .u8 0, .int .u8 0, .int .u8 0, .int .u8 0, .int .u8 0, .int .u8 0, .int .u8 0, .int .u8 0, .int .u8 0, .int .u8 0, .int .u8 0, .int .u8 0, .int .u8 0, .int .u8 0, .int .u8 0, .int .u8 0, .int .u8 0, .int .u8 0, .int .u8 0, .int .u8 0, .int .u8 0, .int .u8 0, .int .u8 0, .int .u8 0, .int .u8 0, .int .u8 0, .int .u8 0, .int .u8 0, .int .u8 0, .int .u8 0, .int .u8 0, .int .u8 0, .int .u8 0, .int .u8 0, .int .u8 0, .int .u8 0, .int .u8 0, .int .u8 0, .int .u8 0, .int .u8 0, .int .u8 0, .int .u8 0, .int .u8 0, .int .u8 0, .int .u8 0, .int .u8 0, .int .u8 0, .int .u8 0, .int .u8 0, .int .u8 0, .int .u8 0, .int .u8 0, .int .u8 0, .int .u8 0, .int .u8 0, .int .i64 0, .int .i64 0]) W := fun W => by kernel_rfl
  have HB := Kept.mk hb
  have HI := Kept.mk hi
  have H1 := Kept.mk h1
  have HZ := Kept.mk hz
  have HT := Kept.mk htk
  have HG := Kept.mk hgr
  have HK := Kept.mk hk
  clear hb hi h1 hz htk hgr hh hk
  generalize hC : hcells (sFold l (l.length / 64)) gr ((l.length % 64 : Nat) : Int) l.length = C at *
  have HC := Kept.mk hC; clear hC
  go_enter Tryd.func83, Tryd.ntmps83
  go_upto_region 4 with (first | (with_reducible refine wpList_load_row rfl 128 (.tmp 10) rfl g rfl _ _ _ _ HB.out Tryd.underlying128 rfl HI.out ?_) | (with_reducible refine wpList_store_row rfl 128 (.tmp 3) (.tmp 11) rfl w.heap.size C rfl rfl _ _ (heap_new _ _ _ rfl) HI.out (HZ.out _ rfl) H1.out ?_))
  rw [World.setRow_alloc_new]
  clear HI H1 hzv
  have hP := heap_new w (.cells C 128) w.heap.size rfl
  have HPL := sPad_length l.length
  go_wp2_with fail
  refine (padding_any l.length _ (by omega)).mono ?_
  rintro e w1 ⟨rfl, hb1⟩
  have hP := block_kept hP hb1
  have hsz1 := hb1.size
  rw [World.size_alloc] at hsz1
  have hB1 : Below w.heap.size w w1 := ((Below.refl _ _).alloc (Nat.le_refl _) _).trans (hb1.mono (by simp))
  have hH : HashT w1 w.heap.size l l.length := ⟨gr, HG.out, by rw [hP, ← HC.out], HT.out⟩
  have hk1 := HK.out.below hB1
  have HB1 := Kept.mk hB1
  have HH := Kept.mk hH
  have HK1 := Kept.mk hk1
  have hg0 := HK.out.lt
  clear hb1 hP hB1 hH hk1 c73 HB
  go_wp2_with fail
  refine (write_any w.heap.size l (sPad l.length) w1 HH.out HK1.out hg0 (by omega)).mono ?_
  rintro e w2 ⟨rfl, hh2, hbut⟩
  have hk2 := HK1.out.but hbut hg0
  have hB2 : Below w.heap.size w w2 := below_but HB1.out hbut (Nat.le_refl _) (by omega)
  have hsz2 := hbut.size
  obtain ⟨gr2, hgr2, hb2, _⟩ := hh2.ex
  have hw2 := HW.mk hb2 hk2
  have HSUM := Kept.mk (sSum_eq l)
  generalize hF : sFold (l ++ sPad l.length) ((l ++ sPad l.length).length / 64) = F at *
  have hFok : F.Ok := by rw [← hF]; exact sFold_ok _ _
  obtain ⟨oa, ob, oc, od, oe, of, og, oh⟩ := hFok
  have c0 := hw2.c0
  have c1 := hw2.c1
  have c2 := hw2.c2
  have c3 := hw2.c3
  have c4 := hw2.c4
  have c5 := hw2.c5
  have c6 := hw2.c6
  have c7 := hw2.c7
  have HB2 := Kept.mk hB2
  clear hw2 hb2 hgr2 hh2 hbut hk2 hF hB2 HC
  go_wp2_with fail
  go_loopw [4, 20] (fun v i wr => ∃ k : Nat, k ≤ 8 ∧ i = .int .i64 k ∧ Buf w wr v (sOut F.list k)) (fun _ i _ => 8 - (RowKit.intOf i).toNat)
  case atStart => exact ⟨0, by omega, rfl, by rw [sOut_zero]; exact buf_nil HB2.out⟩
  case round =>
    clear c0 c1 c2 c3 c4 c5 c6 c7
    obtain ⟨k, hk, rfl, hb⟩ := hrel
    have hlen := sOut_length F.list k
    have hc : k = 0 ∨ k = 1 ∨ k = 2 ∨ k = 3 ∨ k = 4 ∨ k = 5 ∨ k = 6 ∨ k = 7 ∨ k = 8 := by omega
    rcases hc with rfl | rfl | rfl | rfl | rfl | rfl | rfl | rfl | rfl
    · have HN := Kept.mk (show sOut F.list (0 + 1) = sOut F.list 0 ++ [byt ((F.a / 16777216 : Nat) : Int), byt ((F.a / 65536 : Nat) : Int), byt ((F.a / 256 : Nat) : Int), byt (F.a : Int)] from by rw [sOut_next, list_0]; rfl)
      generalize sOut F.list 0 = L at *
      have hix := index_0 F
      go_wp2_with (at_builtin; refine append_four rfl (.tmp 23) (.tmp 35) rfl rfl hb (d0 := byt ((F.a / 16777216 : Nat) : Int)) (d1 := byt ((F.a / 65536 : Nat) : Int)) (d2 := byt ((F.a / 256 : Nat) : Int)) (d3 := byt (F.a : Int)) rfl ?_ ?_ ?_ ?_ ?_ ?_; (rw [byt_toNat]; omega); (rw [byt_toNat]; omega); (rw [byt_toNat]; omega); exact (byt_toNat _).symm; omega; intro v' w' ho)
      refine ⟨⟨0 + 1, by omega, rfl, ?_⟩, by decide⟩
      rw [HN.out]
      exact ho
    · have HN := Kept.mk (show sOut F.list (1 + 1) = sOut F.list 1 ++ [byt ((F.b / 16777216 : Nat) : Int), byt ((F.b / 65536 : Nat) : Int), byt ((F.b / 256 : Nat) : Int), byt (F.b : Int)] from by rw [sOut_next, list_1]; rfl)
      generalize sOut F.list 1 = L at *
      have hix := index_1 F
      go_wp2_with (at_builtin; refine append_four rfl (.tmp 23) (.tmp 35) rfl rfl hb (d0 := byt ((F.b / 16777216 : Nat) : Int)) (d1 := byt ((F.b / 65536 : Nat) : Int)) (d2 := byt ((F.b / 256 : Nat) : Int)) (d3 := byt (F.b : Int)) rfl ?_ ?_ ?_ ?_ ?_ ?_; (rw [byt_toNat]; omega); (rw [byt_toNat]; omega); (rw [byt_toNat]; omega); exact (byt_toNat _).symm; omega; intro v' w' ho)
      refine ⟨⟨1 + 1, by omega, rfl, ?_⟩, by decide⟩
      rw [HN.out]
      exact ho
    · have HN := Kept.mk (show sOut F.list (2 + 1) = sOut F.list 2 ++ [byt ((F.c / 16777216 : Nat) : Int), byt ((F.c / 65536 : Nat) : Int), byt ((F.c / 256 : Nat) : Int), byt (F.c : Int)] from by rw [sOut_next, list_2]; rfl)
      generalize sOut F.list 2 = L at *
      have hix := index_2 F
      go_wp2_with (at_builtin; refine append_four rfl (.tmp 23) (.tmp 35) rfl rfl hb (d0 := byt ((F.c / 16777216 : Nat) : Int)) (d1 := byt ((F.c / 65536 : Nat) : Int)) (d2 := byt ((F.c / 256 : Nat) : Int)) (d3 := byt (F.c : Int)) rfl ?_ ?_ ?_ ?_ ?_ ?_; (rw [byt_toNat]; omega); (rw [byt_toNat]; omega); (rw [byt_toNat]; omega); exact (byt_toNat _).symm; omega; intro v' w' ho)
      refine ⟨⟨2 + 1, by omega, rfl, ?_⟩, by decide⟩
      rw [HN.out]
      exact ho
    · have HN := Kept.mk (show sOut F.list (3 + 1) = sOut F.list 3 ++ [byt ((F.d / 16777216 : Nat) : Int), byt ((F.d / 65536 : Nat) : Int), byt ((F.d / 256 : Nat) : Int), byt (F.d : Int)] from by rw [sOut_next, list_3]; rfl)
      generalize sOut F.list 3 = L at *
      have hix := index_3 F
      go_wp2_with (at_builtin; refine append_four rfl (.tmp 23) (.tmp 35) rfl rfl hb (d0 := byt ((F.d / 16777216 : Nat) : Int)) (d1 := byt ((F.d / 65536 : Nat) : Int)) (d2 := byt ((F.d / 256 : Nat) : Int)) (d3 := byt (F.d : Int)) rfl ?_ ?_ ?_ ?_ ?_ ?_; (rw [byt_toNat]; omega); (rw [byt_toNat]; omega); (rw [byt_toNat]; omega); exact (byt_toNat _).symm; omega; intro v' w' ho)
      refine ⟨⟨3 + 1, by omega, rfl, ?_⟩, by decide⟩
      rw [HN.out]
      exact ho
    · have HN := Kept.mk (show sOut F.list (4 + 1) = sOut F.list 4 ++ [byt ((F.e / 16777216 : Nat) : Int), byt ((F.e / 65536 : Nat) : Int), byt ((F.e / 256 : Nat) : Int), byt (F.e : Int)] from by rw [sOut_next, list_4]; rfl)
      generalize sOut F.list 4 = L at *
      have hix := index_4 F
      go_wp2_with (at_builtin; refine append_four rfl (.tmp 23) (.tmp 35) rfl rfl hb (d0 := byt ((F.e / 16777216 : Nat) : Int)) (d1 := byt ((F.e / 65536 : Nat) : Int)) (d2 := byt ((F.e / 256 : Nat) : Int)) (d3 := byt (F.e : Int)) rfl ?_ ?_ ?_ ?_ ?_ ?_; (rw [byt_toNat]; omega); (rw [byt_toNat]; omega); (rw [byt_toNat]; omega); exact (byt_toNat _).symm; omega; intro v' w' ho)
      refine ⟨⟨4 + 1, by omega, rfl, ?_⟩, by decide⟩
      rw [HN.out]
      exact ho
    · have HN := Kept.mk (show sOut F.list (5 + 1) = sOut F.list 5 ++ [byt ((F.f / 16777216 : Nat) : Int), byt ((F.f / 65536 : Nat) : Int), byt ((F.f / 256 : Nat) : Int), byt (F.f : Int)] from by rw [sOut_next, list_5]; rfl)
      generalize sOut F.list 5 = L at *
      have hix := index_5 F
      go_wp2_with (at_builtin; refine append_four rfl (.tmp 23) (.tmp 35) rfl rfl hb (d0 := byt ((F.f / 16777216 : Nat) : Int)) (d1 := byt ((F.f / 65536 : Nat) : Int)) (d2 := byt ((F.f / 256 : Nat) : Int)) (d3 := byt (F.f : Int)) rfl ?_ ?_ ?_ ?_ ?_ ?_; (rw [byt_toNat]; omega); (rw [byt_toNat]; omega); (rw [byt_toNat]; omega); exact (byt_toNat _).symm; omega; intro v' w' ho)
      refine ⟨⟨5 + 1, by omega, rfl, ?_⟩, by decide⟩
      rw [HN.out]
      exact ho
    · have HN := Kept.mk (show sOut F.list (6 + 1) = sOut F.list 6 ++ [byt ((F.g / 16777216 : Nat) : Int), byt ((F.g / 65536 : Nat) : Int), byt ((F.g / 256 : Nat) : Int), byt (F.g : Int)] from by rw [sOut_next, list_6]; rfl)
      generalize sOut F.list 6 = L at *
      have hix := index_6 F
      go_wp2_with (at_builtin; refine append_four rfl (.tmp 23) (.tmp 35) rfl rfl hb (d0 := byt ((F.g / 16777216 : Nat) : Int)) (d1 := byt ((F.g / 65536 : Nat) : Int)) (d2 := byt ((F.g / 256 : Nat) : Int)) (d3 := byt (F.g : Int)) rfl ?_ ?_ ?_ ?_ ?_ ?_; (rw [byt_toNat]; omega); (rw [byt_toNat]; omega); (rw [byt_toNat]; omega); exact (byt_toNat _).symm; omega; intro v' w' ho)
      refine ⟨⟨6 + 1, by omega, rfl, ?_⟩, by decide⟩
      rw [HN.out]
      exact ho
    · have HN := Kept.mk (show sOut F.list (7 + 1) = sOut F.list 7 ++ [byt ((F.h / 16777216 : Nat) : Int), byt ((F.h / 65536 : Nat) : Int), byt ((F.h / 256 : Nat) : Int), byt (F.h : Int)] from by rw [sOut_next, list_7]; rfl)
      generalize sOut F.list 7 = L at *
      have hix := index_7 F
      go_wp2_with (at_builtin; refine append_four rfl (.tmp 23) (.tmp 35) rfl rfl hb (d0 := byt ((F.h / 16777216 : Nat) : Int)) (d1 := byt ((F.h / 65536 : Nat) : Int)) (d2 := byt ((F.h / 256 : Nat) : Int)) (d3 := byt (F.h : Int)) rfl ?_ ?_ ?_ ?_ ?_ ?_; (rw [byt_toNat]; omega); (rw [byt_toNat]; omega); (rw [byt_toNat]; omega); exact (byt_toNat _).symm; omega; intro v' w' ho)
      refine ⟨⟨7 + 1, by omega, rfl, ?_⟩, by decide⟩
      rw [HN.out]
      exact ho
    · have hcv := Buf.string hb
      have HB := Kept.mk hb.2.1
      go_wp2_with fail
      go_ret
      exact ⟨by rw [HSUM.out]; rfl, HB.out⟩
end Go.Proofs.YtkkcakblphebjaaDoor
