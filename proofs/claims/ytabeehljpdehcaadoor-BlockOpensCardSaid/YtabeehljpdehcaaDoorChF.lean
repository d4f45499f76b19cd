/- ChaCha's block in memory, by a contract. -/
import Derived.Test.YtabeehljpdehcaaDoorChaQ
import Derived.Test.YtabeehljpdehcaaDoorBG
import Derived.Handy
namespace Go.Proofs.YtabeehljpdehcaaDoor
set_option linter.unusedVariables false
set_option linter.unusedSimpArgs false
open Go.RowKit Go.Lib
/-- a quarter round of the words with these indices -/
def qr (xs : List Nat) (a b c d : Nat) : List Nat := stR (stA (stR (stA (stR (stA (stR (stA xs a b) d a 16) c d) b c 12) a b) d a 8) c d) b c 7
/-- a double round -/
def dbl (xs : List Nat) : List Nat := qr (qr (qr (qr (qr (qr (qr (qr xs 0 4 8 12) 1 5 9 13) 2 6 10 14) 3 7 11 15) 0 5 10 15) 1 6 11 12) 2 7 8 13) 3 4 9 14
def dbls : Nat → List Nat → List Nat
  | 0, xs => xs
  | n + 1, xs => dbl (dbls n xs)
/-- the first k words with the state's own added -/
def adk (v xs : List Nat) (k : Nat) : List Nat := (List.range 16).map fun i => if i < k then ad (wat v i) (wat xs i) else wat v i
def blk (xs : List Nat) : List Nat := adk (dbls 10 xs) xs 16
theorem qr_eq (xs : List Nat) (a b c d : Nat) : stR (stA (stR (stA (stR (stA (stR (stA xs a b) d a 16) c d) b c 12) a b) d a 8) c d) b c 7 = qr xs a b c d := rfl
theorem dbl_eq (xs : List Nat) : qr (qr (qr (qr (qr (qr (qr (qr xs 0 4 8 12) 1 5 9 13) 2 6 10 14) 3 7 11 15) 0 5 10 15) 1 6 11 12) 2 7 8 13) 3 4 9 14 = dbl xs := rfl
theorem dbls_next (n : Nat) (xs : List Nat) : dbl (dbls n xs) = dbls (n + 1) xs := rfl
theorem dbls_zero (xs : List Nat) : dbls 0 xs = xs := rfl
theorem adk_length (v xs : List Nat) (k : Nat) : (adk v xs k).length = 16 := by simp [adk]
theorem wat_adk (v xs : List Nat) (k i : Nat) (hi : i < 16) : wat (adk v xs k) i = if i < k then ad (wat v i) (wat xs i) else wat v i := by
  conv => lhs; unfold wat adk
  rw [List.getD_eq_getElem?_getD, List.getElem?_map, List.getElem?_range hi]; rfl
theorem list16 (v : List Nat) (h : v.length = 16) : (List.range 16).map (fun i => wat v i) = v := by
  apply List.ext_getElem
  · simp [h]
  · intro i h1 h2
    simp [wat, List.getD_eq_getElem?_getD, List.getElem?_eq_getElem h2]
theorem adk_zero (v xs : List Nat) (h : v.length = 16) : adk v xs 0 = v := by
  unfold adk; simp only [Nat.not_lt_zero, if_false]; exact list16 v h
theorem adk_next (v xs : List Nat) (k : Nat) (hk : k < 16) : (adk v xs k).set k (ad (wat v k) (wat xs k)) = adk v xs (k + 1) := by
  apply List.ext_getElem
  · simp [adk]
  · intro i h1 h2
    rw [List.getElem_set]
    simp only [adk, List.getElem_map, List.getElem_range]
    by_cases h : k = i
    · subst h; rw [if_pos rfl, if_pos (by omega)]
    · rw [if_neg h]
      by_cases h3 : i < k
      · rw [if_pos h3, if_pos (by omega)]
      · rw [if_neg h3, if_neg (by omega)]
theorem wcells_size (xs : List Nat) : (wcells xs).size = xs.length := by simp [wcells]
theorem wcells_one (xs : List Nat) : (wcells xs).all (·.oneCell') = true := by
  refine Array.all_eq_true_iff_forall_mem.2 fun v hv => ?_
  simp only [wcells, List.mem_toArray, List.mem_map] at hv
  obtain ⟨x, _, rfl⟩ := hv; rfl
theorem Words.of_row {T : TypeId} {w w' : World} {g : Nat} {xs : List Nat} (h : Words T w g xs) {T' : TypeId} {g' : Nat} (hh : w'.heap[g']? = some (.cells (wcells xs) T' (0, 0))) : Words T' w' g' xs := ⟨hh, h.len, h.small⟩
theorem Words.kept {T : TypeId} {w w' : World} {g : Nat} {xs : List Nat} (h : Words T w g xs) (hb : Below w.heap.size w w') : Words T w' g xs := ⟨block_kept h.heap hb, h.len, h.small⟩
theorem Words.other {T : TypeId} {w w' : World} {g g2 : Nat} {xs : List Nat} (h : Words T w g xs) (ho : Only g2 w w') (hne : g ≠ g2) : Words T w' g xs := ⟨(ho.block g hne).trans h.heap, h.len, h.small⟩
theorem Only.trans {g : Nat} {a b c : World} (h : Only g a b) (k : Only g b c) : Only g a c :=
  ⟨k.os.trans h.os, k.tape.trans h.tape, k.output.trans h.output, k.size.trans h.size, fun i hi => (k.block i hi).trans (h.block i hi)⟩
theorem zeros16 : (#[.int .u32 0, .int .u32 0, .int .u32 0, .int .u32 0, .int .u32 0, .int .u32 0, .int .u32 0, .int .u32 0, .int .u32 0, .int .u32 0, .int .u32 0, .int .u32 0, .int .u32 0, .int .u32 0, .int .u32 0, .int .u32 0] : Array Value).size = 16 := rfl
theorem quarter_q (T : TypeId) (g : Nat) (xs : List Nat) (a b c d : Nat) (A B C D : Int) (hA : A = (a : Int)) (hB : B = (b : Int)) (hC : C = (c : Int)) (hD : D = (d : Int)) (w : World) (ha : a < 16) (hb : b < 16) (hc : c < 16) (hd : d < 16) (hw : Words T w g xs) :
    Calls Tryd.prog 74 #[.pointer (some ⟨g, 0, none⟩), .int .i64 A, .int .i64 B, .int .i64 C, .int .i64 D] w fun e w' => e = .returned (.tuple #[]) ∧ Words T w' g (qr xs a b c d) ∧ Only g w w' := by
  subst hA hB hC hD; exact quarter_any T g xs a b c d w ha hb hc hd hw
attribute [local irreducible] wat ad rot xo stA stR qr dbl dbls adk blk wcells

set_option maxRecDepth 100000 in
set_option maxHeartbeats 4000000 in
theorem block_any (T : TypeId) (g : Nat) (xs : List Nat) (w : World) (hw : Words T w g xs) :
    Calls Tryd.prog 66 #[.pointer (some ⟨g, 0, none⟩)] w fun e w' => e = .returned (.agg (wcells (blk xs))) ∧ Below w.heap.size w w' := by
  have hgl := block_lt hw.heap
  have hsz := wcells_size xs
  rw [hw.len] at hsz
  have hi : (Tryd.prog.info? 81).map (·.size) = some (wcells xs).size := by rw [hsz]; kernel_rfl
  have HI := Kept.mk hi
  have HW := Kept.mk hw
  have H1 := Kept.mk (wcells_one xs)
  clear hi hw
  go_enter Tryd.func66, Tryd.ntmps66
  go_upto_region 1 with fail
  have hz := heap_new w (.cells #[.int .u32 0, .int .u32 0, .int .u32 0, .int .u32 0, .int .u32 0, .int .u32 0, .int .u32 0, .int .u32 0, .int .u32 0, .int .u32 0, .int .u32 0, .int .u32 0, .int .u32 0, .int .u32 0, .int .u32 0, .int .u32 0] 81) w.heap.size rfl
  generalize hW : w.alloc _ = W1 at *
  have hB1 : Below w.heap.size w W1 := by rw [← hW]; exact (Below.refl _ _).alloc (Nat.le_refl _) _
  have hs1 : W1.heap.size = w.heap.size + 1 := by rw [← hW]; simp
  have HB1 := Kept.mk hB1
  have HZ := Kept.mk hz
  have HS1 := Kept.mk hs1
  have HW1 := Kept.mk (HW.out.kept hB1)
  clear hB1 hz hW hs1
  have HO := Kept.mk (show (#[.int .u32 0, .int .u32 0, .int .u32 0, .int .u32 0, .int .u32 0, .int .u32 0, .int .u32 0, .int .u32 0, .int .u32 0, .int .u32 0, .int .u32 0, .int .u32 0, .int .u32 0, .int .u32 0, .int .u32 0, .int .u32 0] : Array Value).size = (wcells xs).size from by rw [hsz]; rfl)
  have HN := Kept.mk (heap_new W1 (.cells #[.int .u32 0, .int .u32 0, .int .u32 0, .int .u32 0, .int .u32 0, .int .u32 0, .int .u32 0, .int .u32 0, .int .u32 0, .int .u32 0, .int .u32 0, .int .u32 0, .int .u32 0, .int .u32 0, .int .u32 0, .int .u32 0] 81) (w.heap.size + 1) HS1.out.symm)
  have hsz1 := HS1.out
  go_upto_region 2 with (first | (with_reducible refine wpList_load_row rfl 81 (.tmp 6) rfl g rfl _ _ _ _ HW1.out.heap Tryd.underlying81 rfl HI.out ?_) | (with_reducible refine wpList_store_row rfl 81 (.tmp 3) (.tmp 7) rfl (w.heap.size + 1) (wcells xs) rfl rfl _ _ HN.out HI.out HO.out H1.out ?_))
  have hv : Words 81 _ (w.heap.size + 1) xs := HW.out.of_row (setRow_heap _ (w.heap.size + 1) _ (wcells xs) _ _ HN.out)
  generalize hW3 : World.setRow _ _ _ = W3 at *
  have hb3 : Below w.heap.size w W3 := by
    rw [← hW3]
    exact below_setRow (HB1.out.alloc (by rw [hsz1]; omega) _) (by omega) _
  have hr3 : W3.heap[w.heap.size]? = some (.cells #[.int .u32 0, .int .u32 0, .int .u32 0, .int .u32 0, .int .u32 0, .int .u32 0, .int .u32 0, .int .u32 0, .int .u32 0, .int .u32 0, .int .u32 0, .int .u32 0, .int .u32 0, .int .u32 0, .int .u32 0, .int .u32 0] 81 (0, 0)) := by
    rw [← hW3, setRow_other _ _ _ _ (by omega)]
    exact block_old HZ.out _
  have HS := Kept.mk (HW.out.kept hb3)
  have HV0 := Kept.mk hv
  have HB3 := Kept.mk hb3
  have HR3 := Kept.mk hr3
  have HO1 := HO
  have HNX := Kept.mk (fun k => dbls_next k xs)
  clear hv hb3 hr3 hW3 HN HW1 HB1 HZ HS1 hsz1 HO
  go_wp2_with fail
  go_loopw [8] (fun i wr => ∃ k : Nat, k ≤ 10 ∧ i = .int .i64 k ∧ Words 81 wr (w.heap.size + 1) (dbls k xs) ∧ Only (w.heap.size + 1) W3 wr) (fun i _ => 10 - (RowKit.intOf i).toNat)
  case atStart => exact ⟨0, by omega, rfl, by rw [dbls_zero]; exact HV0.out, Only.refl _ _⟩
  case round =>
    obtain ⟨k, hk, rfl, hv, ho⟩ := hrel
    have HV := Kept.mk hv
    have HO := Kept.mk ho
    clear hv ho
    by_cases hlt : k < 10
    · have hki : (k : Int) < 10 := by omega
      go_wp2_with fail
      with_reducible refine (quarter_q 81 (w.heap.size + 1) _ 0 4 8 12 0 4 8 12 rfl rfl rfl rfl wr (by decide) (by decide) (by decide) (by decide) HV.out).mono ?_
      rintro e x1 ⟨rfl, hv, ho⟩
      have HV1 := Kept.mk hv
      have HO1 := Kept.mk (HO.out.trans ho)
      clear hv ho HV HO
      go_wp2_with fail
      with_reducible refine (quarter_q 81 (w.heap.size + 1) _ 1 5 9 13 1 5 9 13 rfl rfl rfl rfl x1 (by decide) (by decide) (by decide) (by decide) HV1.out).mono ?_
      rintro e x2 ⟨rfl, hv, ho⟩
      have HV2 := Kept.mk hv
      have HO2 := Kept.mk (HO1.out.trans ho)
      clear hv ho HV1 HO1
      go_wp2_with fail
      with_reducible refine (quarter_q 81 (w.heap.size + 1) _ 2 6 10 14 2 6 10 14 rfl rfl rfl rfl x2 (by decide) (by decide) (by decide) (by decide) HV2.out).mono ?_
      rintro e x3 ⟨rfl, hv, ho⟩
      have HV3 := Kept.mk hv
      have HO3 := Kept.mk (HO2.out.trans ho)
      clear hv ho HV2 HO2
      go_wp2_with fail
      with_reducible refine (quarter_q 81 (w.heap.size + 1) _ 3 7 11 15 3 7 11 15 rfl rfl rfl rfl x3 (by decide) (by decide) (by decide) (by decide) HV3.out).mono ?_
      rintro e x4 ⟨rfl, hv, ho⟩
      have HV4 := Kept.mk hv
      have HO4 := Kept.mk (HO3.out.trans ho)
      clear hv ho HV3 HO3
      go_wp2_with fail
      with_reducible refine (quarter_q 81 (w.heap.size + 1) _ 0 5 10 15 0 5 10 15 rfl rfl rfl rfl x4 (by decide) (by decide) (by decide) (by decide) HV4.out).mono ?_
      rintro e x5 ⟨rfl, hv, ho⟩
      have HV5 := Kept.mk hv
      have HO5 := Kept.mk (HO4.out.trans ho)
      clear hv ho HV4 HO4
      go_wp2_with fail
      with_reducible refine (quarter_q 81 (w.heap.size + 1) _ 1 6 11 12 1 6 11 12 rfl rfl rfl rfl x5 (by decide) (by decide) (by decide) (by decide) HV5.out).mono ?_
      rintro e x6 ⟨rfl, hv, ho⟩
      have HV6 := Kept.mk hv
      have HO6 := Kept.mk (HO5.out.trans ho)
      clear hv ho HV5 HO5
      go_wp2_with fail
      with_reducible refine (quarter_q 81 (w.heap.size + 1) _ 2 7 8 13 2 7 8 13 rfl rfl rfl rfl x6 (by decide) (by decide) (by decide) (by decide) HV6.out).mono ?_
      rintro e x7 ⟨rfl, hv, ho⟩
      have HV7 := Kept.mk hv
      have HO7 := Kept.mk (HO6.out.trans ho)
      clear hv ho HV6 HO6
      go_wp2_with fail
      with_reducible refine (quarter_q 81 (w.heap.size + 1) _ 3 4 9 14 3 4 9 14 rfl rfl rfl rfl x7 (by decide) (by decide) (by decide) (by decide) HV7.out).mono ?_
      rintro e x8 ⟨rfl, hv, ho⟩
      have HV8 := Kept.mk hv
      have HO8 := Kept.mk (HO7.out.trans ho)
      clear hv ho HV7 HO7
      go_wp2_with fail
      refine ⟨⟨k + 1, by omega, by go_num, ?_, HO8.out⟩, by simp [RowKit.intOf]; omega⟩
      rw [← HNX.out k, ← dbl_eq]
      exact HV8.out
    · have hk10 : k = 10 := by omega
      subst hk10
      rw [show (((10 : Nat) : Int)) = 10 from rfl]
      clear HV0
      have hbk := HV.out.len
      have HBK := Kept.mk (show adk (dbls 10 xs) xs 16 = blk xs from by unfold blk; rfl)
      generalize dbls 10 xs = V at *
      go_wp2_with fail
      go_loopw [19] (fun i wr => ∃ k : Nat, k ≤ 16 ∧ i = .int .i64 k ∧ Words 81 wr (w.heap.size + 1) (adk V xs k) ∧ Only (w.heap.size + 1) W3 wr) (fun i _ => 16 - (RowKit.intOf i).toNat)
      case atStart => exact ⟨0, by omega, rfl, by rw [adk_zero V xs hbk]; exact HV.out, HO.out⟩
      case round =>
        clear HV HO
        obtain ⟨k, hk, rfl, hv, ho⟩ := hrel
        by_cases hlt : k < 16
        · have hki : (k : Int) < 16 := by omega
          have hs := HS.out.other ho (by omega)
          have c1 := hv.cell hlt
          have c2 := hs.cell hlt
          have f1 := hv.free k
          have hw1 := wat_adk V xs k k hlt
          rw [if_neg (by omega)] at hw1
          rw [hw1] at c1
          have E := Kept.mk (mod_ad (wat V k) (wat xs k))
          have HF := Kept.mk (show Words 81 _ (w.heap.size + 1) (adk V xs (k + 1)) from by rw [← adk_next V xs k hlt]; exact hv.set hlt (ad_lt (wat V k) (wat xs k)))
          have HOO := Kept.mk ho
          clear hv hs ho hw1
          generalize wat V k = x1 at *
          generalize wat xs k = x2 at *
          go_wp2_with fail
          go_still_tail 10, (by kernel_rfl)
          change wpList _ _ _ _ _ (World.drew _)
          go_wp2
          rw [E.out]
          exact ⟨⟨k + 1, by omega, by go_num, HF.out.drew, (HOO.out.setCell _ _).drew⟩, by simp [RowKit.intOf]; omega⟩
        · have hk16 : k = 16 := by omega
          subst hk16
          rw [HBK.out] at hv
          have HX := Kept.mk hv
          have HRX := Kept.mk ((ho.block w.heap.size (by omega)).trans HR3.out)
          have HBX := Kept.mk (HB3.out.trans (ho.below (by omega)))
          have hlb := hv.len
          have HOB := Kept.mk (show (#[.int .u32 0, .int .u32 0, .int .u32 0, .int .u32 0, .int .u32 0, .int .u32 0, .int .u32 0, .int .u32 0, .int .u32 0, .int .u32 0, .int .u32 0, .int .u32 0, .int .u32 0, .int .u32 0, .int .u32 0, .int .u32 0] : Array Value).size = (wcells (blk xs)).size from by rw [wcells_size, hlb]; rfl)
          have HIB := Kept.mk (show (Tryd.prog.info? 81).map (·.size) = some (wcells (blk xs)).size from by rw [wcells_size, hlb]; kernel_rfl)
          have H1B := Kept.mk (wcells_one (blk xs))
          clear hv ho
          go_wp2_with (first | (with_reducible refine wpList_load_row rfl 81 (.tmp 3) rfl (w.heap.size + 1) rfl _ _ _ _ HX.out.heap Tryd.underlying81 rfl HIB.out ?_) | (with_reducible refine wpList_store_row rfl 81 (.tmp 2) (.tmp 33) rfl w.heap.size (wcells (blk xs)) rfl rfl _ _ HRX.out HIB.out HOB.out H1B.out ?_))
          refine bodyPost_ret (results_cell_row rfl _ _ w.heap.size _ (wcells (blk xs)) (0, 0) _ rfl (setRow_heap _ _ _ _ _ _ HRX.out) Tryd.underlying81 rfl HIB.out) rfl ⟨rfl, ?_⟩
          exact below_setRow HBX.out (Nat.le_refl _) _
end Go.Proofs.YtabeehljpdehcaaDoor
