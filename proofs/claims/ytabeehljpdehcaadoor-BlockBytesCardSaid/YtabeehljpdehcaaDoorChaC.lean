/- ChaCha's quarter round in memory, by a contract. -/
import Derived.Test.YtabeehljpdehcaaDoorChaB
import Derived.Deep.RegionWith
namespace Go.Proofs.YtabeehljpdehcaaDoor
set_option linter.unusedVariables false
open Go.RowKit Go.Lib

def wcells (xs : List Nat) : Array Value := (xs.map fun x : Nat => Value.int .u32 (x : Int)).toArray
def wat (xs : List Nat) (i : Nat) : Nat := xs.getD i 0
structure Words (T : TypeId) (w : World) (g : Nat) (xs : List Nat) : Prop where
  heap : w.heap[g]? = some (.cells (wcells xs) T (0, 0))
  len : xs.length = 16
  small : ∀ i, i < 16 → wat xs i < 4294967296
structure Only (g : Nat) (w w' : World) : Prop where
  os : w'.os = w.os
  tape : w'.tape = w.tape
  output : w'.output = w.output
  size : w'.heap.size = w.heap.size
  block : ∀ k, k ≠ g → w'.heap[k]? = w.heap[k]?
theorem Only.refl (g : Nat) (w : World) : Only g w w := ⟨rfl, rfl, rfl, rfl, fun _ _ => rfl⟩
theorem Only.drew {g : Nat} {w w' : World} (h : Only g w w') : Only g w w'.drew := ⟨h.os, h.tape, h.output, h.size, h.block⟩
theorem Only.drewN {g : Nat} {w w' : World} (h : Only g w w') (n : Nat) : Only g w (w'.drewN n) := ⟨h.os, h.tape, h.output, h.size, h.block⟩
theorem Only.setCell {g : Nat} {w w' : World} (h : Only g w w') (j : Nat) (v : Value) : Only g w (w'.setCell ⟨g, j, none⟩ v) :=
  ⟨h.os, h.tape, h.output, by rw [← h.size]; simp [World.setCell], fun k hk => (Below.heap_setCell w' ⟨g, j, none⟩ v k hk).trans (h.block k hk)⟩
theorem Only.below {g : Nat} {w w' : World} (h : Only g w w') {B : Nat} (hB : B ≤ g) : Below B w w' :=
  ⟨h.os, h.tape, h.output, Nat.le_of_eq h.size.symm, fun k hk => h.block k (by omega)⟩
theorem Words.cell {T : TypeId} {w : World} {g : Nat} {xs : List Nat} (h : Words T w g xs) {i : Nat} (hi : i < 16) : w.cell? ⟨g, i, none⟩ = some (.int .u32 ((wat xs i : Nat) : Int)) := by
  unfold wat
  rw [Joins.cell_of_block h.heap i]
  have hl := h.len
  simp only [wcells, List.getElem?_toArray, List.getElem?_map]
  rw [List.getD_eq_getElem?_getD, List.getElem?_eq_getElem (by omega)]
  rfl
theorem Words.free {T : TypeId} {w : World} {g : Nat} {xs : List Nat} (h : Words T w g xs) (i : Nat) : w.frozen? ⟨g, i, none⟩ = false := Joins.unfrozen_of_block h.heap i
theorem Words.drewN {T : TypeId} {w : World} {g : Nat} {xs : List Nat} (h : Words T w g xs) (n : Nat) : Words T (w.drewN n) g xs := ⟨h.heap, h.len, h.small⟩
theorem Words.drew {T : TypeId} {w : World} {g : Nat} {xs : List Nat} (h : Words T w g xs) : Words T w.drew g xs := ⟨h.heap, h.len, h.small⟩
theorem Words.set {T : TypeId} {w : World} {g : Nat} {xs : List Nat} (h : Words T w g xs) {i : Nat} (hi : i < 16) {x : Nat} (hx : x < 4294967296) : Words T (w.setCell ⟨g, i, none⟩ (.int .u32 (x : Int))) g (xs.set i x) := by
  have hl := h.len
  refine ⟨?_, by simpa using h.len, fun j hj => ?_⟩
  · rw [Joins.block_setCell h.heap]
    congr 2
    simp [wcells, List.map_set]
  · unfold wat
    rw [List.getD_eq_getElem?_getD, List.getElem?_set]
    split
    · rw [if_pos (by omega)]; exact hx
    · have := h.small j hj
      unfold wat at this
      rwa [List.getD_eq_getElem?_getD] at this

/-- the two steps of a quarter round -/
def stA (xs : List Nat) (a b : Nat) : List Nat := xs.set a (ad (wat xs a) (wat xs b))
def stR (xs : List Nat) (d a n : Nat) : List Nat := xs.set d (rot (xo (wat xs d) (wat xs a)) n)

theorem wrap_ad (x y : Nat) : IntKind.u32.wrap ((x : Int) + (y : Int)) = ((ad x y : Nat) : Int) := by
  rw [IntKind.wrap_u32]; unfold ad; omega
theorem mod_ad (x y : Nat) : ((x : Int) + (y : Int)) % 4294967296 = ((ad x y : Nat) : Int) := by unfold ad; omega
theorem Words.below16 {i : Nat} (h : i < 16) : (i : Int) < 16 := by omega
attribute [local irreducible] wat ad rot xo stA stR

set_option maxRecDepth 100000 in
set_option maxHeartbeats 4000000 in
theorem quarter_any (T : TypeId) (g : Nat) (xs : List Nat) (a b c d : Nat) (w : World) (ha : a < 16) (hb : b < 16) (hc : c < 16) (hd : d < 16) (hw : Words T w g xs) :
    Calls Tryd.prog 74 #[.pointer (some ⟨g, 0, none⟩), .int .i64 (a : Int), .int .i64 (b : Int), .int .i64 (c : Int), .int .i64 (d : Int)] w fun e w' => e = .returned (.tuple #[]) ∧
      Words T w' g (stR (stA (stR (stA (stR (stA (stR (stA xs a b) d a 16) c d) b c 12) a b) d a 8) c d) b c 7) ∧ Only g w w' := by
  have ia : (a : Int) < 16 := by omega
  have ib : (b : Int) < 16 := by omega
  have ic : (c : Int) < 16 := by omega
  have id' : (d : Int) < 16 := by omega
  obtain ⟨w0, hw0⟩ : ∃ w0 : World, w0 = w := ⟨w, rfl⟩
  have ho : Only g w0 w := by rw [hw0]; exact Only.refl g w
  have HW0 := Kept.mk hw0; clear hw0
  go_enter Tryd.func74, Tryd.ntmps74
  go_upto_region 0 with fail
  go_cut [] (fun wx => Words T wx g (stA xs a b) ∧ Only g w0 wx)
  case first =>
    have c1 := hw.cell ha
    have c2 := hw.cell hb
    have f1 := hw.free a
    have s1 := hw.small a ha
    have s2 := hw.small b hb
    have E := Kept.mk (mod_ad (wat xs a) (wat xs b))
    have HF := Kept.mk (show Words T _ g (stA xs a b) from by unfold stA; exact hw.set ha (ad_lt (wat xs a) (wat xs b)))
    clear s1 s2
    generalize wat xs a = x1 at *
    generalize wat xs b = x2 at *
    go_still_tail 13, (by kernel_rfl)
    change wpList _ _ _ _ _ (World.drew _)
    go_wp2
    go_meet
    rw [E.out]
    exact ⟨HF.out.drew, (ho.setCell _ _).drew⟩
  case rest =>
    obtain ⟨hw', ho'⟩ := hcut
    clear hw ho
    have hw := hw'; clear hw'
    have ho := ho'; clear ho'
    generalize hq0 : (stA xs a b) = ys0 at *
    have HQ0 := Kept.mk hq0; clear hq0
    go_upto_region 1 with fail
    go_cut [] (fun wx => Words T wx g (stR ys0 d a 16) ∧ Only g w0 wx)
    case first =>
      have c1 := hw.cell hd
      have c2 := hw.cell ha
      have f1 := hw.free d
      have s1 := hw.small d hd
      have s2 := hw.small a ha
      have HF := Kept.mk (fun k : Nat => show Words T _ g (stR ys0 d a 16) from by unfold stR; exact (hw.drewN k).set hd (rot_lt (xo (wat ys0 d) (wat ys0 a)) 16 (xo_lt s1 s2) (by omega)))
      have sx := xo_lt s1 s2
      have ex := xor_u32 _ _ s1 s2
      generalize wat ys0 d = x1 at *
      generalize wat ys0 a = x2 at *
      go_region_with (go_at_call 78; refine (rotl_any _ 16 _ sx (by omega) (by omega)).mono ?_; rintro e w1 ⟨rfl, k, rfl⟩)
      all_goals
        go_wp2_with fail
        first | go_meet | skip
        exact ⟨HF.out _, (ho.drewN _).setCell _ _⟩
    case rest =>
      obtain ⟨hw', ho'⟩ := hcut
      clear hw ho
      have hw := hw'; clear hw'
      have ho := ho'; clear ho'
      generalize hq1 : (stR ys0 d a 16) = ys1 at *
      have HQ1 := Kept.mk hq1; clear hq1
      go_upto_region 2 with fail
      go_cut [] (fun wx => Words T wx g (stA ys1 c d) ∧ Only g w0 wx)
      case first =>
        have c1 := hw.cell hc
        have c2 := hw.cell hd
        have f1 := hw.free c
        have s1 := hw.small c hc
        have s2 := hw.small d hd
        have E := Kept.mk (mod_ad (wat ys1 c) (wat ys1 d))
        have HF := Kept.mk (show Words T _ g (stA ys1 c d) from by unfold stA; exact hw.set hc (ad_lt (wat ys1 c) (wat ys1 d)))
        clear s1 s2
        generalize wat ys1 c = x1 at *
        generalize wat ys1 d = x2 at *
        go_still_tail 13, (by kernel_rfl)
        change wpList _ _ _ _ _ (World.drew _)
        go_wp2
        go_meet
        rw [E.out]
        exact ⟨HF.out.drew, (ho.setCell _ _).drew⟩
      case rest =>
        obtain ⟨hw', ho'⟩ := hcut
        clear hw ho
        have hw := hw'; clear hw'
        have ho := ho'; clear ho'
        generalize hq2 : (stA ys1 c d) = ys2 at *
        have HQ2 := Kept.mk hq2; clear hq2
        go_upto_region 3 with fail
        go_cut [] (fun wx => Words T wx g (stR ys2 b c 12) ∧ Only g w0 wx)
        case first =>
          have c1 := hw.cell hb
          have c2 := hw.cell hc
          have f1 := hw.free b
          have s1 := hw.small b hb
          have s2 := hw.small c hc
          have HF := Kept.mk (fun k : Nat => show Words T _ g (stR ys2 b c 12) from by unfold stR; exact (hw.drewN k).set hb (rot_lt (xo (wat ys2 b) (wat ys2 c)) 12 (xo_lt s1 s2) (by omega)))
          have sx := xo_lt s1 s2
          have ex := xor_u32 _ _ s1 s2
          generalize wat ys2 b = x1 at *
          generalize wat ys2 c = x2 at *
          go_region_with (go_at_call 78; refine (rotl_any _ 12 _ sx (by omega) (by omega)).mono ?_; rintro e w1 ⟨rfl, k, rfl⟩)
          all_goals
            go_wp2_with fail
            first | go_meet | skip
            exact ⟨HF.out _, (ho.drewN _).setCell _ _⟩
        case rest =>
          obtain ⟨hw', ho'⟩ := hcut
          clear hw ho
          have hw := hw'; clear hw'
          have ho := ho'; clear ho'
          generalize hq3 : (stR ys2 b c 12) = ys3 at *
          have HQ3 := Kept.mk hq3; clear hq3
          go_upto_region 4 with fail
          go_cut [] (fun wx => Words T wx g (stA ys3 a b) ∧ Only g w0 wx)
          case first =>
            have c1 := hw.cell ha
            have c2 := hw.cell hb
            have f1 := hw.free a
            have s1 := hw.small a ha
            have s2 := hw.small b hb
            have E := Kept.mk (mod_ad (wat ys3 a) (wat ys3 b))
            have HF := Kept.mk (show Words T _ g (stA ys3 a b) from by unfold stA; exact hw.set ha (ad_lt (wat ys3 a) (wat ys3 b)))
            clear s1 s2
            generalize wat ys3 a = x1 at *
            generalize wat ys3 b = x2 at *
            go_still_tail 13, (by kernel_rfl)
            change wpList _ _ _ _ _ (World.drew _)
            go_wp2
            go_meet
            rw [E.out]
            exact ⟨HF.out.drew, (ho.setCell _ _).drew⟩
          case rest =>
            obtain ⟨hw', ho'⟩ := hcut
            clear hw ho
            have hw := hw'; clear hw'
            have ho := ho'; clear ho'
            generalize hq4 : (stA ys3 a b) = ys4 at *
            have HQ4 := Kept.mk hq4; clear hq4
            go_upto_region 5 with fail
            go_cut [] (fun wx => Words T wx g (stR ys4 d a 8) ∧ Only g w0 wx)
            case first =>
              have c1 := hw.cell hd
              have c2 := hw.cell ha
              have f1 := hw.free d
              have s1 := hw.small d hd
              have s2 := hw.small a ha
              have HF := Kept.mk (fun k : Nat => show Words T _ g (stR ys4 d a 8) from by unfold stR; exact (hw.drewN k).set hd (rot_lt (xo (wat ys4 d) (wat ys4 a)) 8 (xo_lt s1 s2) (by omega)))
              have sx := xo_lt s1 s2
              have ex := xor_u32 _ _ s1 s2
              generalize wat ys4 d = x1 at *
              generalize wat ys4 a = x2 at *
              go_region_with (go_at_call 78; refine (rotl_any _ 8 _ sx (by omega) (by omega)).mono ?_; rintro e w1 ⟨rfl, k, rfl⟩)
              all_goals
                go_wp2_with fail
                first | go_meet | skip
                exact ⟨HF.out _, (ho.drewN _).setCell _ _⟩
            case rest =>
              obtain ⟨hw', ho'⟩ := hcut
              clear hw ho
              have hw := hw'; clear hw'
              have ho := ho'; clear ho'
              generalize hq5 : (stR ys4 d a 8) = ys5 at *
              have HQ5 := Kept.mk hq5; clear hq5
              go_upto_region 6 with fail
              go_cut [] (fun wx => Words T wx g (stA ys5 c d) ∧ Only g w0 wx)
              case first =>
                have c1 := hw.cell hc
                have c2 := hw.cell hd
                have f1 := hw.free c
                have s1 := hw.small c hc
                have s2 := hw.small d hd
                have E := Kept.mk (mod_ad (wat ys5 c) (wat ys5 d))
                have HF := Kept.mk (show Words T _ g (stA ys5 c d) from by unfold stA; exact hw.set hc (ad_lt (wat ys5 c) (wat ys5 d)))
                clear s1 s2
                generalize wat ys5 c = x1 at *
                generalize wat ys5 d = x2 at *
                go_still_tail 13, (by kernel_rfl)
                change wpList _ _ _ _ _ (World.drew _)
                go_wp2
                go_meet
                rw [E.out]
                exact ⟨HF.out.drew, (ho.setCell _ _).drew⟩
              case rest =>
                obtain ⟨hw', ho'⟩ := hcut
                clear hw ho
                have hw := hw'; clear hw'
                have ho := ho'; clear ho'
                generalize hq6 : (stA ys5 c d) = ys6 at *
                have HQ6 := Kept.mk hq6; clear hq6
                go_upto_region 7 with fail
                have c1 := hw.cell hb
                have c2 := hw.cell hc
                have f1 := hw.free b
                have s1 := hw.small b hb
                have s2 := hw.small c hc
                have HF := Kept.mk (fun k : Nat => show Words T _ g (stR ys6 b c 7) from by unfold stR; exact (hw.drewN k).set hb (rot_lt (xo (wat ys6 b) (wat ys6 c)) 7 (xo_lt s1 s2) (by omega)))
                have sx := xo_lt s1 s2
                have ex := xor_u32 _ _ s1 s2
                generalize wat ys6 b = x1 at *
                generalize wat ys6 c = x2 at *
                go_region_with (go_at_call 78; refine (rotl_any _ 7 _ sx (by omega) (by omega)).mono ?_; rintro e w1 ⟨rfl, k, rfl⟩)
                all_goals
                  go_wp2_with fail
                  go_end0
                  rw [HQ0.out, HQ1.out, HQ2.out, HQ3.out, HQ4.out, HQ5.out, HQ6.out, ← HW0.out]
                  exact ⟨rfl, HF.out _, (ho.drewN _).setCell _ _⟩
end Go.Proofs.YtabeehljpdehcaaDoor
