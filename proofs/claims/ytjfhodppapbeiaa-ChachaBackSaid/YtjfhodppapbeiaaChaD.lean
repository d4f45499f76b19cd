/- ChaCha's quarter round undone in memory, by a contract. -/
import Derived.Test.YtjfhodppapbeiaaChaC
namespace Go.Proofs.Ytjfhodppapbeiaa
set_option linter.unusedVariables false
open Go.RowKit Go.Lib

def stS (xs : List Nat) (a b : Nat) : List Nat := xs.set a (su (wat xs a) (wat xs b))
def stB (xs : List Nat) (d a n : Nat) : List Nat := xs.set d (xo (rot (wat xs d) n) (wat xs a))
theorem mod_su (x y : Nat) (hx : x < 4294967296) (hy : y < 4294967296) : ((x : Int) - (y : Int)) % 4294967296 = ((su x y : Nat) : Int) := by unfold su; omega
attribute [local irreducible] wat su rot xo stS stB

set_option maxRecDepth 100000 in
set_option maxHeartbeats 4000000 in
theorem qback_any (T : TypeId) (g : Nat) (xs : List Nat) (a b c d : Nat) (w : World) (ha : a < 16) (hb : b < 16) (hc : c < 16) (hd : d < 16) (hw : Words T w g xs) :
    Calls Try.prog 20 #[.pointer (some ⟨g, 0, none⟩), .int .i64 (a : Int), .int .i64 (b : Int), .int .i64 (c : Int), .int .i64 (d : Int)] w fun e w' => e = .returned (.tuple #[]) ∧
      Words T w' g (stS (stB (stS (stB (stS (stB (stS (stB xs b c 25) c d) d a 24) a b) b c 20) c d) d a 16) a b) ∧ Only g w w' := by
  have ia : (a : Int) < 16 := by omega
  have ib : (b : Int) < 16 := by omega
  have ic : (c : Int) < 16 := by omega
  have id' : (d : Int) < 16 := by omega
  obtain ⟨w0, hw0⟩ : ∃ w0 : World, w0 = w := ⟨w, rfl⟩
  have ho : Only g w0 w := by rw [hw0]; exact Only.refl g w
  have HW0 := Kept.mk hw0; clear hw0
  go_enter Try.func20, Try.ntmps20
  go_upto_region 0 with fail
  go_cut [] (fun wx => Words T wx g (stB xs b c 25) ∧ Only g w0 wx)
  case first =>
    have c1 := hw.cell hb
    have c2 := hw.cell hc
    have f1 := hw.free b
    have s1 := hw.small b hb
    have s2 := hw.small c hc
    have HF := Kept.mk (fun k : Nat => show Words T _ g (stB xs b c 25) from by unfold stB; exact (hw.drewN k).set hb (xo_lt (rot_lt (wat xs b) 25 s1 (by omega)) s2))
    have ex := xor_u32 _ _ (rot_lt (wat xs b) 25 s1 (by omega)) s2
    generalize wat xs b = x1 at *
    generalize wat xs c = x2 at *
    go_region_with (go_at_call 27; refine (rotl_any _ 25 _ s1 (by omega) (by omega)).mono ?_; rintro e w1 ⟨rfl, k, rfl⟩)
    all_goals
      go_wp2_with fail
      first | go_meet | skip
      exact ⟨HF.out _, (ho.drewN _).setCell _ _⟩
  case rest =>
    obtain ⟨hw', ho'⟩ := hcut
    clear hw ho
    have hw := hw'; clear hw'
    have ho := ho'; clear ho'
    generalize hq0 : (stB xs b c 25) = ys0 at *
    have HQ0 := Kept.mk hq0; clear hq0
    go_upto_region 1 with fail
    go_cut [] (fun wx => Words T wx g (stS ys0 c d) ∧ Only g w0 wx)
    case first =>
      have c1 := hw.cell hc
      have c2 := hw.cell hd
      have f1 := hw.free c
      have s1 := hw.small c hc
      have s2 := hw.small d hd
      have E := Kept.mk (mod_su (wat ys0 c) (wat ys0 d) s1 s2)
      have HF := Kept.mk (show Words T _ g (stS ys0 c d) from by unfold stS; exact hw.set hc (su_lt (wat ys0 c) (wat ys0 d)))
      clear s1 s2
      generalize wat ys0 c = x1 at *
      generalize wat ys0 d = x2 at *
      go_still_tail 13, (by kernel_rfl)
      change wpList _ _ _ _ _ (World.drew _)
      go_wp2
      go_meet
      rw [E.out]
      exact ⟨HF.out.drew, (ho.setCell _ _).drew⟩
    case rest =>
      obtain ⟨hw', ho'⟩ := hcut
      clear hw ho
      have hw := hw'; clear hw'
      have ho := ho'; clear ho'
      generalize hq1 : (stS ys0 c d) = ys1 at *
      have HQ1 := Kept.mk hq1; clear hq1
      go_upto_region 2 with fail
      go_cut [] (fun wx => Words T wx g (stB ys1 d a 24) ∧ Only g w0 wx)
      case first =>
        have c1 := hw.cell hd
        have c2 := hw.cell ha
        have f1 := hw.free d
        have s1 := hw.small d hd
        have s2 := hw.small a ha
        have HF := Kept.mk (fun k : Nat => show Words T _ g (stB ys1 d a 24) from by unfold stB; exact (hw.drewN k).set hd (xo_lt (rot_lt (wat ys1 d) 24 s1 (by omega)) s2))
        have ex := xor_u32 _ _ (rot_lt (wat ys1 d) 24 s1 (by omega)) s2
        generalize wat ys1 d = x1 at *
        generalize wat ys1 a = x2 at *
        go_region_with (go_at_call 27; refine (rotl_any _ 24 _ s1 (by omega) (by omega)).mono ?_; rintro e w1 ⟨rfl, k, rfl⟩)
        all_goals
          go_wp2_with fail
          first | go_meet | skip
          exact ⟨HF.out _, (ho.drewN _).setCell _ _⟩
      case rest =>
        obtain ⟨hw', ho'⟩ := hcut
        clear hw ho
        have hw := hw'; clear hw'
        have ho := ho'; clear ho'
        generalize hq2 : (stB ys1 d a 24) = ys2 at *
        have HQ2 := Kept.mk hq2; clear hq2
        go_upto_region 3 with fail
        go_cut [] (fun wx => Words T wx g (stS ys2 a b) ∧ Only g w0 wx)
        case first =>
          have c1 := hw.cell ha
          have c2 := hw.cell hb
          have f1 := hw.free a
          have s1 := hw.small a ha
          have s2 := hw.small b hb
          have E := Kept.mk (mod_su (wat ys2 a) (wat ys2 b) s1 s2)
          have HF := Kept.mk (show Words T _ g (stS ys2 a b) from by unfold stS; exact hw.set ha (su_lt (wat ys2 a) (wat ys2 b)))
          clear s1 s2
          generalize wat ys2 a = x1 at *
          generalize wat ys2 b = x2 at *
          go_still_tail 13, (by kernel_rfl)
          change wpList _ _ _ _ _ (World.drew _)
          go_wp2
          go_meet
          rw [E.out]
          exact ⟨HF.out.drew, (ho.setCell _ _).drew⟩
        case rest =>
          obtain ⟨hw', ho'⟩ := hcut
          clear hw ho
          have hw := hw'; clear hw'
          have ho := ho'; clear ho'
          generalize hq3 : (stS ys2 a b) = ys3 at *
          have HQ3 := Kept.mk hq3; clear hq3
          go_upto_region 4 with fail
          go_cut [] (fun wx => Words T wx g (stB ys3 b c 20) ∧ Only g w0 wx)
          case first =>
            have c1 := hw.cell hb
            have c2 := hw.cell hc
            have f1 := hw.free b
            have s1 := hw.small b hb
            have s2 := hw.small c hc
            have HF := Kept.mk (fun k : Nat => show Words T _ g (stB ys3 b c 20) from by unfold stB; exact (hw.drewN k).set hb (xo_lt (rot_lt (wat ys3 b) 20 s1 (by omega)) s2))
            have ex := xor_u32 _ _ (rot_lt (wat ys3 b) 20 s1 (by omega)) s2
            generalize wat ys3 b = x1 at *
            generalize wat ys3 c = x2 at *
            go_region_with (go_at_call 27; refine (rotl_any _ 20 _ s1 (by omega) (by omega)).mono ?_; rintro e w1 ⟨rfl, k, rfl⟩)
            all_goals
              go_wp2_with fail
              first | go_meet | skip
              exact ⟨HF.out _, (ho.drewN _).setCell _ _⟩
          case rest =>
            obtain ⟨hw', ho'⟩ := hcut
            clear hw ho
            have hw := hw'; clear hw'
            have ho := ho'; clear ho'
            generalize hq4 : (stB ys3 b c 20) = ys4 at *
            have HQ4 := Kept.mk hq4; clear hq4
            go_upto_region 5 with fail
            go_cut [] (fun wx => Words T wx g (stS ys4 c d) ∧ Only g w0 wx)
            case first =>
              have c1 := hw.cell hc
              have c2 := hw.cell hd
              have f1 := hw.free c
              have s1 := hw.small c hc
              have s2 := hw.small d hd
              have E := Kept.mk (mod_su (wat ys4 c) (wat ys4 d) s1 s2)
              have HF := Kept.mk (show Words T _ g (stS ys4 c d) from by unfold stS; exact hw.set hc (su_lt (wat ys4 c) (wat ys4 d)))
              clear s1 s2
              generalize wat ys4 c = x1 at *
              generalize wat ys4 d = x2 at *
              go_still_tail 13, (by kernel_rfl)
              change wpList _ _ _ _ _ (World.drew _)
              go_wp2
              go_meet
              rw [E.out]
              exact ⟨HF.out.drew, (ho.setCell _ _).drew⟩
            case rest =>
              obtain ⟨hw', ho'⟩ := hcut
              clear hw ho
              have hw := hw'; clear hw'
              have ho := ho'; clear ho'
              generalize hq5 : (stS ys4 c d) = ys5 at *
              have HQ5 := Kept.mk hq5; clear hq5
              go_upto_region 6 with fail
              go_cut [] (fun wx => Words T wx g (stB ys5 d a 16) ∧ Only g w0 wx)
              case first =>
                have c1 := hw.cell hd
                have c2 := hw.cell ha
                have f1 := hw.free d
                have s1 := hw.small d hd
                have s2 := hw.small a ha
                have HF := Kept.mk (fun k : Nat => show Words T _ g (stB ys5 d a 16) from by unfold stB; exact (hw.drewN k).set hd (xo_lt (rot_lt (wat ys5 d) 16 s1 (by omega)) s2))
                have ex := xor_u32 _ _ (rot_lt (wat ys5 d) 16 s1 (by omega)) s2
                generalize wat ys5 d = x1 at *
                generalize wat ys5 a = x2 at *
                go_region_with (go_at_call 27; refine (rotl_any _ 16 _ s1 (by omega) (by omega)).mono ?_; rintro e w1 ⟨rfl, k, rfl⟩)
                all_goals
                  go_wp2_with fail
                  first | go_meet | skip
                  exact ⟨HF.out _, (ho.drewN _).setCell _ _⟩
              case rest =>
                obtain ⟨hw', ho'⟩ := hcut
                clear hw ho
                have hw := hw'; clear hw'
                have ho := ho'; clear ho'
                generalize hq6 : (stB ys5 d a 16) = ys6 at *
                have HQ6 := Kept.mk hq6; clear hq6
                go_upto_region 7 with fail
                have c1 := hw.cell ha
                have c2 := hw.cell hb
                have f1 := hw.free a
                have s1 := hw.small a ha
                have s2 := hw.small b hb
                have E := Kept.mk (mod_su (wat ys6 a) (wat ys6 b) s1 s2)
                have HF := Kept.mk (show Words T _ g (stS ys6 a b) from by unfold stS; exact hw.set ha (su_lt (wat ys6 a) (wat ys6 b)))
                clear s1 s2
                generalize wat ys6 a = x1 at *
                generalize wat ys6 b = x2 at *
                go_still_tail 13, (by kernel_rfl)
                change wpList _ _ _ _ _ (World.drew _)
                go_wp2
                go_end0
                rw [E.out, HQ0.out, HQ1.out, HQ2.out, HQ3.out, HQ4.out, HQ5.out, HQ6.out, ← HW0.out]
                exact ⟨rfl, HF.out.drew, (ho.setCell _ _).drew⟩
end Go.Proofs.Ytjfhodppapbeiaa
