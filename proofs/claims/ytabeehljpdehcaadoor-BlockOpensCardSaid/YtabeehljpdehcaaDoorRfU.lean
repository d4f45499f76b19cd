/- HMAC by definition: a key's bytes turned; the tag; any text has it: by contracts. -/
import Derived.Test.YtabeehljpdehcaaDoorRfT
namespace Go.Proofs.YtabeehljpdehcaaDoor
set_option linter.unusedVariables false
set_option linter.unusedSimpArgs false
open Go.RowKit Go.Lib
attribute [local irreducible] str sSum mPart mXor Lib.byteCells

set_option maxRecDepth 100000 in
set_option maxHeartbeats 4000000 in
theorem refTurned_any (k : List UInt8) (b : UInt8) (w : World) (hl : k.length ≤ 100000) :
    Calls Tryd.prog 35 #[.string (str k), .int .i64 (b.toNat : Int)] w fun e w' => e = .returned (.string (str (mXor b (mPad (mKey k))))) ∧ Below w.heap.size w w' := by
  have hs := str_size k
  have HCV := Kept.mk (conv_bytes w k)
  have HB := Kept.mk (bg_start w k)
  generalize bytesWorld w 5 (str k) = W0 at *
  generalize grownCap w k.length 0 5 = cap0 at *
  go_enter Tryd.func35, Tryd.ntmps35
  go_wp2_with fail
  rw [HCV.out]
  clear HCV
  go_upto_if 11 with fail
  go_cut [5] from 9 to 14 (fun s5 wx => BG w wx s5 (mKey k))
  case first =>
    by_cases h : 64 < k.length
    · have hi : (64 : Int) < (k.length : Int) := by omega
      have HM := Kept.mk (mKey_long h)
      go_wp2_with fail
      refine (refSum_any k W0 (by omega)).mono ?_
      rintro e w1 ⟨rfl, hb1⟩
      have HB1 := Kept.mk (HB.out.1.trans (hb1.mono HB.out.1.size))
      have HCV := Kept.mk (conv_bytes w1 (sSum k))
      have HG := Kept.mk (bg_start w1 (sSum k))
      clear hb1 HB
      generalize bytesWorld w1 5 (str (sSum k)) = W2 at *
      generalize grownCap w1 (sSum k).length 0 5 = cap2 at *
      go_wp2_with fail
      rw [HCV.out]
      go_wp2_with fail
      go_meet
      rw [HM.out]
      exact HG.out.base HB1.out
    · have hi : ¬ (64 : Int) < (k.length : Int) := by omega
      have HM := Kept.mk (mKey_short (k := k) (by omega))
      go_wp2_with fail
      go_meet
      rw [HM.out]
      exact HB.out
  case rest =>
    clear HB
    have hm := mKey_length k
    have HH := Kept.mk hcut
    clear hcut hs
    generalize hKK : mKey k = K at *
    have HKK := Kept.mk hKK; clear hKK
    have hpl := mPad_length K hm
    have HPD := Kept.mk (show mPad K = K ++ List.replicate (64 - K.length) 0 from rfl)
    go_wp2_with fail
    go_loopw [5] (fun s5 wr => ∃ j : Nat, j ≤ 64 - K.length ∧ BG w wr s5 (K ++ List.replicate j 0)) (fun s5 _ => 64 - lenV s5)
    case atStart => exact ⟨0, by omega, HH.out.is (by simp)⟩
    case round =>
      clear HH
      obtain ⟨j, hj, hb⟩ := hrel
      have hL : (K ++ List.replicate j 0).length = K.length + j := by simp
      by_cases hlt : j < 64 - K.length
      · have HR := Kept.mk (pad_next K j)
        generalize K ++ List.replicate j 0 = L at *
        have hi : (L.length : Int) < 64 := by omega
        obtain ⟨g, cap, rfl, hg, hc, hrow⟩ := hb.row
        have HBG := Kept.mk hb
        clear hb hrow
        go_wp2_with (at_builtin; refine bg_append rfl (.tmp 18) (.tmp 19) rfl (w := w) rfl HBG.out (d := 0) rfl rfl ?_ ?_; omega; intro v' w' ho)
        obtain ⟨g2, cap2, rfl, hg2, hc2, hrow2⟩ := ho.row
        refine ⟨⟨j + 1, by omega, ho.is HR.out⟩, ?_⟩
        simp only [lenV, List.length_append, List.length_singleton]
        omega
      · have hjj : j = 64 - K.length := by omega
        subst hjj
        rw [← HPD.out] at hb hL
        generalize hPP : mPad K = P at *
        have HPP := Kept.mk hPP; clear hPP
        obtain ⟨g, cap, rfl, hg, hc, hrow⟩ := hb.row
        rw [hpl] at hb ⊢
        have HBG := Kept.mk hb
        clear hb hrow hL
        go_wp2_with fail
        go_loopw [6] (fun s6 wr => ∃ i : Nat, i ≤ 64 ∧ s6 = .int .i64 i ∧ BG w wr (.slice (some ⟨g, 0, none⟩) 64 cap) (mPart b P i)) (fun s6 _ => 64 - (RowKit.intOf s6).toNat)
        case atStart => exact ⟨0, by omega, rfl, HBG.out.is (mPart_zero b P).symm⟩
        case round =>
          clear HBG
          obtain ⟨i, hi, rfl, hb⟩ := hrel
          have hml := mPart_length b P i
          by_cases hi64 : i < 64
          · obtain ⟨g2, cap2, he, c0, nf, hset⟩ := hb.place (i := i) (by rw [hml, hpl]; exact hi64)
            rw [hml, hpl] at he
            cases he
            have hget := mPart_get b P i (by omega)
            have hput := mPart_set b P i (by omega)
            have hpi : (mPart b P i)[i]'(by rw [hml, hpl]; exact hi64) = P[i]'(by omega) := by
              apply UInt8.toNat_inj.1
              rw [← hget]
              unfold bth
              rw [List.getD_eq_getElem?_getD, List.getElem?_eq_getElem (by rw [hml, hpl]; exact hi64)]; rfl
            rw [hpi] at c0
            have hx := xor_byte (P[i]'(by omega)) b
            have hst := hset ((P[i]'(by omega)) ^^^ b)
            rw [hput] at hst
            have HST := Kept.mk hst
            have hi2 : (i : Int) < 64 := by omega
            have hr := byte_range ((P[i]'(by omega)) ^^^ b)
            have hr2 := byte_range (P[i]'(by omega))
            clear hst hset hput hget hpi hb
            generalize (P[i]'(by omega)) ^^^ b = y at *
            generalize P[i]'(by omega) = x at *
            go_wp2_with fail
            refine ⟨⟨i + 1, by omega, by go_num, HST.out⟩, by simp [RowKit.intOf]; omega⟩
          · have h64 : i = 64 := by omega
            subst h64
            rw [mPart_all b P 64 (by omega)] at hb
            have hcv := hb.string
            have HBB := Kept.mk hb.1
            clear hb
            go_wp2_with fail
            go_ret
            refine ⟨?_, HBB.out⟩
            rw [HKK.out, HPP.out]
            rfl
end Go.Proofs.YtabeehljpdehcaaDoor
