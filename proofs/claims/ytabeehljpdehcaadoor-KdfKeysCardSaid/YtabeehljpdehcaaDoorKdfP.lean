/- HKDF: any secret and salt have the document's keys: walked by the contracts. -/
import Derived.Test.YtabeehljpdehcaaDoorKdfK
import Derived.Outline
namespace Go.Proofs.YtabeehljpdehcaaDoor
set_option linter.unusedVariables false
set_option linter.unusedSimpArgs false
open Go.RowKit Go.Lib
theorem kVal_eq (secret salt : List UInt8) : kVal secret salt = .agg #[.string (str (kExp (mTag salt secret) kB 32)), .string (str (kExp (mTag salt secret) kG 32)), .string (str (kExp (mTag [] secret) kH 32))] := rfl
attribute [local irreducible] str sSum mXor mPad mKey mTag kT kOut kExp kB kG kH kVal

set_option maxRecDepth 100000 in
set_option maxHeartbeats 2000000 in
theorem kdfKeys_w {w : World} (x : List UInt8) (hx : x.length ≤ 140737488351232) (y : List UInt8) (hy : y.length ≤ 140737488351232) (z : List UInt8) (hz : z.length ≤ 140737488351232) (hk : KAt w) :
    Calls Tryd.prog 10 #[.string (str x), .string (str y), .string (str z)] w fun e w' => e = .returned (.bool true) ∧ Below w.heap.size w w' := by
  go_enter Tryd.func10, Tryd.ntmps10
  go_wp2_with fail
  with_reducible refine (cut_a 500 (by decide) 500 rfl x w hx).mono ?_
  rintro e w1 ⟨rfl, rfl⟩
  have ha : (x.take 500).length ≤ 500 := by rw [List.length_take]; omega
  generalize x.take 500 = a at *
  clear hx
  go_wp2_with fail
  with_reducible refine (cut_a 500 (by decide) 500 rfl y w hy).mono ?_
  rintro e w1 ⟨rfl, rfl⟩
  have hb : (y.take 500).length ≤ 500 := by rw [List.length_take]; omega
  generalize y.take 500 = b at *
  clear hy
  go_wp2_with fail
  with_reducible refine (cut_a 500 (by decide) 500 rfl z w hz).mono ?_
  rintro e w1 ⟨rfl, rfl⟩
  have hc : (z.take 500).length ≤ 500 := by rw [List.length_take]; omega
  generalize z.take 500 = c at *
  clear hz
  go_wp2_with fail
  with_reducible refine (Keys_any a b w hk (by omega) (by omega)).mono ?_
  rintro e w1 ⟨rfl, hb1⟩
  have HB1 := Kept.mk hb1
  have HK1 := Kept.mk (hk.below hb1)
  clear hb1 hk
  go_wp2_with fail
  with_reducible refine (Keys_any a c w1 HK1.out (by omega) (by omega)).mono ?_
  rintro e w2 ⟨rfl, hb2⟩
  have HB2 := Kept.mk (HB1.out.trans (hb2.mono HB1.out.size))
  have HK2 := Kept.mk (HK1.out.below hb2)
  clear hb2 HB1 HK1
  rw [kVal_eq, kVal_eq]
  go_wp2_with fail
  have e1 := kExp_length (mTag b a) kB 32 (by decide)
  have e2 := kExp_length (mTag b a) kG 32 (by decide)
  have e3 := kExp_length (mTag [] a) kH 32 (by decide)
  have HV := Kept.mk (kVal_eq a b)
  generalize kExp (mTag b a) kB 32 = c0 at *
  generalize kExp (mTag b a) kG 32 = c1 at *
  generalize kExp (mTag [] a) kH 32 = c2 at *
  generalize kExp (mTag c a) kB 32 = d0 at *
  generalize kExp (mTag c a) kG 32 = d1 at *
  have s0 := str_size c0
  have s1 := str_size c1
  have s2 := str_size c2
  rw [e1] at s0
  rw [e2] at s1
  rw [e3] at s2
  clear e1 e2 e3
  have hA := heap_new w2 (.cells #[.string (str c0), .string (str c1), .string (str c2)] 36) w2.heap.size rfl
  have hB1 : Below w2.heap.size w2 (w2.alloc (.cells #[.string (str c0), .string (str c1), .string (str c2)] 36)) := (Below.refl _ _).alloc (Nat.le_refl _) _
  have hsz : (w2.alloc (.cells #[.string (str c0), .string (str c1), .string (str c2)] 36)).heap.size = w2.heap.size + 1 := by simp
  generalize w2.alloc (.cells #[.string (str c0), .string (str c1), .string (str c2)] 36) = W1 at *
  have hA2 := block_old hA (.cells #[.string (str d0), .string (str d1), .string (str c2)] 36)
  have hB2 := heap_new W1 (.cells #[.string (str d0), .string (str d1), .string (str c2)] 36) (w2.heap.size + 1) hsz.symm
  have hBW : Below w2.heap.size w2 (W1.alloc (.cells #[.string (str d0), .string (str d1), .string (str c2)] 36)) := hB1.alloc (by rw [hsz]; omega) _
  generalize W1.alloc (.cells #[.string (str d0), .string (str d1), .string (str c2)] 36) = W at *
  clear hA hB1 hsz
  have hg := block_lt hA2
  have hg2 := block_lt hB2
  have HBW := Kept.mk (HB2.out.trans (hBW.mono HB2.out.size))
  have HKW := Kept.mk (HK2.out.below hBW)
  clear hBW HK2 HB2
  generalize w2.heap.size = g at *
  have KEEP := Kept.mk (fun (w' : World) (h : Below W.heap.size W w') => And.intro ((block_kept hA2 h)) (block_kept hB2 h))
  have K2 := Kept.mk (fun (w' : World) (h : Below W.heap.size W w') => three_at (KEEP.out w' h).1)
  have K3 := Kept.mk (fun (w' : World) (h : Below W.heap.size W w') => (three_at (KEEP.out w' h).2).2.2)
  obtain ⟨q0, q1, q2⟩ := K2.out W (Below.refl _ _)
  have q3 := K3.out W (Below.refl _ _)
  have KS := Kept.mk (fun (w' : World) (h : Below W.heap.size W w') => show w'.cell? ⟨g, 0, none⟩ = some (.string (str c0)) ∧ w'.cell? ⟨g, 1, none⟩ = some (.string (str c1)) ∧ w'.cell? ⟨g, 2, none⟩ = some (.string (str c2)) ∧ w'.cell? ⟨g + 1, 2, none⟩ = some (.string (str c2)) ∧ Below W.heap.size W w' from ⟨(K2.out w' h).1, (K2.out w' h).2.1, (K2.out w' h).2.2, K3.out w' h, h⟩)
  clear hA2 hB2 K2 K3 KEEP q0 q1 q2 q3
  clear hg hg2
  as_aux_lemma =>
    go_region_held3 (fun w' => w'.cell? ⟨g, 0, none⟩ = some (.string (str c0)) ∧ w'.cell? ⟨g, 1, none⟩ = some (.string (str c1)) ∧ w'.cell? ⟨g, 2, none⟩ = some (.string (str c2)) ∧ w'.cell? ⟨g + 1, 2, none⟩ = some (.string (str c2)) ∧ Below W.heap.size W w')
      (first
        | exact KS.out _ (below_of_drew ⟨1, rfl⟩)
        | (go_split_ands; exact KS.out _ (Below.trans ‹Below W.heap.size W _› (hb3.mono (Below.size ‹Below W.heap.size W _›)))))
      (first
        | (go_at_call 28; refine (refKeys_any a b _ (by omega) (by omega)).mono ?_; rintro e w3 ⟨rfl, hb3⟩; rw [HV.out])
        | (go_at_call 29; go_split_ands; refine (kdfAwake_any _ (HKW.out.below ‹Below W.heap.size W _›)).mono ?_; rintro e w3 ⟨rfl, hb3⟩))
    all_goals
      go_split_ands
      have HE := Kept.mk (HBW.out.trans ((show Below W.heap.size W _ by assumption).mono HBW.out.size))
      go_wp2_with fail
      go_ret
      exact ⟨rfl, HE.out⟩
end Go.Proofs.YtabeehljpdehcaaDoor
