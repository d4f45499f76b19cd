/- HKDF: the keys of an archive: walked by the contracts. -/
import Derived.Test.YtabeehljpdehcaaDoorKdfL
import Derived.Deep.RegionHeld3
namespace Go.Proofs.YtabeehljpdehcaaDoor
set_option linter.unusedVariables false
set_option linter.unusedSimpArgs false
open Go.RowKit Go.Lib
def kB : List UInt8 := [115, 108, 101, 100, 103, 101, 32, 98, 121, 116, 101, 115]
def kG : List UInt8 := [115, 108, 101, 100, 103, 101, 32, 116, 97, 103, 115]
def kH : List UInt8 := [115, 108, 101, 100, 103, 101, 32, 104, 101, 97, 100, 115]
theorem three_cells (W : World) (g : Nat) (T : TypeId) (c0 c1 c2 a0 a1 a2 : Value) (h : W.heap[g]? = some (.cells #[c0, c1, c2] T (0, 0))) :
    (((W.setCell ⟨g, 0, none⟩ a0).setCell ⟨g, 1, none⟩ a1).setCell ⟨g, 2, none⟩ a2).heap[g]? = some (.cells #[a0, a1, a2] T (0, 0)) := by
  have h0 := Joins.block_setCell (i := 0) h a0
  have h1 := Joins.block_setCell (i := 1) h0 a1
  have h2 := Joins.block_setCell (i := 2) h1 a2
  exact h2
theorem three_at {X : World} {g : Nat} {T : TypeId} {a0 a1 a2 : Value} (h : X.heap[g]? = some (.cells #[a0, a1, a2] T (0, 0))) :
    X.cell? ⟨g, 0, none⟩ = some a0 ∧ X.cell? ⟨g, 1, none⟩ = some a1 ∧ X.cell? ⟨g, 2, none⟩ = some a2 :=
  ⟨Joins.cell_of_block h 0, Joins.cell_of_block h 1, Joins.cell_of_block h 2⟩
theorem three_free {X : World} {g : Nat} {T : TypeId} {a0 a1 a2 : Value} (h : X.heap[g]? = some (.cells #[a0, a1, a2] T (0, 0))) :
    X.frozen? ⟨g, 0, none⟩ = false ∧ X.frozen? ⟨g, 1, none⟩ = false ∧ X.frozen? ⟨g, 2, none⟩ = false :=
  ⟨Joins.unfrozen_of_block h 0, Joins.unfrozen_of_block h 1, Joins.unfrozen_of_block h 2⟩
theorem keys_end {R : Ending → World → Prop} {a : Act} {X : World} {g : Nat} {c0 c1 c2 : Value} (h4 : a.tmps.getD 4 undef = .pointer (some ⟨g, 0, none⟩)) (hd : a.defers = [])
    (hX : X.heap[g]? = some (.cells #[c0, c1, c2] 36 (0, 0))) (hR : R (.returned (.agg #[c0, c1, c2])) X) : bodyPost Tryd.prog Tryd.f27 R .ret a X := by
  obtain ⟨y0, y1, y2⟩ := three_at hX
  have h4' : a.tmps[4]?.getD undef = .pointer (some ⟨g, 0, none⟩) := by rw [← h4]; simp
  exact bodyPost_ret (v := .agg #[c0, c1, c2]) (by simp [results, Tryd.results27, h4', go_sem, y0, y1, y2]) hd hR
theorem refKeys_end {R : Ending → World → Prop} {a : Act} {X : World} {g : Nat} {c0 c1 c2 : Value} (h4 : a.tmps.getD 4 undef = .pointer (some ⟨g, 0, none⟩)) (hd : a.defers = [])
    (hX : X.heap[g]? = some (.cells #[c0, c1, c2] 36 (0, 0))) (hR : R (.returned (.agg #[c0, c1, c2])) X) : bodyPost Tryd.prog Tryd.f28 R .ret a X := by
  obtain ⟨y0, y1, y2⟩ := three_at hX
  have h4' : a.tmps[4]?.getD undef = .pointer (some ⟨g, 0, none⟩) := by rw [← h4]; simp
  exact bodyPost_ret (v := .agg #[c0, c1, c2]) (by simp [results, Tryd.results28, h4', go_sem, y0, y1, y2]) hd hR
theorem kExpand_32 (key info : List UInt8) (w : World) (hk : KAt w) (hkl : key.length ≤ 100000) (hil : info.length ≤ 100000) :
    Calls Tryd.prog 48 #[.string (str key), .string (str info), .int .i64 32] w fun e w' => e = .returned (.tuple #[.string (str (kExp key info 32)), .int .i64 0]) ∧ Below w.heap.size w w' :=
  kExpand_any key info 32 w hk (by decide) (by omega) (by omega)

section
attribute [local irreducible] str sSum mXor mPad mKey mTag kT kOut kExp kB kG kH
set_option maxRecDepth 100000 in
theorem purpose_any (info key : List UInt8) (w : World) (hk : KAt w) (hkl : key.length ≤ 100000) (hil : info.length ≤ 100000) :
    Calls Tryd.prog 46 #[.string (str info), .string (str key)] w fun e w' => e = .returned (.string (str (kExp key info 32))) ∧ Below w.heap.size w w' := by
  go_enter Tryd.func46, Tryd.ntmps46
  go_wp2_with fail
  with_reducible refine (kExpand_32 key info w hk hkl hil).mono ?_
  rintro e w1 ⟨rfl, hb1⟩
  go_wp2_with fail
  go_ret
  exact ⟨rfl, hb1⟩
end
theorem purposeB (key : List UInt8) (w : World) (hk : KAt w) (hkl : key.length ≤ 100000) :
    Calls Tryd.prog 46 #[.string { data := #[115, 108, 101, 100, 103, 101, 32, 98, 121, 116, 101, 115] }, .string (str key)] w fun e w' => e = .returned (.string (str (kExp key kB 32))) ∧ Below w.heap.size w w' :=
  purpose_any kB key w hk hkl (by decide)
theorem purposeG (key : List UInt8) (w : World) (hk : KAt w) (hkl : key.length ≤ 100000) :
    Calls Tryd.prog 46 #[.string { data := #[115, 108, 101, 100, 103, 101, 32, 116, 97, 103, 115] }, .string (str key)] w fun e w' => e = .returned (.string (str (kExp key kG 32))) ∧ Below w.heap.size w w' :=
  purpose_any kG key w hk hkl (by decide)
theorem purposeH (key : List UInt8) (w : World) (hk : KAt w) (hkl : key.length ≤ 100000) :
    Calls Tryd.prog 46 #[.string { data := #[115, 108, 101, 100, 103, 101, 32, 104, 101, 97, 100, 115] }, .string (str key)] w fun e w' => e = .returned (.string (str (kExp key kH 32))) ∧ Below w.heap.size w w' :=
  purpose_any kH key w hk hkl (by decide)
theorem refExpandB (key : List UInt8) (w : World) (hkl : key.length ≤ 100000) :
    Calls Tryd.prog 47 #[.string (str key), .string { data := #[115, 108, 101, 100, 103, 101, 32, 98, 121, 116, 101, 115] }, .int .i64 32] w fun e w' => e = .returned (.tuple #[.string (str (kExp key kB 32)), .int .i64 0]) ∧ Below w.heap.size w w' :=
  refExpand_any key kB 32 w (by decide) hkl (by decide)
theorem refExpandG (key : List UInt8) (w : World) (hkl : key.length ≤ 100000) :
    Calls Tryd.prog 47 #[.string (str key), .string { data := #[115, 108, 101, 100, 103, 101, 32, 116, 97, 103, 115] }, .int .i64 32] w fun e w' => e = .returned (.tuple #[.string (str (kExp key kG 32)), .int .i64 0]) ∧ Below w.heap.size w w' :=
  refExpand_any key kG 32 w (by decide) hkl (by decide)
theorem refExpandH (key : List UInt8) (w : World) (hkl : key.length ≤ 100000) :
    Calls Tryd.prog 47 #[.string (str key), .string { data := #[115, 108, 101, 100, 103, 101, 32, 104, 101, 97, 100, 115] }, .int .i64 32] w fun e w' => e = .returned (.tuple #[.string (str (kExp key kH 32)), .int .i64 0]) ∧ Below w.heap.size w w' :=
  refExpand_any key kH 32 w (by decide) hkl (by decide)
theorem kExtract_none (b : List UInt8) (w : World) (hk : KAt w) (hb : b.length ≤ 800000000) :
    Calls Tryd.prog 45 #[.string { data := #[] }, .string (str b)] w fun e w' => e = .returned (.string (str (mTag [] b))) ∧ Below w.heap.size w w' := kExtract_any [] b w hk (by decide) hb
theorem refTag_none (b : List UInt8) (w : World) (hb : b.length ≤ 800000) :
    Calls Tryd.prog 14 #[.string { data := #[] }, .string (str b)] w fun e w' => e = .returned (.string (str (mTag [] b))) ∧ Below w.heap.size w w' := refTag_any [] b w (by decide) hb
attribute [local irreducible] str sSum mXor mPad mKey mTag kT kOut kExp kB kG kH

/-- the keys of a secret and a salt -/
def kVal (secret salt : List UInt8) : Value := .agg #[.string (str (kExp (mTag salt secret) kB 32)), .string (str (kExp (mTag salt secret) kG 32)), .string (str (kExp (mTag [] secret) kH 32))]

set_option maxRecDepth 100000 in
set_option maxHeartbeats 2000000 in
theorem Keys_any (secret salt : List UInt8) (w : World) (hk : KAt w) (h1 : secret.length ≤ 10000) (h2 : salt.length ≤ 10000) :
    Calls Tryd.prog 27 #[.string (str secret), .string (str salt)] w fun e w' => e = .returned (kVal secret salt) ∧ Below w.heap.size w w' := by
  have HV := Kept.mk (show kVal secret salt = .agg #[.string (str (kExp (mTag salt secret) kB 32)), .string (str (kExp (mTag salt secret) kG 32)), .string (str (kExp (mTag [] secret) kH 32))] from rfl)
  have t1 := mTag_length salt secret
  have t2 := mTag_length [] secret
  generalize kVal secret salt = V at *
  go_enter Tryd.func27, Tryd.ntmps27
  go_upto_region 1 with fail
  have hz := heap_new w (.cells #[.string { data := #[] }, .string { data := #[] }, .string { data := #[] }] 36) w.heap.size rfl
  generalize hW : w.alloc _ = W1 at *
  have hB1 : Below w.heap.size w W1 := by rw [← hW]; exact (Below.refl _ _).alloc (Nat.le_refl _) _
  have HK := Kept.mk (hk.below hB1)
  have HB := Kept.mk hB1
  have HZ := Kept.mk hz
  clear hk hB1 hz hW
  go_wp2_with fail
  with_reducible refine (kExtract_any salt secret W1 HK.out (by omega) (by omega)).mono ?_
  rintro e w2 ⟨rfl, hb⟩
  have HK2 := Kept.mk (HK.out.below hb)
  have HB2 := Kept.mk (HB.out.trans (hb.mono HB.out.size))
  have HZ2 := Kept.mk (block_kept HZ.out hb)
  clear hb HK HB HZ
  go_wp2_with fail
  with_reducible refine (purposeB (mTag salt secret) w2 HK2.out (by omega)).mono ?_
  rintro e w3 ⟨rfl, hb⟩
  have HK3 := Kept.mk (HK2.out.below hb)
  have HB3 := Kept.mk (HB2.out.trans (hb.mono HB2.out.size))
  have HZ3 := Kept.mk (block_kept HZ2.out hb)
  clear hb HK2 HB2 HZ2
  go_wp2_with fail
  with_reducible refine (purposeG (mTag salt secret) w3 HK3.out (by omega)).mono ?_
  rintro e w4 ⟨rfl, hb⟩
  have HK4 := Kept.mk (HK3.out.below hb)
  have HB4 := Kept.mk (HB3.out.trans (hb.mono HB3.out.size))
  have HZ4 := Kept.mk (block_kept HZ3.out hb)
  clear hb HK3 HB3 HZ3
  go_wp2_with fail
  with_reducible refine (kExtract_none secret w4 HK4.out (by omega)).mono ?_
  rintro e w5 ⟨rfl, hb⟩
  have HK5 := Kept.mk (HK4.out.below hb)
  have HB5 := Kept.mk (HB4.out.trans (hb.mono HB4.out.size))
  have HZ5 := Kept.mk (block_kept HZ4.out hb)
  clear hb HK4 HB4 HZ4
  go_wp2_with fail
  with_reducible refine (purposeH (mTag [] secret) w5 HK5.out (by omega)).mono ?_
  rintro e w6 ⟨rfl, hb⟩
  have HB6 := Kept.mk (HB5.out.trans (hb.mono HB5.out.size))
  have HZ6 := Kept.mk (block_kept HZ5.out hb)
  clear hb HK5 HB5 HZ5
  generalize kExp (mTag salt secret) kB 32 = c0 at *
  generalize kExp (mTag salt secret) kG 32 = c1 at *
  generalize kExp (mTag [] secret) kH 32 = c2 at *
  obtain ⟨y0, y1, y2⟩ := three_at HZ6.out
  obtain ⟨f0, f1, f2⟩ := three_free HZ6.out
  go_wp2_with fail
  refine keys_end rfl rfl (three_cells w6 w.heap.size _ _ _ _ _ _ _ HZ6.out) ⟨by rw [HV.out], ?_⟩
  exact ((HB6.out.setCell (Nat.le_refl _) _).setCell (Nat.le_refl _) _).setCell (Nat.le_refl _) _

set_option maxRecDepth 100000 in
set_option maxHeartbeats 2000000 in
theorem refKeys_any (secret salt : List UInt8) (w : World) (h1 : secret.length ≤ 10000) (h2 : salt.length ≤ 10000) :
    Calls Tryd.prog 28 #[.string (str secret), .string (str salt)] w fun e w' => e = .returned (kVal secret salt) ∧ Below w.heap.size w w' := by
  have HV := Kept.mk (show kVal secret salt = .agg #[.string (str (kExp (mTag salt secret) kB 32)), .string (str (kExp (mTag salt secret) kG 32)), .string (str (kExp (mTag [] secret) kH 32))] from rfl)
  have t1 := mTag_length salt secret
  have t2 := mTag_length [] secret
  generalize kVal secret salt = V at *
  go_enter Tryd.func28, Tryd.ntmps28
  go_upto_region 1 with fail
  have hz := heap_new w (.cells #[.string { data := #[] }, .string { data := #[] }, .string { data := #[] }] 36) w.heap.size rfl
  generalize hW : w.alloc _ = W1 at *
  have hB1 : Below w.heap.size w W1 := by rw [← hW]; exact (Below.refl _ _).alloc (Nat.le_refl _) _
  have HB := Kept.mk hB1
  have HZ := Kept.mk hz
  clear hB1 hz hW
  go_wp2_with fail
  with_reducible refine (refTag_any salt secret W1 (by omega) (by omega)).mono ?_
  rintro e w2 ⟨rfl, hb⟩
  have HB2 := Kept.mk (HB.out.trans (hb.mono HB.out.size))
  have HZ2 := Kept.mk (block_kept HZ.out hb)
  clear hb HB HZ
  go_wp2_with fail
  with_reducible refine (refExpandB (mTag salt secret) w2 (by omega)).mono ?_
  rintro e w3 ⟨rfl, hb⟩
  have HB3 := Kept.mk (HB2.out.trans (hb.mono HB2.out.size))
  have HZ3 := Kept.mk (block_kept HZ2.out hb)
  clear hb HB2 HZ2
  go_wp2_with fail
  with_reducible refine (refExpandG (mTag salt secret) w3 (by omega)).mono ?_
  rintro e w4 ⟨rfl, hb⟩
  have HB4 := Kept.mk (HB3.out.trans (hb.mono HB3.out.size))
  have HZ4 := Kept.mk (block_kept HZ3.out hb)
  clear hb HB3 HZ3
  go_wp2_with fail
  with_reducible refine (refTag_none secret w4 (by omega)).mono ?_
  rintro e w5 ⟨rfl, hb⟩
  have HB5 := Kept.mk (HB4.out.trans (hb.mono HB4.out.size))
  have HZ5 := Kept.mk (block_kept HZ4.out hb)
  clear hb HB4 HZ4
  go_wp2_with fail
  with_reducible refine (refExpandH (mTag [] secret) w5 (by omega)).mono ?_
  rintro e w6 ⟨rfl, hb⟩
  have HB6 := Kept.mk (HB5.out.trans (hb.mono HB5.out.size))
  have HZ6 := Kept.mk (block_kept HZ5.out hb)
  clear hb HB5 HZ5
  generalize kExp (mTag salt secret) kB 32 = c0 at *
  generalize kExp (mTag salt secret) kG 32 = c1 at *
  generalize kExp (mTag [] secret) kH 32 = c2 at *
  obtain ⟨y0, y1, y2⟩ := three_at HZ6.out
  obtain ⟨f0, f1, f2⟩ := three_free HZ6.out
  go_wp2_with fail
  refine refKeys_end rfl rfl (three_cells w6 w.heap.size _ _ _ _ _ _ _ HZ6.out) ⟨by rw [HV.out], ?_⟩
  exact ((HB6.out.setCell (Nat.le_refl _) _).setCell (Nat.le_refl _) _).setCell (Nat.le_refl _) _
end Go.Proofs.YtabeehljpdehcaaDoor
