/- bits: readers: the simple calls, each by a contract. -/
import Derived.Test.YtohdekokdljgjaaKit
import Derived.Deep.QuietTactic
import Derived.BigQuiet
import Derived.Handy
import Derived.Deep.LoopGhost
namespace Go.Proofs.Ytohdekokdljgjaa
set_option linter.unusedVariables false
set_option linter.unusedSimpArgs false
open Go.RowKit Go.Lib

/-- a reader of the program, and the document's, at block g: the text, and how many bits were taken -/
structure RS (W : World) (T : TypeId) (g : Nat) (l : List UInt8) (u : Nat) : Prop where
  hg : W.heap[g]? = some (.cells #[.string (str l), .int .i64 (u : Int)] T (0, 0))
theorem RS.c0 {W : World} {T : TypeId} {g : Nat} {l : List UInt8} {u : Nat} (h : RS W T g l u) : W.cell? ⟨g, 0, none⟩ = some (.string (str l)) := Joins.cell_of_block h.hg 0
theorem RS.c1 {W : World} {T : TypeId} {g : Nat} {l : List UInt8} {u : Nat} (h : RS W T g l u) : W.cell? ⟨g, 1, none⟩ = some (.int .i64 (u : Int)) := Joins.cell_of_block h.hg 1
theorem RS.f1 {W : World} {T : TypeId} {g : Nat} {l : List UInt8} {u : Nat} (h : RS W T g l u) : W.frozen? ⟨g, 1, none⟩ = false := Joins.unfrozen_of_block h.hg 1
theorem RS.set {W : World} {T : TypeId} {g : Nat} {l : List UInt8} {u : Nat} (h : RS W T g l u) (v : Nat) : RS (W.setCell ⟨g, 1, none⟩ (.int .i64 (v : Int))) T g l v := ⟨Joins.block_setCell (i := 1) h.hg _⟩
theorem RS.drew {W : World} {T : TypeId} {g : Nat} {l : List UInt8} {u : Nat} (h : RS W T g l u) : RS W.drew T g l u := ⟨h.hg⟩
theorem RS.drewN {W : World} {T : TypeId} {g : Nat} {l : List UInt8} {u : Nat} (h : RS W T g l u) (n : Nat) : RS (W.drewN n) T g l u := ⟨h.hg⟩
/-- only block g has turned -/
structure OneB (g : Nat) (w w' : World) : Prop where
  os : w'.os = w.os
  tape : w'.tape = w.tape
  output : w'.output = w.output
  size : w'.heap.size = w.heap.size
  block : ∀ k, k ≠ g → w'.heap[k]? = w.heap[k]?
theorem OneB.refl (g : Nat) (w : World) : OneB g w w := ⟨rfl, rfl, rfl, rfl, fun _ _ => rfl⟩
theorem OneB.drew {g : Nat} {w w' : World} (h : OneB g w w') : OneB g w w'.drew := ⟨h.os, h.tape, h.output, h.size, h.block⟩
theorem OneB.drewN {g : Nat} {w w' : World} (h : OneB g w w') (n : Nat) : OneB g w (w'.drewN n) := ⟨h.os, h.tape, h.output, h.size, h.block⟩
theorem OneB.setCell {g : Nat} {w w' : World} (h : OneB g w w') (j : Nat) (v : Value) : OneB g w (w'.setCell ⟨g, j, none⟩ v) :=
  ⟨h.os, h.tape, h.output, by rw [← h.size]; simp [World.setCell], fun k hk => (Below.heap_setCell w' ⟨g, j, none⟩ v k hk).trans (h.block k hk)⟩
theorem OneB.trans {g : Nat} {a b c : World} (h : OneB g a b) (k : OneB g b c) : OneB g a c :=
  ⟨k.os.trans h.os, k.tape.trans h.tape, k.output.trans h.output, k.size.trans h.size, fun i hi => (k.block i hi).trans (h.block i hi)⟩
theorem OneB.below {g : Nat} {w w' : World} (h : OneB g w w') {B : Nat} (hB : B ≤ g) : Below B w w' :=
  ⟨h.os, h.tape, h.output, Nat.le_of_eq h.size.symm, fun k hk => h.block k (by omega)⟩
theorem OneB.other {g g2 : Nat} {w w' : World} (h : OneB g w w') {T : TypeId} {l : List UInt8} {u : Nat} (hr : RS w T g2 l u) (hne : g2 ≠ g) : RS w' T g2 l u := ⟨(h.block g2 hne).trans hr.hg⟩
attribute [local irreducible] str

set_option maxRecDepth 100000 in
theorem rdLeft_any (g : Nat) (l : List UInt8) (u : Nat) (w : World) (hr : RS w 72 g l u) (hl : l.length ≤ 10000) (hu : u ≤ 8 * l.length) :
    Calls Try.prog 25 #[.pointer (some ⟨g, 0, none⟩)] w fun e w' => e = .returned (.int .i64 ((8 * l.length - u : Nat) : Int)) ∧ ∃ n, w' = w.drewN n := by
  have c0 := hr.c0
  have c1 := hr.c1
  have hs := str_size l
  have HE := Kept.mk (show (l.length : Int) * 8 - (u : Int) = ((8 * l.length - u : Nat) : Int) from by omega)
  have h2 : (u : Int) ≤ 80000 := by omega
  have h3 : (l.length : Int) ≤ 10000 := by omega
  go_enter Try.func25, Try.ntmps25
  go_wp2_with fail
  go_quiet (fail)
  go_wp2_with fail
  go_ret
  refine ⟨?_, _, rfl⟩
  rw [← HE.out]
  rfl
set_option maxRecDepth 100000 in
theorem refLeft_any (g : Nat) (l : List UInt8) (u : Nat) (w : World) (hr : RS w 45 g l u) (hl : l.length ≤ 10000) (hu : u ≤ 8 * l.length) :
    Calls Try.prog 26 #[.pointer (some ⟨g, 0, none⟩)] w fun e w' => e = .returned (.int .i64 ((8 * l.length - u : Nat) : Int)) ∧ ∃ n, w' = w.drewN n := by
  have c0 := hr.c0
  have c1 := hr.c1
  have hs := str_size l
  have HE := Kept.mk (show 8 * (l.length : Int) - (u : Int) = ((8 * l.length - u : Nat) : Int) from by omega)
  have h2 : (u : Int) ≤ 80000 := by omega
  have h3 : (l.length : Int) ≤ 10000 := by omega
  go_enter Try.func26, Try.ntmps26
  go_wp2_with fail
  go_quiet (fail)
  go_wp2_with fail
  go_ret
  refine ⟨?_, _, rfl⟩
  rw [← HE.out]
  rfl
set_option maxRecDepth 100000 in
theorem rdUsed_any (g : Nat) (l : List UInt8) (u : Nat) (w : World) (hr : RS w 72 g l u) :
    Calls Try.prog 27 #[.pointer (some ⟨g, 0, none⟩)] w fun e w' => e = .returned (.int .i64 (u : Int)) ∧ w = w' := by
  have c1 := hr.c1
  go_enter Try.func27, Try.ntmps27
  go_wp2_with fail
  go_ret
  exact ⟨rfl, rfl⟩
/-- the next multiple of eight -/
def al8 (u : Nat) : Nat := (u + 7) / 8 * 8
theorem al8_facts (u : Nat) : u ≤ al8 u ∧ al8 u < u + 8 ∧ al8 u % 8 = 0 := by unfold al8; omega
set_option maxRecDepth 100000 in
theorem aligned_any (u : Nat) (w : World) (hu : u ≤ 100000) :
    Calls Try.prog 49 #[.int .i64 (u : Int)] w fun e w' => e = .returned (.int .i64 ((al8 u : Nat) : Int)) ∧ w = w' := by
  have h2 : (u : Int) ≤ 100000 := by omega
  have HE := Kept.mk (show (((u : Int) + 8 - 1) / 8 * 8) = ((al8 u : Nat) : Int) from by unfold al8; omega)
  go_enter Try.func49, Try.ntmps49
  go_wp2_with fail
  go_ret
  refine ⟨?_, rfl⟩
  rw [← HE.out]
  rfl
attribute [local irreducible] al8
set_option maxRecDepth 100000 in
theorem rdAlign_any (g : Nat) (l : List UInt8) (u : Nat) (w : World) (hr : RS w 72 g l u) (hu : u ≤ 100000) :
    Calls Try.prog 21 #[.pointer (some ⟨g, 0, none⟩)] w fun e w' => e = .returned (.tuple #[]) ∧ RS w' 72 g l (al8 u) ∧ OneB g w w' := by
  have c1 := hr.c1
  have f1 := hr.f1
  have HS := Kept.mk (hr.set (al8 u))
  go_enter Try.func21, Try.ntmps21
  go_wp2_with fail
  with_reducible refine (aligned_any u w hu).mono ?_
  rintro e w1 ⟨rfl, rfl⟩
  go_wp2_with fail
  go_returns
  exact ⟨rfl, HS.out, (OneB.refl g w).setCell _ _⟩
set_option maxRecDepth 100000 in
set_option maxHeartbeats 1000000 in
theorem refAlign_any (g : Nat) (l : List UInt8) (u : Nat) (w : World) (hr : RS w 45 g l u) (hu : u ≤ 100000) :
    Calls Try.prog 22 #[.pointer (some ⟨g, 0, none⟩)] w fun e w' => e = .returned (.tuple #[]) ∧ RS w' 45 g l (al8 u) ∧ OneB g w w' := by
  have ha := al8_facts u
  have HR := Kept.mk hr
  clear hr
  go_enter Try.func22, Try.ntmps22
  go_wp2_with fail
  go_loopg [] (al8 u - u) (fun k wr => ∃ v : Nat, v + k = al8 u ∧ u ≤ v ∧ RS wr 45 g l v ∧ OneB g w wr)
  case atStart => exact ⟨u, by omega, by omega, HR.out, OneB.refl g w⟩
  case round =>
    obtain ⟨v, hv, hv2, hr, ho⟩ := hrel
    have c1 := hr.c1
    have f1 := hr.f1
    have HS := Kept.mk (hr.set (v + 1))
    have HO := Kept.mk ho
    have HR2 := Kept.mk hr
    clear hr ho
    have h9 : (v : Int) ≤ 200000 := by omega
    have h0 : (0 : Int) ≤ (v : Int) := by omega
    by_cases hz : v % 8 = 0
    · have hgk : gk = 0 := by omega
      have hz2 : (v : Int) % 8 = 0 := by omega
      have hve : v = al8 u := by omega
      have HV := Kept.mk hve
      clear hve hgk hv hz
      go_wp2_with fail
      go_returns
      exact ⟨rfl, by rw [← HV.out]; exact HR2.out, HO.out⟩
    · have hz2 : ¬ (v : Int) % 8 = 0 := by omega
      have hgk : 0 < gk := by omega
      have HM := Kept.mk (show gk - 1 < gk ∧ v + 1 + (gk - 1) = al8 u ∧ u ≤ v + 1 from by omega)
      clear hv hv2 hz hgk
      go_wp2_with fail
      go_roundg (gk - 1)
      case measure => exact HM.out.1
      case rel => exact ⟨v + 1, HM.out.2.1, HM.out.2.2, HS.out, HO.out.setCell _ _⟩
end Go.Proofs.Ytohdekokdljgjaa
