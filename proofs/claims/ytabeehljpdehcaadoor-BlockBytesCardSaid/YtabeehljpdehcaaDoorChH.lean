/- ChaCha: a buffer combined with a block, by a contract. -/
import Derived.Test.YtabeehljpdehcaaDoorChG
import Derived.Laws.BitsAllLaws
namespace Go.Proofs.YtabeehljpdehcaaDoor
set_option linter.unusedVariables false
set_option linter.unusedSimpArgs false
open Go.RowKit Go.Lib
/-- blocks but g that stood are as they were -/
structure ButB (g : Nat) (w w' : World) : Prop where
  os : w'.os = w.os
  tape : w'.tape = w.tape
  output : w'.output = w.output
  size : w.heap.size ≤ w'.heap.size
  block : ∀ k, k < w.heap.size → k ≠ g → w'.heap[k]? = w.heap[k]?
theorem ButB.refl (g : Nat) (w : World) : ButB g w w := ⟨rfl, rfl, rfl, Nat.le_refl _, fun _ _ _ => rfl⟩
theorem ButB.of_below {g : Nat} {w w' : World} (h : Below w.heap.size w w') : ButB g w w' := ⟨h.os, h.tape, h.output, h.size, fun k hk _ => h.block k hk⟩
theorem ButB.trans {g : Nat} {a b c : World} (h : ButB g a b) (k : ButB g b c) : ButB g a c :=
  ⟨k.os.trans h.os, k.tape.trans h.tape, k.output.trans h.output, Nat.le_trans h.size k.size, fun i hi hne => (k.block i (Nat.lt_of_lt_of_le hi h.size) hne).trans (h.block i hi hne)⟩
theorem ButB.set (g : Nat) (w : World) (j : Nat) (v : Value) : ButB g w (w.setCell ⟨g, j, none⟩ v) :=
  ⟨rfl, rfl, rfl, by simp [World.setCell], fun k _ hk => Below.heap_setCell w ⟨g, j, none⟩ v k hk⟩
theorem ButB.drew {g : Nat} {w w' : World} (h : ButB g w w') : ButB g w w'.drew := ⟨h.os, h.tape, h.output, h.size, h.block⟩
theorem ButB.words {g g2 : Nat} {w w' : World} {T : TypeId} {xs : List Nat} (h : ButB g w w') (hw : Words T w g2 xs) (hne : g2 ≠ g) : Words T w' g2 xs := ⟨(h.block g2 (block_lt hw.heap) hne).trans hw.heap, hw.len, hw.small⟩
theorem BG.kept {w wr wx : World} {v : Value} {l : List UInt8} (h : BG w wr v l) (hb : Below wr.heap.size wr wx) : BG w wx v l := by
  obtain ⟨h1, g, cap, cs, T, f0, f1, e, hg, hh, r⟩ := h
  exact ⟨h1.trans (hb.mono h1.size), g, cap, cs, T, f0, f1, e, hg, block_kept hh hb, r⟩
theorem BG.at {w wr : World} {g m cap : Nat} {l : List UInt8} (h : BG w wr (.slice (some ⟨g, 0, none⟩) m cap) l) {i : Nat} (hi : i < l.length) :
    wr.cell? ⟨g, i, none⟩ = some (.int .u8 ((l[i]).toNat : Int)) ∧ wr.frozen? ⟨g, i, none⟩ = false ∧ ∀ c : UInt8, BG w (wr.setCell ⟨g, i, none⟩ (.int .u8 (c.toNat : Int))) (.slice (some ⟨g, 0, none⟩) m cap) (l.set i c) := by
  obtain ⟨g', cap', e, h1, h2, h3⟩ := h.place hi
  cases e
  exact ⟨h1, h2, h3⟩
theorem xor_u8 (a b : UInt8) : bits .xor .u8 (a.toNat : Int) (b.toNat : Int) = ((a ^^^ b).toNat : Int) := by
  rw [u8_xor_nat _ _ a.toNat_lt b.toNat_lt, UInt8.toNat_xor]
/-- byte i of a block -/
def kb (bl : List Nat) (i : Nat) : UInt8 := UInt8.ofNat (wat bl (i / 4) / 2 ^ (8 * (i % 4)) % 256)
theorem kb_int (bl : List Nat) (i : Nat) : ((kb bl i).toNat : Int) = ((wat bl (i / 4) / 2 ^ (8 * (i % 4)) % 256 : Nat) : Int) := by
  unfold kb; rw [UInt8.toNat_ofNat']; omega
/-- k bytes from a place on, combined with a block's -/
def xorAt (l : List UInt8) (o : Nat) (bl : List Nat) : Nat → List UInt8
  | 0 => l
  | k + 1 => (xorAt l o bl k).set (o + k) ((l.getD (o + k) 0) ^^^ kb bl k)
theorem xorAt_length (l : List UInt8) (o : Nat) (bl : List Nat) (k : Nat) : (xorAt l o bl k).length = l.length := by
  induction k with
  | zero => rfl
  | succ k ih => rw [xorAt, List.length_set, ih]
theorem xorAt_get (l : List UInt8) (o : Nat) (bl : List Nat) (k i : Nat) : (xorAt l o bl k)[i]? = if o ≤ i ∧ i < o + k then (l[i]?).map (fun c => c ^^^ kb bl (i - o)) else l[i]? := by
  induction k with
  | zero => rw [if_neg (by omega)]; rfl
  | succ k ih =>
    rw [xorAt, List.getElem?_set, xorAt_length, ih]
    by_cases h : o + k = i
    · subst h
      rw [if_pos rfl]
      by_cases h2 : o + k < l.length
      · rw [if_pos h2, if_pos (show o ≤ o + k ∧ o + k < o + (k + 1) from ⟨by omega, by omega⟩), List.getElem?_eq_getElem h2, List.getD_eq_getElem?_getD, List.getElem?_eq_getElem h2, show o + k - o = k from by omega]; rfl
      · rw [if_neg h2, if_pos (show o ≤ o + k ∧ o + k < o + (k + 1) from ⟨by omega, by omega⟩), List.getElem?_eq_none (by omega)]; rfl
    · rw [if_neg h]
      by_cases h3 : o ≤ i ∧ i < o + k
      · rw [if_pos h3, if_pos ⟨h3.1, by omega⟩]
      · rw [if_neg h3, if_neg (by omega)]
theorem xorAt_next (l : List UInt8) (o : Nat) (bl : List Nat) (k : Nat) : xorAt l o bl (k + 1) = (xorAt l o bl k).set (o + k) ((l.getD (o + k) 0) ^^^ kb bl k) := rfl
theorem xorAt_zero (l : List UInt8) (o : Nat) (bl : List Nat) : xorAt l o bl 0 = l := rfl
attribute [local irreducible] str wat wcells kb xorAt

set_option maxRecDepth 100000 in
set_option maxHeartbeats 4000000 in
theorem combine_any (w wr : World) (g m cap o n c2 : Nat) (l : List UInt8) (bl : List Nat) (hb : BG w wr (.slice (some ⟨g, 0, none⟩) m cap) l) (hon : o + n ≤ l.length) (hn : n ≤ 64) (hl : l.length ≤ 100000) (hbl : bl.length = 16) (hbs : ∀ i, i < 16 → wat bl i < 4294967296) :
    Calls Tryd.prog 65 #[.slice (some ⟨g, o, none⟩) n c2, .agg (wcells bl)] wr fun e w' => e = .returned (.tuple #[]) ∧ BG w w' (.slice (some ⟨g, 0, none⟩) m cap) (xorAt l o bl n) ∧ ButB g wr w' := by
  have hg : g < wr.heap.size := by obtain ⟨_, g', _, _, _, _, _, e, _, hh, _⟩ := hb; cases e; exact block_lt hh
  have HB := Kept.mk hb
  clear hb
  go_enter Tryd.func65, Tryd.ntmps65
  go_upto_region 1 with (with_reducible refine wpList_boxTo rfl _ _ rfl _ rfl wr.heap.size rfl (wcells bl) rfl ?_)
  have hv : Words 81 (wr.alloc (.cells (wcells bl) 81)) wr.heap.size bl := ⟨heap_new _ _ _ rfl, hbl, hbs⟩
  have hbx : Below wr.heap.size wr (wr.alloc (.cells (wcells bl) 81)) := (Below.refl _ _).alloc (Nat.le_refl _) _
  generalize wr.alloc (.cells (wcells bl) 81) = W1 at *
  have HV := Kept.mk hv
  have HB1 := Kept.mk (HB.out.kept hbx)
  have HX1 := Kept.mk (ButB.of_below (g := g) hbx)
  clear hv hbx HB
  go_wp2_with fail
  go_loopw [7] (fun i wx => ∃ k : Nat, k ≤ n ∧ i = .int .i64 k ∧ BG w wx (.slice (some ⟨g, 0, none⟩) m cap) (xorAt l o bl k) ∧ Words 81 wx wr.heap.size bl ∧ ButB g wr wx) (fun i _ => n - (RowKit.intOf i).toNat)
  case atStart => exact ⟨0, by omega, rfl, by rw [xorAt_zero]; exact HB1.out, HV.out, HX1.out⟩
  case round =>
    clear HB1 HV HX1
    obtain ⟨k, hk, rfl, hb, hv, hx⟩ := hrel
    by_cases hlt : k < n
    · have hlk := xorAt_length l o bl k
      obtain ⟨c1, f1, hset⟩ := hb.at (i := o + k) (by omega)
      obtain ⟨q, hq⟩ : ∃ q, k / 4 = q := ⟨_, rfl⟩
      obtain ⟨r, hr⟩ : ∃ r, k % 4 = r := ⟨_, rfl⟩
      have i1 : (k : Int) / 4 = (q : Int) := by omega
      have i2 : (k : Int) % 4 = (r : Int) := by omega
      have i6 : (k : Int).tmod 4 = (r : Int) := by rw [Int.tmod_eq_emod_of_nonneg (by omega)]; exact i2
      have i3 : (q : Int) < 16 := by omega
      have i4 : (r : Int) < 4 := by omega
      have i5 : (8 * (r : Int)).toNat = 8 * r := by omega
      have c2 := hv.cell (show q < 16 by omega)
      have hsm := hv.small q (by omega)
      have hki : (k : Int) < (n : Int) := by omega
      have hki2 : (k : Int) < 64 := by omega
      have e1 : IntKind.i64.wrap (q : Int) = (q : Int) := wrap_i64_small _ (by omega) (by omega)
      have e2 : IntKind.i64.wrap (r : Int) = (r : Int) := wrap_i64_small _ (by omega) (by omega)
      have e3 : IntKind.i64.wrap (8 * (r : Int)) = 8 * (r : Int) := wrap_i64_small _ (by omega) (by omega)
      have KB := Kept.mk (kb_int bl k)
      rw [hq, hr] at KB
      have hgo : (xorAt l o bl k)[o + k]'(by omega) = l.getD (o + k) 0 := by
        have h := xorAt_get l o bl k (o + k)
        rw [if_neg (by omega), List.getElem?_eq_getElem (by omega), List.getElem?_eq_getElem (by omega)] at h
        rw [Option.some.inj h, List.getD_eq_getElem?_getD, List.getElem?_eq_getElem (by omega)]; rfl
      rw [hgo] at c1
      have HSET := Kept.mk (hset ((l.getD (o + k) 0) ^^^ kb bl k))
      rw [← xorAt_next] at HSET
      have XU := Kept.mk (xor_u8 (l.getD (o + k) 0) (kb bl k))
      have HV := Kept.mk hv
      have HX := Kept.mk hx
      have hbr := byte_range (l.getD (o + k) 0)
      have hbk := byte_range (kb bl k)
      clear hq hr hb hv hx hset hgo
      generalize l.getD (o + k) 0 = c at *
      generalize wat bl q = x at *
      go_wp2_with fail
      go_still_tail 15, (by kernel_rfl)
      change wpList _ _ _ _ _ (World.drew _)
      go_wp2
      have hval : bits .xor .u8 (c.toNat : Int) ((x : Int) / 2 ^ (8 * r) % 256) = ((c ^^^ kb bl k).toNat : Int) := by
        rw [← XU.out, KB.out]; push_cast; rfl
      rw [hval]
      refine ⟨⟨k + 1, by omega, by push_cast; rfl, ?_, ?_, ?_⟩, by show n - ((k : Int) + 1).toNat < n - ((k : Int)).toNat; omega⟩
      · exact HSET.out.kept ((Below.refl _ _).drew)
      · have h := (ButB.set g wr (o + k) (.int .u8 ((c ^^^ kb bl k).toNat : Int))).drew
        exact h.words HV.out (by omega)
      · exact HX.out.trans ((ButB.set g wr (o + k) (.int .u8 ((c ^^^ kb bl k).toNat : Int))).drew)
    · have hki : ¬ (k : Int) < (n : Int) := by omega
      obtain rfl : k = n := by omega
      have HB := Kept.mk hb
      have HX := Kept.mk hx
      clear hb hx hv
      go_wp2_with fail
      go_returns
      exact ⟨rfl, HB.out, HX.out⟩
end Go.Proofs.YtabeehljpdehcaaDoor
