/- bits: a writer, whatever it holds: one bit more, by a contract. -/
import Derived.Test.YtohdekokdljgjaaXA
import Derived.Test.YtohdekokdljgjaaWrM
import Derived.Handy
namespace Go.Proofs.Ytohdekokdljgjaa
set_option linter.unusedVariables false
set_option linter.unusedSimpArgs false
open Go.RowKit Go.Lib
/-- a writer of the program that holds these bits -/
def WA (w W : World) (g : Nat) (v : Value) (L : List Nat) : Prop := St w W 25 g #[v, .int .i64 (L.length : Int)] v (Lib.byteCells (pk L))
theorem zero_append {ops : Array Oper} {rest : List Oper} {o : Oper} {a : Act} {Q : Exit → Act → World → Prop} (hgd : o.guard = none) (s x : Operand)
    (ho : o.op = .call { callee := .builtin .append, args := #[s, x], argTypes := #[23, 23] })
    {w wr : World} {l : List UInt8} {v : Value} (hs : a.eval s = v) (hb : VB w wr v (Lib.byteCells l))
    (hx : a.eval x = .slice (some ⟨wr.heap.size, 0, none⟩) 1 1) (hlen : l.length + 1 ≤ 100000000)
    (h : ∀ v' w', VB w w' v' (Lib.byteCells (l ++ [0])) → (∀ g, g < wr.heap.size → Apart v g → w'.heap[g]? = wr.heap[g]? ∧ Apart v' g) → wr.heap.size ≤ w'.heap.size → wpList Try.prog ops Q rest (a.put o.dst v') w') : wpList Try.prog ops Q (o :: rest) a (wr.alloc (.cells #[.int .u8 0] 5)) := by
  obtain ⟨i0, hi, hz0, hz1, hz2⟩ := info_parts infoByte
  refine vb_append2 hgd s x Try.underlying23 hi hz0 hz1 rfl (by rw [hz2]; decide) ho hs (hb.alloc _) hx (src_one Try.underlying23 wr (.int .u8 0) 5 rfl) (Nat.zero_lt_one) (by rw [Lib.byteCells_length]; show l.length + 1 ≤ _; omega) fun v' w' h1 _ h3 h4 => h v' w' ?_ ?_ ?_
  · rw [byteCells_append]; exact h1
  · intro g hg ha
    obtain ⟨k1, k2⟩ := h4 g (by simp; omega) ha
    exact ⟨k1.trans (Below.heap_alloc wr _ g hg), k2⟩
  · exact Nat.le_trans (by simp) h3
/-- the bytes ahead of the bit's own -/
def pkz (L : List Nat) : List UInt8 := if L.length % 8 = 0 then pk L ++ [0] else pk L
theorem pkz_length (L : List Nat) : (pkz L).length = L.length / 8 + 1 := by
  unfold pkz
  by_cases h : L.length % 8 = 0
  · rw [if_pos h, List.length_append, pk_length, List.length_singleton]; omega
  · rw [if_neg h, pk_length]; omega
theorem pkz_put (L : List Nat) (b : Nat) : (pkz L).set (L.length / 8) ((pkz L).getD (L.length / 8) 0 ||| UInt8.ofNat (b * 2 ^ (L.length % 8))) = pk (L ++ [b]) := by
  rw [pk_snoc]; rfl
theorem or_u8 (x y : UInt8) : bits .or .u8 (x.toNat : Int) (y.toNat : Int) = ((x ||| y).toNat : Int) := by
  show IntKind.u8.wrap ((BitVec.ofInt 8 (x.toNat : Int) ||| BitVec.ofInt 8 (y.toNat : Int)).toNat : Int) = _
  have h1 : (BitVec.ofInt 8 (x.toNat : Int)).toNat = x.toNat := by have := x.toNat_lt; simp only [BitVec.toNat_ofInt]; omega
  have h2 : (BitVec.ofInt 8 (y.toNat : Int)).toNat = y.toNat := by have := y.toNat_lt; simp only [BitVec.toNat_ofInt]; omega
  rw [BitVec.toNat_or, h1, h2, IntKind.wrap_u8, ← UInt8.toNat_or]
  have := (x ||| y).toNat_lt; omega
theorem byteCells_at (l : List UInt8) (i : Nat) (h : i < (Lib.byteCells l).length) : (Lib.byteCells l)[i] = .int .u8 ((l.getD i 0).toNat : Int) := by
  have hl : i < l.length := by rwa [Lib.byteCells_length] at h
  simp [Lib.byteCells, List.getD_eq_getElem?_getD, List.getElem?_eq_getElem hl]
theorem byteCells_set (l : List UInt8) (i : Nat) (d : UInt8) : (Lib.byteCells l).set i (.int .u8 (d.toNat : Int)) = Lib.byteCells (l.set i d) := by
  unfold Lib.byteCells; rw [List.map_set]
theorem small_bit (b r : Nat) (hb : b < 2) (hr : r < 8) : ((UInt8.ofNat (b * 2 ^ r)).toNat : Int) = (b : Int) * 2 ^ r := by
  have h7 : 2 ^ r ≤ 2 ^ 7 := Nat.pow_le_pow_right (by decide) (by omega)
  have h128 : (2 : Nat) ^ 7 = 128 := by decide
  have h2 : b * 2 ^ r ≤ 128 := by
    rcases (show b = 0 ∨ b = 1 from by omega) with rfl | rfl <;> omega
  rw [UInt8.toNat_ofNat', Nat.mod_eq_of_lt (by omega), Int.natCast_mul, Int.natCast_pow]; rfl
attribute [local irreducible] pk pkz
set_option maxRecDepth 100000 in
set_option maxHeartbeats 2000000 in
theorem bit_any (w W : World) (g : Nat) (v : Value) (L : List Nat) (b : Nat) (hs : WA w W g v L) (hb : b < 2) (hL : L.length ≤ 1000000) :
    Calls Try.prog 57 #[.pointer (some ⟨g, 0, none⟩), .int .i64 (b : Int)] W fun e W' => e = .returned (.tuple #[]) ∧ ∃ v', WA w W' g v' (L ++ [b]) ∧ Tn g v W v' W' := by
  have hn0 : (L.length : Int) ≤ 1000000 := by omega
  have c0 := Joins.cell_of_block hs.box 0
  have c1 := Joins.cell_of_block hs.box 1
  have nf := fun j => Joins.unfrozen_of_block hs.box j
  have hgl := block_lt hs.box
  have HS := Kept.mk hs
  clear hs
  go_enter Try.func57, Try.ntmps57
  go_upto_if 9 with fail
  go_cut [] from 8 to 19 (fun wx => ∃ v1, St w wx 25 g #[v1, .int .i64 (L.length : Int)] v1 (Lib.byteCells (pkz L)) ∧ Tn g v W v1 wx)
  case first =>
    by_cases h : L.length % 8 = 0
    · have h8 : (L.length : Int) % 8 = 0 := by omega
      have HZ := Kept.mk (show pkz L = pk L ++ [0] from by unfold pkz; rw [if_pos h])
      go_wp2_with (at_builtin; refine zero_append rfl _ _ (by rfl) (w := w) (l := pk L) (by rfl) HS.out.vb (by rfl) (by rw [pk_length]; omega) ?_; intro v1 w1 hv1 hk1 hz1; obtain ⟨A1, cap1, rfl, hcap1⟩ := hv1.len; rw [Lib.byteCells_length, List.length_append, List.length_singleton] at hv1 hcap1 hk1 ⊢; have hbx := (hk1 g hgl HS.out.ap).1.trans HS.out.box; have d0 := Joins.cell_of_block hbx 0; have ng := fun j => Joins.unfrozen_of_block hbx j)
      go_meet
      have ha1 := (hk1 g hgl HS.out.ap).2
      refine ⟨.slice A1 ((pk L).length + 1) cap1, ⟨HS.out.ge, (Joins.block_setCell (i := 0) hbx _).trans rfl, ?_, ha1⟩, (⟨hz1, fun k hk hne ha => hk1 k hk ha⟩ : Tn g v W _ w1).trans (tn_box g 0 _ _ w1)⟩
      rw [HZ.out]
      exact hv1.off HS.out.ge ha1 0 _
    · have h8 : ¬ (L.length : Int) % 8 = 0 := by omega
      have HZ := Kept.mk (show pkz L = pk L from by unfold pkz; rw [if_neg h])
      go_wp2_with fail
      go_meet
      exact ⟨v, by rw [HZ.out]; exact HS.out, Tn.refl _ _ _⟩
  case rest =>
  obtain ⟨v1, hs1, ht1⟩ := hcut
  clear c0 c1 nf hgl HS
  have hzl := pkz_length L
  obtain ⟨kb, cap, rfl, hgk, hgl2, hcap, hrw⟩ := hs1.vb.row (by rw [Lib.byteCells_length, hzl]; omega)
  have hql : L.length / 8 < (Lib.byteCells (pkz L)).length := by rw [Lib.byteCells_length, hzl]; omega
  obtain ⟨e0, nb, hput⟩ := hs1.vb.place hql
  have hne : ¬ kb = g := fun e => hs1.ap _ _ (by rw [e])
  rw [byteCells_at] at e0
  have HPZ := Kept.mk (pkz_put L b)
  rw [Lib.byteCells_length, hzl] at *
  generalize hq : L.length / 8 = q at *
  obtain ⟨r, hr⟩ : ∃ r, L.length % 8 = r := ⟨_, rfl⟩
  rw [hr] at HPZ
  generalize hX : (pkz L).getD q 0 = X at *
  generalize hB : UInt8.ofNat (b * 2 ^ r) = B at *
  have hBi := small_bit b r hb (by omega)
  rw [hB] at hBi
  have hor := or_u8 X B
  have c0 := Joins.cell_of_block hs1.box 0
  have c1 := Joins.cell_of_block hs1.box 1
  have nf := fun j => Joins.unfrozen_of_block hs1.box j
  have i1 : (L.length : Int) / 8 = (q : Int) := by omega
  have i2 : (L.length : Int) % 8 = (r : Int) := by omega
  have i3 : (r : Int) < 8 := by omega
  have i4 : (q : Int) ≤ 1000000 := by omega
  have i5 : (q : Int) < ((q + 1 : Nat) : Int) := by omega
  have wq := wrap_i64_small (q : Int) (by omega) (by omega)
  have wr := wrap_i64_small (r : Int) (by omega) (by omega)
  have wB := wrap_i64_small (B.toNat : Int) (by have := B.toNat_lt; omega) (by have := B.toNat_lt; omega)
  have w8B : IntKind.u8.wrap (B.toNat : Int) = (B.toNat : Int) := by rw [IntKind.wrap_u8]; have := B.toNat_lt; omega
  rw [hBi] at wB w8B hor
  have i8 : ((L.length : Nat) : Int).tmod 8 = (r : Int) := by rw [Int.tmod_eq_emod_of_nonneg (by omega)]; exact i2
  have i9 : (0 : Int) ≤ (r : Int) := by omega
  have i10 : ((r : Int)).toNat = r := by omega
  have i6 : (0 : Int) ≤ (q : Int) := by omega
  have i7 : ((q : Int)).toNat = q := by omega
  clear hq hr hql hzl
  generalize q + 1 = m at *
  go_wp2_with fail
  go_still_tail 21, (by kernel_rfl)
  change wpList _ _ _ _ _ (World.drew _)
  go_wp2_with fail
  go_returns
  have eo : (X.toNat ||| B.toNat) = (X ||| B).toNat := (UInt8.toNat_or X B).symm
  rw [eo]
  have hbx : (wc.setCell ⟨kb, q, none⟩ (.int .u8 ((X ||| B).toNat : Int))).heap[g]? = some (.cells #[.slice (some ⟨kb, 0, none⟩) m cap, .int .i64 (L.length : Int)] 25 (0, 0)) :=
    (Below.heap_setCell wc ⟨kb, q, none⟩ _ g (fun e => hne e.symm)).trans hs1.box
  have hv2 := hput (.int .u8 ((X ||| B).toNat : Int))
  rw [byteCells_set, HPZ.out] at hv2
  refine ⟨rfl, _, ⟨hs1.ge, ?_, (hv2.off hs1.ge hs1.ap 1 _).drew, hs1.ap⟩, ((ht1.trans (tn_buf g kb q m cap _ wc)).trans (tn_box g 1 _ _ _)).drew⟩
  show (World.setCell _ _ _).heap[g]? = _
  rw [Joins.block_setCell (i := 1) hbx, List.length_append, List.length_singleton]
  rfl
end Go.Proofs.Ytohdekokdljgjaa
