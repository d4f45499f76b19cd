/- Small facts on worlds, strings and rows of bytes that the walks of several packages use, over any program. No condition. -/
import Derived.Test.YtkkcakblphebjaaDoorBase
import Derived.Lib.BufSteps
import Derived.Lib.SmallJoins
import Derived.Laws.IdiomStrings
import Derived.BigQuiet
import Derived.Deep.QuietTactic
namespace Go.Proofs.YtkkcakblphebjaaDoor
set_option linter.unusedVariables false
open Go.RowKit Go.Lib

/-- A fact kept from the walk: nothing looks behind the name. -/
structure Kept (p : Prop) : Prop where
  out : p

theorem below_drewN {B : Nat} {a w : World} (h : Below B a w) (n : Nat) : Below B a (w.drewN n) :=
  ⟨h.os, h.tape, h.output, h.size, h.block⟩
theorem below_of_drew {w w' : World} (h : ∃ n, w' = w.drewN n) : Below w.heap.size w w' := by
  obtain ⟨n, rfl⟩ := h; exact below_drewN (Below.refl _ _) n
/-- two steps, each below its own heap -/
theorem below_two {B : Nat} {a b c : World} (h : Below B a b) (k : Below b.heap.size b c) (hB : B ≤ b.heap.size) : Below B a c :=
  h.trans (k.mono hB)
theorem below_le {B : Nat} {a b : World} (h : Below B a b) (hB : B ≤ a.heap.size) : B ≤ b.heap.size := Nat.le_trans hB h.size

theorem bcell {W w1 : World} (hb : Below W.heap.size W w1) : (∀ b o, b < W.heap.size → w1.cell? ⟨b, o, none⟩ = W.cell? ⟨b, o, none⟩) ∧ (∀ b o, b < W.heap.size → w1.frozen? ⟨b, o, none⟩ = W.frozen? ⟨b, o, none⟩) :=
  ⟨fun b o h => hb.cell (p := ⟨b, o, none⟩) h, fun b o h => hb.frozen (p := ⟨b, o, none⟩) h⟩

/-- a list of bytes as a string -/
def str (l : List UInt8) : ByteArray := ⟨l.toArray⟩
theorem str_data (l : List UInt8) : (str l).data.toList = l := rfl
theorem str_size (l : List UInt8) : (str l).size = l.length := rfl
theorem str_eta (s : ByteArray) : str s.data.toList = s := by cases s; rfl
theorem str_append (a b : List UInt8) : str a ++ str b = str (a ++ b) := by
  apply ByteArray.ext; apply Array.toList_inj.1; rw [ByteArray.data_append, Array.toList_append]; rfl
theorem str_inj {a b : List UInt8} (h : str a = str b) : a = b := by
  have := congrArg (fun s : ByteArray => s.data.toList) h; exact this
/-- a number's lowest byte -/
def byt (n : Int) : UInt8 := UInt8.ofInt n
theorem byt_toNat (n : Int) : ((byt n).toNat : Int) = n % 256 := by
  unfold byt; simp [UInt8.ofInt]; omega
theorem byt_eq {n m : Int} (h : n % 256 = m % 256) : byt n = byt m := by
  apply UInt8.toNat_inj.1
  have h1 := byt_toNat n; have h2 := byt_toNat m; omega
theorem byt_byte (c : UInt8) : byt (c.toNat : Int) = c := by
  apply UInt8.toNat_inj.1
  have h1 := byt_toNat (c.toNat : Int); have := c.toNat_lt; omega
theorem byt_mod (n : Int) : byt (n % 256) = byt n := byt_eq (by omega)
theorem str_nil : str [] = ByteArray.empty := rfl

theorem own_string {P : Program} (src dst e : TypeId) (hs : P.underlying src = some (.slice e)) (he : P.underlying e = some (.int .u8)) (hd : P.underlying dst = some .string)
    {B : Nat} {v : Value} {l : List UInt8} {W0 w : World} {n : Nat} (hn : n = l.length) (h : OwnBuf B e v n (Lib.byteCells l) W0 w) : (convert src dst v).run P w = .ok (.string (str l)) w := by
  subst hn
  obtain ⟨h1, _, _⟩ := h
  obtain ⟨_, hv⟩ := id h1
  rcases hv with ⟨rfl, hx⟩ | ⟨g, cap, cur, fz, rfl, hr⟩
  · have : l = [] := by
      cases l with
      | nil => rfl
      | cons c r => simp at hx
    subst this
    rw [run_convert_bytes_nil w src e hs he 0 0 dst hd]; rfl
  · have hc := h1.cells (g := g) rfl
    exact run_convert_bytes_back w src dst e ⟨g, 0, none⟩ cap l hs he hd fun j hj => hc j _ (by simp [Lib.byteCells, List.getElem?_eq_getElem hj])

theorem conv_one {P : Program} (src dst e : TypeId) (hs : P.underlying src = some (.slice e)) (he : P.underlying e = some (.int .u8)) (hd : P.underlying dst = some .string)
    (n : Int) (w : World) : (convert src dst (.slice (some ⟨w.heap.size, 0, none⟩) 1 1)).run P (w.alloc (.cells #[.int .u8 (n % 256)] e)) = .ok (.string (str [byt n])) (w.alloc (.cells #[.int .u8 (n % 256)] e)) := by
  have h := run_convert_bytes_back (P := P) (w.alloc (.cells #[.int .u8 (n % 256)] e)) src dst e ⟨w.heap.size, 0, none⟩ 1 [byt n] hs he hd (fun j hj => by
    have : j = 0 := by simp at hj; omega
    subst this
    have h2 := World.cell?_alloc_mark w #[.int .u8 (n % 256)] e (0, 0) 0
    rw [show (⟨w.heap.size, 0, none⟩ : Addr).add 0 = ⟨w.heap.size, 0, none⟩ from rfl, h2]
    simp only [List.getElem_cons_zero, List.getElem?_toArray, List.getElem?_cons_zero]
    congr 2
    exact (byt_toNat n).symm)
  exact h

theorem wrap_i64_small (n : Int) (h0 : -9223372036854775808 ≤ n) (h1 : n ≤ 9223372036854775807) : IntKind.i64.wrap n = n := by
  rw [← wrap64_eq]; exact wrap64_in n h0 h1
/-- n & (2^k - 1), k at most 62 -/
theorem and_mask (n : Int) (k : Nat) (hk : k ≤ 62) (m : Int) (hm : m = ((2 ^ k - 1 : Nat) : Int)) : bits .and .i64 n m = n % ((2 ^ k : Nat) : Int) := by
  subst hm
  have hk2 : 2 ^ k ≤ 2 ^ 62 := Nat.pow_le_pow_right (by omega) hk
  have hk0 : 0 < 2 ^ k := Nat.pow_pos (by omega)
  have h62 : (2 : Nat) ^ 62 = 4611686018427387904 := by decide
  have hd : (18446744073709551616 : Nat) = 2 ^ k * 2 ^ (64 - k) := by rw [← Nat.pow_add, show k + (64 - k) = 64 from by omega]
  show IntKind.i64.wrap ((BitVec.ofInt 64 n &&& BitVec.ofInt 64 ((2 ^ k - 1 : Nat) : Int)).toNat : Int) = _
  have hb : (BitVec.ofInt 64 ((2 ^ k - 1 : Nat) : Int)).toNat = 2 ^ k - 1 := by
    simp only [BitVec.toNat_ofInt]; omega
  rw [BitVec.toNat_and, hb, Nat.and_two_pow_sub_one_eq_mod]
  have hn : (((BitVec.ofInt 64 n).toNat : Nat) : Int) = n % 18446744073709551616 := by
    simp only [BitVec.toNat_ofInt]; omega
  have hlt := Nat.mod_lt (BitVec.ofInt 64 n).toNat hk0
  rw [wrap_i64_small _ (by omega) (by omega), Int.natCast_emod, hn]
  exact Int.emod_emod_of_dvd n ⟨((2 ^ (64 - k) : Nat) : Int), by rw [← Int.natCast_mul, ← hd]; rfl⟩
theorem and_255 (n : Int) : bits .and .i64 n 255 = n % 256 := and_mask n 8 (by omega) 255 rfl

theorem add_block (a : Addr) (n : Nat) : (a.add n).block = a.block := by unfold Addr.add; split <;> rfl
/-- the slice's cells, from this address on, hold these values -/
def RowAt (w : World) (A : Option Addr) (xs : List Value) : Prop :=
  0 < xs.length → ∃ ad : Addr, A = some ad ∧ ad.block < w.heap.size ∧ ∀ j u, xs[j]? = some u → w.cell? (ad.add j) = some u
theorem RowAt.below {w w' : World} {A : Option Addr} {xs : List Value} (h : RowAt w A xs) (hb : Below w.heap.size w w') : RowAt w' A xs := by
  intro hx
  obtain ⟨ad, e, hl, hc⟩ := h hx
  exact ⟨ad, e, Nat.lt_of_lt_of_le hl hb.size, fun j u hu => (hb.cell (p := ad.add j) (by rw [add_block]; exact hl)).trans (hc j u hu)⟩
theorem RowAt.get {w : World} {A : Option Addr} {xs : List Value} (h : RowAt w A xs) {k : Nat} (hk : k < xs.length) :
    ∃ ad : Addr, A = some ad ∧ ad.block < w.heap.size ∧ w.cell? (ad.add k) = some xs[k] := by
  obtain ⟨ad, e, hl, hc⟩ := h (by omega)
  exact ⟨ad, e, hl, hc k _ (List.getElem?_eq_getElem hk)⟩
theorem RowAt.take {w : World} {A : Option Addr} {xs : List Value} (h : RowAt w A xs) (n : Nat) : RowAt w A (xs.take n) := by
  intro hx
  rw [List.length_take] at hx
  obtain ⟨ad, e, hl, hc⟩ := h (by omega)
  refine ⟨ad, e, hl, fun j u hu => hc j u ?_⟩
  rw [List.getElem?_take] at hu
  split at hu
  · exact hu
  · cases hu
/-- numbers as values -/
def ints (zs : List Int) : List Value := zs.map (Value.int .i64)
theorem ints_length (zs : List Int) : (ints zs).length = zs.length := by simp [ints]
theorem ints_take (zs : List Int) (n : Nat) : (ints zs).take n = ints (zs.take n) := by simp [ints]

theorem block_of_cell {w : World} {a : Addr} {v : Value} (h : w.cell? a = some v) : a.block < w.heap.size := by
  rcases Nat.lt_or_ge a.block w.heap.size with h1 | h1
  · exact h1
  · have : w.heap[a.block]? = none := Array.getElem?_eq_none h1
    simp [World.cell?, this] at h
theorem rowAt_of {w : World} {x : Addr} {zs : List Int} (h : ∀ i, i < zs.length → w.cell? (x.add i) = some (.int .i64 (zs.getD i 0))) : RowAt w (some x) (ints zs) := by
  intro h0
  rw [ints_length] at h0
  refine ⟨x, rfl, ?_, fun j u hu => ?_⟩
  · have := block_of_cell (h 0 h0)
    rwa [add_block] at this
  · have hj : j < zs.length := by
      have := (List.getElem?_eq_some_iff.1 hu).1
      rwa [ints_length] at this
    rw [h j hj]
    simp only [ints, List.getElem?_map, List.getElem?_eq_getElem hj, Option.map_some] at hu
    rw [← hu]
    simp [List.getD, List.getElem?_eq_getElem hj]

end Go.Proofs.YtkkcakblphebjaaDoor
