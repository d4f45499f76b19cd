/- HMAC-SHA-256: on lists of bytes; a key's bytes turned, cut, byteAt, each by a contract. -/
import Derived.Test.YtabeehljpdehcaaDoorShaI
import Derived.Laws.BitsAllLaws
namespace Go.Proofs.YtabeehljpdehcaaDoor
set_option linter.unusedVariables false
set_option linter.unusedSimpArgs false
open Go.RowKit Go.Lib

def mXor (b : UInt8) (k : List UInt8) : List UInt8 := k.map (· ^^^ b)
def mPad (k : List UInt8) : List UInt8 := k ++ List.replicate (64 - k.length) 0
def mKey (k : List UInt8) : List UInt8 := if 64 < k.length then sSum k else k
def mTag (k m : List UInt8) : List UInt8 := sSum (mXor 92 (mPad (mKey k)) ++ sSum (mXor 54 (mPad (mKey k)) ++ m))
theorem mXor_length (b : UInt8) (k : List UInt8) : (mXor b k).length = k.length := by simp [mXor]
theorem mKey_length (k : List UInt8) : (mKey k).length ≤ 64 := by
  unfold mKey; split
  · rw [sSum_length]; omega
  · omega
theorem mPad_length (k : List UInt8) (h : k.length ≤ 64) : (mPad k).length = 64 := by simp [mPad]; omega
theorem mTag_length (k m : List UInt8) : (mTag k m).length = 32 := sSum_length _
theorem jefe : mTag [74, 101, 102, 101] [119, 104, 97, 116, 32, 100, 111, 32, 121, 97, 32, 119, 97, 110, 116, 32, 102, 111, 114, 32, 110, 111, 116, 104, 105, 110, 103, 63] = [91, 220, 193, 70, 191, 96, 117, 78, 106, 4, 36, 38, 8, 149, 117, 199, 90, 0, 63, 8, 157, 39, 57, 131, 157, 236, 88, 185, 100, 236, 56, 67] := by decide +kernel

/-- a key's bytes, the first i of them turned -/
def mPart (b : UInt8) (k : List UInt8) (i : Nat) : List UInt8 := mXor b (k.take i) ++ k.drop i
theorem mPart_length (b : UInt8) (k : List UInt8) (i : Nat) : (mPart b k i).length = k.length := by simp [mPart, mXor]; omega
theorem mPart_zero (b : UInt8) (k : List UInt8) : mPart b k 0 = k := by simp [mPart, mXor]
theorem mPart_all (b : UInt8) (k : List UInt8) (i : Nat) (h : k.length ≤ i) : mPart b k i = mXor b k := by
  simp [mPart, List.take_of_length_le h, List.drop_of_length_le h]
theorem mPart_get (b : UInt8) (k : List UInt8) (i : Nat) (h : i < k.length) : bth (mPart b k i) i = (k[i]).toNat := by
  unfold bth mPart
  rw [List.getD_eq_getElem?_getD, List.getElem?_append_right (by simp [mXor]; omega)]
  simp [mXor, Nat.min_eq_left (Nat.le_of_lt h), List.getElem?_eq_getElem h]
theorem mPart_set (b : UInt8) (k : List UInt8) (i : Nat) (h : i < k.length) : (mPart b k i).set i (k[i] ^^^ b) = mPart b k (i + 1) := by
  unfold mPart mXor
  have hl : ((k.take i).map (· ^^^ b)).length = i := by simp; omega
  rw [List.set_append_right _ _ (by omega), hl, Nat.sub_self, List.drop_eq_getElem_cons h, List.set_cons_zero, List.take_succ_eq_append_getElem h, List.map_append]
  simp only [List.map_cons, List.map_nil, List.append_assoc, List.cons_append, List.nil_append]
theorem bytes_set (l : List UInt8) (i : Nat) (c : UInt8) : (Lib.byteCells l).toArray.setIfInBounds i (.int .u8 (c.toNat : Int)) = (Lib.byteCells (l.set i c)).toArray := by
  apply Array.toList_inj.1
  rw [Array.toList_setIfInBounds]
  simp [Lib.byteCells]
theorem xor_u8M (a b : UInt8) : bits .xor .u8 (a.toNat : Int) (b.toNat : Int) = ((a ^^^ b).toNat : Int) := by
  rw [u8_xor_nat _ _ a.toNat_lt b.toNat_lt, UInt8.toNat_xor]
theorem bytes_one (l : List UInt8) : (Lib.byteCells l).toArray.all (·.oneCell') = true := by
  refine Array.all_eq_true_iff_forall_mem.2 fun v hv => ?_
  simp only [Lib.byteCells, List.mem_toArray, List.mem_map] at hv
  obtain ⟨x, _, rfl⟩ := hv; rfl
theorem bytes_size (l : List UInt8) : (Lib.byteCells l).toArray.size = l.length := by simp [Lib.byteCells]
/-- a block of bytes as a string -/
theorem block_string {W : World} {g : Nat} {T : TypeId} {l : List UInt8} {n c : Nat} (h : W.heap[g]? = some (.cells (Lib.byteCells l).toArray T (0, 0))) (hn : l.length = n) :
    (convert 33 9 (.slice (some ⟨g, 0, none⟩) n c)).run Tryd.prog W = .ok (.string (str l)) W := by
  subst hn
  exact run_convert_bytes_back W _ _ _ ⟨g, 0, none⟩ c l Tryd.underlying33 Tryd.underlying5 Tryd.underlying9 fun j hj => by
    rw [show (⟨g, 0, none⟩ : Addr).add j = ⟨g, j, none⟩ by unfold Addr.add; split <;> simp_all]
    rw [Joins.cell_of_block h j]
    simp [Lib.byteCells, List.getElem?_eq_getElem hj]
theorem str_take (r : List UInt8) (n : Nat) (h : n ≤ r.length) : (str r).extract 0 n = str (r.take n) := by
  apply ByteArray.ext; apply Array.toList_inj.1
  rw [ByteArray.data_extract, Array.toList_extract]
  simp [str]
theorem str_getM (l : List UInt8) (i : Nat) (h : i < l.length) (h2 : i < (str l).size) : (str l)[i] = l[i] := rfl
attribute [local irreducible] mPart mXor str

set_option maxRecDepth 100000 in
set_option maxHeartbeats 2000000 in
theorem turned_any (k : List UInt8) (hk : k.length = 64) (b : UInt8) (w : World) :
    Calls Tryd.prog 52 #[.agg (Lib.byteCells k).toArray, .int .u8 b.toNat] w fun e w' => e = .returned (.string (str (mXor b k))) ∧ Below w.heap.size w w' := by
  go_enter Tryd.func52, Tryd.ntmps52
  go_wp2_with (with_reducible refine wpList_boxTo rfl _ _ rfl _ rfl w.heap.size rfl (Lib.byteCells k).toArray rfl ?_)
  go_loopw [6] (fun i wr => ∃ j : Nat, j ≤ 64 ∧ i = .int .i64 j ∧ wr.heap[w.heap.size]? = some (.cells (Lib.byteCells (mPart b k j)).toArray 65 (0, 0)) ∧ Below w.heap.size w wr) (fun i _ => 64 - (RowKit.intOf i).toNat)
  case atStart => exact ⟨0, by omega, rfl, by rw [mPart_zero]; exact heap_new _ _ _ rfl, (Below.refl _ _).alloc (Nat.le_refl _) _⟩
  case round =>
    obtain ⟨j, hj, rfl, hb, hbl⟩ := hrel
    have hgl := block_lt hb
    by_cases hlt : j < 64
    · have c0 := (Joins.cell_of_block hb j).trans (bc_get (by rw [mPart_length, hk]; exact hlt))
      rw [mPart_get b k j (by omega)] at c0
      have nf := Joins.unfrozen_of_block hb j
      have hb2 := Joins.block_setCell (i := j) hb (.int .u8 ((k[j] ^^^ b).toNat : Int))
      rw [bytes_set, mPart_set b k j (by omega)] at hb2
      have hx := xor_u8M (k[j]) b
      have HB2 := Kept.mk hb2
      have HBL := Kept.mk hbl
      have HX := Kept.mk hx
      clear hb2 hbl hb hx
      have hr1 := byte_range b
      have hr2 := byte_range k[j]
      generalize k[j] = c at *
      go_wp2_with fail
      refine ⟨⟨j + 1, by omega, by go_num, ?_, ?_⟩, by simp [RowKit.intOf]; omega⟩
      · rw [HX.out]; exact HB2.out
      · exact HBL.out.setCell (Nat.le_refl _) _
    · have hj64 : j = 64 := by omega
      subst hj64
      rw [mPart_all b k 64 (by omega)] at hb
      have hcv := fun c => block_string (n := 64) (c := c) hb (by rw [mXor_length, hk])
      clear hb
      go_wp2_with fail
      go_ret
      exact ⟨rfl, hbl⟩
end Go.Proofs.YtabeehljpdehcaaDoor
