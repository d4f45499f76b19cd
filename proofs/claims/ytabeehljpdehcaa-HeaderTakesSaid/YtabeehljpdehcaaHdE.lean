/- header: the example, light texts. -/
import Derived.Test.YtabeehljpdehcaaHdC
namespace Go.Proofs.Ytabeehljpdehcaa
set_option linter.unusedVariables false
set_option linter.unusedSimpArgs false
open Go.RowKit Go.Lib
def zs (n : Nat) : List UInt8 := List.replicate n 0
theorem zs_length (n : Nat) : (zs n).length = n := by simp [zs]
theorem zs_cells (c : Nat) : madeCells (Value.int .u8 0).cells c = (byteCells (zs c)).toArray := by
  apply Array.ext
  · simp [size_madeCells, byteCells, zs]
  · intro i h1 h2
    simp [madeCells, byteCells, zs, Nat.mod_one, Value.cells]
theorem hd_add (g n : Nat) : (⟨g, 0, none⟩ : Addr).add n = ⟨g, n, none⟩ := by unfold Addr.add; split <;> simp_all
theorem make_zs (W : World) (c : Nat) (h1 : c ≤ 100000000) :
    (Instr.makeSlice 46 (.int .i64 (c : Int)) (.int .i64 (c : Int))).run Try.prog W = .ok (.slice (some ⟨W.heap.size, 0, none⟩) c c) (W.alloc (.cells (byteCells (zs c)).toArray 5)) := by
  obtain ⟨i0, hi, hz0, hz1, hz2⟩ := info_parts (show (Try.prog.info? 5).map (fun i => (i.zero, i.size, i.bytes)) = some (some (.int .u8 0), 1, 1) by kernel_rfl)
  have h := run_make (P := Try.prog) W 46 5 i0 (.int .u8 0) Try.underlying46 hi hz0 .i64 .i64 (c : Int) (c : Int) (by omega) (by omega) (by rw [hz2]; omega) (by omega)
  rw [h]
  rw [hz1, Int.toNat_natCast, Nat.mul_one, zs_cells]
theorem conv_zs (W : World) (c : Nat) :
    (convert 46 9 (.slice (some ⟨W.heap.size, 0, none⟩) c c)).run Try.prog (W.alloc (.cells (byteCells (zs c)).toArray 5)) = .ok (.string (str (zs c))) (W.alloc (.cells (byteCells (zs c)).toArray 5)) := by
  have hl := zs_length c
  have := run_convert_bytes_back (P := Try.prog) (W.alloc (.cells (byteCells (zs c)).toArray 5)) 46 9 5 ⟨W.heap.size, 0, none⟩ c (zs c) Try.underlying46 Try.underlying5 Try.underlying9 (fun j hj => by
    rw [hl] at hj
    rw [hd_add, Joins.cell_of_block (hnew W _) j]
    simp [byteCells, zs, List.getElem?_replicate, hj])
  rw [hl] at this
  rw [this]; rfl
theorem ex_hP : (str (hP 7 (zs 16) 1 5 9 (zs 32) (zs 32))).extract 0 8 = { data := #[83, 76, 71, 49, 0, 0, 0, 7] } := by kernel_rfl
theorem ex_hM : hMay 7 (zs 16) 1 5 9 (zs 32) (zs 32) := by
  unfold hMay; simp [zs_length]
attribute [local irreducible] str zs hP hF

set_option maxRecDepth 100000 in
theorem zeros_any (c : Nat) (w : World) (h : c ≤ 1000000) : Calls Try.prog 13 #[.int .i64 (c : Int)] w fun e w' => e = .returned (.string (str (zs c))) ∧ Below w.heap.size w w' := by
  have h1 := make_zs w c (by omega)
  have h2 := conv_zs w c
  go_enter Try.func13, Try.ntmps13
  go_wp2_with fail
  go_ret
  exact ⟨rfl, bnew w _⟩
theorem zeros_16 (w : World) : Calls Try.prog 13 #[.int .i64 16] w fun e w' => e = .returned (.string (str (zs 16))) ∧ Below w.heap.size w w' := zeros_any 16 w (by decide)
theorem zeros_32 (w : World) : Calls Try.prog 13 #[.int .i64 32] w fun e w' => e = .returned (.string (str (zs 32))) ∧ Below w.heap.size w w' := zeros_any 32 w (by decide)
set_option maxRecDepth 100000 in
theorem hdAwake_any (w : World) : Calls Try.prog 7 #[] w fun e w' => e = .returned (.bool true) ∧ Below w.heap.size w w' := by
  have ex := ex_hP
  have sz := str_size (hP 7 (zs 16) 1 5 9 (zs 32) (zs 32))
  rw [(hP_parts _ _ _ _ _ _ _ ex_hM).1] at sz
  have HP := Kept.mk (fun w' => Put_yes 7 (zs 16) 1 5 9 (zs 32) (zs 32) w' ex_hM)
  generalize hP 7 (zs 16) 1 5 9 (zs 32) (zs 32) = R at *
  go_enter Try.func7, Try.ntmps7
  go_wp2_with fail
  with_reducible refine (zeros_16 _).mono ?_
  rintro e w1 ⟨rfl, b1⟩
  go_wp2_with fail
  with_reducible refine (zeros_32 _).mono ?_
  rintro e w2 ⟨rfl, b2⟩
  have b2 := bnext b1 b2
  clear b1
  go_wp2_with fail
  with_reducible refine (zeros_32 _).mono ?_
  rintro e w3 ⟨rfl, b3⟩
  have b3 := bnext b2 b3
  clear b2
  go_wp2_with fail
  with_reducible refine (HP.out _).mono ?_
  rintro e w4 ⟨rfl, b4⟩
  have HB := Kept.mk (bnext b3 b4)
  clear b3 b4 HP
  go_wp2_with fail
  go_ret
  exact ⟨rfl, HB.out⟩
set_option maxRecDepth 100000 in
theorem light_yes (id : Int) (salt : List UInt8) (n b raw : Int) (root tag : List UInt8) (w : World) (h : salt.length ≤ 1000 ∧ root.length ≤ 1000 ∧ tag.length ≤ 1000) :
    Calls Try.prog 6 #[.agg #[.int .i64 id, .string (str salt), .int .i64 n, .int .i64 b, .int .i64 raw, .string (str root), .string (str tag)]] w fun e w' => e = .returned (.bool true) ∧ Below w.heap.size w w' := by
  obtain ⟨h1, h2, h3⟩ := h
  have s5 := str_size salt
  have s6 := str_size root
  have s7 := str_size tag
  go_enter Try.func6, Try.ntmps6
  go_wp2_with fail
  go_ret
  exact ⟨ret_bool (decide_eq_true (by omega)), bnew _ _⟩
set_option maxRecDepth 100000 in
theorem light_no (id : Int) (salt : List UInt8) (n b raw : Int) (root tag : List UInt8) (w : World) (h : ¬ (salt.length ≤ 1000 ∧ root.length ≤ 1000 ∧ tag.length ≤ 1000)) (z1 : salt.length ≤ 9223372036854775807) (z2 : root.length ≤ 9223372036854775807) (z3 : tag.length ≤ 9223372036854775807) :
    Calls Try.prog 6 #[.agg #[.int .i64 id, .string (str salt), .int .i64 n, .int .i64 b, .int .i64 raw, .string (str root), .string (str tag)]] w fun e w' => e = .returned (.bool false) ∧ Below w.heap.size w w' := by
  have s5 := str_size salt
  have s6 := str_size root
  have s7 := str_size tag
  by_cases h1 : salt.length ≤ 1000
  · by_cases h2 : root.length ≤ 1000
    · have h3 : ¬ tag.length ≤ 1000 := by omega
      clear h
      go_enter Try.func6, Try.ntmps6
      go_wp2_with fail
      go_ret
      exact ⟨ret_bool (decide_eq_false (by omega)), bnew _ _⟩
    · clear h
      go_enter Try.func6, Try.ntmps6
      go_wp2_with fail
      go_ret
      exact ⟨rfl, bnew _ _⟩
  · clear h
    go_enter Try.func6, Try.ntmps6
    go_wp2_with fail
    go_ret
    exact ⟨rfl, bnew _ _⟩
end Go.Proofs.Ytabeehljpdehcaa
