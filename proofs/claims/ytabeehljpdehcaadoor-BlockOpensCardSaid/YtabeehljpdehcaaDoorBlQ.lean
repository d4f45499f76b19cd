/- Blocks: Seal, Open, of the program and by definition, each by a contract; a text cut or filled up; the example. -/
import Derived.Test.YtabeehljpdehcaaDoorHdB
import Derived.Test.YtabeehljpdehcaaDoorMacE
import Derived.Test.YtabeehljpdehcaaDoorMacT
import Derived.Test.YtabeehljpdehcaaDoorRfV
import Derived.Test.YtabeehljpdehcaaDoorVU
import Derived.Deep.RegionHeld3
import Derived.Deep.Cut
namespace Go.Proofs.YtabeehljpdehcaaDoor
section
set_option linter.unusedVariables false
set_option linter.unusedSimpArgs false
open Go.RowKit Go.Lib
theorem three_atB {X : World} {g : Nat} {T : TypeId} {a0 a1 a2 : Value} (h : X.heap[g]? = some (.cells #[a0, a1, a2] T (0, 0))) :
    X.cell? ⟨g, 0, none⟩ = some a0 ∧ X.cell? ⟨g, 1, none⟩ = some a1 ∧ X.cell? ⟨g, 2, none⟩ = some a2 :=
  ⟨Joins.cell_of_block h 0, Joins.cell_of_block h 1, Joins.cell_of_block h 2⟩
/-- may there be an i-th block -/
def bOk (ke : List UInt8) (i : Int) : Prop := ke.length = 32 ∧ 0 ≤ i ∧ i < 256
instance (ke : List UInt8) (i : Int) : Decidable (bOk ke i) := by unfold bOk; infer_instance
def bMark : List UInt8 := [83, 76, 68, 71]
def bNonce (i : Int) : List UInt8 := bMark ++ beL 8 i
theorem bNonce_length (i : Int) : (bNonce i).length = 12 := by unfold bNonce bMark; rw [List.length_append, beL_length]; rfl
theorem bNonce_of (i : Int) : bMark ++ beL 8 i = bNonce i := rfl
theorem lit_bMark : ({ data := #[83, 76, 68, 71] } : ByteArray) = str bMark := rfl
theorem bMark_size : (str bMark).size = 4 := rfl
/-- the tag of what is turned -/
def bTag (km : List UInt8) (i : Int) (s : List UInt8) : List UInt8 := mTag km (beL 4 i ++ s)
theorem bTag_of (km : List UInt8) (i : Int) (s : List UInt8) : mTag km (beL 4 i ++ s) = bTag km i s := rfl
theorem bTag_length (km : List UInt8) (i : Int) (s : List UInt8) : (bTag km i s).length = 32 := mTag_length _ _
/-- what is turned -/
def bTurn (ke : List UInt8) (i : Int) (s : List UInt8) : List UInt8 := turn ke (bNonce i) 1 s
theorem bTurn_of (ke : List UInt8) (i : Int) (s : List UInt8) : turn ke (bNonce i) 1 s = bTurn ke i s := rfl
theorem bTurn_length (ke : List UInt8) (i : Int) (s : List UInt8) : (bTurn ke i s).length = s.length := turn_length ..
theorem bTurn_twice (ke : List UInt8) (i : Int) (s : List UInt8) : bTurn ke i (bTurn ke i s) = s := turn_twice ..
def bSeal (ke km : List UInt8) (i : Int) (s : List UInt8) : List UInt8 := bTurn ke i s ++ bTag km i (bTurn ke i s)
theorem bSeal_of (ke km : List UInt8) (i : Int) (s : List UInt8) : bTurn ke i s ++ bTag km i (bTurn ke i s) = bSeal ke km i s := rfl
theorem bSeal_length (ke km : List UInt8) (i : Int) (s : List UInt8) : (bSeal ke km i s).length = s.length + 32 := by rw [bSeal, List.length_append, bTurn_length, bTag_length]
theorem row_twoB (w : World) (l m : List UInt8) (T : TypeId) : RowAt (w.alloc (.cells #[.string (str l), .string (str m)] T)) (some ⟨w.heap.size, 0, none⟩) (strs [l, m]) := row_two w l m T
theorem tag_two (key a b : List UInt8) (w : World) (hk : KAt w) (T : TypeId) (hkl : key.length ≤ 800000000) (hl : a.length + b.length ≤ 800000000) :
    Calls Tryd.prog 32 #[.string (str key), .slice (some ⟨w.heap.size, 0, none⟩) 2 2] (w.alloc (.cells #[.string (str a), .string (str b)] T)) fun e w' => e = .returned (.string (str (mTag key (a ++ b)))) ∧ Below w.heap.size w w' :=
  (tag_any key (some ⟨w.heap.size, 0, none⟩) 2 [a, b] (w.alloc (.cells #[.string (str a), .string (str b)] T)) (row_two w a b T) (hk.below (bnew _ _)) hkl (by simp; omega) (by simp)).mono fun e w' h => ⟨by rw [h.1]; simp, bfrom h.2⟩
attribute [local irreducible] str beL bMark bNonce mTag bTag sSum mXor mPad mKey turn

set_option maxRecDepth 100000 in
theorem valid_no (ke km kh : List UInt8) (i : Int) (w : World) (h : ¬ bOk ke i) (z : ke.length ≤ 140737488355328) :
    Calls Tryd.prog 39 #[.agg #[.string (str ke), .string (str km), .string (str kh)], .int .i64 i] w fun e w' => e = .returned (.bool false) ∧ Below w.heap.size w w' := by
  have s1 := str_size ke
  by_cases h1 : ke.length = 32
  · rw [h1] at s1
    by_cases h2 : 0 ≤ i
    · have h3 : ¬ i < 256 := fun h3 => h ⟨h1, h2, h3⟩
      clear h h1
      go_enter Tryd.func39, Tryd.ntmps39
      go_wp2_with fail
      go_ret
      exact ⟨rfl, bnew _ _⟩
    · clear h h1
      go_enter Tryd.func39, Tryd.ntmps39
      go_wp2_with fail
      go_ret
      exact ⟨rfl, bnew _ _⟩
  · have h1i : ((ke.length : Int) == 32) = false := by simp only [beq_eq_false_iff_ne, ne_eq]; omega
    clear h
    go_enter Tryd.func39, Tryd.ntmps39
    go_wp2_with fail
    go_ret
    exact ⟨rfl, bnew _ _⟩
set_option maxRecDepth 100000 in
theorem rightB_no (ke km kh : List UInt8) (i : Int) (w : World) (h : ¬ bOk ke i) (z : ke.length ≤ 140737488355328) :
    Calls Tryd.prog 43 #[.agg #[.string (str ke), .string (str km), .string (str kh)], .int .i64 i] w fun e w' => e = .returned (.bool false) ∧ Below w.heap.size w w' := by
  have s1 := str_size ke
  by_cases h1 : ke.length = 32
  · rw [h1] at s1
    by_cases h2 : 0 ≤ i
    · have h3 : ¬ i < 256 := fun h3 => h ⟨h1, h2, h3⟩
      clear h h1
      go_enter Tryd.func43, Tryd.ntmps43
      go_wp2_with fail
      go_ret
      exact ⟨rfl, bnew _ _⟩
    · clear h h1
      go_enter Tryd.func43, Tryd.ntmps43
      go_wp2_with fail
      go_ret
      exact ⟨rfl, bnew _ _⟩
  · have h1i : ((ke.length : Int) == 32) = false := by simp only [beq_eq_false_iff_ne, ne_eq]; omega
    clear h
    go_enter Tryd.func43, Tryd.ntmps43
    go_wp2_with fail
    go_ret
    exact ⟨rfl, bnew _ _⟩
set_option maxRecDepth 100000 in
theorem valid_yes (ke km kh : List UInt8) (i : Int) (w : World) (h : bOk ke i) :
    Calls Tryd.prog 39 #[.agg #[.string (str ke), .string (str km), .string (str kh)], .int .i64 i] w fun e w' => e = .returned (.bool true) ∧ Below w.heap.size w w' := by
  obtain ⟨h1, h2, h3⟩ := h
  have s1 := str_size ke
  rw [h1] at s1
  clear h1
  go_enter Tryd.func39, Tryd.ntmps39
  go_wp2_with fail
  go_ret
  exact ⟨rfl, bnew _ _⟩
set_option maxRecDepth 100000 in
theorem rightB_yes (ke km kh : List UInt8) (i : Int) (w : World) (h : bOk ke i) :
    Calls Tryd.prog 43 #[.agg #[.string (str ke), .string (str km), .string (str kh)], .int .i64 i] w fun e w' => e = .returned (.bool true) ∧ Below w.heap.size w w' := by
  obtain ⟨h1, h2, h3⟩ := h
  have s1 := str_size ke
  rw [h1] at s1
  clear h1
  go_enter Tryd.func43, Tryd.ntmps43
  go_wp2_with fail
  go_ret
  exact ⟨rfl, bnew _ _⟩
set_option maxRecDepth 100000 in
theorem nonce_any (i : Int) (w : World) (h : I64 i) :
    Calls Tryd.prog 41 #[.int .i64 i] w fun e w' => e = .returned (.string (str (bNonce i))) ∧ Below w.heap.size w w' := by
  have HF := Kept.mk (fixed_any i 8 w h.1 h.2)
  rw [show fixLen 8 = 8 from rfl] at HF
  have eM := lit_bMark
  have A1 := str_append bMark (beL 8 i)
  rw [bNonce_of] at A1
  have l1 := beL_length 8 i
  have s0 : (str bMark).size = 4 := bMark_size
  have s1 := str_size (beL 8 i)
  rw [l1] at s1
  generalize bNonce i = N at *
  generalize beL 8 i = x at *
  go_enter Tryd.func41, Tryd.ntmps41
  go_wp2_with fail
  with_reducible refine HF.out.mono ?_
  rintro e w1 ⟨rfl, b1⟩
  have HB := Kept.mk b1
  clear b1
  go_wp2_with fail
  go_ret
  exact ⟨rfl, HB.out⟩
set_option maxRecDepth 100000 in
theorem blockTag_any (ke km kh : List UInt8) (i : Int) (s : List UInt8) (w : World) (hk : KAt w) (h : I64 i) (z1 : km.length ≤ 1000) (z2 : s.length ≤ 2000) :
    Calls Tryd.prog 42 #[.agg #[.string (str ke), .string (str km), .string (str kh)], .int .i64 i, .string (str s)] w fun e w' => e = .returned (.string (str (bTag km i s))) ∧ Below w.heap.size w w' := by
  have HF := Kept.mk (fun w' => fixed4 i w' h)
  have HT := Kept.mk (bTag_of km i s)
  have l1 := beL_length 4 i
  generalize bTag km i s = TT at *
  generalize beL 4 i = x at *
  have hA := hnew w (.cells #[.string (str ke), .string (str km), .string (str kh)] 36)
  have hB := bnew w (.cells #[.string (str ke), .string (str km), .string (str kh)] 36)
  go_enter Tryd.func42, Tryd.ntmps42
  go_upto_region 1 with fail
  generalize w.alloc (.cells #[.string (str ke), .string (str km), .string (str kh)] 36) = W1 at *
  have HA := Kept.mk hA
  have HB := Kept.mk hB
  clear hA hB
  go_wp2_with fail
  with_reducible refine (HF.out _).mono ?_
  rintro e w1 ⟨rfl, b1⟩
  have hA1 := (three_atB (hkept HA.out (bnext b1 (bnew w1 (.cells #[.string (str x), .string (str s)] 9))))).2.1
  have HB1 := Kept.mk (bnext HB.out b1)
  have HK1 := Kept.mk (hk.below HB1.out)
  clear b1 HB HA hk
  go_wp2_with fail
  with_reducible refine (tag_two km x s _ HK1.out _ (by omega) (by omega)).mono ?_
  rintro e w3 ⟨rfl, b3⟩
  rw [HT.out]
  have HB3 := Kept.mk (bnext HB1.out b3)
  clear b3 hA1
  go_wp2_with fail
  go_ret
  exact ⟨rfl, HB3.out⟩
end
section
set_option linter.unusedVariables false
set_option linter.unusedSimpArgs false
open Go.RowKit Go.Lib
attribute [local irreducible] str beL bMark bNonce mTag bTag sSum mXor mPad mKey turn bTurn bSeal

theorem bXor (ke : List UInt8) (i : Int) (s : List UInt8) (w : World) (hk : ke.length = 32) (hs : s.length = 192) :
    Calls Tryd.prog 40 #[.string (str ke), .string (str (bNonce i)), .int .i64 1, .string (str s)] w fun e w' => e = .returned (.tuple #[.string (str (bTurn ke i s)), .int .i64 0]) ∧ Below w.heap.size w w' := by
  rw [← bTurn_of]; exact xor_any ke (bNonce i) s 1 w hk (bNonce_length i) (by omega) (by omega) (by omega)
theorem bRefXor (ke : List UInt8) (i : Int) (s : List UInt8) (w : World) (hk : ke.length = 32) (hs : s.length = 192) :
    Calls Tryd.prog 44 #[.string (str ke), .string (str (bNonce i)), .int .i64 1, .string (str s)] w fun e w' => e = .returned (.tuple #[.string (str (bTurn ke i s)), .int .i64 0]) ∧ Below w.heap.size w w' := by
  rw [← bTurn_of]; exact refXor_any ke (bNonce i) s 1 3 w hk (bNonce_length i) (by omega) (by omega) (by omega) (by omega)
theorem refFixed8 (n : Int) (w : World) (h : I64 n) : Calls Tryd.prog 36 #[.int .i64 n, .int .i64 8] w fun e w' => e = .returned (.string (str (beL 8 n))) ∧ Below w.heap.size w w' := refFixed_any n 8 w h.1 h.2
theorem bRefTag (km : List UInt8) (i : Int) (s : List UInt8) (w : World) (z1 : km.length ≤ 1000) (z2 : s.length ≤ 2000) :
    Calls Tryd.prog 14 #[.string (str km), .string (str (beL 4 i ++ s))] w fun e w' => e = .returned (.string (str (bTag km i s))) ∧ Below w.heap.size w w' := by
  rw [← bTag_of]; exact refTag_any km (beL 4 i ++ s) w (by omega) (by rw [List.length_append, beL_length]; omega)

set_option maxRecDepth 100000 in
theorem Seal_no (ke km kh : List UInt8) (i : Int) (s : List UInt8) (w : World) (h : ¬ (bOk ke i ∧ s.length = 192)) (z : ke.length ≤ 140737488355328) (zs : s.length ≤ 140737488355328) :
    Calls Tryd.prog 21 #[.agg #[.string (str ke), .string (str km), .string (str kh)], .int .i64 i, .string (str s)] w fun e w' => e = .returned (.tuple #[.string (ByteArray.mk #[]), .int .i64 1]) ∧ Below w.heap.size w w' := by
  have s1 := str_size s
  by_cases h1 : bOk ke i
  · have h2 : ((s.length : Int) != 192) = true := by
      have : ¬ s.length = 192 := fun h2 => h ⟨h1, h2⟩
      rw [bne, show ((s.length : Int) == 192) = false from by simp only [beq_eq_false_iff_ne, ne_eq]; omega]; rfl
    have HV := Kept.mk (fun w' => valid_yes ke km kh i w' h1)
    clear h h1
    go_enter Tryd.func21, Tryd.ntmps21
    go_wp2_with fail
    with_reducible refine (HV.out _).mono ?_
    rintro e w1 ⟨rfl, b1⟩
    have HB := Kept.mk (bfrom b1)
    clear b1
    go_wp2_with fail
    go_ret2
    exact ⟨rfl, HB.out⟩
  · have HV := Kept.mk (fun w' => valid_no ke km kh i w' h1 z)
    clear h h1
    go_enter Tryd.func21, Tryd.ntmps21
    go_wp2_with fail
    with_reducible refine (HV.out _).mono ?_
    rintro e w1 ⟨rfl, b1⟩
    have HB := Kept.mk (bfrom b1)
    clear b1
    go_wp2_with fail
    go_ret2
    exact ⟨rfl, HB.out⟩
set_option maxRecDepth 100000 in
theorem refSeal_no (ke km kh : List UInt8) (i : Int) (s : List UInt8) (w : World) (h : ¬ (bOk ke i ∧ s.length = 192)) (z : ke.length ≤ 140737488355328) (zs : s.length ≤ 140737488355328) :
    Calls Tryd.prog 22 #[.agg #[.string (str ke), .string (str km), .string (str kh)], .int .i64 i, .string (str s)] w fun e w' => e = .returned (.tuple #[.string (ByteArray.mk #[]), .int .i64 1]) ∧ Below w.heap.size w w' := by
  have s1 := str_size s
  by_cases h1 : bOk ke i
  · have h2 : ((s.length : Int) != 192) = true := by
      have : ¬ s.length = 192 := fun h2 => h ⟨h1, h2⟩
      rw [bne, show ((s.length : Int) == 192) = false from by simp only [beq_eq_false_iff_ne, ne_eq]; omega]; rfl
    have HV := Kept.mk (fun w' => rightB_yes ke km kh i w' h1)
    clear h h1
    go_enter Tryd.func22, Tryd.ntmps22
    go_wp2_with fail
    with_reducible refine (HV.out _).mono ?_
    rintro e w1 ⟨rfl, b1⟩
    have HB := Kept.mk (bfrom b1)
    clear b1
    go_wp2_with fail
    go_ret2
    exact ⟨rfl, HB.out⟩
  · have HV := Kept.mk (fun w' => rightB_no ke km kh i w' h1 z)
    clear h h1
    go_enter Tryd.func22, Tryd.ntmps22
    go_wp2_with fail
    with_reducible refine (HV.out _).mono ?_
    rintro e w1 ⟨rfl, b1⟩
    have HB := Kept.mk (bfrom b1)
    clear b1
    go_wp2_with fail
    go_ret2
    exact ⟨rfl, HB.out⟩
theorem bOk_I64 {ke : List UInt8} {i : Int} (h : bOk ke i) : I64 i := ⟨by have := h.2; omega, by have := h.2; omega⟩

set_option maxRecDepth 100000 in
set_option maxHeartbeats 2000000 in
theorem Seal_yes (ke km kh : List UInt8) (i : Int) (s : List UInt8) (w : World) (hk : KAt w) (h : bOk ke i) (hs : s.length = 192) (z1 : km.length ≤ 1000) :
    Calls Tryd.prog 21 #[.agg #[.string (str ke), .string (str km), .string (str kh)], .int .i64 i, .string (str s)] w fun e w' => e = .returned (.tuple #[.string (str (bSeal ke km i s)), .int .i64 0]) ∧ Below w.heap.size w w' := by
  have hI := bOk_I64 h
  have lt := bTurn_length ke i s
  have HV := Kept.mk (fun w' => valid_yes ke km kh i w' h)
  have HN := Kept.mk (fun w' => nonce_any i w' hI)
  have HX := Kept.mk (fun w' => bXor ke i s w' h.1 hs)
  have HT := Kept.mk (fun w' hk => blockTag_any ke km kh i (bTurn ke i s) w' hk hI z1 (by omega))
  have A1 := str_append (bTurn ke i s) (bTag km i (bTurn ke i s))
  rw [bSeal_of] at A1
  have s1 := str_size s
  have s2 := str_size (bTurn ke i s)
  have s3 := str_size (bTag km i (bTurn ke i s))
  rw [bTag_length] at s3
  rw [lt] at s2
  rw [hs] at s1 s2
  clear hI lt h hs z1
  generalize bSeal ke km i s = R at *
  generalize bTag km i (bTurn ke i s) = TT at *
  generalize bTurn ke i s = X at *
  generalize bNonce i = N at *
  have hA := hnew w (.cells #[.string (str ke), .string (str km), .string (str kh)] 36)
  have hB := bnew w (.cells #[.string (str ke), .string (str km), .string (str kh)] 36)
  go_enter Tryd.func21, Tryd.ntmps21
  go_upto_region 1 with fail
  generalize w.alloc (.cells #[.string (str ke), .string (str km), .string (str kh)] 36) = W1 at *
  have HS := Kept.mk (fun w' (h : Below W1.heap.size W1 w') => show w'.cell? ⟨w.heap.size, 0, none⟩ = some (.string (str ke)) ∧ w'.cell? ⟨w.heap.size, 1, none⟩ = some (.string (str km)) ∧ w'.cell? ⟨w.heap.size, 2, none⟩ = some (.string (str kh)) from three_atB (hkept hA h))
  have HB := Kept.mk (fun w' (h : Below W1.heap.size W1 w') => bnext hB h)
  have HK := Kept.mk (fun w' (h : Below W1.heap.size W1 w') => hk.below (bnext hB h))
  obtain ⟨c0, c1, c2⟩ := three_atB hA
  clear hA hB hk
  go_wp2_with fail
  with_reducible refine (HV.out _).mono ?_
  rintro e w1 ⟨rfl, b1⟩
  clear c0 c1 c2
  go_upto_region 3 with fail
  have KS := Kept.mk (fun w' (h : Below w1.heap.size w1 w') => show (w'.cell? ⟨w.heap.size, 0, none⟩ = some (.string (str ke)) ∧ w'.cell? ⟨w.heap.size, 1, none⟩ = some (.string (str km)) ∧ w'.cell? ⟨w.heap.size, 2, none⟩ = some (.string (str kh))) ∧ Below w1.heap.size w1 w' from ⟨HS.out _ (bnext b1 h), h⟩)
  have HS1 := Kept.mk (fun w' (h : Below w1.heap.size w1 w') => HS.out _ (bnext b1 h))
  have HB1 := Kept.mk (fun w' (h : Below w1.heap.size w1 w') => HB.out _ (bnext b1 h))
  have HK1 := Kept.mk (fun w' (h : Below w1.heap.size w1 w') => HK.out _ (bnext b1 h))
  clear b1 HS HB HK HV
  go_region_held3 (fun w' => (w'.cell? ⟨w.heap.size, 0, none⟩ = some (.string (str ke)) ∧ w'.cell? ⟨w.heap.size, 1, none⟩ = some (.string (str km)) ∧ w'.cell? ⟨w.heap.size, 2, none⟩ = some (.string (str kh))) ∧ Below w1.heap.size w1 w')
    (first
      | exact KS.out _ (Below.refl _ _).drew
      | (go_split_ands; exact KS.out _ (bnext (by assumption) hbA))
      | (go_split_ands; exact KS.out _ (by assumption)))
    (first
      | (go_at_call 41; with_reducible refine (HN.out _).mono ?_; rintro e wA ⟨rfl, hbA⟩)
      | (go_at_call 40; with_reducible refine (HX.out _).mono ?_; rintro e wA ⟨rfl, hbA⟩))
  all_goals
    go_split_ands
    have b9 : Below w1.heap.size w1 wA := by assumption
    clear KS
    obtain ⟨c0, c1, c2⟩ := HS1.out _ b9
    go_wp2_with fail
    with_reducible refine (HT.out _ (HK1.out _ b9)).mono ?_
    rintro e w3 ⟨rfl, b3⟩
    have HE := Kept.mk (HB1.out _ (bnext b9 b3))
    clear b3 b9
    go_wp2_with fail
    go_ret2
    exact ⟨rfl, HE.out⟩

set_option maxRecDepth 100000 in
set_option maxHeartbeats 2000000 in
theorem refSeal_yes (ke km kh : List UInt8) (i : Int) (s : List UInt8) (w : World) (h : bOk ke i) (hs : s.length = 192) (z1 : km.length ≤ 1000) :
    Calls Tryd.prog 22 #[.agg #[.string (str ke), .string (str km), .string (str kh)], .int .i64 i, .string (str s)] w fun e w' => e = .returned (.tuple #[.string (str (bSeal ke km i s)), .int .i64 0]) ∧ Below w.heap.size w w' := by
  have hI := bOk_I64 h
  have lt := bTurn_length ke i s
  have HV := Kept.mk (fun w' => rightB_yes ke km kh i w' h)
  have HF8 := Kept.mk (fun w' => refFixed8 i w' hI)
  have HF4 := Kept.mk (fun w' => refFixed4 i w' hI)
  have HX := Kept.mk (fun w' => bRefXor ke i s w' h.1 hs)
  have HT := Kept.mk (fun w' => bRefTag km i (bTurn ke i s) w' z1 (by omega))
  have eM := lit_bMark
  have A0 := str_append bMark (beL 8 i)
  rw [bNonce_of] at A0
  have A1 := str_append (bTurn ke i s) (bTag km i (bTurn ke i s))
  rw [bSeal_of] at A1
  have A2 := str_append (beL 4 i) (bTurn ke i s)
  have s1 := str_size s
  have s2 := str_size (bTurn ke i s)
  have s3 := str_size (bTag km i (bTurn ke i s))
  have s4 := str_size (beL 4 i)
  have s5 := str_size (beL 8 i)
  have s6 := bMark_size
  rw [bTag_length] at s3
  rw [beL_length] at s4 s5
  rw [lt] at s2
  rw [hs] at s1 s2
  have q1 : ¬ (9223372036854775807 < (str bMark).size + (str (beL 8 i)).size) := by omega
  have q1b : ¬ (9223372036854775807 < 4 + (str (beL 8 i)).size) := by omega
  have q2 : ¬ (9223372036854775807 < (str (beL 4 i)).size + (str (bTurn ke i s)).size) := by omega
  have q3 : ¬ (9223372036854775807 < (str (bTurn ke i s)).size + (str (bTag km i (bTurn ke i s))).size) := by omega
  clear hI lt h hs z1 s2 s3 s4 s5 s6
  generalize bSeal ke km i s = R at *
  generalize bTag km i (bTurn ke i s) = TT at *
  generalize beL 4 i ++ bTurn ke i s = Y at *
  generalize bTurn ke i s = X at *
  generalize bNonce i = N at *
  generalize beL 8 i = x8 at *
  generalize beL 4 i = x4 at *
  have hA := hnew w (.cells #[.string (str ke), .string (str km), .string (str kh)] 36)
  have hB := bnew w (.cells #[.string (str ke), .string (str km), .string (str kh)] 36)
  go_enter Tryd.func22, Tryd.ntmps22
  go_upto_region 1 with fail
  generalize w.alloc (.cells #[.string (str ke), .string (str km), .string (str kh)] 36) = W1 at *
  have HS := Kept.mk (fun w' (h : Below W1.heap.size W1 w') => show w'.cell? ⟨w.heap.size, 0, none⟩ = some (.string (str ke)) ∧ w'.cell? ⟨w.heap.size, 1, none⟩ = some (.string (str km)) ∧ w'.cell? ⟨w.heap.size, 2, none⟩ = some (.string (str kh)) from three_atB (hkept hA h))
  have HB := Kept.mk (fun w' (h : Below W1.heap.size W1 w') => bnext hB h)
  obtain ⟨c0, c1, c2⟩ := three_atB hA
  clear hA hB
  go_wp2_with fail
  with_reducible refine (HV.out _).mono ?_
  rintro e w1 ⟨rfl, b1⟩
  clear c0 c1 c2
  go_upto_region 3 with fail
  have KS := Kept.mk (fun w' (h : Below w1.heap.size w1 w') => show (w'.cell? ⟨w.heap.size, 0, none⟩ = some (.string (str ke)) ∧ w'.cell? ⟨w.heap.size, 1, none⟩ = some (.string (str km)) ∧ w'.cell? ⟨w.heap.size, 2, none⟩ = some (.string (str kh))) ∧ Below w1.heap.size w1 w' from ⟨HS.out _ (bnext b1 h), h⟩)
  have HB1 := Kept.mk (fun w' (h : Below w1.heap.size w1 w') => HB.out _ (bnext b1 h))
  clear b1 HS HB HV
  go_region_held3 (fun w' => (w'.cell? ⟨w.heap.size, 0, none⟩ = some (.string (str ke)) ∧ w'.cell? ⟨w.heap.size, 1, none⟩ = some (.string (str km)) ∧ w'.cell? ⟨w.heap.size, 2, none⟩ = some (.string (str kh))) ∧ Below w1.heap.size w1 w')
    (first
      | exact KS.out _ (Below.refl _ _).drew
      | (go_split_ands; exact KS.out _ (bnext (by assumption) hbA))
      | (go_split_ands; exact KS.out _ (by assumption)))
    (first
      | (go_at_call 36; with_reducible refine (HF8.out _).mono ?_; rintro e wA ⟨rfl, hbA⟩)
      | (go_at_call 44; with_reducible refine (HX.out _).mono ?_; rintro e wA ⟨rfl, hbA⟩))
  all_goals
    go_split_ands
    have b9 : Below w1.heap.size w1 wA := by assumption
    have KS2 := Kept.mk (fun w' (h : Below wA.heap.size wA w') => show (w'.cell? ⟨w.heap.size, 0, none⟩ = some (.string (str ke)) ∧ w'.cell? ⟨w.heap.size, 1, none⟩ = some (.string (str km)) ∧ w'.cell? ⟨w.heap.size, 2, none⟩ = some (.string (str kh))) ∧ Below wA.heap.size wA w' from ⟨(KS.out _ (bnext b9 h)).1, h⟩)
    have HB2 := Kept.mk (fun w' (h : Below wA.heap.size wA w') => HB1.out _ (bnext b9 h))
    clear KS b9 HB1
    go_upto_region 4 with fail
    go_region_held3 (fun w' => (w'.cell? ⟨w.heap.size, 0, none⟩ = some (.string (str ke)) ∧ w'.cell? ⟨w.heap.size, 1, none⟩ = some (.string (str km)) ∧ w'.cell? ⟨w.heap.size, 2, none⟩ = some (.string (str kh))) ∧ Below wA.heap.size wA w')
      (first
        | exact KS2.out _ (Below.refl _ _).drew
        | (go_split_ands; exact KS2.out _ (bnext (by assumption) hbB))
        | (go_split_ands; exact KS2.out _ (by assumption)))
      (first
        | (go_at_call 36; with_reducible refine (HF4.out _).mono ?_; rintro e wB ⟨rfl, hbB⟩)
        | (go_at_call 14; with_reducible refine (HT.out _).mono ?_; rintro e wB ⟨rfl, hbB⟩))
    all_goals
      go_split_ands
      have HE := Kept.mk (HB2.out _ (show Below wA.heap.size wA _ by assumption))
      go_wp2_with fail
      go_ret2
      exact ⟨rfl, HE.out⟩
end
section
set_option linter.unusedVariables false
set_option linter.unusedSimpArgs false
open Go.RowKit Go.Lib
theorem str_cutB (l : List UInt8) (n : Nat) : (str l).extract 0 n = str (l.take n) := by rw [str_extract, List.drop_zero, Nat.sub_zero]
theorem str_restB (l : List UInt8) (n m : Nat) (h : l.length = m) : (str l).extract n m = str (l.drop n) := by
  subst h
  rw [str_extract, List.take_of_length_le (by rw [List.length_drop]; exact Nat.le_refl _)]
attribute [local irreducible] str beL bMark bNonce mTag bTag sSum mXor mPad mKey turn bTurn bSeal

set_option maxRecDepth 100000 in
theorem Open_no (ke km kh : List UInt8) (i : Int) (s : List UInt8) (w : World) (h : ¬ bOk ke i) (z : ke.length ≤ 140737488355328) :
    Calls Tryd.prog 23 #[.agg #[.string (str ke), .string (str km), .string (str kh)], .int .i64 i, .string (str s)] w fun e w' => e = .returned (.tuple #[.string (ByteArray.mk #[]), .int .i64 1]) ∧ Below w.heap.size w w' := by
  have HV := Kept.mk (fun w' => valid_no ke km kh i w' h z)
  clear h
  go_enter Tryd.func23, Tryd.ntmps23
  go_wp2_with fail
  with_reducible refine (HV.out _).mono ?_
  rintro e w1 ⟨rfl, b1⟩
  have HB := Kept.mk (bfrom b1)
  clear b1
  go_wp2_with fail
  go_ret2
  exact ⟨rfl, HB.out⟩
set_option maxRecDepth 100000 in
theorem refOpen_no (ke km kh : List UInt8) (i : Int) (s : List UInt8) (w : World) (h : ¬ bOk ke i) (z : ke.length ≤ 140737488355328) :
    Calls Tryd.prog 24 #[.agg #[.string (str ke), .string (str km), .string (str kh)], .int .i64 i, .string (str s)] w fun e w' => e = .returned (.tuple #[.string (ByteArray.mk #[]), .int .i64 1]) ∧ Below w.heap.size w w' := by
  have HV := Kept.mk (fun w' => rightB_no ke km kh i w' h z)
  clear h
  go_enter Tryd.func24, Tryd.ntmps24
  go_wp2_with fail
  with_reducible refine (HV.out _).mono ?_
  rintro e w1 ⟨rfl, b1⟩
  have HB := Kept.mk (bfrom b1)
  clear b1
  go_wp2_with fail
  go_ret2
  exact ⟨rfl, HB.out⟩
set_option maxRecDepth 100000 in
theorem Open_len (ke km kh : List UInt8) (i : Int) (s : List UInt8) (w : World) (h : bOk ke i) (hs : s.length ≠ 224) (zs : s.length ≤ 140737488355328) :
    Calls Tryd.prog 23 #[.agg #[.string (str ke), .string (str km), .string (str kh)], .int .i64 i, .string (str s)] w fun e w' => e = .returned (.tuple #[.string (ByteArray.mk #[]), .int .i64 2]) ∧ Below w.heap.size w w' := by
  have HV := Kept.mk (fun w' => valid_yes ke km kh i w' h)
  have s1 := str_size s
  have h2 : ((s.length : Int) != 224) = true := by
    rw [bne, show ((s.length : Int) == 224) = false from by simp only [beq_eq_false_iff_ne, ne_eq]; omega]; rfl
  clear h hs
  go_enter Tryd.func23, Tryd.ntmps23
  go_wp2_with fail
  with_reducible refine (HV.out _).mono ?_
  rintro e w1 ⟨rfl, b1⟩
  have HB := Kept.mk (bfrom b1)
  clear b1
  go_wp2_with fail
  go_ret2
  exact ⟨rfl, HB.out⟩
set_option maxRecDepth 100000 in
theorem refOpen_len (ke km kh : List UInt8) (i : Int) (s : List UInt8) (w : World) (h : bOk ke i) (hs : s.length ≠ 224) (zs : s.length ≤ 140737488355328) :
    Calls Tryd.prog 24 #[.agg #[.string (str ke), .string (str km), .string (str kh)], .int .i64 i, .string (str s)] w fun e w' => e = .returned (.tuple #[.string (ByteArray.mk #[]), .int .i64 2]) ∧ Below w.heap.size w w' := by
  have HV := Kept.mk (fun w' => rightB_yes ke km kh i w' h)
  have s1 := str_size s
  have h2 : ((s.length : Int) != 224) = true := by
    rw [bne, show ((s.length : Int) == 224) = false from by simp only [beq_eq_false_iff_ne, ne_eq]; omega]; rfl
  clear h hs
  go_enter Tryd.func24, Tryd.ntmps24
  go_wp2_with fail
  with_reducible refine (HV.out _).mono ?_
  rintro e w1 ⟨rfl, b1⟩
  have HB := Kept.mk (bfrom b1)
  clear b1
  go_wp2_with fail
  go_ret2
  exact ⟨rfl, HB.out⟩
/-- what Open tells of 224 bytes -/
def oS (ke km : List UInt8) (i : Int) (s : List UInt8) : ByteArray := if s.drop 192 = bTag km i (s.take 192) then str (bTurn ke i (s.take 192)) else ByteArray.mk #[]
def oE (km : List UInt8) (i : Int) (s : List UInt8) : Int := if s.drop 192 = bTag km i (s.take 192) then 0 else 4
theorem o_yes {ke km : List UInt8} {i : Int} {s : List UInt8} (h : s.drop 192 = bTag km i (s.take 192)) : oS ke km i s = str (bTurn ke i (s.take 192)) ∧ oE km i s = 0 := ⟨if_pos h, if_pos h⟩
theorem o_no {ke km : List UInt8} {i : Int} {s : List UInt8} (h : s.drop 192 ≠ bTag km i (s.take 192)) : oS ke km i s = ByteArray.mk #[] ∧ oE km i s = 4 := ⟨if_neg h, if_neg h⟩
attribute [local irreducible] oS oE

set_option maxRecDepth 100000 in
set_option maxHeartbeats 4000000 in
theorem Open_all (ke km kh : List UInt8) (i : Int) (s : List UInt8) (w : World) (hk : KAt w) (h : bOk ke i) (hs : s.length = 224) (z1 : km.length ≤ 1000) :
    Calls Tryd.prog 23 #[.agg #[.string (str ke), .string (str km), .string (str kh)], .int .i64 i, .string (str s)] w fun e w' => e = .returned (.tuple #[.string (oS ke km i s), .int .i64 (oE km i s)]) ∧ Below w.heap.size w w' := by
  have hI := bOk_I64 h
  have l1 : (s.take 192).length = 192 := by rw [List.length_take]; omega
  have l2 : (s.drop 192).length = 32 := by rw [List.length_drop]; omega
  have HV := Kept.mk (fun w' => valid_yes ke km kh i w' h)
  have HN := Kept.mk (fun w' => nonce_any i w' hI)
  have HX := Kept.mk (fun w' => bXor ke i (s.take 192) w' h.1 l1)
  have HT := Kept.mk (fun w' hk => blockTag_any ke km kh i (s.take 192) w' hk hI z1 (by omega))
  have l3 := bTag_length km i (s.take 192)
  have HQ := Kept.mk (fun w' => equal_any (s.drop 192) (bTag km i (s.take 192)) w' (by omega) (by omega))
  have hE : (decide (s.drop 192 = bTag km i (s.take 192)) = true ∧ oS ke km i s = str (bTurn ke i (s.take 192)) ∧ oE km i s = 0) ∨ (decide (s.drop 192 = bTag km i (s.take 192)) = false ∧ oS ke km i s = ByteArray.mk #[] ∧ oE km i s = 4) := by
    by_cases hq : s.drop 192 = bTag km i (s.take 192)
    · exact .inl ⟨decide_eq_true hq, o_yes hq⟩
    · exact .inr ⟨decide_eq_false hq, o_no hq⟩
  have e1 := str_cutB s 192
  have e2 := str_restB s 192 224 hs
  have s1 := str_size s
  rw [hs] at s1
  generalize decide (s.drop 192 = bTag km i (s.take 192)) = D at *
  generalize max (s.drop 192).length (bTag km i (s.take 192)).length = M at *
  clear hI h hs z1 l1 l2 l3
  generalize oS ke km i s = OS at *
  generalize oE km i s = OE at *
  generalize bTag km i (s.take 192) = TT at *
  generalize bTurn ke i (s.take 192) = X at *
  generalize s.take 192 = c at *
  generalize s.drop 192 = t at *
  generalize bNonce i = N at *
  have hA := hnew w (.cells #[.string (str ke), .string (str km), .string (str kh)] 36)
  have hB := bnew w (.cells #[.string (str ke), .string (str km), .string (str kh)] 36)
  go_enter Tryd.func23, Tryd.ntmps23
  go_upto_region 1 with fail
  generalize w.alloc (.cells #[.string (str ke), .string (str km), .string (str kh)] 36) = W1 at *
  have HS := Kept.mk (fun w' (h : Below W1.heap.size W1 w') => show w'.cell? ⟨w.heap.size, 0, none⟩ = some (.string (str ke)) ∧ w'.cell? ⟨w.heap.size, 1, none⟩ = some (.string (str km)) ∧ w'.cell? ⟨w.heap.size, 2, none⟩ = some (.string (str kh)) from three_atB (hkept hA h))
  have HB := Kept.mk (fun w' (h : Below W1.heap.size W1 w') => bnext hB h)
  have HK := Kept.mk (fun w' (h : Below W1.heap.size W1 w') => hk.below (bnext hB h))
  obtain ⟨c0, c1, c2⟩ := three_atB hA
  clear hA hB hk
  go_wp2_with fail
  with_reducible refine (HV.out _).mono ?_
  rintro e w1 ⟨rfl, b1⟩
  clear c0 c1 c2
  go_upto_region 6 with fail
  have KS := Kept.mk (fun w' (h : Below w1.heap.size w1 w') => show (w'.cell? ⟨w.heap.size, 0, none⟩ = some (.string (str ke)) ∧ w'.cell? ⟨w.heap.size, 1, none⟩ = some (.string (str km)) ∧ w'.cell? ⟨w.heap.size, 2, none⟩ = some (.string (str kh))) ∧ Below w1.heap.size w1 w' from ⟨HS.out _ (bnext b1 h), h⟩)
  have HB1 := Kept.mk (fun w' (h : Below w1.heap.size w1 w') => HB.out _ (bnext b1 h))
  have HK1 := Kept.mk (fun w' (h : Below w1.heap.size w1 w') => HK.out _ (bnext b1 h))
  clear b1 HS HB HK HV
  go_region_held3 (fun w' => (w'.cell? ⟨w.heap.size, 0, none⟩ = some (.string (str ke)) ∧ w'.cell? ⟨w.heap.size, 1, none⟩ = some (.string (str km)) ∧ w'.cell? ⟨w.heap.size, 2, none⟩ = some (.string (str kh))) ∧ Below w1.heap.size w1 w')
    (first
      | exact KS.out _ (Below.refl _ _).drew
      | (go_split_ands; exact KS.out _ (bnext (by assumption) hbA))
      | (go_split_ands; exact KS.out _ (by assumption)))
    (first
      | (go_at_call 42; go_split_ands; with_reducible refine (HT.out _ (HK1.out _ (by assumption))).mono ?_; rintro e wA ⟨rfl, hbA⟩)
      | (go_at_call 38; with_reducible refine (HQ.out _).mono ?_; rintro e wA ⟨rfl, hbA⟩))
  all_goals
    go_split_ands
    have b9 : Below w1.heap.size w1 wA := by assumption
    have KS2 := Kept.mk (fun w' (h : Below wA.heap.size wA w') => show (w'.cell? ⟨w.heap.size, 0, none⟩ = some (.string (str ke)) ∧ w'.cell? ⟨w.heap.size, 1, none⟩ = some (.string (str km)) ∧ w'.cell? ⟨w.heap.size, 2, none⟩ = some (.string (str kh))) ∧ Below wA.heap.size wA w' from ⟨(KS.out _ (bnext b9 h)).1, h⟩)
    have HB2 := Kept.mk (fun w' (h : Below wA.heap.size wA w') => HB1.out _ (bnext b9 h))
    clear KS b9 HB1
    rcases hE with ⟨rfl, hS, hO⟩ | ⟨rfl, hS, hO⟩
    · have HSO := Kept.mk hS
      have HOO := Kept.mk hO
      clear hS hO
      go_upto_region 9 with fail
      go_region_held3 (fun w' => (w'.cell? ⟨w.heap.size, 0, none⟩ = some (.string (str ke)) ∧ w'.cell? ⟨w.heap.size, 1, none⟩ = some (.string (str km)) ∧ w'.cell? ⟨w.heap.size, 2, none⟩ = some (.string (str kh))) ∧ Below wA.heap.size wA w')
        (first
          | exact KS2.out _ (Below.refl _ _).drew
          | (go_split_ands; exact KS2.out _ (bnext (by assumption) hbB))
          | (go_split_ands; exact KS2.out _ (by assumption)))
        (first
          | (go_at_call 41; with_reducible refine (HN.out _).mono ?_; rintro e wB ⟨rfl, hbB⟩)
          | (go_at_call 40; with_reducible refine (HX.out _).mono ?_; rintro e wB ⟨rfl, hbB⟩))
      all_goals
        go_split_ands
        have HE := Kept.mk (HB2.out _ (show Below wA.heap.size wA _ by assumption))
        go_wp2_with fail
        go_ret2
        exact ⟨by rw [HSO.out, HOO.out]; rfl, HE.out⟩
    · have HSO := Kept.mk hS
      have HOO := Kept.mk hO
      have HE := Kept.mk (HB2.out _ (Below.refl _ _))
      clear hS hO
      go_wp2_with fail
      go_ret2
      exact ⟨by rw [HSO.out, HOO.out]; rfl, HE.out⟩

set_option maxRecDepth 100000 in
set_option maxHeartbeats 4000000 in
theorem refOpen_all (ke km kh : List UInt8) (i : Int) (s : List UInt8) (w : World) (h : bOk ke i) (hs : s.length = 224) (z1 : km.length ≤ 1000) :
    Calls Tryd.prog 24 #[.agg #[.string (str ke), .string (str km), .string (str kh)], .int .i64 i, .string (str s)] w fun e w' => e = .returned (.tuple #[.string (oS ke km i s), .int .i64 (oE km i s)]) ∧ Below w.heap.size w w' := by
  have hI := bOk_I64 h
  have l1 : (s.take 192).length = 192 := by rw [List.length_take]; omega
  have l2 : (s.drop 192).length = 32 := by rw [List.length_drop]; omega
  have HV := Kept.mk (fun w' => rightB_yes ke km kh i w' h)
  have HF8 := Kept.mk (fun w' => refFixed8 i w' hI)
  have HF4 := Kept.mk (fun w' => refFixed4 i w' hI)
  have HX := Kept.mk (fun w' => bRefXor ke i (s.take 192) w' h.1 l1)
  have HT := Kept.mk (fun w' => bRefTag km i (s.take 192) w' z1 (by omega))
  have ht := str_tl (bTag km i (s.take 192)) (s.drop 192)
  have hE : (decide (bTag km i (s.take 192) = s.drop 192) = true ∧ oS ke km i s = str (bTurn ke i (s.take 192)) ∧ oE km i s = 0) ∨ (decide (bTag km i (s.take 192) = s.drop 192) = false ∧ oS ke km i s = ByteArray.mk #[] ∧ oE km i s = 4) := by
    by_cases hq : s.drop 192 = bTag km i (s.take 192)
    · exact .inl ⟨decide_eq_true hq.symm, o_yes hq⟩
    · exact .inr ⟨decide_eq_false (Ne.symm hq), o_no hq⟩
  have e1 := str_cutB s 192
  have e2 := str_restB s 192 224 hs
  have s1 := str_size s
  rw [hs] at s1
  have eM := lit_bMark
  have A0 := str_append bMark (beL 8 i)
  rw [bNonce_of] at A0
  have A2 := str_append (beL 4 i) (s.take 192)
  have s2 := str_size (s.take 192)
  have s4 := str_size (beL 4 i)
  have s5 := str_size (beL 8 i)
  have s6 := bMark_size
  rw [beL_length] at s4 s5
  rw [l1] at s2
  have q1 : ¬ (9223372036854775807 < (str bMark).size + (str (beL 8 i)).size) := by omega
  have q1b : ¬ (9223372036854775807 < 4 + (str (beL 8 i)).size) := by omega
  have q2 : ¬ (9223372036854775807 < (str (beL 4 i)).size + (str (s.take 192)).size) := by omega
  clear hI h hs z1 l1 l2 s2 s4 s5 s6
  generalize decide (bTag km i (s.take 192) = s.drop 192) = D at *
  generalize oS ke km i s = OS at *
  generalize oE km i s = OE at *
  generalize bTag km i (s.take 192) = TT at *
  generalize bTurn ke i (s.take 192) = X at *
  generalize beL 4 i ++ s.take 192 = Y at *
  generalize s.take 192 = c at *
  generalize s.drop 192 = t at *
  generalize bNonce i = N at *
  generalize beL 8 i = x8 at *
  generalize beL 4 i = x4 at *
  have hA := hnew w (.cells #[.string (str ke), .string (str km), .string (str kh)] 36)
  have hB := bnew w (.cells #[.string (str ke), .string (str km), .string (str kh)] 36)
  go_enter Tryd.func24, Tryd.ntmps24
  go_upto_region 1 with fail
  generalize w.alloc (.cells #[.string (str ke), .string (str km), .string (str kh)] 36) = W1 at *
  have HS := Kept.mk (fun w' (h : Below W1.heap.size W1 w') => show w'.cell? ⟨w.heap.size, 0, none⟩ = some (.string (str ke)) ∧ w'.cell? ⟨w.heap.size, 1, none⟩ = some (.string (str km)) ∧ w'.cell? ⟨w.heap.size, 2, none⟩ = some (.string (str kh)) from three_atB (hkept hA h))
  have HB := Kept.mk (fun w' (h : Below W1.heap.size W1 w') => bnext hB h)
  obtain ⟨c0, c1, c2⟩ := three_atB hA
  clear hA hB
  go_wp2_with fail
  with_reducible refine (HV.out _).mono ?_
  rintro e w1 ⟨rfl, b1⟩
  clear c0 c1 c2
  go_upto_region 5 with fail
  have KS := Kept.mk (fun w' (h : Below w1.heap.size w1 w') => show (w'.cell? ⟨w.heap.size, 0, none⟩ = some (.string (str ke)) ∧ w'.cell? ⟨w.heap.size, 1, none⟩ = some (.string (str km)) ∧ w'.cell? ⟨w.heap.size, 2, none⟩ = some (.string (str kh))) ∧ Below w1.heap.size w1 w' from ⟨HS.out _ (bnext b1 h), h⟩)
  have HB1 := Kept.mk (fun w' (h : Below w1.heap.size w1 w') => HB.out _ (bnext b1 h))
  clear b1 HS HB HV
  rcases hE with ⟨rfl, hS, hO⟩ | ⟨rfl, hS, hO⟩
  all_goals
    have HSO := Kept.mk hS
    have HOO := Kept.mk hO
    clear hS hO
    go_region_held3 (fun w' => (w'.cell? ⟨w.heap.size, 0, none⟩ = some (.string (str ke)) ∧ w'.cell? ⟨w.heap.size, 1, none⟩ = some (.string (str km)) ∧ w'.cell? ⟨w.heap.size, 2, none⟩ = some (.string (str kh))) ∧ Below w1.heap.size w1 w')
      (first
        | exact KS.out _ (Below.refl _ _).drew
        | (go_split_ands; exact KS.out _ (bnext (by assumption) hbA))
        | (go_split_ands; exact KS.out _ (by assumption)))
      (first
        | (go_at_call 36; with_reducible refine (HF4.out _).mono ?_; rintro e wA ⟨rfl, hbA⟩)
        | (go_at_call 14; with_reducible refine (HT.out _).mono ?_; rintro e wA ⟨rfl, hbA⟩))
  · go_split_ands
    have b9 : Below w1.heap.size w1 wA := by assumption
    have KS2 := Kept.mk (fun w' (h : Below wA.heap.size wA w') => show (w'.cell? ⟨w.heap.size, 0, none⟩ = some (.string (str ke)) ∧ w'.cell? ⟨w.heap.size, 1, none⟩ = some (.string (str km)) ∧ w'.cell? ⟨w.heap.size, 2, none⟩ = some (.string (str kh))) ∧ Below wA.heap.size wA w' from ⟨(KS.out _ (bnext b9 h)).1, h⟩)
    have HB2 := Kept.mk (fun w' (h : Below wA.heap.size wA w') => HB1.out _ (bnext b9 h))
    clear KS b9 HB1
    go_upto_region 7 with fail
    go_region_held3 (fun w' => (w'.cell? ⟨w.heap.size, 0, none⟩ = some (.string (str ke)) ∧ w'.cell? ⟨w.heap.size, 1, none⟩ = some (.string (str km)) ∧ w'.cell? ⟨w.heap.size, 2, none⟩ = some (.string (str kh))) ∧ Below wA.heap.size wA w')
      (first
        | exact KS2.out _ (Below.refl _ _).drew
        | (go_split_ands; exact KS2.out _ (bnext (by assumption) hbB))
        | (go_split_ands; exact KS2.out _ (by assumption)))
      (first
        | (go_at_call 36; with_reducible refine (HF8.out _).mono ?_; rintro e wB ⟨rfl, hbB⟩)
        | (go_at_call 44; with_reducible refine (HX.out _).mono ?_; rintro e wB ⟨rfl, hbB⟩))
    all_goals
      go_split_ands
      have HE := Kept.mk (HB2.out _ (show Below wA.heap.size wA _ by assumption))
      go_wp2_with fail
      go_ret2
      exact ⟨by rw [HSO.out, HOO.out]; rfl, HE.out⟩
  · go_split_ands
    have HE := Kept.mk (HB1.out _ (show Below w1.heap.size w1 _ by assumption))
    go_wp2_with fail
    go_ret2
    exact ⟨by rw [HSO.out, HOO.out]; rfl, HE.out⟩
end
section
set_option linter.unusedVariables false
set_option linter.unusedSimpArgs false
open Go.RowKit Go.Lib
theorem BG.string_take {w wr : World} {g m cap : Nat} {l : List UInt8} (h : BG w wr (.slice (some ⟨g, 0, none⟩) m cap) l) (n c2 : Nat) (hn : n ≤ l.length) : (convert 33 9 (.slice (some ⟨g, 0, none⟩) n c2)).run Tryd.prog wr = .ok (.string (str (l.take n))) wr := by
  obtain ⟨h1, g', cap', cs, T, f0, f1, e, hg, hh, h2, h3, h4, h5⟩ := h
  cases e
  have hl : (l.take n).length = n := by rw [List.length_take]; omega
  have hr := run_convert_bytes_back (P := Tryd.prog) wr 33 9 5 ⟨g, 0, none⟩ c2 (l.take n) Tryd.underlying33 Tryd.underlying5 Tryd.underlying9 fun j hj => by
    rw [at_add, cell_of_cells hh]
    refine take_get h5 ?_
    simp [Lib.byteCells, List.getElem?_eq_getElem (show j < l.length by omega)]
  rw [hl] at hr
  exact hr
def slen : Value → Nat
  | .slice _ n _ => n
  | _ => 0
/-- a text, filled up by j bytes -/
def sg (l : List UInt8) : Nat → List UInt8
  | 0 => l
  | j + 1 => sg l j ++ [UInt8.ofNat (sg l j).length]
theorem sg_length (l : List UInt8) (j : Nat) : (sg l j).length = l.length + j := by
  induction j with
  | zero => rfl
  | succ j ih => rw [sg, List.length_append, ih]; rfl
/-- a text, cut or filled up to n bytes -/
def sz (l : List UInt8) (n : Nat) : List UInt8 := (sg l (n - l.length)).take n
theorem sz_length (l : List UInt8) (n : Nat) : (sz l n).length = n := by rw [sz, List.length_take, sg_length]; omega
theorem sg_zero (l : List UInt8) : sg l 0 = l := rfl
theorem sg_next (l : List UInt8) (j : Nat) : sg l j ++ [UInt8.ofNat (sg l j).length] = sg l (j + 1) := rfl
theorem sz_of (l : List UInt8) (n j : Nat) (h : j ≤ n - l.length) (h2 : n ≤ (sg l j).length) : (sg l j).take n = sz l n := by
  rw [sg_length] at h2
  rw [sz, show n - l.length = j from by omega]
section
attribute [local irreducible] str sg sz

set_option maxRecDepth 100000 in
theorem sized_any (l : List UInt8) (n : Nat) (w : World) (hl : l.length ≤ 100000) (hn : n ≤ 250) :
    Calls Tryd.prog 25 #[.string (str l), .int .i64 (n : Int)] w fun e w' => e = .returned (.string (str (sz l n))) ∧ Below w.heap.size w w' := by
  have HCV := Kept.mk (conv_bytes w l)
  have hB := bg_start w l
  generalize bytesWorld w 5 (str l) = W0 at *
  generalize grownCap w l.length 0 5 = cap at *
  have HB := Kept.mk hB
  clear hB
  go_enter Tryd.func25, Tryd.ntmps25
  go_wp2_with (rw [HCV.out])
  go_loopw [5] (fun s5 wr => ∃ j : Nat, j ≤ n - l.length ∧ BG w wr s5 (sg l j)) (fun s5 _ => n - slen s5)
  case atStart => exact ⟨0, by omega, by rw [sg_zero]; exact HB.out⟩
  case round =>
    clear HB HCV
    obtain ⟨j, hj, hb⟩ := hrel
    have HL := Kept.mk (sg_length l j)
    have hlen := sg_length l j
    have HN := Kept.mk (sg_next l j)
    have HZ := Kept.mk (sz_of l n j hj)
    generalize sg l j = L at *
    obtain ⟨g, cap, rfl, hg, hc, hrow⟩ := hb.row
    by_cases hlt : L.length < n
    · have hi : (L.length : Int) < (n : Int) := by omega
      have hY : (UInt8.ofNat L.length).toNat = L.length := by rw [UInt8.toNat_ofNat']; omega
      have h256 : (L.length : Int) % 256 = (L.length : Int) := by omega
      have HBG := Kept.mk hb
      have HY := Kept.mk (show (L.length : Int) = ((UInt8.ofNat L.length).toNat : Int) from by rw [hY])
      have hj1 : j + 1 ≤ n - l.length := by omega
      clear hb hrow hY hlen
      go_wp2_with (at_builtin; refine bg_append rfl (.tmp 12) (.tmp 16) rfl (w := w) rfl HBG.out (d := UInt8.ofNat L.length) rfl HY.out ?_ ?_; omega; intro v' w' ho)
      obtain ⟨g2, cap2, rfl, hg2, hc2, hrow2⟩ := ho.row
      refine ⟨⟨j + 1, hj1, by rw [← HN.out]; exact ho⟩, ?_⟩
      simp only [slen, List.length_append, List.length_singleton]
      omega
    · have hi : ¬ (L.length : Int) < (n : Int) := by omega
      have HS := Kept.mk (hb.string_take n cap (by omega))
      have hnc : (n : Int) ≤ (cap : Int) := by omega
      have hn0 : (0 : Int) ≤ (n : Int) := by omega
      have HB := Kept.mk hb
      have HZ2 := Kept.mk (HZ.out (by omega))
      clear hb hrow hlen
      go_wp2_with (rw [HS.out])
      go_returns
      exact ⟨by rw [HZ2.out]; rfl, HB.out.1⟩
end
theorem open_seal (ke km : List UInt8) (i : Int) (c : List UInt8) (h : c.length = 192) : oS ke km i (bSeal ke km i c) = str c ∧ oE km i (bSeal ke km i c) = 0 := by
  have e1 : (bSeal ke km i c).take 192 = bTurn ke i c := by
    rw [bSeal, List.take_append_of_le_length (by rw [bTurn_length]; omega), List.take_of_length_le (by rw [bTurn_length]; omega)]
  have e2 : (bSeal ke km i c).drop 192 = bTag km i (bTurn ke i c) := by
    rw [bSeal, List.drop_append_of_le_length (by rw [bTurn_length]; omega), List.drop_of_length_le (by rw [bTurn_length]; omega), List.nil_append]
  have h2 := o_yes (ke := ke) (km := km) (i := i) (s := bSeal ke km i c) (by rw [e1, e2])
  rw [e1, bTurn_twice] at h2
  exact h2
theorem seal_take (ke km : List UInt8) (i : Int) (c : List UInt8) (h : c.length = 192) : (bSeal ke km i c).take 192 = bTurn ke i c := by
  rw [bSeal, List.take_append_of_le_length (by rw [bTurn_length]; omega), List.take_of_length_le (by rw [bTurn_length]; omega)]
theorem ex_kb : kb (nblk (sz [107] 32) (bNonce 3) 1 0) 0 ≠ 0 := by decide +kernel
theorem ex_c0 : (sz [99] 192)[0]? = some 99 := by decide +kernel
theorem ex_turn : bTurn (sz [107] 32) 3 (sz [99] 192) ≠ sz [99] 192 := by
  intro h
  have h1 := turn_get (sz [107] 32) (bNonce 3) 1 (sz [99] 192) 0
  have h2 : (turn (sz [107] 32) (bNonce 3) 1 (sz [99] 192)) = sz [99] 192 := h
  rw [h2, ex_c0] at h1
  simp only [Option.map_some, Option.some.injEq] at h1
  have h3 := congrArg (fun x : UInt8 => (99 : UInt8) ^^^ x) h1
  simp only [← UInt8.xor_assoc, UInt8.xor_self, UInt8.zero_xor] at h3
  exact ex_kb h3.symm
theorem sized_32 (l : List UInt8) (w : World) (hl : l.length ≤ 100000) : Calls Tryd.prog 25 #[.string (str l), .int .i64 32] w fun e w' => e = .returned (.string (str (sz l 32))) ∧ Below w.heap.size w w' := sized_any l 32 w hl (by decide)
theorem sized_192 (l : List UInt8) (w : World) (hl : l.length ≤ 100000) : Calls Tryd.prog 25 #[.string (str l), .int .i64 192] w fun e w' => e = .returned (.string (str (sz l 192))) ∧ Below w.heap.size w w' := sized_any l 192 w hl (by decide)
theorem sized_k (w : World) : Calls Tryd.prog 25 #[.string { data := #[107] }, .int .i64 32] w fun e w' => e = .returned (.string (str (sz [107] 32))) ∧ Below w.heap.size w w' := sized_32 [107] w (by decide)
theorem sized_c (w : World) : Calls Tryd.prog 25 #[.string { data := #[99] }, .int .i64 192] w fun e w' => e = .returned (.string (str (sz [99] 192))) ∧ Below w.heap.size w w' := sized_192 [99] w (by decide)
theorem ex_ok : bOk (sz [107] 32) 3 := ⟨sz_length _ _, by decide, by decide⟩
theorem awSeal (w : World) (hk : KAt w) : Calls Tryd.prog 21 #[.agg #[.string (str (sz [107] 32)), .string { data := #[109] }, .string { data := #[] }], .int .i64 3, .string (str (sz [99] 192))] w fun e w' => e = .returned (.tuple #[.string (str (bSeal (sz [107] 32) [109] 3 (sz [99] 192))), .int .i64 0]) ∧ Below w.heap.size w w' :=
  Seal_yes (sz [107] 32) [109] [] 3 (sz [99] 192) w hk ex_ok (sz_length _ _) (by decide)
theorem awOpen (w : World) (hk : KAt w) : Calls Tryd.prog 23 #[.agg #[.string (str (sz [107] 32)), .string { data := #[109] }, .string { data := #[] }], .int .i64 3, .string (str (bSeal (sz [107] 32) [109] 3 (sz [99] 192)))] w fun e w' => e = .returned (.tuple #[.string (str (sz [99] 192)), .int .i64 0]) ∧ Below w.heap.size w w' := by
  have h := Open_all (sz [107] 32) [109] [] 3 (bSeal (sz [107] 32) [109] 3 (sz [99] 192)) w hk ex_ok (by rw [bSeal_length, sz_length]) (by decide)
  obtain ⟨e1, e2⟩ := open_seal (sz [107] 32) [109] 3 (sz [99] 192) (sz_length _ _)
  rw [e1, e2] at h
  exact h
attribute [local irreducible] str sg sz bSeal bTurn bTag

set_option maxRecDepth 100000 in
set_option maxHeartbeats 2000000 in
theorem blAwake_any (w : World) (hk : KAt w) : Calls Tryd.prog 20 #[] w fun e w' => e = .returned (.bool true) ∧ Below w.heap.size w w' := by
  have hs := seal_take (sz [107] 32) [109] 3 (sz [99] 192) (sz_length _ _)
  have e1 := str_cutB (bSeal (sz [107] 32) [109] 3 (sz [99] 192)) 192
  rw [hs] at e1
  have ht := str_tl (bTurn (sz [107] 32) 3 (sz [99] 192)) (sz [99] 192)
  rw [decide_eq_false ex_turn] at ht
  have hr := bSeal_length (sz [107] 32) [109] 3 (sz [99] 192)
  rw [sz_length] at hr
  have s1 := str_size (bSeal (sz [107] 32) [109] 3 (sz [99] 192))
  rw [hr] at s1
  have HS := Kept.mk (fun w' hk => awSeal w' hk)
  have HO := Kept.mk (fun w' hk => awOpen w' hk)
  clear hs hr
  generalize bSeal (sz [107] 32) [109] 3 (sz [99] 192) = R at *
  generalize bTurn (sz [107] 32) 3 (sz [99] 192) = X at *
  have HCC := Kept.mk (fun w' => sized_c w')
  have HCK := Kept.mk (fun w' => sized_k w')
  generalize sz [99] 192 = c at *
  generalize sz [107] 32 = k at *
  go_enter Tryd.func20, Tryd.ntmps20
  go_wp2_with fail
  with_reducible refine (HCK.out _).mono ?_
  rintro e w1 ⟨rfl, b1⟩
  go_upto_region 2 with fail
  have hA := hnew w1 (.cells #[.string (str k), .string { data := #[109] }, .string { data := #[] }] 36)
  have b2 := bnext b1 (bnew w1 (.cells #[.string (str k), .string { data := #[109] }, .string { data := #[] }] 36))
  generalize w1.alloc (.cells #[.string (str k), .string { data := #[109] }, .string { data := #[] }] 36) = W2 at *
  have HA := Kept.mk hA
  clear hA b1
  go_wp2_with fail
  with_reducible refine (HCC.out _).mono ?_
  rintro e w3 ⟨rfl, b⟩
  have hA3 := hkept HA.out b
  have b3 := bnext b2 b
  clear b b2 HA
  obtain ⟨c0, c1, c2⟩ := three_atB hA3
  have HA := Kept.mk hA3
  clear hA3
  go_wp2_with fail
  with_reducible refine (HS.out _ (hk.below b3)).mono ?_
  rintro e w4 ⟨rfl, b⟩
  have hA4 := hkept HA.out b
  have b4 := bnext b3 b
  clear b b3 HA c0 c1 c2
  obtain ⟨c0, c1, c2⟩ := three_atB hA4
  clear hA4
  go_wp2_with fail
  with_reducible refine (HO.out _ (hk.below b4)).mono ?_
  rintro e w5 ⟨rfl, b⟩
  have HB := Kept.mk (bnext b4 b)
  clear b b4 c0 c1 c2
  go_wp2_with fail
  go_ret
  exact ⟨rfl, HB.out⟩
set_option maxRecDepth 100000 in
theorem short_yes (ke km kh : List UInt8) (s : List UInt8) (w : World) (h : ke.length ≤ 100 ∧ km.length ≤ 1000 ∧ s.length ≤ 1000) :
    Calls Tryd.prog 19 #[.agg #[.string (str ke), .string (str km), .string (str kh)], .string (str s)] w fun e w' => e = .returned (.bool true) ∧ Below w.heap.size w w' := by
  obtain ⟨h1, h2, h3⟩ := h
  have s1 := str_size ke
  have s2 := str_size km
  have s3 := str_size s
  go_enter Tryd.func19, Tryd.ntmps19
  go_wp2_with fail
  go_ret
  exact ⟨ret_bool (decide_eq_true (by omega)), bnew _ _⟩
set_option maxRecDepth 100000 in
theorem short_no (ke km kh : List UInt8) (s : List UInt8) (w : World) (h : ¬ (ke.length ≤ 100 ∧ km.length ≤ 1000 ∧ s.length ≤ 1000)) (z1 : ke.length ≤ 9223372036854775807) (z2 : km.length ≤ 9223372036854775807) (z3 : s.length ≤ 9223372036854775807) :
    Calls Tryd.prog 19 #[.agg #[.string (str ke), .string (str km), .string (str kh)], .string (str s)] w fun e w' => e = .returned (.bool false) ∧ Below w.heap.size w w' := by
  have s1 := str_size ke
  have s2 := str_size km
  have s3 := str_size s
  by_cases h1 : ke.length ≤ 100
  · by_cases h2 : km.length ≤ 1000
    · have h3 : ¬ s.length ≤ 1000 := by omega
      clear h
      go_enter Tryd.func19, Tryd.ntmps19
      go_wp2_with fail
      go_ret
      exact ⟨ret_bool (decide_eq_false (by omega)), bnew _ _⟩
    · clear h
      go_enter Tryd.func19, Tryd.ntmps19
      go_wp2_with fail
      go_ret
      exact ⟨rfl, bnew _ _⟩
  · clear h
    go_enter Tryd.func19, Tryd.ntmps19
    go_wp2_with fail
    go_ret
    exact ⟨rfl, bnew _ _⟩
end
end Go.Proofs.YtabeehljpdehcaaDoor
