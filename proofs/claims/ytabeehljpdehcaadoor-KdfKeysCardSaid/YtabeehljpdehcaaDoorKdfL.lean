/- HKDF: the chapter's examples, and the laws, walked by the contracts. -/
import Derived.Test.YtabeehljpdehcaaDoorKdfA
import Derived.Test.YtabeehljpdehcaaDoorShaK
namespace Go.Proofs.YtabeehljpdehcaaDoor
set_option linter.unusedVariables false
set_option linter.unusedSimpArgs false
open Go.RowKit Go.Lib

theorem kExpand_lit0 (w : World) (hk : KAt w) :
    Calls Tryd.prog 48 #[.string { data := #[107] }, .string { data := #[] }, .int .i64 0] w fun e w' => e = .returned (.tuple #[.string ByteArray.empty, .int .i64 0]) ∧ Below w.heap.size w w' :=
  (kExpand_any [107] [] 0 w hk (by decide) (by decide) (by decide)).mono fun e w' h => ⟨by rw [h.1, kExp_zero, str_nil], h.2⟩
theorem kExpand_lit40 (w : World) (hk : KAt w) :
    Calls Tryd.prog 48 #[.string { data := #[107] }, .string { data := #[120] }, .int .i64 40] w fun e w' => e = .returned (.tuple #[.string (str (kExp [107] [120] 40)), .int .i64 0]) ∧ Below w.heap.size w w' :=
  kExpand_any [107] [120] 40 w hk (by decide) (by decide) (by decide)
theorem kExpand_lit32 (w : World) (hk : KAt w) :
    Calls Tryd.prog 48 #[.string { data := #[107] }, .string { data := #[120] }, .int .i64 32] w fun e w' => e = .returned (.tuple #[.string (str (kExp [107] [120] 32)), .int .i64 0]) ∧ Below w.heap.size w w' :=
  kExpand_any [107] [120] 32 w hk (by decide) (by decide) (by decide)
theorem kcut_any (l : List UInt8) (n : Nat) (w : World) (hl : l.length ≤ 140737488351232) (hn : n ≤ 1000000) :
    Calls Tryd.prog 26 #[.string (str l), .int .i64 n] w fun e w' => e = .returned (.string (str (l.take n))) ∧ w = w' := by
  have hs := str_size l
  by_cases h : n < l.length
  · have HT := Kept.mk (str_take l n (by omega))
    go_enter Tryd.func26, Tryd.ntmps26
    go_wp2_with fail
    go_ret
    refine ⟨?_, rfl⟩
    rw [HT.out]
    rfl
  · rw [List.take_of_length_le (by omega)]
    go_enter Tryd.func26, Tryd.ntmps26
    go_wp2_with fail
    go_ret
    exact ⟨rfl, rfl⟩
theorem cut_a (n : Nat) (hn : n ≤ 1000000) (N : Int) (hN : N = (n : Int)) (l : List UInt8) (w : World) (hl : l.length ≤ 140737488351232) :
    Calls Tryd.prog 26 #[.string (str l), .int .i64 N] w fun e w' => e = .returned (.string (str (l.take n))) ∧ w = w' := by
  subst hN; exact kcut_any l n w hl hn
attribute [local irreducible] str sSum mXor mPad mKey mTag kT kOut kExp

set_option maxRecDepth 100000 in
set_option maxHeartbeats 1000000 in
theorem kdfAwake_any (w : World) (hk : KAt w) :
    Calls Tryd.prog 29 #[] w fun e w' => e = .returned (.bool true) ∧ Below w.heap.size w w' := by
  go_enter Tryd.func29, Tryd.ntmps29
  go_wp2_with fail
  refine (kExpand_lit0 w hk).mono ?_
  rintro e w1 ⟨rfl, hb1⟩
  have HB1 := Kept.mk hb1
  have HK1 := Kept.mk (hk.below hb1)
  clear hb1 hk
  go_wp2_with fail
  refine (kExpand_lit40 w1 HK1.out).mono ?_
  rintro e w2 ⟨rfl, hb2⟩
  have HB2 := Kept.mk (HB1.out.trans (hb2.mono HB1.out.size))
  have HK2 := Kept.mk (HK1.out.below hb2)
  clear hb2 HB1 HK1
  go_wp2_with fail
  refine (kExpand_lit32 w2 HK2.out).mono ?_
  rintro e w3 ⟨rfl, hb3⟩
  have HB3 := Kept.mk (HB2.out.trans (hb3.mono HB2.out.size))
  clear hb3 HB2 HK2
  have h1 := kExp_length [107] [120] 40 (by decide)
  have h2 := kExp_begin [107] [120] 32 8
  rw [show 32 + 8 = 40 from rfl] at h2
  have h3 := str_take (kExp [107] [120] 40) 32 (by omega)
  rw [h2] at h3
  have h4 := str_size (kExp [107] [120] 40)
  rw [h1] at h4
  generalize kExp [107] [120] 40 = X at *
  generalize kExp [107] [120] 32 = Y at *
  clear h1 h2
  go_wp2_with fail
  go_ret
  exact ⟨rfl, HB3.out⟩

set_option maxRecDepth 100000 in
set_option maxHeartbeats 1000000 in
theorem kExtract_any (a b : List UInt8) (w : World) (hk : KAt w) (ha : a.length ≤ 800000000) (hb : b.length ≤ 800000000) :
    Calls Tryd.prog 45 #[.string (str a), .string (str b)] w fun e w' => e = .returned (.string (str (mTag a b))) ∧ Below w.heap.size w w' := by
  go_enter Tryd.func45, Tryd.ntmps45
  go_wp2_with fail
  with_reducible refine (tag_one a b w hk _ ha hb).mono ?_
  rintro e w1 ⟨rfl, hb1⟩
  go_wp2_with fail
  go_ret
  exact ⟨rfl, hb1⟩

def expOf (key info : List UInt8) (n : Int) : List UInt8 := if n < 0 ∨ 8160 < n then [] else kExp key info n.toNat
def expE (n : Int) : Int := if n < 0 ∨ 8160 < n then 10 else 0
theorem kExpand_int (key info : List UInt8) (n : Int) (w : World) (hk : KAt w) (hkl : key.length ≤ 700000000) (hil : info.length ≤ 700000000) :
    Calls Tryd.prog 48 #[.string (str key), .string (str info), .int .i64 n] w fun e w' => e = .returned (.tuple #[.string (str (expOf key info n)), .int .i64 (expE n)]) ∧ Below w.heap.size w w' := by
  by_cases h : n < 0 ∨ 8160 < n
  · rw [expOf, expE, if_pos h, if_pos h]; exact kExpand_bad key info n w h
  · obtain ⟨m, rfl⟩ : ∃ m : Nat, n = (m : Int) := ⟨n.toNat, by omega⟩
    rw [expOf, expE, if_neg h, if_neg h, Int.toNat_natCast]; exact kExpand_any key info m w hk (by omega) hkl hil
theorem refExpand_int (key info : List UInt8) (n : Int) (w : World) (hkl : key.length ≤ 100000) (hil : info.length ≤ 100000) :
    Calls Tryd.prog 47 #[.string (str key), .string (str info), .int .i64 n] w fun e w' => e = .returned (.tuple #[.string (str (expOf key info n)), .int .i64 (expE n)]) ∧ Below w.heap.size w w' := by
  by_cases h : n < 0 ∨ 8160 < n
  · rw [expOf, expE, if_pos h, if_pos h]; exact refExpand_bad key info n w h
  · obtain ⟨m, rfl⟩ : ∃ m : Nat, n = (m : Int) := ⟨n.toNat, by omega⟩
    rw [expOf, expE, if_neg h, if_neg h, Int.toNat_natCast]; exact refExpand_any key info m w (by omega) hkl hil
attribute [local irreducible] expOf expE

end Go.Proofs.YtabeehljpdehcaaDoor
