/- bits: readers: a text taken, each by a contract. -/
import Derived.Test.YtohdekokdljgjaaReA
namespace Go.Proofs.Ytohdekokdljgjaa
set_option linter.unusedVariables false
set_option linter.unusedSimpArgs false
open Go.RowKit Go.Lib
theorem str_mid (r : List UInt8) (n m : Nat) : (str r).extract n m = str ((r.take m).drop n) := by
  apply ByteArray.ext; apply Array.toList_inj.1
  rw [ByteArray.data_extract, Array.toList_extract]
  simp only [str]
  rw [List.drop_take]
theorem al8_up (u : Nat) : al8 u = 8 * ((u + 7) / 8) := by unfold al8; omega
attribute [local irreducible] str al8

set_option maxRecDepth 100000 in
theorem rdText_no (g : Nat) (l : List UInt8) (u t : Nat) (n : Int) (w : World) (hr : RS w 72 g l u) (hl : l.length ≤ 10000) (hu : u ≤ 8 * l.length) (ht : (u + 7) / 8 = t) (hn : n < 0 ∨ (l.length : Int) - t < n) :
    Calls Try.prog 23 #[.pointer (some ⟨g, 0, none⟩), .int .i64 n] w fun e w' => e = .returned (.tuple #[.string (str []), .bool false]) ∧ w = w' := by
  rw [str_nil]
  by_cases h : n < 0
  · go_enter Try.func23, Try.ntmps23
    go_wp2_with fail
    go_ret2
    exact ⟨rfl, rfl⟩
  · have h1 : (l.length : Int) - t < n := by omega
    have c0 := hr.c0
    have c1 := hr.c1
    have hs := str_size l
    have ha := al8_up u
    rw [ht] at ha
    have h2 : (t : Int) ≤ 10001 := by omega
    have h3 : (l.length : Int) ≤ 10000 := by omega
    have h4 : (8 * (t : Int)) / 8 = (t : Int) := by omega
    clear hn hu ht
    go_enter Try.func23, Try.ntmps23
    go_wp2_with fail
    with_reducible refine (aligned_any u w (by have := al8_facts u; omega)).mono ?_
    rintro e w1 ⟨rfl, rfl⟩
    rw [ha]
    clear ha
    go_wp2_with fail
    go_ret2
    exact ⟨rfl, rfl⟩
set_option maxRecDepth 100000 in
theorem rdText_yes (g : Nat) (l : List UInt8) (u t m : Nat) (w : World) (hr : RS w 72 g l u) (hl : l.length ≤ 10000) (ht : (u + 7) / 8 = t) (hn : t + m ≤ l.length) :
    Calls Try.prog 23 #[.pointer (some ⟨g, 0, none⟩), .int .i64 (m : Int)] w fun e w' => e = .returned (.tuple #[.string (str ((l.take (t + m)).drop t)), .bool true]) ∧ RS w' 72 g l (8 * (t + m)) ∧ OneB g w w' := by
  have h1 : ¬ (l.length : Int) - t < m := by omega
  have c0 := hr.c0
  have c1 := hr.c1
  have f1 := hr.f1
  have hs := str_size l
  have ha := al8_up u
  rw [ht] at ha
  have HS := Kept.mk (hr.set (8 * (t + m)))
  have HV := Kept.mk (show (((t : Int) + (m : Int)) * 8) = ((8 * (t + m) : Nat) : Int) from by omega)
  have HX := Kept.mk (str_mid l t (t + m))
  have h2 : (t : Int) ≤ 10001 := by omega
  have h3 : (l.length : Int) ≤ 10000 := by omega
  have h4 : (8 * (t : Int)) / 8 = (t : Int) := by omega
  have h5 : (m : Int) ≤ 10000 := by omega
  have hu2 : u ≤ 100000 := by omega
  clear ht
  go_enter Try.func23, Try.ntmps23
  go_wp2_with fail
  with_reducible refine (aligned_any u w hu2).mono ?_
  rintro e w1 ⟨rfl, rfl⟩
  rw [ha]
  clear ha
  go_wp2_with fail
  go_ret2
  refine ⟨by rw [← HX.out]; rfl, ?_, (OneB.refl g w).setCell _ _⟩
  rw [HV.out]
  exact HS.out
set_option maxRecDepth 100000 in
theorem refText_no (g : Nat) (l : List UInt8) (u t : Nat) (n : Int) (w : World) (hr : RS w 45 g l u) (hl : l.length ≤ 10000) (hu : u ≤ 8 * l.length) (ht : (u + 7) / 8 = t) (hn : n < 0 ∨ (l.length : Int) - t < n) :
    Calls Try.prog 24 #[.pointer (some ⟨g, 0, none⟩), .int .i64 n] w fun e w' => e = .returned (.tuple #[.string (str []), .bool false]) ∧ w = w' := by
  rw [str_nil]
  have c0 := hr.c0
  have c1 := hr.c1
  have hs := str_size l
  have h2 : (t : Int) ≤ 10001 := by omega
  have h3 : (l.length : Int) ≤ 10000 := by omega
  have h6 : (u : Int) ≤ 80000 := by omega
  have h4 : ((u : Int) + 7) / 8 = (t : Int) := by omega
  by_cases h : n < 0
  · clear hn hu ht
    go_enter Try.func24, Try.ntmps24
    go_wp2_with fail
    go_ret2
    exact ⟨rfl, rfl⟩
  · have h1 : (l.length : Int) - t < n := by omega
    clear hn hu ht
    go_enter Try.func24, Try.ntmps24
    go_wp2_with fail
    go_ret2
    exact ⟨rfl, rfl⟩
set_option maxRecDepth 100000 in
theorem refText_yes (g : Nat) (l : List UInt8) (u t m : Nat) (w : World) (hr : RS w 45 g l u) (hl : l.length ≤ 10000) (ht : (u + 7) / 8 = t) (hn : t + m ≤ l.length) :
    Calls Try.prog 24 #[.pointer (some ⟨g, 0, none⟩), .int .i64 (m : Int)] w fun e w' => e = .returned (.tuple #[.string (str ((l.take (t + m)).drop t)), .bool true]) ∧ RS w' 45 g l (8 * (t + m)) ∧ OneB g w w' := by
  have h1 : ¬ (l.length : Int) - t < m := by omega
  have c0 := hr.c0
  have c1 := hr.c1
  have f1 := hr.f1
  have hs := str_size l
  have HS := Kept.mk (hr.set (8 * (t + m)))
  have HV := Kept.mk (show (8 * ((t : Int) + (m : Int))) = ((8 * (t + m) : Nat) : Int) from by omega)
  have HX := Kept.mk (str_mid l t (t + m))
  have h2 : (t : Int) ≤ 10001 := by omega
  have h3 : (l.length : Int) ≤ 10000 := by omega
  have h6 : (u : Int) ≤ 80000 := by omega
  have h4 : ((u : Int) + 7) / 8 = (t : Int) := by omega
  have h5 : (m : Int) ≤ 10000 := by omega
  clear ht
  go_enter Try.func24, Try.ntmps24
  go_wp2_with fail
  go_ret2
  refine ⟨by rw [← HX.out]; rfl, ?_, (OneB.refl g w).setCell _ _⟩
  rw [HV.out]
  exact HS.out
set_option maxRecDepth 100000 in
theorem rdNew_any (l : List UInt8) (w : World) :
    Calls Try.prog 18 #[.string (str l)] w fun e w' => e = .returned (.pointer (some ⟨w.heap.size, 0, none⟩)) ∧ w' = w.alloc (.cells #[.string (str l), .int .i64 ((0 : Nat) : Int)] 72) := by
  go_enter Try.func18, Try.ntmps18
  go_wp2_with fail
  go_ret
  exact ⟨rfl, rfl⟩
end Go.Proofs.Ytohdekokdljgjaa
