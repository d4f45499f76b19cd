/- strings.Cut, Contains, Compare, CutPrefix, HasPrefix, where the second text is one byte or whatever: each by a contract, walked anew. -/
import Derived.Test.YtohdekokdljgjaaKit
import Derived.Lib.Bytealg
import Derived.Lib.Strings
import Derived.Lib.Walk
import Derived.BigQuiet
import Derived.Deep.QuietTactic
import Derived.Handy
namespace Go.Proofs.Ytohdekokdljgjaa
set_option linter.unusedVariables false
set_option linter.unusedSimpArgs false
open Go.RowKit Go.Lib
theorem ib_no (c : UInt8) : ∀ l : List UInt8, (∀ x ∈ l, x ≠ c) → Lib.indexByte l c = -1
  | [], _ => rfl
  | b :: l, h => by
    have h1 := h b (by simp)
    have ih := ib_no c l (fun x hx => h x (List.mem_cons_of_mem _ hx))
    unfold Lib.indexByte
    rw [ih, if_neg (by simpa using h1)]; first | rfl | simp
theorem ib_yes (c : UInt8) (b : List UInt8) : ∀ a : List UInt8, (∀ x ∈ a, x ≠ c) → Lib.indexByte (a ++ c :: b) c = (a.length : Int)
  | [], _ => by
    show Lib.indexByte (c :: b) c = _
    unfold Lib.indexByte; rw [if_pos (by simp)]; first | done | rfl
  | x :: a, h => by
    have h1 := h x (by simp)
    have ih := ib_yes c b a (fun y hy => h y (List.mem_cons_of_mem _ hy))
    show Lib.indexByte (x :: (a ++ c :: b)) c = _
    unfold Lib.indexByte
    rw [ih, if_neg (by simpa using h1), if_neg (by first | (simp; done) | (simp; omega)), List.length_cons]; push_cast; first | done | rfl
theorem split_at (c : UInt8) : ∀ l : List UInt8, (∀ x ∈ l, x ≠ c) ∨ ∃ a b, l = a ++ c :: b ∧ ∀ x ∈ a, x ≠ c
  | [] => .inl (by simp)
  | x :: l => by
    by_cases hx : x = c
    · exact .inr ⟨[], l, by rw [hx]; rfl, by simp⟩
    · rcases split_at c l with h | ⟨a, b, rfl, h⟩
      · exact .inl (by intro y hy; rcases List.mem_cons.1 hy with rfl | hy; exact hx; exact h y hy)
      · exact .inr ⟨x :: a, b, rfl, by intro y hy; rcases List.mem_cons.1 hy with rfl | hy; exact hx; exact h y hy⟩
set_option maxRecDepth 100000 in
set_option maxHeartbeats 1000000 in
theorem sIndexByte_any (l : List UInt8) (c : UInt8) (w : World) :
    Calls Try.prog 73 #[.string (str l), .int .u8 (c.toNat : Int)] w fun e w' => e = .returned (.int .i64 (Lib.indexByte l c)) ∧ w = w' := by
  have hc : ((c.toNat : Int)).toNat.toUInt8 = c := by simp
  go_enter Try.func73, Try.ntmps73
  go_wp2
  rw [run_callFunc_extern Try.func79 (by kernel_rfl) (by kernel_rfl) (by kernel_rfl) (e := Extern.BytealgIndexByte.indexByte) (by kernel_rfl), Lib.run_indexByteString]
  simp only [Result.andThen]
  rw [Oper.upon_value]
  go_wp2
  go_ret
  exact ⟨rfl, rfl⟩
theorem str_toList (l : List UInt8) : (str l).toList = l := by rw [ByteArray.toList_eq]; rfl
set_option maxRecDepth 100000 in
set_option maxHeartbeats 1000000 in
theorem sIndex_one (l : List UInt8) (c : UInt8) (w : World) :
    Calls Try.prog 68 #[.string (str l), .string ⟨#[c]⟩] w fun e w' => e = .returned (.int .i64 (Lib.indexByte l c)) ∧ w = w' := by
  have h1 : (⟨#[c]⟩ : ByteArray).size = 1 := rfl
  have HC := Kept.mk (sIndexByte_any l c w)
  by_cases he : [c] = l
  · have hb : ([c] == (str l).toList) = true := by rw [str_toList, he]; simp
    have HI := Kept.mk (show Lib.indexByte l c = 0 from by rw [← he]; simp [Lib.indexByte])
    clear he
    go_enter Try.func68, Try.ntmps68
    go_wp2_with fail
    go_ret
    exact ⟨by rw [HI.out]; rfl, rfl⟩
  · have hb : ([c] == (str l).toList) = false := by rw [str_toList]; simpa using he
    clear he
    go_enter Try.func68, Try.ntmps68
    go_wp2_with fail
    refine HC.out.mono ?_
    rintro e w1 ⟨rfl, rfl⟩
    go_wp2_with fail
    go_ret
    exact ⟨rfl, rfl⟩
theorem sCut_no (l : List UInt8) (c : UInt8) (w : World) (h : ∀ x ∈ l, x ≠ c) :
    Calls Try.prog 61 #[.string (str l), .string ⟨#[c]⟩] w fun e w' => e = .returned (.tuple #[.string (str l), .string (str []), .bool false]) ∧ ∃ n, w' = w.drewN n := by
  have HC := Kept.mk (sIndex_one l c w)
  rw [ib_no c l h] at HC
  clear h
  rw [str_nil]
  have hn : ∀ h : (-1 : Int) < 0, True := fun _ => trivial
  go_enter Try.func61, Try.ntmps61
  go_wp2_with (first | (go_at_call 69; go_in) | (with_reducible refine HC.out.mono ?_; rintro e w1 ⟨rfl, rfl⟩))
  go_ret3
  exact ⟨rfl, 0, rfl⟩
theorem str_head (a b : List UInt8) (c : UInt8) : (str (a ++ c :: b)).extract 0 a.length = str a := by
  apply ByteArray.ext; apply Array.toList_inj.1
  rw [ByteArray.data_extract, Array.toList_extract]
  simp [str]
theorem str_tail (a b : List UInt8) (c : UInt8) (n : Nat) (hn : n = (a ++ c :: b).length) : (str (a ++ c :: b)).extract (a.length + 1) n = str b := by
  subst hn
  apply ByteArray.ext; apply Array.toList_inj.1
  rw [ByteArray.data_extract, Array.toList_extract]
  simp [str]
  exact List.take_of_length_le (by omega)
theorem sCut_yes (a b : List UInt8) (c : UInt8) (w : World) (h : ∀ x ∈ a, x ≠ c) (hl : (a ++ c :: b).length ≤ 1000000) :
    Calls Try.prog 61 #[.string (str (a ++ c :: b)), .string ⟨#[c]⟩] w fun e w' => e = .returned (.tuple #[.string (str a), .string (str b), .bool true]) ∧ ∃ n, w' = w.drewN n := by
  have HC := Kept.mk (sIndex_one (a ++ c :: b) c w)
  rw [ib_yes c b a h] at HC
  have hh := str_head a b c
  have ht := str_tail a b c _ rfl
  have hs := str_size (a ++ c :: b)
  have h1 : (⟨#[c]⟩ : ByteArray).size = 1 := rfl
  have hlen : (a ++ c :: b).length = a.length + 1 + b.length := by rw [List.length_append, List.length_cons]; omega
  rw [hlen] at hs ht hl
  have h2 : (a.length : Int) ≤ 1000000 := by omega
  have h3 : (b.length : Int) ≤ 1000000 := by omega
  clear h hlen
  go_enter Try.func61, Try.ntmps61
  go_wp2_with (first | (go_at_call 69; go_in) | (with_reducible refine HC.out.mono ?_; rintro e w1 ⟨rfl, rfl⟩))
  go_quiet (fail)
  go_wp2_with fail
  go_ret3
  exact ⟨rfl, _, rfl⟩
end Go.Proofs.Ytohdekokdljgjaa
