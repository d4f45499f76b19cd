/- Trees of sums: the program's proof of any leaf, by a contract. -/
import Derived.Test.YtfplagbjcilpjaaDoorMerH
import Derived.Laws.EntriesVeiled
namespace Go.Proofs.YtfplagbjcilpjaaDoor
set_option linter.unusedVariables false
set_option linter.unusedSimpArgs false
open Go.RowKit Go.Lib
/-- the three boxes as they begin -/
theorem col_start (W : World) (w : Int) :
    Col W (((W.alloc (.cells #[.int .i64 w] 3)).alloc (.cells #[.slice none 0 0] 28)).alloc (.cells #[colF (W.heap.size + 1 + 1) (W.heap.size + 1) W.heap.size] 59)) (W.heap.size + 1 + 1) (W.heap.size + 1) W.heap.size w (.slice none 0 0) [] := by
  have a1 := heap_new W (.cells #[.int .i64 w] 3) W.heap.size rfl
  have s1 : (W.alloc (.cells #[.int .i64 w] 3)).heap.size = W.heap.size + 1 := by simp
  have b1 : Below W.heap.size W (W.alloc (.cells #[.int .i64 w] 3)) := (Below.refl _ _).alloc (Nat.le_refl _) _
  generalize W.alloc (.cells #[.int .i64 w] 3) = W1 at *
  have a2 := heap_new W1 (.cells #[.slice none 0 0] 28) W1.heap.size rfl
  have k1 := block_kept a1 ((Below.refl _ _).alloc (Nat.le_refl _) (.cells #[.slice none 0 0] 28))
  have s2 : (W1.alloc (.cells #[.slice none 0 0] 28)).heap.size = W.heap.size + 1 + 1 := by simp [s1]
  have b2 : Below W.heap.size W (W1.alloc (.cells #[.slice none 0 0] 28)) := b1.alloc b1.size _
  rw [s1] at a2
  generalize W1.alloc (.cells #[.slice none 0 0] 28) = W2 at *
  generalize hfv : colF (W.heap.size + 1 + 1) (W.heap.size + 1) W.heap.size = fv at *
  have a3 := heap_new W2 (.cells #[fv] 59) W2.heap.size rfl
  have k2 := block_kept k1 ((Below.refl _ _).alloc (Nat.le_refl _) (.cells #[fv] 59))
  have k3 := block_kept a2 ((Below.refl _ _).alloc (Nat.le_refl _) (.cells #[fv] 59))
  have b3 : Below W.heap.size W (W2.alloc (.cells #[fv] 59)) := b2.alloc b2.size _
  rw [s2] at a3
  exact ⟨by omega, by omega, by omega, by omega, by omega, k3, by rw [hfv]; exact a3, k2, ⟨b3, .inl ⟨rfl, rfl⟩⟩, apart_nil _, apart_nil _, apart_nil _⟩
attribute [local irreducible] str sSum wid tS tLeaf tNode cutN strs
set_option maxRecDepth 100000 in
set_option maxHeartbeats 4000000 in
theorem Proof_any (w : Int) (i : Nat) (A : Option Addr) (c : Nat) (ls : List (List UInt8)) (W : World) (hk : KAt W) (hi : i < ls.length) (hr : RowAt W A (strs ls)) (hl : ∀ l ∈ ls, l.length ≤ 400000000) (hc : ls.length ≤ c) (hc2 : ls.length ≤ 4611686018427387903) (hL : ls.length ≤ 900000) :
    Calls Tryd.prog 26 #[.int .i64 w, .int .i64 i, .slice A ls.length c] W fun e w' => ∃ v, e = .returned (.tuple #[v, .int .i64 0]) ∧ VB W w' v (strs (tProof (wid w) i ls)) := by
  have h0 : ¬ (i : Int) < 0 := by omega
  have h1 : ¬ (ls.length : Int) ≤ (i : Int) := by omega
  have HP := Kept.mk (fun bc bo bw w' hcol => collect_any w W bc bo bw hk ls.length i A c ls [] (.slice none 0 0) w' rfl (by omega) hr hl hc hc2 (by simpa using hL) hcol)
  have HS := Kept.mk (col_start W w)
  clear hl hr hk
  unfold colF at HS
  go_enter Tryd.func26, Tryd.ntmps26
  go_wp2_with fail
  with_reducible refine (HP.out _ _ _ _ HS.out).mono ?_
  rintro e w2 ⟨rfl, v2, hc2⟩
  have d0 := hc2.out
  have HV := Kept.mk hc2.vb
  clear hc2
  rw [List.nil_append] at HV
  go_wp2_with fail
  go_ret2
  exact ⟨_, rfl, HV.out⟩
set_option maxRecDepth 100000 in
set_option maxHeartbeats 1000000 in
theorem Proof_bad (w i : Int) (A : Option Addr) (n c : Nat) (W : World) (hi : i < 0 ∨ (n : Int) ≤ i) :
    Calls Tryd.prog 26 #[.int .i64 w, .int .i64 i, .slice A n c] W fun e w' => e = .returned (.tuple #[.slice none 0 0, .int .i64 1]) ∧ Below W.heap.size W w' := by
  have hb : Below W.heap.size W (W.alloc (.cells #[.int .i64 w] 3)) := (Below.refl _ _).alloc (Nat.le_refl _) _
  have HB := Kept.mk hb
  clear hb
  by_cases h0 : i < 0
  · clear hi
    go_enter Tryd.func26, Tryd.ntmps26
    go_wp2_with fail
    go_ret2
    exact ⟨rfl, HB.out⟩
  · have h1 : (n : Int) ≤ i := by omega
    clear hi
    go_enter Tryd.func26, Tryd.ntmps26
    go_wp2_with fail
    go_ret2
    exact ⟨rfl, HB.out⟩
end Go.Proofs.YtfplagbjcilpjaaDoor
