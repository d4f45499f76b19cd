/- A path's parts: the iterator, by a contract. -/
import Derived.Test.YtohdekokdljgjaaPaB
namespace Go.Proofs.Ytohdekokdljgjaa
set_option linter.unusedVariables false
set_option linter.unusedSimpArgs false
open Go.RowKit Go.Lib
attribute [local go_sem] Oper.semAt_some
/-- what stands between the slashes -/
def psp : List UInt8 → List UInt8 → List (List UInt8)
  | [], cur => [cur]
  | c :: r, cur => if c = 47 then cur :: psp r [] else psp r (cur ++ [c])
theorem psp_no : ∀ (l cur : List UInt8), (∀ x ∈ l, x ≠ 47) → psp l cur = [cur ++ l]
  | [], cur, _ => by simp [psp]
  | c :: r, cur, h => by
    rw [psp, if_neg (h c (by simp)), psp_no r _ (fun x hx => h x (List.mem_cons_of_mem _ hx))]; simp
theorem psp_yes : ∀ (a b cur : List UInt8), (∀ x ∈ a, x ≠ 47) → psp (a ++ 47 :: b) cur = (cur ++ a) :: psp b []
  | [], b, cur, _ => by
    show psp (47 :: b) cur = _
    rw [psp, if_pos rfl]; simp
  | c :: a, b, cur, h => by
    show psp (c :: (a ++ 47 :: b)) cur = _
    rw [psp, if_neg (h c (by simp)), psp_yes a b _ (fun x hx => h x (List.mem_cons_of_mem _ hx))]; simp
attribute [local irreducible] str
set_option maxRecDepth 100000 in
set_option maxHeartbeats 2000000 in
theorem parts_in (n l B : Nat) (p : List UInt8) (hp : p.length ≤ 1000000) (J Jx : List (List UInt8) → World → Prop) (W : World)
    (hJb : ∀ pre W v, J pre W → J pre (W.setCell ⟨B, 0, none⟩ v)) (hJd : ∀ pre W k, J pre W → J pre (W.drewN k))
    (hY : ∀ pre x W1, J pre W1 → pre.length < (psp p []).length → YieldAt Fence.wide n Try.prog l #[.string (str x)] W1 fun e W' => (e = .returned (.bool true) ∧ J (pre ++ [x]) W' ∧ W'.heap[B]? = W1.heap[B]?) ∨ (e = .returned (.bool false) ∧ Jx (pre ++ [x]) W'))
    (hB : W.heap[B]? = some (.cells #[.string (str p)] 9 (0, 0))) (h0 : J [] W) :
    CallsIn Fence.wide (n + 1) Try.prog 60 #[.func (.yield l) #[] #[], .pointer (some ⟨B, 0, none⟩)] W fun e W' => (∃ v, e = .returned v) ∧ ((∃ xs, xs = psp p [] ∧ J xs W') ∨ (∃ pre, pre <+: psp p [] ∧ Jx pre W')) := by
  refine callsIn_of_wp Try.func60 rfl trivial ?_ rfl
  simp only [Try.ntmps60, List.size_toArray, List.length_cons, List.length_nil, Nat.reduceAdd, Nat.reduceSub, Array.replicate_succ, Array.replicate_zero, List.push_toArray, List.append_toArray, List.nil_append, List.cons_append]
  gi_wp2
  gi_loopw [] (fun wr => ∃ (pre : List (List UInt8)) (q : List UInt8), psp p [] = pre ++ psp q [] ∧ q.length ≤ 1000000 ∧ wr.heap[B]? = some (.cells #[.string (str q)] 9 (0, 0)) ∧ J pre wr) (fun wr => match wr.cell? ⟨B, 0, none⟩ with | some (.string s) => s.size | _ => 0)
  case atStart => exact ⟨[], p, rfl, hp, hB, h0⟩
  case round =>
    obtain ⟨pre, q, hx, hq, hb, hj⟩ := hrel
    have c0 := Joins.cell_of_block hb 0
    have nf := Joins.unfrozen_of_block hb 0
    have HB := Kept.mk hb
    have HX := Kept.mk hx
    clear hb hx hB h0
    rcases split_at 47 q with hno | ⟨a, b, rfl, hno⟩
    · have HC := Kept.mk (fun w => sCut_no q 47 w hno)
      have HP := Kept.mk (show psp p [] = pre ++ [q] from by rw [HX.out, psp_no q [] hno]; simp)
      clear hno
      gi_wp2_with fail
      refine ⟨trivial, (callsIn_wide.2 (HC.out _)).mono ?_⟩
      rintro e w2 ⟨rfl, k, rfl⟩
      obtain ⟨fn, tmps, assign, body, hy, hR⟩ := hY pre q _ (hJd _ _ k hj) (by rw [HP.out, List.length_append, List.length_singleton]; omega)
      gi_wp2_with fail
      refine hR.mono ?_
      rintro e W3 (⟨rfl, hJ3, hk3⟩ | ⟨rfl, hJx3⟩)
      · gi_wp2_with fail
        refine bodyPost_ret (results_none rfl _ _ _) rfl ?_
        exact ⟨⟨_, rfl⟩, .inl ⟨pre ++ [q], HP.out.symm, hJ3⟩⟩
      · gi_wp2_with fail
        refine bodyPost_ret (results_none rfl _ _ _) rfl ?_
        exact ⟨⟨_, rfl⟩, .inr ⟨pre ++ [q], by rw [HP.out]; exact List.prefix_refl _, hJx3⟩⟩
    · have HC := Kept.mk (fun w => sCut_yes a b 47 w hno hq)
      have HP := Kept.mk (show psp p [] = pre ++ [a] ++ psp b [] from by rw [HX.out, psp_yes a b [] hno]; simp)
      have hlb : b.length < (a ++ 47 :: b).length := by rw [List.length_append, List.length_cons]; omega
      have hm0 : (str (a ++ 47 :: b)).size = (a ++ 47 :: b).length := str_size _
      have hmb := str_size b
      clear hno
      gi_wp2_with fail
      refine ⟨trivial, (callsIn_wide.2 (HC.out _)).mono ?_⟩
      rintro e w2 ⟨rfl, k, rfl⟩
      obtain ⟨fn, tmps, assign, body, hy, hR⟩ := hY pre a _ (hJd _ _ k hj) (by rw [HP.out, List.length_append, List.length_append, List.length_singleton]; omega)
      gi_wp2_with fail
      refine hR.mono ?_
      rintro e W3 (⟨rfl, hJ3, hk3⟩ | ⟨rfl, hJx3⟩)
      · have hb3 := hk3.trans HB.out
        have d0 := Joins.cell_of_block hb3 0
        have df := Joins.unfrozen_of_block hb3 0
        gi_wp2_with fail
        go_roundw
        case rel => exact ⟨pre ++ [a], b, HP.out, by omega, (Joins.block_setCell (i := 0) hb3 _).trans rfl, hJb _ _ _ hJ3⟩
        case measure =>
          rw [Joins.cell_of_block (Joins.block_setCell (i := 0) hb3 _) 0, Joins.cell_of_block HB.out 0]
          simp [hm0, hmb]
          first | done | omega
      · gi_wp2_with fail
        refine bodyPost_ret (results_none rfl _ _ _) rfl ?_
        exact ⟨⟨_, rfl⟩, .inr ⟨pre ++ [a], by rw [HP.out]; exact List.prefix_append _ _, hJx3⟩⟩
end Go.Proofs.Ytohdekokdljgjaa
