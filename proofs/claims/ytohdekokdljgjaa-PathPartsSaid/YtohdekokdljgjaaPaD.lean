/- path: Check, by a contract. -/
import Derived.Test.YtohdekokdljgjaaPaC
namespace Go.Proofs.Ytohdekokdljgjaa
set_option linter.unusedVariables false
set_option linter.unusedSimpArgs false
open Go.RowKit Go.Lib
attribute [local go_sem] Oper.semAt_some
def badPart (x : List UInt8) : Bool := decide (x = []) || decide (x = [46]) || decide (x = [46, 46])
def pok (p : List UInt8) : Bool := decide (p.length ≤ 4096) && decide (∀ c ∈ p, c ≠ 0) && (psp p []).all (fun x => !badPart x)
attribute [local irreducible] str psp
theorem sContains_one (l : List UInt8) (c : UInt8) (w : World) (b : Bool) (hb : decide (0 ≤ Lib.indexByte l c) = b) :
    Calls Try.prog 50 #[.string (str l), .string ⟨#[c]⟩] w fun e w' => e = .returned (.bool b) ∧ w = w' := by
  subst hb
  have HC := Kept.mk (sIndex_one l c w)
  generalize Lib.indexByte l c = k at *
  go_enter Try.func50, Try.ntmps50
  go_wp2_with (first | (go_at_call 59; go_in) | (with_reducible refine HC.out.mono ?_; rintro e w1 ⟨rfl, rfl⟩))
  go_ret
  exact ⟨rfl, rfl⟩
theorem contains_no (l : List UInt8) (c : UInt8) (h : ∀ x ∈ l, x ≠ c) : decide (0 ≤ Lib.indexByte l c) = false := by
  rw [ib_no c l h]; rfl
theorem contains_yes (l : List UInt8) (c : UInt8) (h : ¬ ∀ x ∈ l, x ≠ c) : decide (0 ≤ Lib.indexByte l c) = true := by
  rcases split_at c l with h1 | ⟨a, b, rfl, h1⟩
  · exact absurd h1 h
  · rw [ib_yes c b a h1]; simp
theorem parts_any (p : List UInt8) (w : World) :
    Calls Try.prog 51 #[.string (str p)] w fun e w' => e = .returned (.func (.func 60) #[] #[.pointer (some ⟨w.heap.size, 0, none⟩)]) ∧ w' = w.alloc (.cells #[.string (str p)] 9) := by
  go_enter Try.func51, Try.ntmps51
  go_wp2_with fail
  go_ret
  exact ⟨rfl, rfl⟩
set_option maxRecDepth 100000 in
set_option maxHeartbeats 2000000 in
theorem check_early (p : List UInt8) (w : World) (hp : p.length ≤ 1000000) (h : 4096 < p.length ∨ ¬ ∀ c ∈ p, c ≠ 0) :
    Calls Try.prog 29 #[.string (str p)] w fun e w' => e = .returned (.int .i64 5) ∧ Below w.heap.size w w' := by
  have hs := str_size p
  by_cases h1 : 4096 < p.length
  · have h1i : (4096 : Int) < (p.length : Int) := by omega
    go_enter Try.func29, Try.ntmps29
    go_wp2_with fail
    go_returns
    exact ⟨rfl, (Below.refl _ _).alloc (Nat.le_refl _) _⟩
  · have h1i : ¬ (4096 : Int) < (p.length : Int) := by omega
    have HC := Kept.mk (fun w => sContains_one p 0 w true (contains_yes p 0 (h.resolve_left h1)))
    clear h
    go_enter Try.func29, Try.ntmps29
    go_wp2_with fail
    with_reducible refine (HC.out _).mono ?_
    rintro e w1 ⟨rfl, rfl⟩
    go_wp2_with fail
    go_returns
    exact ⟨rfl, (Below.refl _ _).alloc (Nat.le_refl _) _⟩
set_option maxRecDepth 100000 in
set_option maxHeartbeats 2000000 in
theorem check_late (p : List UInt8) (w : World) (hp : p.length ≤ 4096) (h : ∀ c ∈ p, c ≠ 0) (b : Bool) (hb : (psp p []).all (fun x => !badPart x) = b) :
    Calls Try.prog 29 #[.string (str p)] w fun e w' => e = .returned (.int .i64 (if b then 0 else 5)) ∧ Below w.heap.size w w' := by
  have hs := str_size p
  have h1i : ¬ (4096 : Int) < (p.length : Int) := by omega
  have HC := Kept.mk (fun w => sContains_one p 0 w false (contains_no p 0 h))
  refine (callsIn_wide (n := 6)).1 (callsIn_of_wp_marks Try.func29 rfl trivial ?_ rfl)
  simp only [Try.ntmps29, List.size_toArray, List.length_cons, List.length_nil, Nat.reduceAdd, Nat.reduceSub, Array.replicate_succ, Array.replicate_zero, List.push_toArray, List.append_toArray, List.nil_append, List.cons_append]
  gi_wp2_with fail
  refine ⟨trivial, (callsIn_wide.2 (HC.out _)).mono ?_⟩
  rintro e w1 ⟨rfl, rfl⟩
  gi_wp2_with fail
  refine ⟨trivial, (callsIn_wide.2 (parts_any p _)).mono ?_⟩
  rintro e w1 ⟨rfl, rfl⟩
  gi_wp2_with fail
  have hN : ((w.alloc (.cells #[.int .i64 0] 54)).alloc (.cells #[.string (str p)] 9)).heap.size = w.heap.size + 2 := by simp
  have hr0 : ((w.alloc (.cells #[.int .i64 0] 54)).alloc (.cells #[.string (str p)] 9)).heap[w.heap.size]? = some (.cells #[.int .i64 0] 54 (0, 0)) :=
    (Below.heap_alloc _ _ _ (by simp)).trans (World.alloc_heap_new w _)
  have hb0 : ((w.alloc (.cells #[.int .i64 0] 54)).alloc (.cells #[.string (str p)] 9)).heap[w.heap.size + 1]? = some (.cells #[.string (str p)] 9 (0, 0)) := by
    have := World.alloc_heap_new (w.alloc (.cells #[.int .i64 0] 54)) (.cells #[.string (str p)] 9)
    rwa [World.size_alloc] at this
  have hB0 : Below w.heap.size w ((w.alloc (.cells #[.int .i64 0] 54)).alloc (.cells #[.string (str p)] 9)) := ((Below.refl _ w).alloc (Nat.le_refl _) _).alloc (by simp) _
  generalize (w.alloc (.cells #[.int .i64 0] 54)).alloc (.cells #[.string (str p)] 9) = W2 at *
  have hle : w.heap.size + 2 ≤ W2.heap.size := by omega
  clear hN
  have hput : ∀ (W : World) (o : Obj), Below w.heap.size w W → Below w.heap.size w (W.putObj (W2.heap.size + 1) o) := fun W o h =>
    ⟨h.os, h.tape, h.output, by rw [World.putObj_size]; exact h.size, fun k hk => (World.putObj_heap_other (by omega)).trans (h.block k hk)⟩
  refine range_box (n := 4) (gf := 60) (lb := #[.pointer (some ⟨w.heap.size + 1, 0, none⟩)]) rfl (enters_of Try.func60 (by kernel_rfl) rfl) (fun x : List UInt8 => #[.string (str x)]) (fun _ => rfl) (w.heap.size + 1) (by omega) (psp p []).length (fun xs => xs = psp p []) (fun pre => pre <+: psp p [])
    (fun l J Jx W hJb hJd hY hb h0 => parts_in 4 l (w.heap.size + 1) p (by omega) J Jx W hJb hJd hY (hb.trans hb0) h0)
    (fun pre W => (∀ x ∈ pre, badPart x = false) ∧ W.heap[w.heap.size]? = some (.cells #[.int .i64 0] 54 (0, 0)) ∧ Below w.heap.size w W)
    (fun c pre W => c = .ret ∧ (∃ x ∈ pre, badPart x = true) ∧ W.heap[w.heap.size]? = some (.cells #[.int .i64 5] 54 (0, 0)) ∧ Below w.heap.size w W)
    (fun d r => ⟨by simp, ((Below.heap_alloc _ _ _ (by simp; omega)).trans (Below.heap_alloc _ _ _ (by omega))).trans hr0, (hB0.alloc (by omega) _).alloc (by simp; omega) _⟩)
    (fun pre W v h => ⟨h.1, (Below.heap_setCell W ⟨w.heap.size + 1, 0, none⟩ v _ (show w.heap.size ≠ w.heap.size + 1 by omega)).trans h.2.1, h.2.2.setCell (p := ⟨w.heap.size + 1, 0, none⟩) (by simp) _⟩)
    (fun pre W k h => ⟨h.1, h.2.1, below_drewN h.2.2 k⟩)
    (fun pre W o h _ => ⟨h.1, (World.putObj_heap_other (by omega)).trans h.2.1, hput _ _ h.2.2⟩)
    (fun c pre W o h _ => ⟨h.1, h.2.1, (World.putObj_heap_other (by omega)).trans h.2.2.1, hput _ _ h.2.2.2⟩)
    (fun x => { tmps := #[.string (str p), undef, .pointer (some ⟨w.heap.size, 0, none⟩), .string (str x),
          .string (str p), .int .i64 (p.length : Int), .bool false, .bool false,
          .string (str p), .bool false, .bool false, .string (str p),
          .func (.func 60) #[] #[.pointer (some ⟨w.heap.size + 1, 0, none⟩)], .string (str x), undef,
          undef, undef, undef, undef, undef, undef, undef, undef, undef], defers := [] }) ?assign ?body ?done ?stop
  case assign =>
    intro l x W K hK
    gi_wp2
    exact hK
  case body =>
    rintro l pre x W ⟨hp1, hr, hb⟩ _ hlt
    have c0 := Joins.cell_of_block hr 0
    have nf := Joins.unfrozen_of_block hr 0
    have HR := Kept.mk hr
    have HBW := Kept.mk hb
    have HP1 := Kept.mk hp1
    have HLT := Kept.mk hlt
    have htl := str_toList x
    clear hr hb hp1 hlt
    have bad : badPart x = true → (Two2 W2.heap.size W (W.setCell ⟨w.heap.size, 0, none⟩ (.int .i64 5)) ∧ (Code.ret = .ret ∧ (∃ y ∈ pre ++ [x], badPart y = true) ∧ (W.setCell ⟨w.heap.size, 0, none⟩ (.int .i64 5)).heap[w.heap.size]? = some (.cells #[.int .i64 5] 54 (0, 0)) ∧ Below w.heap.size w (W.setCell ⟨w.heap.size, 0, none⟩ (.int .i64 5)))) := fun hx =>
      ⟨⟨by simp [World.setCell], Below.heap_setCell W ⟨w.heap.size, 0, none⟩ _ _ (show W2.heap.size + 1 ≠ w.heap.size by omega), Below.heap_setCell W ⟨w.heap.size, 0, none⟩ _ _ (show W2.heap.size ≠ w.heap.size by omega)⟩, rfl, ⟨x, by simp, hx⟩, (Joins.block_setCell (i := 0) HR.out _).trans rfl, HBW.out.setCell (p := ⟨w.heap.size, 0, none⟩) (Nat.le_refl _) _⟩
    have HBAD := Kept.mk bad
    clear bad
    by_cases b1 : x = []
    · have f1 : (str x).toList.isEmpty = true := by rw [htl, b1]; rfl
      have hx : badPart x = true := by rw [b1]; rfl
      clear b1 htl
      gi_wp2
      exact ⟨(HBAD.out hx).1, rfl, (HBAD.out hx).2.2⟩
    · have f1 : (str x).toList.isEmpty = false := by rw [htl]; cases x <;> simp_all
      by_cases b2 : x = [46]
      · have f2 : ((str x).toList == [46]) = true := by rw [htl, b2]; rfl
        have hx : badPart x = true := by rw [b2]; rfl
        clear b1 b2 htl
        gi_wp2
        exact ⟨(HBAD.out hx).1, rfl, (HBAD.out hx).2.2⟩
      · have f2 : ((str x).toList == [46]) = false := by rw [htl]; simpa using b2
        by_cases b3 : x = [46, 46]
        · have f3 : ((str x).toList == [46, 46]) = true := by rw [htl, b3]; rfl
          have hx : badPart x = true := by rw [b3]; rfl
          clear b1 b2 b3 htl
          gi_wp2
          exact ⟨(HBAD.out hx).1, rfl, (HBAD.out hx).2.2⟩
        · have f3 : ((str x).toList == [46, 46]) = false := by rw [htl]; simpa using b3
          have hx : badPart x = false := by unfold badPart; simp [b1, b2, b3]
          have HPX := Kept.mk (show ∀ y ∈ pre ++ [x], badPart y = false from fun y hy => (List.mem_append.1 hy).elim (HP1.out y) (fun e => by simp at e; rw [e]; exact hx))
          clear b1 b2 b3 htl hx
          gi_wp2
          exact ⟨⟨Nat.le_refl _, rfl, rfl⟩, rfl, HPX.out, HR.out, HBW.out⟩
  case done =>
    rintro xs W rfl ⟨hne, hr, hB⟩ hK
    have c0 := Joins.cell_of_block hr 0
    have nf := Joins.unfrozen_of_block hr 0
    have hb1 : b = true := by
      rw [← hb, List.all_eq_true]; intro x hx; rw [hne x hx]; rfl
    subst hb1
    have hr2 := Joins.block_setCell (i := 0) hr (.int .i64 0)
    have hK2 : (W.setCell ⟨w.heap.size, 0, none⟩ (.int .i64 0)).heap[W2.heap.size]? = some (.deferred (some [])) := (Below.heap_setCell W ⟨w.heap.size, 0, none⟩ _ _ (show W2.heap.size ≠ w.heap.size by omega)).trans hK
    have HB2 := Kept.mk (hB.setCell (p := ⟨w.heap.size, 0, none⟩) (Nat.le_refl _) (.int .i64 0))
    have HR2 := Kept.mk hr2
    have HK2 := Kept.mk hK2
    clear hr hB hK hr2 hK2 hne
    gi_wp2
    refine ⟨by simp, .inl ⟨_, _, rfl, run_takeDeferred HK2.out, ?_⟩⟩
    have hc5 : ((W.setCell ⟨w.heap.size, 0, none⟩ (.int .i64 0)).putObj W2.heap.size (.deferred none)).cell? ⟨w.heap.size, 0, none⟩ = some (.int .i64 0) := by
      rw [Joins.cell_of_block ((World.putObj_heap_other (by omega)).trans HR2.out) 0]; rfl
    refine ⟨.int .i64 0, ?_, rfl, ⟨HB2.out.os, HB2.out.tape, HB2.out.output, by rw [World.putObj_size]; exact HB2.out.size, fun k hk => (World.putObj_heap_other (by omega)).trans (HB2.out.block k hk)⟩⟩
    simp [results, Try.f29, go_sem, hc5]
  case stop =>
    rintro c pre W hpre ⟨rfl, hin, hr, hB⟩ hK
    have hb0 : b = false := by
      obtain ⟨x, hx, hbx⟩ := hin
      rw [← hb]
      apply Bool.eq_false_iff.2
      intro ha
      rw [List.all_eq_true] at ha
      have := ha x (hpre.subset hx)
      rw [hbx] at this
      cases this
    subst hb0
    have HB2 := Kept.mk hB
    have HR2 := Kept.mk hr
    have HK2 := Kept.mk hK
    clear hr hB hK hin
    gi_wp2
    refine ⟨by simp, .inl ⟨_, _, rfl, run_takeDeferred HK2.out, ?_⟩⟩
    have hc5 : (W.putObj W2.heap.size (.deferred none)).cell? ⟨w.heap.size, 0, none⟩ = some (.int .i64 5) := by
      rw [Joins.cell_of_block ((World.putObj_heap_other (by omega)).trans HR2.out) 0]; rfl
    refine ⟨.int .i64 5, ?_, rfl, ⟨HB2.out.os, HB2.out.tape, HB2.out.output, by rw [World.putObj_size]; exact HB2.out.size, fun k hk => (World.putObj_heap_other (by omega)).trans (HB2.out.block k hk)⟩⟩
    simp [results, Try.f29, go_sem, hc5]
/-- the answer -/
def chk (p : List UInt8) : Int := if pok p then 0 else 5
theorem check_any (p : List UInt8) (w : World) (hp : p.length ≤ 1000000) :
    Calls Try.prog 29 #[.string (str p)] w fun e w' => e = .returned (.int .i64 (chk p)) ∧ Below w.heap.size w w' := by
  by_cases h : 4096 < p.length ∨ ¬ ∀ c ∈ p, c ≠ 0
  · have hc : chk p = 5 := by
      unfold chk pok
      rcases h with h | h
      · rw [decide_eq_false (show ¬ p.length ≤ 4096 by omega)]; rfl
      · rw [decide_eq_false h]; simp
    rw [hc]; exact check_early p w hp h
  · have h1 : p.length ≤ 4096 := by omega
    have h2 : ∀ c ∈ p, c ≠ 0 := Classical.byContradiction fun hn => h (.inr hn)
    have hc : chk p = if (psp p []).all (fun x => !badPart x) then 0 else 5 := by
      unfold chk pok
      rw [decide_eq_true h1, decide_eq_true h2]; rfl
    rw [hc]; exact check_late p w h1 h2 _ rfl
end Go.Proofs.Ytohdekokdljgjaa
