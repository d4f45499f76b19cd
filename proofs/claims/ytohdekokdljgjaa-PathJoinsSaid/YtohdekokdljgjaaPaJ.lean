/- path: Parts, by a contract. -/
import Derived.Test.YtohdekokdljgjaaPaI
import Derived.Test.YtohdekokdljgjaaPaF
namespace Go.Proofs.Ytohdekokdljgjaa
set_option linter.unusedVariables false
set_option linter.unusedSimpArgs false
open Go.RowKit Go.Lib
attribute [local go_sem] Oper.semAt_some
attribute [local irreducible] str psp pok
theorem VB.put {w W : World} {v : Value} {cs : List Value} (h : VB w W v cs) {k : Nat} (hk : w.heap.size ≤ k) (ha : Apart v k) (o : Obj) : VB w (W.putObj k o) v cs :=
  ⟨⟨h.1.os, h.1.tape, h.1.output, by rw [World.putObj_size]; exact h.1.size, fun i hi => (World.putObj_heap_other (by omega)).trans (h.1.block i hi)⟩,
   h.2.imp id fun ⟨g, cap, ds, T, f0, f1, h1, h2, h3, h4⟩ => ⟨g, cap, ds, T, f0, f1, h1, h2, (World.putObj_heap_other (fun e => ha cs.length cap (by rw [h1, e]))).trans h3, h4⟩⟩
theorem VB.drewN {w W : World} {v : Value} {cs : List Value} (h : VB w W v cs) (k : Nat) : VB w (W.drewN k) v cs := ⟨below_drewN h.1 k, h.2⟩
set_option maxRecDepth 100000 in
set_option maxHeartbeats 2000000 in
theorem pParts_no (p : List UInt8) (w : World) (hp : p.length ≤ 5000) (hk : chk p = 5) :
    Calls Try.prog 32 #[.string (str p)] w fun e w' => e = .returned (.tuple #[.slice none 0 0, .int .i64 5]) ∧ Below w.heap.size w w' := by
  have HC := Kept.mk (check_any p w (by omega))
  rw [hk] at HC
  clear hk
  go_enter Try.func32, Try.ntmps32
  go_wp2_with fail
  with_reducible refine HC.out.mono ?_
  rintro e w1 ⟨rfl, b1⟩
  go_wp2_with fail
  go_ret2
  exact ⟨rfl, b1⟩
set_option maxRecDepth 100000 in
set_option maxHeartbeats 4000000 in
theorem pParts_yes (p : List UInt8) (w : World) (hp : p.length ≤ 5000) (hk : chk p = 0) :
    Calls Try.prog 32 #[.string (str p)] w fun e w' => ∃ v, e = .returned (.tuple #[v, .int .i64 0]) ∧ VB w w' v (sts (psp p [])) := by
  have HC := Kept.mk (check_any p w (by omega))
  rw [hk] at HC
  have hpl := psp_length p []
  clear hk
  refine (callsIn_wide (n := 6)).1 (callsIn_of_wp_marks Try.func32 rfl trivial ?_ rfl)
  simp only [Try.ntmps32, List.size_toArray, List.length_cons, List.length_nil, Nat.reduceAdd, Nat.reduceSub, Array.replicate_succ, Array.replicate_zero, List.push_toArray, List.append_toArray, List.nil_append, List.cons_append]
  gi_wp2_with fail
  refine ⟨trivial, (callsIn_wide.2 HC.out).mono ?_⟩
  rintro e w1 ⟨rfl, b1⟩
  gi_wp2_with fail
  refine ⟨trivial, (callsIn_wide.2 (parts_any p _)).mono ?_⟩
  rintro e w2 ⟨rfl, rfl⟩
  gi_wp2_with fail
  have hN : ((w1.alloc (.cells #[.slice none 0 0] 57)).alloc (.cells #[.string (str p)] 9)).heap.size = w1.heap.size + 2 := by simp
  have hr0 : ((w1.alloc (.cells #[.slice none 0 0] 57)).alloc (.cells #[.string (str p)] 9)).heap[w1.heap.size]? = some (.cells #[.slice none 0 0] 57 (0, 0)) :=
    (Below.heap_alloc _ _ _ (by simp)).trans (World.alloc_heap_new w1 _)
  have hb0 : ((w1.alloc (.cells #[.slice none 0 0] 57)).alloc (.cells #[.string (str p)] 9)).heap[w1.heap.size + 1]? = some (.cells #[.string (str p)] 9 (0, 0)) := by
    have := World.alloc_heap_new (w1.alloc (.cells #[.slice none 0 0] 57)) (.cells #[.string (str p)] 9)
    rwa [World.size_alloc] at this
  have hB0 : Below w.heap.size w ((w1.alloc (.cells #[.slice none 0 0] 57)).alloc (.cells #[.string (str p)] 9)) := (b1.alloc b1.size _).alloc (by have := b1.size; simp; omega) _
  have hw1 := b1.size
  generalize (w1.alloc (.cells #[.slice none 0 0] 57)).alloc (.cells #[.string (str p)] 9) = W2 at *
  generalize w1.heap.size = R at *
  have hle : R + 2 ≤ W2.heap.size := by omega
  clear hN
  refine range_box (n := 4) (gf := 60) (lb := #[.pointer (some ⟨R + 1, 0, none⟩)]) rfl (enters_of Try.func60 (by kernel_rfl) rfl) (fun x : List UInt8 => #[.string (str x)]) (fun _ => rfl) (R + 1) (by omega) (psp p []).length (fun xs => xs = psp p []) (fun pre => pre <+: psp p [])
    (fun l J Jx W hJb hJd hY hb h0 => parts_in 4 l (R + 1) p (by omega) J Jx W hJb hJd hY (hb.trans hb0) h0)
    (fun pre W => ∃ v, W.heap[R]? = some (.cells #[v] 57 (0, 0)) ∧ VB w W v (sts pre) ∧ Apart v R ∧ Apart v (R + 1) ∧ Apart v W2.heap.size ∧ Apart v (W2.heap.size + 1))
    (fun _ _ _ => False)
    (fun d r => ⟨_, ((Below.heap_alloc _ _ _ (by simp; omega)).trans (Below.heap_alloc _ _ _ (by omega))).trans hr0, ⟨(hB0.alloc (by omega) _).alloc (by simp; omega) _, .inl ⟨rfl, rfl⟩⟩, apart_nil _, apart_nil _, apart_nil _, apart_nil _⟩)
    (fun pre W v ⟨u, h1, h2, h3, h4, h5⟩ => ⟨u, (Below.heap_setCell W ⟨R + 1, 0, none⟩ v _ (show R ≠ R + 1 by omega)).trans h1, h2.off (by omega) h4 0 v, h3, h4, h5⟩)
    (fun pre W k ⟨u, h1, h2, h3⟩ => ⟨u, h1, h2.drewN k, h3⟩)
    (fun pre W o ⟨u, h1, h2, h3, h4, h5, h6⟩ _ => ⟨u, (World.putObj_heap_other (by omega)).trans h1, h2.put (by omega) h6 o, h3, h4, h5, h6⟩)
    (fun c pre W o h _ => h)
    (fun x => { tmps := #[.string (str p), undef, .slice none 0 0, .int .i64 0, .int .i64 0,
          .pointer (some ⟨R, 0, none⟩), .string (str x), .string (str p),
          .int .i64 0, .int .i64 0, .bool false, undef, .string (str p),
          .func (.func 60) #[] #[.pointer (some ⟨R + 1, 0, none⟩)], .string (str x), undef,
          undef, undef, undef, undef], defers := [] }) ?assign ?body ?done ?stop
  case assign =>
    intro l x W K hK
    gi_wp2
    exact hK
  case body =>
    rintro l pre x W ⟨u, hr, hv, h3, h4, h5, h6⟩ hlen hlt
    obtain ⟨A, cap, rfl, hcap⟩ := hv.len
    have c0 := Joins.cell_of_block hr 0
    have nf := Joins.unfrozen_of_block hr 0
    have hRl := block_lt hr
    have HR := Kept.mk hr
    have HV := Kept.mk hv
    have H3 := Kept.mk h3
    have H4 := Kept.mk h4
    have H5 := Kept.mk h5
    have H6 := Kept.mk h6
    clear hr hv h3 h4 h5 h6
    rw [sts_length] at *
    gi_wp2_with (gi_at_builtin; refine str_appendIn rfl _ _ (by rfl) (w := w) (L := pre) (d := x) (by rfl) HV.out (by rfl) (by omega) ?_; intro v1 w3 hv1 hz1 hk1; obtain ⟨A1, cap1, rfl, hcap1⟩ := hv1.len; rw [sts_length, List.length_append, List.length_singleton] at hv1 hcap1 hk1 ⊢; have hbx := (hk1 R hRl H3.out).1.trans HR.out; have d0 := Joins.cell_of_block hbx 0; have ng := Joins.unfrozen_of_block hbx 0)
    refine ⟨⟨by rw [size_setCell]; exact hz1, ?_, ?_⟩, ?_, _, (Joins.block_setCell (i := 0) hbx _).trans rfl, hv1.off (by omega) (hk1 R hRl H3.out).2 0 _, (hk1 R hRl H3.out).2, (hk1 (R + 1) (by omega) H4.out).2, (hk1 _ (by omega) H5.out).2, (hk1 _ (by omega) H6.out).2⟩
    · exact (Below.heap_setCell w3 ⟨R, 0, none⟩ _ _ (show W2.heap.size + 1 ≠ R by omega)).trans (hk1 _ (by omega) H6.out).1
    · exact (Below.heap_setCell w3 ⟨R, 0, none⟩ _ _ (show W2.heap.size ≠ R by omega)).trans (hk1 _ (by omega) H5.out).1
    · exact (Below.heap_setCell w3 ⟨R, 0, none⟩ _ _ (show R + 1 ≠ R by omega)).trans (hk1 _ (by omega) H4.out).1
  case done =>
    rintro xs W rfl ⟨u, hr, hv, h3, h4, h5, h6⟩ hK
    obtain ⟨A, cap, rfl, hcap⟩ := hv.len
    have c0 := Joins.cell_of_block hr 0
    have HV := Kept.mk hv
    have H5 := Kept.mk h5
    have HK := Kept.mk hK
    have HW := Kept.mk (show w.heap.size ≤ W2.heap.size from by omega)
    clear hr hv h3 h4 h5 h6 hK
    rw [sts_length] at *
    gi_wp2
    refine ⟨by simp, .inl ⟨_, _, rfl, run_takeDeferred HK.out, ?_⟩⟩
    exact ⟨_, results_tmp2 rfl _ _ _, _, rfl, HV.out.put HW.out H5.out _⟩
  case stop =>
    rintro c pre W hpre h hK
    exact h.elim
end Go.Proofs.Ytohdekokdljgjaa
