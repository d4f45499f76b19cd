/- Deeds of layer 6 done, with the program's writer and the document's, each by a contract. -/
import Derived.Test.YtohdekokdljgjaaDdB
import Derived.Test.YtohdekokdljgjaaWrE
namespace Go.Proofs.Ytohdekokdljgjaa
set_option linter.unusedVariables false
set_option linter.unusedSimpArgs false
open Go.RowKit Go.Lib
/-- the bits behind a deed -/
def dbits (L : List Nat) (d : Dd) : List Nat :=
  if d.k = 0 ∨ d.k = 1 then L ++ lowB d.v (ct d.n) else if d.k = 2 then L ++ highB d.v (ct d.n) else if d.k = 3 then alg L else alg L ++ txB d.s
theorem dbits_len (L : List Nat) (d : Dd) (h : d.s.length ≤ 100) : (dbits L d).length ≤ L.length + 900 := by
  have hc := ct_le d.n
  have ha := alg_length L
  unfold upTo at ha
  unfold dbits
  split
  · rw [List.length_append, lowB_length]; omega
  · split
    · rw [List.length_append, highB_length]; omega
    · split
      · omega
      · rw [List.length_append, txB_length]; omega
theorem dbits_two (L : List Nat) (d : Dd) (h : Two01 L) : Two01 (dbits L d) := by
  unfold dbits
  split
  · exact h.app (two_low _ _)
  · split
    · exact h.app (two_high _ _)
    · split
      · exact h.alg
      · exact h.alg.app (two_text _)
theorem dbits_01 (L : List Nat) (d : Dd) (h : d.k = 0 ∨ d.k = 1) : dbits L d = L ++ lowB d.v (ct d.n) := by unfold dbits; rw [if_pos h]
theorem dbits_2 (L : List Nat) (d : Dd) (h : d.k = 2) : dbits L d = L ++ highB d.v (ct d.n) := by unfold dbits; rw [if_neg (by omega), if_pos h]
theorem dbits_3 (L : List Nat) (d : Dd) (h : d.k = 3) : dbits L d = alg L := by unfold dbits; rw [if_neg (by omega), if_neg (by omega), if_pos h]
theorem dbits_o (L : List Nat) (d : Dd) (h0 : ¬ d.k = 0) (h1 : ¬ d.k = 1) (h2 : ¬ d.k = 2) (h3 : ¬ d.k = 3) : dbits L d = alg L ++ txB d.s := by unfold dbits; rw [if_neg (by omega), if_neg h2, if_neg h3]
theorem St.alloc {w W : World} {T : TypeId} {g : Nat} {xs : Array Value} {v : Value} {cs : List Value} (h : St w W T g xs v cs) (o : Obj) : St w (W.alloc o) T g xs v cs :=
  ⟨h.ge, block_old h.box o, h.vb.alloc o, h.ap⟩
/-- a deed as a value -/
abbrev dval (d : Dd) : Value := .agg #[.int .i64 d.k, .int .i64 d.v, .int .i64 d.n, .string (str d.s)]
attribute [local irreducible] pk packTo lowB highB vb1 alg upTo txB str dbits ct
set_option maxRecDepth 100000 in
set_option maxHeartbeats 2000000 in
theorem does_any (w W : World) (g : Nat) (v : Value) (L : List Nat) (d : Dd) (hs : WA w W g v L) (hL : L.length ≤ 700000) (hd : d.s.length ≤ 100) :
    Calls Try.prog 12 #[.pointer (some ⟨g, 0, none⟩), dval d] W fun e W' => e = .returned (.tuple #[]) ∧ ∃ v', WA w W' g v' (dbits L d) ∧ Tn g v W v' W' := by
  have HS := Kept.mk (show WA w (W.alloc (.cells #[.int .i64 d.k, .int .i64 d.v, .int .i64 d.n, .string (str d.s)] 34)) g v L from St.alloc hs _)
  have HT := Kept.mk (tn_alloc g v W (.cells #[.int .i64 d.k, .int .i64 d.v, .int .i64 d.n, .string (str d.s)] 34))
  have HB := Kept.mk (fun j => Joins.cell_of_block (heap_new W (.cells #[.int .i64 d.k, .int .i64 d.v, .int .i64 d.n, .string (str d.s)] 34) _ rfl) j)
  have b0 := HB.out 0
  have b1 := HB.out 1
  have b2 := HB.out 2
  have b3 := HB.out 3
  clear hs HB
  show Calls _ _ #[_, .agg #[.int .i64 d.k, .int .i64 d.v, .int .i64 d.n, .string (str d.s)]] _ _
  by_cases h0 : d.k = 0
  · have HD := Kept.mk (dbits_01 L d (.inl h0))
    rw [h0] at HS HT b0 b1 b2 b3
    go_enter Try.func12, Try.ntmps12
    go_wp2_with fail
    with_reducible refine (put_any w _ g v L d.v d.n HS.out (by omega)).mono ?_
    rintro e w1 ⟨rfl, v', h1, h2⟩
    have H1 := Kept.mk h1
    have H2 := Kept.mk h2
    clear h1 h2
    go_wp2_with fail
    go_returns
    exact ⟨rfl, v', by rw [HD.out]; exact H1.out, HT.out.trans H2.out⟩
  · by_cases h1 : d.k = 1
    · have HD := Kept.mk (dbits_01 L d (.inr h1))
      rw [h1] at HS HT b0 b1 b2 b3
      go_enter Try.func12, Try.ntmps12
      go_wp2_with fail
      with_reducible refine (put_any w _ g v L d.v d.n HS.out (by omega)).mono ?_
      rintro e w1 ⟨rfl, v', h1, h2⟩
      have H1 := Kept.mk h1
      have H2 := Kept.mk h2
      clear h1 h2
      go_wp2_with fail
      go_returns
      exact ⟨rfl, v', by rw [HD.out]; exact H1.out, HT.out.trans H2.out⟩
    · by_cases h2 : d.k = 2
      · have HD := Kept.mk (dbits_2 L d h2)
        rw [h2] at HS HT b0 b1 b2 b3
        go_enter Try.func12, Try.ntmps12
        go_wp2_with fail
        with_reducible refine (code_any w _ g v L d.v d.n HS.out (by omega)).mono ?_
        rintro e w1 ⟨rfl, v', h1, h2⟩
        have H1 := Kept.mk h1
        have H2 := Kept.mk h2
        clear h1 h2
        go_wp2_with fail
        go_returns
        exact ⟨rfl, v', by rw [HD.out]; exact H1.out, HT.out.trans H2.out⟩
      · by_cases h3 : d.k = 3
        · have HD := Kept.mk (dbits_3 L d h3)
          rw [h3] at HS HT b0 b1 b2 b3
          go_enter Try.func12, Try.ntmps12
          go_wp2_with fail
          with_reducible refine (align_any w _ g v L HS.out (by omega)).mono ?_
          rintro e w1 ⟨rfl, h1, h2⟩
          have H1 := Kept.mk h1
          have H2 := Kept.mk h2
          clear h1 h2
          go_wp2_with fail
          go_returns
          exact ⟨rfl, v, by rw [HD.out]; exact H1.out, HT.out.trans H2.out⟩
        · have HD := Kept.mk (dbits_o L d h0 h1 h2 h3)
          go_enter Try.func12, Try.ntmps12
          go_wp2_with fail
          with_reducible refine (text_any w _ g v L d.s HS.out (by omega) (by omega)).mono ?_
          rintro e w1 ⟨rfl, v', h1, h2⟩
          have H1 := Kept.mk h1
          have H2 := Kept.mk h2
          clear h1 h2
          go_wp2_with fail
          go_returns
          exact ⟨rfl, v', by rw [HD.out]; exact H1.out, HT.out.trans H2.out⟩
set_option maxRecDepth 100000 in
set_option maxHeartbeats 2000000 in
theorem did_any (w W : World) (g : Nat) (v : Value) (L : List Nat) (d : Dd) (hs : WR w W g v L) (hL : L.length ≤ 700000) (hd : d.s.length ≤ 100) :
    Calls Try.prog 13 #[.pointer (some ⟨g, 0, none⟩), dval d] W fun e W' => e = .returned (.tuple #[]) ∧ ∃ v', WR w W' g v' (dbits L d) ∧ Tn g v W v' W' := by
  have HS := Kept.mk (show WR w (W.alloc (.cells #[.int .i64 d.k, .int .i64 d.v, .int .i64 d.n, .string (str d.s)] 34)) g v L from St.alloc hs _)
  have HT := Kept.mk (tn_alloc g v W (.cells #[.int .i64 d.k, .int .i64 d.v, .int .i64 d.n, .string (str d.s)] 34))
  have HB := Kept.mk (fun j => Joins.cell_of_block (heap_new W (.cells #[.int .i64 d.k, .int .i64 d.v, .int .i64 d.n, .string (str d.s)] 34) _ rfl) j)
  have b0 := HB.out 0
  have b1 := HB.out 1
  have b2 := HB.out 2
  have b3 := HB.out 3
  clear hs HB
  show Calls _ _ #[_, .agg #[.int .i64 d.k, .int .i64 d.v, .int .i64 d.n, .string (str d.s)]] _ _
  by_cases h0 : d.k = 0
  · have HD := Kept.mk (dbits_01 L d (.inl h0))
    rw [h0] at HS HT b0 b1 b2 b3
    go_enter Try.func13, Try.ntmps13
    go_wp2_with fail
    with_reducible refine (refWPut_any w _ g v L d.v d.n HS.out (by omega)).mono ?_
    rintro e w1 ⟨rfl, v', h1, h2⟩
    have H1 := Kept.mk h1
    have H2 := Kept.mk h2
    clear h1 h2
    go_wp2_with fail
    go_returns
    exact ⟨rfl, v', by rw [HD.out]; exact H1.out, HT.out.trans H2.out⟩
  · by_cases h1 : d.k = 1
    · have HD := Kept.mk (dbits_01 L d (.inr h1))
      rw [h1] at HS HT b0 b1 b2 b3
      go_enter Try.func13, Try.ntmps13
      go_wp2_with fail
      with_reducible refine (refWPut_any w _ g v L d.v d.n HS.out (by omega)).mono ?_
      rintro e w1 ⟨rfl, v', h1, h2⟩
      have H1 := Kept.mk h1
      have H2 := Kept.mk h2
      clear h1 h2
      go_wp2_with fail
      go_returns
      exact ⟨rfl, v', by rw [HD.out]; exact H1.out, HT.out.trans H2.out⟩
    · by_cases h2 : d.k = 2
      · have HD := Kept.mk (dbits_2 L d h2)
        rw [h2] at HS HT b0 b1 b2 b3
        go_enter Try.func13, Try.ntmps13
        go_wp2_with fail
        with_reducible refine (refWCode_any w _ g v L d.v d.n HS.out (by omega)).mono ?_
        rintro e w1 ⟨rfl, v', h1, h2⟩
        have H1 := Kept.mk h1
        have H2 := Kept.mk h2
        clear h1 h2
        go_wp2_with fail
        go_returns
        exact ⟨rfl, v', by rw [HD.out]; exact H1.out, HT.out.trans H2.out⟩
      · by_cases h3 : d.k = 3
        · have HD := Kept.mk (dbits_3 L d h3)
          rw [h3] at HS HT b0 b1 b2 b3
          go_enter Try.func13, Try.ntmps13
          go_wp2_with fail
          with_reducible refine (refWAlign_any w _ g v L HS.out (by omega)).mono ?_
          rintro e w1 ⟨rfl, v', h1, h2⟩
          have H1 := Kept.mk h1
          have H2 := Kept.mk h2
          clear h1 h2
          go_wp2_with fail
          go_returns
          exact ⟨rfl, v', by rw [HD.out]; exact H1.out, HT.out.trans H2.out⟩
        · have HD := Kept.mk (dbits_o L d h0 h1 h2 h3)
          go_enter Try.func13, Try.ntmps13
          go_wp2_with fail
          with_reducible refine (refWText_any w _ g v L d.s HS.out (by omega) (by omega)).mono ?_
          rintro e w1 ⟨rfl, v', h1, h2⟩
          have H1 := Kept.mk h1
          have H2 := Kept.mk h2
          clear h1 h2
          go_wp2_with fail
          go_returns
          exact ⟨rfl, v', by rw [HD.out]; exact H1.out, HT.out.trans H2.out⟩
end Go.Proofs.Ytohdekokdljgjaa
