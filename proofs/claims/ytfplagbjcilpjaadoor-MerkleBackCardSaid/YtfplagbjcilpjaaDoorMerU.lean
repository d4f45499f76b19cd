/- Trees of sums: up a way, with the sums beside it: the program's, by a contract. -/
import Derived.Test.YtfplagbjcilpjaaDoorMerQ
import Derived.Test.YtfplagbjcilpjaaDoorMerK
namespace Go.Proofs.YtfplagbjcilpjaaDoor
set_option linter.unusedVariables false
set_option linter.unusedSimpArgs false
open Go.RowKit Go.Lib
theorem tUp_length (w : Nat) (hw : w ≤ 32) (V : List Bool) : ∀ (leaf : List UInt8) (ps : List (List UInt8)), leaf.length = w → (tUp w leaf V ps).length = w := by
  induction V with
  | nil => intro leaf ps h; simpa [tUp] using h
  | cons r V ih =>
    intro leaf ps h
    cases ps with
    | nil => simpa [tUp] using h
    | cons b q =>
      rw [tUp]
      refine ih _ _ ?_
      split <;> exact tNode_length _ _ _ hw
theorem tUp_take (w : Nat) (leaf : List UInt8) (V : List Bool) (ps : List (List UInt8)) (j : Nat) (hj : j < ps.length) (hV : V.length = ps.length) :
    tUp w leaf (V.take (j + 1)) (ps.take (j + 1)) = if V.getD j false then tNode w ps[j] (tUp w leaf (V.take j) (ps.take j)) else tNode w (tUp w leaf (V.take j) (ps.take j)) ps[j] := by
  rw [List.take_succ_eq_append_getElem (by omega : j < V.length), List.take_succ_eq_append_getElem hj]
  rw [tUp_snoc w leaf _ _ _ _ (by rw [List.length_take, List.length_take]; omega), List.getD_eq_getElem?_getD, List.getElem?_eq_getElem (by omega : j < V.length)]
  rfl
theorem tUp_none (w : Nat) (leaf : List UInt8) : tUp w leaf [] [] = leaf := by simp [tUp]
theorem bls_getD (L : List Bool) (i : Nat) (h : i < L.length) : (bls L)[i]? = some (.bool (L.getD i false)) := by
  rw [bls_get L i h, List.getD_eq_getElem?_getD, List.getElem?_eq_getElem h]
  rfl
theorem up_all (w : Nat) (leaf : List UInt8) (V : List Bool) (ps : List (List UInt8)) (hV : V.length = ps.length) : tUp w leaf (V.take ps.length) (ps.take ps.length) = tUp w leaf V ps := by
  rw [List.take_of_length_le (by omega), List.take_length]
/-- the sums have this width -/
def uOk (w : Nat) (leaf : List UInt8) (V : List Bool) (ps : List (List UInt8)) : Bool := decide (ps.length = V.length) && decide (leaf.length = w) && ps.all (fun b => decide (b.length = w))
theorem uOk_all {w : Nat} {leaf : List UInt8} {V : List Bool} {ps : List (List UInt8)} (h1 : ps.length = V.length) (h2 : leaf.length = w) (h3 : ∀ k (hk : k < ps.length), ps[k].length = w) : uOk w leaf V ps = true := by
  unfold uOk
  rw [decide_eq_true h1, decide_eq_true h2, Bool.true_and, Bool.true_and, List.all_eq_true]
  intro b hb
  obtain ⟨k, hk, rfl⟩ := List.mem_iff_getElem.1 hb
  exact decide_eq_true (h3 k hk)
theorem uOk_long {w : Nat} {leaf : List UInt8} {V : List Bool} {ps : List (List UInt8)} (h : ps.length ≠ V.length) : uOk w leaf V ps = false := by
  unfold uOk; rw [decide_eq_false h]; rfl
theorem uOk_leaf {w : Nat} {leaf : List UInt8} {V : List Bool} {ps : List (List UInt8)} (h : leaf.length ≠ w) : uOk w leaf V ps = false := by
  unfold uOk; rw [decide_eq_false h]; simp
theorem uOk_one {w : Nat} {leaf : List UInt8} {V : List Bool} {ps : List (List UInt8)} (k : Nat) (hk : k < ps.length) (h : ps[k].length ≠ w) : uOk w leaf V ps = false := by
  unfold uOk
  have : (ps.all fun b => decide (b.length = w)) = false := by
    rw [Bool.eq_false_iff]
    intro hc
    exact h (of_decide_eq_true (List.all_eq_true.1 hc _ (List.getElem_mem hk)))
  rw [this, Bool.and_false]
/-- what is answered -/
def uS (w : Nat) (leaf : List UInt8) (V : List Bool) (ps : List (List UInt8)) : List UInt8 := if uOk w leaf V ps then tUp w leaf V ps else []
def uE (w : Nat) (leaf : List UInt8) (V : List Bool) (ps : List (List UInt8)) : Int := if uOk w leaf V ps then 0 else 2
theorem u_good {w : Nat} {leaf : List UInt8} {V : List Bool} {ps : List (List UInt8)} (h : uOk w leaf V ps = true) : uS w leaf V ps = tUp w leaf V ps ∧ uE w leaf V ps = 0 := by
  unfold uS uE; rw [h]; exact ⟨rfl, rfl⟩
theorem u_bad {w : Nat} {leaf : List UInt8} {V : List Bool} {ps : List (List UInt8)} (h : uOk w leaf V ps = false) : uS w leaf V ps = [] ∧ uE w leaf V ps = 2 := by
  unfold uS uE; rw [h]; exact ⟨rfl, rfl⟩
attribute [local irreducible] str sSum wid tS tLeaf tNode cutN strs bls tUp uS uE
theorem str_nilM : str [] = ({ data := #[] } : ByteArray) := by unfold str; rfl
set_option maxRecDepth 100000 in
set_option maxHeartbeats 4000000 in
theorem Up_any (w : Int) (i n : Nat) (leaf : List UInt8) (A : Option Addr) (c : Nat) (ps : List (List UInt8)) (W : World) (hk : KAt W) (hi : i < n) (hn : n ≤ 1099511627776) (hleaf : leaf.length ≤ 1000000) (hr : RowAt W A (strs ps)) (hc : ps.length ≤ c) (hl : ∀ b ∈ ps, b.length ≤ 1000000) (hps : ps.length ≤ 1000) :
    Calls Tryd.prog 29 #[.int .i64 w, .int .i64 i, .int .i64 n, .string (str leaf), .slice A ps.length c] W fun e w' => e = .returned (.tuple #[.string (str (uS (wid w) leaf (tWay i n) ps)), .int .i64 (uE (wid w) leaf (tWay i n) ps)]) ∧ Below W.heap.size W w' := by
  have hN1 : ¬ (n : Int) < 1 := by omega
  have hI0 : ¬ (i : Int) < 0 := by omega
  have hIN : ¬ (n : Int) ≤ (i : Int) := by omega
  have p40 : (2 : Nat) ^ 40 = 1099511627776 := by decide
  have hVl := tWay_le 40 i n (by omega)
  have HWAY := Kept.mk (Way_any i n W hi hn)
  have hsl := str_size leaf
  have hw32 := (wid_range w).2
  have HK := Kept.mk (fun w' (hb : Below W.heap.size W w') => hk.below hb)
  have HR := Kept.mk (fun w' (hb : Below W.heap.size W w') => hr.below hb)
  have HL := Kept.mk hl
  have HW := Kept.mk (fun W => Width_any w W)
  have HNL := Kept.mk str_nilM
  clear hk hr hl p40 hn hi
  generalize tWay i n = V at *
  by_cases h1 : ps.length = V.length
  · by_cases h2 : leaf.length = wid w
    · have HG := Kept.mk (fun h3 => u_good (uOk_all (w := wid w) (leaf := leaf) h1 h2 h3))
      have HBAD := Kept.mk (fun k hk h => u_bad (uOk_one (w := wid w) (leaf := leaf) (V := V) (ps := ps) k hk h))
      have HT := Kept.mk (fun j hj => tUp_take (wid w) leaf V ps j hj h1.symm)
      have HALL := Kept.mk (up_all (wid w) leaf V ps h1.symm)
      have HTL := Kept.mk (fun j => tUp_length (wid w) hw32 (V.take j) leaf (ps.take j) h2)
      have HT0 := Kept.mk (show tUp (wid w) leaf (V.take 0) (ps.take 0) = leaf from by rw [List.take_zero, List.take_zero, tUp_none])
      generalize uS (wid w) leaf V ps = US at *
      generalize uE (wid w) leaf V ps = UE at *
      have HLW := Kept.mk h2
      have H1 := Kept.mk h1
      go_enter Tryd.func29, Tryd.ntmps29
      go_wp2_with fail
      with_reducible refine HWAY.out.mono ?_
      rintro e w1 ⟨v1, rfl, hv1⟩
      have HV1 := Kept.mk hv1
      obtain ⟨A1, c1, rfl, hc1⟩ := hv1.len
      clear hv1 HWAY
      rw [bls_length, ← h1]
      rw [bls_length, ← h1] at HV1
      have hwi : (leaf.length : Int) = ((wid w : Nat) : Int) := by omega
      clear h1 h2
      go_wp2_with fail
      with_reducible refine (HW.out w1).mono ?_
      rintro e w2 ⟨rfl, rfl⟩
      go_wp2_with fail
      go_loopw [13, 45] (fun s c wr => ∃ j : Nat, j ≤ ps.length ∧ c = .int .i64 j ∧ s = .string (str (tUp (wid w) leaf (V.take j) (ps.take j))) ∧ VB W wr (.slice A1 ps.length c1) (bls V) ∧ ∀ k (hk : k < ps.length), k < j → ps[k].length = wid w) (fun _ c _ => ps.length - (RowKit.intOf c).toNat)
      case atStart => exact ⟨0, by omega, rfl, by rw [HT0.out], HV1.out, fun k _ h => absurd h (by omega)⟩
      case round =>
        clear HV1
        obtain ⟨j, hj, rfl, rfl, hv, hz⟩ := hrel
        have HV := Kept.mk hv
        have HZ := Kept.mk hz
        clear hv hz
        by_cases hlt : j < ps.length
        · have hji : (j : Int) < (ps.length : Int) := by omega
          obtain ⟨ad, rfl, had, hcell⟩ := (HR.out wr HV.out.lies).get (k := j) (by rw [strs_length]; exact hlt)
          rw [strs_get ps j hlt] at hcell
          have hjV : j < V.length := by have := H1.out; omega
          have hvr := HV.out
          obtain ⟨g, cap2, hve, hgw, hgl, hcp, hrow⟩ := hvr.row (by rw [bls_length]; omega)
          rw [bls_length, ← H1.out] at hve
          cases hve
          have hd := hrow.off0 (bls_getD V j hjV)
          have hbl := HL.out _ (List.getElem_mem hlt)
          have hbs := str_size ps[j]
          have HTj := Kept.mk (HT.out j hlt)
          have HBj := Kept.mk (HBAD.out j hlt)
          have hz2 : ps[j].length = wid w → ∀ k (hk : k < ps.length), k < j + 1 → ps[k].length = wid w := fun h k hk hkj => by
            rcases (show k < j ∨ k = j from by omega) with h3 | h3
            · exact HZ.out k hk h3
            · subst h3; exact h
          have HZ2 := Kept.mk hz2
          have hul := HTL.out j
          clear hz2 hrow HZ HBAD
          generalize V.getD j false = r at *
          generalize ps[j] = b at *
          generalize tUp (wid w) leaf (V.take j) (ps.take j) = u at *
          by_cases hb : b.length = wid w
          · have hbi : (b.length : Int) = ((wid w : Nat) : Int) := by omega
            cases r with
            | true =>
              rw [if_pos rfl] at HTj
              have HNd := Kept.mk (Node_any w b u wr (HK.out wr HV.out.lies) (by omega))
              go_wp2_with fail
              with_reducible refine (HW.out wr).mono ?_
              rintro e w2 ⟨rfl, rfl⟩
              go_wp2_with fail
              with_reducible refine HNd.out.mono ?_
              rintro e w3 ⟨rfl, b3⟩
              have HV3 := Kept.mk (HV.out.below b3)
              have HZ3 := HZ2.out hb
              have HZ4 := Kept.mk HZ3
              clear b3 HNd HZ3
              go_wp2_with fail
              exact ⟨⟨j + 1, hlt, by push_cast; rfl, by rw [HTj.out], HV3.out, HZ4.out⟩, by show ps.length - ((j : Int) + 1).toNat < ps.length - ((j : Nat) : Int).toNat; omega⟩
            | false =>
              rw [if_neg (by decide)] at HTj
              have HNd := Kept.mk (Node_any w u b wr (HK.out wr HV.out.lies) (by omega))
              go_wp2_with fail
              with_reducible refine (HW.out wr).mono ?_
              rintro e w2 ⟨rfl, rfl⟩
              go_wp2_with fail
              with_reducible refine HNd.out.mono ?_
              rintro e w3 ⟨rfl, b3⟩
              have HV3 := Kept.mk (HV.out.below b3)
              have HZ3 := HZ2.out hb
              have HZ4 := Kept.mk HZ3
              clear b3 HNd HZ3
              go_wp2_with fail
              exact ⟨⟨j + 1, hlt, by push_cast; rfl, by rw [HTj.out], HV3.out, HZ4.out⟩, by show ps.length - ((j : Int) + 1).toNat < ps.length - ((j : Nat) : Int).toNat; omega⟩
          · have hbi : (((b.length : Nat) : Int) == ((wid w : Nat) : Int)) = false := by simp; omega
            obtain ⟨hs, he⟩ := HBj.out hb
            have HS := Kept.mk hs
            have HE := Kept.mk he
            clear hs he
            go_wp2_with fail
            with_reducible refine (HW.out wr).mono ?_
            rintro e w2 ⟨rfl, rfl⟩
            go_wp2_with fail
            go_ret2
            exact ⟨by rw [HS.out, HE.out, HNL.out]; rfl, HV.out.lies⟩
        · have hji : ¬ (j : Int) < (ps.length : Int) := by omega
          have hjl : j = ps.length := by omega
          obtain ⟨hs, he⟩ := HG.out (fun k hk => HZ.out k hk (by omega))
          have HS := Kept.mk hs
          have HE := Kept.mk he
          clear hs he
          subst hjl
          rw [HALL.out]
          go_wp2_with fail
          go_ret2
          exact ⟨by rw [HS.out, HE.out]; rfl, HV.out.lies⟩
    · obtain ⟨hs, he⟩ := u_bad (uOk_leaf (w := wid w) (V := V) (ps := ps) h2)
      have h2b : ((leaf.length : Int) == ((wid w : Nat) : Int)) = false := by simp; omega
      rw [hs, he, HNL.out]
      clear hs he
      go_enter Tryd.func29, Tryd.ntmps29
      go_wp2_with fail
      with_reducible refine HWAY.out.mono ?_
      rintro e w1 ⟨v1, rfl, hv1⟩
      have HB1 := Kept.mk hv1.lies
      obtain ⟨A1, c1, rfl, hc1⟩ := hv1.len
      clear hv1
      rw [bls_length, ← h1]
      clear h1
      go_wp2_with fail
      with_reducible refine (HW.out w1).mono ?_
      rintro e w2 ⟨rfl, rfl⟩
      go_wp2_with fail
      go_ret2
      exact ⟨rfl, HB1.out⟩
  · obtain ⟨hs, he⟩ := u_bad (uOk_long (w := wid w) (leaf := leaf) h1)
    have h1i : ¬ (ps.length : Int) = (V.length : Int) := by omega
    have h1b : ((ps.length : Int) == (V.length : Int)) = false := by simp; omega
    rw [hs, he, HNL.out]
    clear hs he
    go_enter Tryd.func29, Tryd.ntmps29
    go_wp2_with fail
    with_reducible refine HWAY.out.mono ?_
    rintro e w1 ⟨v1, rfl, hv1⟩
    have HB1 := Kept.mk hv1.lies
    obtain ⟨A1, c1, rfl, hc1⟩ := hv1.len
    clear hv1
    rw [bls_length]
    go_wp2_with fail
    go_ret2
    exact ⟨rfl, HB1.out⟩
end Go.Proofs.YtfplagbjcilpjaaDoor
