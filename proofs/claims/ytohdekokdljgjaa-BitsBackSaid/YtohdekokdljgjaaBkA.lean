/- Deeds of layer 6 that are changed in their row, and the bits behind so many of them. -/
import Derived.Test.YtohdekokdljgjaaDdD
import Derived.Test.YtohdekokdljgjaaBkM
namespace Go.Proofs.Ytohdekokdljgjaa
set_option linter.unusedVariables false
set_option linter.unusedSimpArgs false
open Go.RowKit Go.Lib
theorem VD.base {w w1 wr : World} {v : Value} {l : List Dd} (h : VD w1 wr v l) (hb : Below w.heap.size w w1) : VD w wr v l :=
  ⟨hb.trans (h.1.mono hb.size), h.2.imp id fun ⟨g, cap, cs, f0, f1, h1, h2, h3⟩ => ⟨g, cap, cs, f0, f1, h1, Nat.le_trans hb.size h2, h3⟩⟩
theorem VD.is {w wr : World} {v : Value} {l m : List Dd} (h : VD w wr v l) (e : l = m) : VD w wr v m := by rw [← e]; exact h
theorem VD.kept {w W W' : World} {v u u' : Value} {ls : List Dd} (h : VD w W v ls) {g : Nat} (hb : Below w.heap.size w W') (hT : Tn g u W u' W') (hd : ∀ k, ¬ Apart v k → k ≠ g ∧ Apart u k) : VD w W' v ls :=
  ⟨hb, h.2.imp id fun ⟨k, cap, cs, f0, f1, h1, h2, h3, h4⟩ => ⟨k, cap, cs, f0, f1, h1, h2, (hT.keep k (block_lt h3) (hd k (fun hn => hn _ _ h1)).1 (hd k (fun hn => hn _ _ h1)).2).1.trans h3, h4⟩⟩
theorem dflat_set : ∀ (l : List Dd) (i : Nat) (x : Int) (h : i < l.length), (dflat l).set (4 * i + 2) (.int .i64 x) = dflat (l.set i { l[i] with n := x })
  | d :: r, 0, x, _ => by
    show (dcells d ++ dflat r).set 2 _ = dcells _ ++ dflat r
    rw [List.set_append_left _ _ (by simp [dcells])]
    rfl
  | d :: r, i + 1, x, h => by
    show (dcells d ++ dflat r).set (4 * (i + 1) + 2) _ = dcells d ++ dflat _
    rw [List.set_append_right _ _ (by simp [dcells]; omega), show 4 * (i + 1) + 2 - (dcells d).length = 4 * i + 2 by simp [dcells]; omega, dflat_set r i x (by simpa using h)]
    rfl
/-- the third cell of the i-th: it reads, it may be written -/
theorem VD.place {w wr : World} {v : Value} {l : List Dd} (h : VD w wr v l) {i : Nat} (hi : i < l.length) :
    ∃ kl cap, v = .slice (some ⟨kl, 0, none⟩) l.length cap ∧ ¬ Apart v kl ∧ wr.frozen? ⟨kl, i * 4 + 2, none⟩ = false ∧ ∀ x, VD w (wr.setCell ⟨kl, i * 4 + 2, none⟩ (.int .i64 x)) v (l.set i { l[i] with n := x }) := by
  obtain ⟨h1, h⟩ := h
  rcases h with ⟨rfl, rfl⟩ | ⟨g, cap, cs, f0, f1, rfl, hg, hh, h2, h3, h4, h5⟩
  · simp at hi
  · refine ⟨g, cap, rfl, fun hn => hn _ _ rfl, ?_, fun x => ⟨h1.setCell hg _, .inr ⟨g, cap, cs.setIfInBounds (i * 4 + 2) (.int .i64 x), f0, f1, by rw [List.length_set], hg, Joins.block_setCell hh _, by rw [List.length_set]; exact h2, by rw [Array.size_setIfInBounds]; exact h3, h4, ?_⟩⟩⟩
    · simp only [World.frozen?, hh, Bool.and_eq_false_iff, decide_eq_false_iff_not]
      omega
    · rw [List.length_set, Array.toList_setIfInBounds, List.take_set, h5, Nat.mul_comm i 4, dflat_set l i x hi]
theorem St.off {w W : World} {T : TypeId} {g : Nat} {xs : Array Value} {v : Value} {cs : List Value} (h : St w W T g xs v cs) {k : Nat} (hk : w.heap.size ≤ k) (hne : k ≠ g) (ha : Apart v k) (i : Nat) (u : Value) : St w (W.setCell ⟨k, i, none⟩ u) T g xs v cs :=
  ⟨h.ge, (Below.heap_setCell W ⟨k, i, none⟩ u g (fun e => hne e.symm)).trans h.box, h.vb.off hk ha i u, h.ap⟩
/-- how many bits it may be -/
def nn (x : Int) : Int := if 62 < x % 64 then 62 else x % 64
def dn (d : Dd) : Dd := { d with n := nn d.n }
theorem nn_range (x : Int) : 0 ≤ nn x ∧ nn x ≤ 62 := by unfold nn; split <;> omega
theorem ct_nn (x : Int) : ((ct (nn x) : Nat) : Int) = nn x := by
  have := nn_range x
  unfold ct; rw [if_neg (by omega), if_neg (by omega)]; omega
/-- the first i of them changed -/
def mix (ds : List Dd) (i : Nat) : List Dd := (ds.take i).map dn ++ ds.drop i
theorem mix_length (ds : List Dd) (i : Nat) : (mix ds i).length = ds.length := by
  unfold mix; rw [List.length_append, List.length_map, List.length_take, List.length_drop]; omega
theorem mix_zero (ds : List Dd) : mix ds 0 = ds := rfl
theorem mix_get (ds : List Dd) (i : Nat) (h : i < ds.length) (h2 : i < (mix ds i).length) : (mix ds i)[i] = ds[i] := by
  have e : (mix ds i)[i]? = ds[i]? := by
    unfold mix
    rw [List.getElem?_append_right (by rw [List.length_map, List.length_take]; omega), List.length_map, List.length_take, List.getElem?_drop, show i + (i - min i ds.length) = i by omega]
  rw [List.getElem?_eq_getElem h2, List.getElem?_eq_getElem h] at e
  exact Option.some.inj e
theorem mix_step (ds : List Dd) (i : Nat) (h : i < ds.length) (h2 : i < (mix ds i).length) : (mix ds i).set i { (mix ds i)[i] with n := nn (mix ds i)[i].n } = mix ds (i + 1) := by
  rw [mix_get ds i h h2]
  show (mix ds i).set i (dn ds[i]) = _
  unfold mix
  rw [List.set_append_right _ _ (by rw [List.length_map, List.length_take]; omega), List.length_map, List.length_take, show i - min i ds.length = 0 by omega, List.drop_eq_getElem_cons h, List.set_cons_zero, List.take_add_one, List.getElem?_eq_getElem h, List.map_append, List.append_assoc]
  rfl
theorem mix_all (ds : List Dd) : mix ds ds.length = ds.map dn := by
  unfold mix; rw [List.take_length, List.drop_length, List.append_nil]
/-- the bits behind the first of them -/
def lp (es : List Dd) (j : Nat) : List Nat := (es.take j).foldl dbits []
theorem lp_zero (es : List Dd) : lp es 0 = [] := rfl
theorem lp_next (es : List Dd) (j : Nat) (h : j < es.length) : lp es (j + 1) = dbits (lp es j) es[j] := by
  unfold lp
  rw [List.take_add_one, List.getElem?_eq_getElem h, List.foldl_append]; rfl
theorem dbits_prefix (L : List Nat) (d : Dd) : ∃ R, dbits L d = L ++ R := by
  unfold dbits
  split
  · exact ⟨_, rfl⟩
  · split
    · exact ⟨_, rfl⟩
    · split
      · exact ⟨_, rfl⟩
      · exact ⟨_, by unfold alg; rw [List.append_assoc]⟩
theorem fold_prefix : ∀ (es : List Dd) (L : List Nat), ∃ R, es.foldl dbits L = L ++ R
  | [], L => ⟨[], by simp⟩
  | d :: r, L => by
    obtain ⟨R1, h1⟩ := dbits_prefix L d
    obtain ⟨R2, h2⟩ := fold_prefix r (dbits L d)
    exact ⟨R1 ++ R2, by rw [List.foldl_cons, h2, h1, List.append_assoc]⟩
theorem lp_prefix (es : List Dd) (j : Nat) : ∃ R, lp es es.length = lp es j ++ R := by
  unfold lp
  rw [List.take_length]
  conv => enter [1, R, 1]; rw [← List.take_append_drop j es]
  rw [List.foldl_append]
  exact fold_prefix _ _
theorem lp_two (es : List Dd) : ∀ j, Two01 (lp es j) := by
  intro j
  unfold lp
  generalize es.take j = fs
  have : ∀ (fs : List Dd) (L : List Nat), Two01 L → Two01 (fs.foldl dbits L) := by
    intro fs
    induction fs with
    | nil => exact fun L h => h
    | cons d r ih => exact fun L h => ih _ (dbits_two L d h)
  exact this fs [] two_nil
theorem lp_len (es : List Dd) (h : ∀ d ∈ es, d.s.length ≤ 100) : ∀ j, j ≤ es.length → (lp es j).length ≤ 900 * j
  | 0, _ => by simp [lp]
  | j + 1, hj => by
    have h1 := lp_len es h j (by omega)
    have h2 := dbits_len (lp es j) es[j] (h _ (List.getElem_mem (by omega)))
    rw [lp_next es j (by omega)]; omega
theorem dn_small {ds : List Dd} (h : ∀ d ∈ ds, d.s.length ≤ 100) : ∀ d ∈ ds.map dn, d.s.length ≤ 100 := by
  intro d hd
  obtain ⟨x, hx, rfl⟩ := List.mem_map.1 hd
  exact h x hx
theorem dn_in {ds : List Dd} : ∀ d ∈ ds.map dn, 0 ≤ d.n ∧ d.n ≤ 62 := by
  intro d hd
  obtain ⟨x, hx, rfl⟩ := List.mem_map.1 hd
  exact nn_range x.n
theorem map_at (ds : List Dd) (i : Nat) (h : i < ds.length) (h2 : i < (ds.map dn).length) : (ds.map dn)[i] = dn ds[i] := by simp
end Go.Proofs.Ytohdekokdljgjaa
