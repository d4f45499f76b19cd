/- path: the chapter's examples; not too long a text; the document's Split and May, each by a contract. -/
import Derived.Test.YtohdekokdljgjaaPaD
import Derived.Test.YtohdekokdljgjaaXA
namespace Go.Proofs.Ytohdekokdljgjaa
set_option linter.unusedVariables false
set_option linter.unusedSimpArgs false
open Go.RowKit Go.Lib
theorem check_lit (l : List UInt8) (v : Int) (h : chk l = v) (hl : l.length ≤ 1000000) (w : World) :
    Calls Try.prog 29 #[.string ⟨l.toArray⟩] w fun e w' => e = .returned (.int .i64 v) ∧ Below w.heap.size w w' := by
  subst h; exact check_any l w hl
theorem pathAwake_any (w : World) : Calls Try.prog 31 #[] w fun e w' => e = .returned (.bool true) ∧ Below w.heap.size w w' := by
  go_enter Try.func31, Try.ntmps31
  go_wp2_with fail
  with_reducible refine (check_lit [97, 47, 98, 46, 116, 120, 116] 0 (by decide +kernel) (by decide) w).mono ?_
  rintro e w1 ⟨rfl, b1⟩
  go_wp2_with fail
  with_reducible refine (check_lit [47, 97] 5 (by decide +kernel) (by decide) w1).mono ?_
  rintro e w2 ⟨rfl, b2⟩
  have b2 := b1.trans (b2.mono b1.size)
  go_wp2_with fail
  with_reducible refine (check_lit [97, 47, 47, 98] 5 (by decide +kernel) (by decide) w2).mono ?_
  rintro e w3 ⟨rfl, b3⟩
  have b3 := b2.trans (b3.mono b2.size)
  clear b1
  go_wp2_with fail
  with_reducible refine (check_lit [97, 47] 5 (by decide +kernel) (by decide) w3).mono ?_
  rintro e w4 ⟨rfl, b4⟩
  have b4 := b3.trans (b4.mono b3.size)
  clear b2
  go_wp2_with fail
  with_reducible refine (check_lit [97, 47, 46, 46, 47, 98] 5 (by decide +kernel) (by decide) w4).mono ?_
  rintro e w5 ⟨rfl, b5⟩
  have b5 := b4.trans (b5.mono b4.size)
  clear b3
  go_wp2_with fail
  with_reducible refine (check_lit [] 5 (by decide +kernel) (by decide) w5).mono ?_
  rintro e w6 ⟨rfl, b6⟩
  have b6 := b5.trans (b6.mono b5.size)
  clear b4
  go_wp2_with fail
  with_reducible refine (check_lit [46, 46, 46] 0 (by decide +kernel) (by decide) w6).mono ?_
  rintro e w7 ⟨rfl, b7⟩
  have b7 := b6.trans (b7.mono b6.size)
  clear b5
  go_wp2_with fail
  go_ret
  exact ⟨by first | rfl | simp, b7⟩
theorem str_takeP (r : List UInt8) (n : Nat) : (str r).extract 0 n = str (r.take n) := by
  apply ByteArray.ext; apply Array.toList_inj.1
  rw [ByteArray.data_extract, Array.toList_extract]
  simp [str]
theorem str_midP (r : List UInt8) (i : Nat) (h : i < r.length) : (str r).extract i (i + 1) = str [r[i]] := by
  apply ByteArray.ext; apply Array.toList_inj.1
  rw [ByteArray.data_extract, Array.toList_extract]
  show (r.extract i (i + 1)) = [r[i]]
  rw [List.extract_eq_take_drop, List.drop_eq_getElem_cons h, Nat.add_sub_cancel_left]
  rfl
attribute [local irreducible] str psp
theorem lawCut_any (p : List UInt8) (w : World) (hp : p.length ≤ 9223372036854775807) :
    Calls Try.prog 28 #[.string (str p)] w fun e w' => e = .returned (.string (str (p.take 5000))) ∧ w = w' := by
  have hs := str_size p
  by_cases h : p.length ≤ 5000
  · have hi : ¬ (5000 : Int) < (p.length : Int) := by omega
    have HT := Kept.mk (show p.take 5000 = p from List.take_of_length_le h)
    go_enter Try.func28, Try.ntmps28
    go_wp2_with fail
    go_ret
    exact ⟨by rw [HT.out]; rfl, rfl⟩
  · have hi : (5000 : Int) < (p.length : Int) := by omega
    have HT := str_takeP p 5000
    go_enter Try.func28, Try.ntmps28
    go_wp2_with fail
    go_ret
    exact ⟨rfl, rfl⟩
/-- texts as cells -/
def sts (L : List (List UInt8)) : List Value := L.map fun x => Value.string (str x)
theorem sts_length (L : List (List UInt8)) : (sts L).length = L.length := by simp [sts]
theorem sts_snoc (L : List (List UInt8)) (x : List UInt8) : sts (L ++ [x]) = sts L ++ [.string (str x)] := by simp [sts]
theorem sts_get (L : List (List UInt8)) (i : Nat) (h : i < L.length) : (sts L)[i]? = some (.string (str L[i])) := by
  unfold sts
  rw [List.getElem?_map, List.getElem?_eq_getElem h]; rfl
theorem infoStr : (Try.prog.info? 9).map (fun i => (i.zero, i.size, i.bytes)) = some (some (.string ByteArray.empty), 1, 16) := by kernel_rfl
theorem str_append1 {ops : Array Oper} {rest : List Oper} {o : Oper} {a : Act} {Q : Exit → Act → World → Prop} (hgd : o.guard = none) (s x : Operand)
    (ho : o.op = .call { callee := .builtin .append, args := #[s, x], argTypes := #[57, 57] })
    {w wr : World} {L : List (List UInt8)} {d : List UInt8} {v : Value} (hs : a.eval s = v) (hb : VB w wr v (sts L))
    (hx : a.eval x = .slice (some ⟨wr.heap.size, 0, none⟩) 1 1) (hlen : L.length + 1 ≤ 1000000)
    (h : ∀ v' w', VB w w' v' (sts (L ++ [d])) → wpList Try.prog ops Q rest (a.put o.dst v') w') : wpList Try.prog ops Q (o :: rest) a (wr.alloc (.cells #[.string (str d)] 9)) := by
  obtain ⟨i0, hi, hz0, hz1, hz2⟩ := info_parts infoStr
  refine vb_append hgd s x Try.underlying57 hi hz0 hz1 rfl (by rw [hz2]; decide) ho hs (hb.alloc _) hx (src_one Try.underlying57 wr (.string (str d)) 9 rfl) (Nat.zero_lt_one) (by rw [sts_length]; show L.length + 1 ≤ _; omega) fun v' w' h1 _ _ _ => h v' w' ?_
  rw [sts_snoc]; exact h1
theorem psp_step (p : List UInt8) (i : Nat) (h : i < p.length) (cur : List UInt8) : psp (p.drop i) cur = if p[i] = 47 then cur :: psp (p.drop (i + 1)) [] else psp (p.drop (i + 1)) (cur ++ [p[i]]) := by
  rw [List.drop_eq_getElem_cons h, psp]
theorem psp_end (cur : List UInt8) : psp [] cur = [cur] := by rw [psp]
theorem str_at (l : List UInt8) (i : Nat) (h : i < l.length) (h2 : i < (str l).size) : (str l)[i] = l[i] := by unfold str; rfl
set_option maxRecDepth 100000 in
set_option maxHeartbeats 2000000 in
theorem split_any (p : List UInt8) (w : World) (hp : p.length ≤ 20000) :
    Calls Try.prog 35 #[.string (str p)] w fun e w' => ∃ v, e = .returned v ∧ VB w w' v (sts (psp p [])) := by
  have hs := str_size p
  have s0 := str_size ([] : List UInt8)
  go_enter Try.func35, Try.ntmps35
  go_wp2_with fail
  go_loopw [3, 4, 5] (fun v s c wr => ∃ (i : Nat) (L : List (List UInt8)) (cur : List UInt8), i ≤ p.length ∧ c = .int .i64 i ∧ s = .string (str cur) ∧ VB w wr v (sts L) ∧ L.length ≤ i ∧ cur.length ≤ i ∧ psp p [] = L ++ psp (p.drop i) cur) (fun _ _ c _ => p.length - (RowKit.intOf c).toNat)
  case atStart => exact ⟨0, [], [], by omega, rfl, by rw [str_nil]; rfl, vb_nil w, by simp, by simp, rfl⟩
  case round =>
    obtain ⟨i, L, cur, hi, rfl, rfl, hv, hL, hc, hx⟩ := hrel
    have HV := Kept.mk hv
    have hcs := str_size cur
    clear hv
    by_cases hlt : i < p.length
    · have hii : (i : Int) < (p.length : Int) := by omega
      have hi2 : (i : Int) ≤ 20000 := by omega
      have hg := str_at p i hlt (by rw [hs]; exact hlt)
      have hm := str_midP p i hlt
      have HX := Kept.mk hx
      have HS := Kept.mk (psp_step p i hlt cur)
      clear hx
      generalize p[i] = c at *
      by_cases h47 : c = 47
      · have hc47 : (c.toNat : Int) = 47 := by rw [h47]; rfl
        have HN := Kept.mk (show psp p [] = (L ++ [cur]) ++ psp (p.drop (i + 1)) [] from by rw [HX.out, HS.out, if_pos h47]; simp)
        have HE := Kept.mk str_nil
        clear h47
        go_wp2_with (at_builtin; refine str_append1 rfl _ _ (by rfl) (w := w) (L := L) (d := cur) (by rfl) HV.out (by rfl) (by omega) ?_; intro v1 w1 hv1)
        exact ⟨⟨i + 1, L ++ [cur], [], hlt, by push_cast; rfl, by rw [HE.out]; rfl, hv1, by simp; omega, by simp, HN.out⟩, by show p.length - ((i : Int) + 1).toNat < p.length - ((i : Nat) : Int).toNat; omega⟩
      · have hc47 : ¬ (c.toNat : Int) = 47 := by
          intro h; apply h47; apply UInt8.toNat_inj.1; have : c.toNat = 47 := by omega
          rw [this]; rfl
        have HN := Kept.mk (show psp p [] = L ++ psp (p.drop (i + 1)) (cur ++ [c]) from by rw [HX.out, HS.out, if_neg h47])
        have HA := Kept.mk (str_append cur [c])
        have h1s := str_size [c]
        have hcl : (cur.length : Int) ≤ 20000 := by omega
        clear h47
        go_wp2_with fail
        exact ⟨⟨i + 1, L, cur ++ [c], hlt, by push_cast; rfl, by rw [← HA.out], HV.out, by omega, by rw [List.length_append, List.length_singleton]; omega, HN.out⟩, by show p.length - ((i : Int) + 1).toNat < p.length - ((i : Nat) : Int).toNat; omega⟩
    · have hii : ¬ (i : Int) < (p.length : Int) := by omega
      obtain rfl : i = p.length := by omega
      rw [List.drop_length, psp_end] at hx
      have HX := Kept.mk hx
      clear hx
      go_wp2_with (at_builtin; refine str_append1 rfl _ _ (by rfl) (w := w) (L := L) (d := cur) (by rfl) HV.out (by rfl) (by omega) ?_; intro v1 w1 hv1)
      go_ret
      exact ⟨_, rfl, by rw [HX.out]; exact hv1⟩
end Go.Proofs.Ytohdekokdljgjaa
