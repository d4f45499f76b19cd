/- HMAC: any texts have the tag of the one that they make: walked by the contracts. -/
import Derived.Test.YtihhjjcghocgaaaDoorStrC
import Derived.Test.YtihhjjcghocgaaaDoorMacC
import Derived.Test.YtihhjjcghocgaaaDoorRfV
import Derived.Test.YtihhjjcghocgaaaDoorKdfA
namespace Go.Proofs.YtihhjjcghocgaaaDoor
set_option linter.unusedVariables false
set_option linter.unusedSimpArgs false
open Go.RowKit Go.Lib

theorem infoStr : (Tryd.prog.info? 9).map (fun i => (i.zero, i.size, i.bytes)) = some (some (.string ByteArray.empty), 1, 16) := by kernel_rfl
/-- a slice of texts that the call has grown itself -/
def SB (w wr : World) (v : Value) (ls : List (List UInt8)) : Prop := OwnBuf w.heap.size 9 v ls.length (strs ls) w wr
theorem SB.is {w wr : World} {v : Value} {l m : List (List UInt8)} (h : SB w wr v l) (e : l = m) : SB w wr v m := by rw [← e]; exact h
theorem sb_nil {w wr : World} (h : Below w.heap.size w wr) : SB w wr (.slice none 0 0) [] := ⟨World.ownsRowF_nil _ _ _ _, h, h.size⟩
theorem SB.shape {w wr : World} {v : Value} {ls : List (List UInt8)} (h : SB w wr v ls) : ∃ A cap, v = .slice A ls.length cap ∧ RowAt wr A (strs ls) := by
  obtain ⟨h1, _, _⟩ := h
  obtain ⟨_, hv⟩ := id h1
  rcases hv with ⟨rfl, hx⟩ | ⟨g, cap, cur, fz, rfl, hr⟩
  · cases ls with
    | nil => exact ⟨none, 0, rfl, fun h0 => absurd h0 (by simp [strs])⟩
    | cons c r => simp at hx
  · have hc := h1.cells (g := g) rfl
    refine ⟨some ⟨g, 0, none⟩, cap, rfl, fun h0 => ⟨_, rfl, ?_, fun j u hu => hc j u hu⟩⟩
    have := block_of_cell (hc 0 _ (List.getElem?_eq_getElem h0))
    rwa [add_block] at this
theorem append_str {ops : Array Oper} {rest : List Oper} {o : Oper} {a : Act} {Q : Exit → Act → World → Prop} (hgd : o.guard = none) (s x : Operand)
    (ho : o.op = .call { callee := .builtin .append, args := #[s, x], argTypes := #[22, 22] })
    {w w0 : World} {v : Value} {ls : List (List UInt8)} (hb : SB w w0 v ls) (l : List UInt8) (hs : a.eval s = v)
    (hx : a.eval x = .slice (some ⟨w0.heap.size, 0, none⟩) 1 1) (hlen : ls.length + 1 ≤ 1000000)
    (h : ∀ v' w', SB w w' v' (ls ++ [l]) → wpList Tryd.prog ops Q rest (a.put o.dst v') w') : wpList Tryd.prog ops Q (o :: rest) a (w0.alloc (.cells #[.string (str l)] 9)) := by
  obtain ⟨i0, hi, hz0, hz1, hz2⟩ := info_parts infoStr
  have hb : OwnBuf w.heap.size 9 v ls.length (strs ls) w w0 := hb
  have hb' := hb.alloc (.cells #[.string (str l)] 9)
  refine wpList_append_ownF _ hgd s x 22 ho w.heap.size 9 i0 (.string ByteArray.empty) 1 16 Tryd.underlying22 hi hz0 hz1 hz2 rfl (by decide) v ls.length (strs ls) hs hb'.1 ⟨w0.heap.size, 0, none⟩ 1 1 [.string (str l)] hx rfl ?_ ?_ (by unfold maxLen; omega) (by omega) hb'.2.2 ?_
  · intro j u hj
    match j, hj with
    | 0, hj => simp at hj; subst hj; simp [Addr.add]
    | (j + 1), hj => simp at hj
  · intro u hu; simp at hu; subst hu; rfl
  · intro v' w' ho' hg _
    refine h v' w' ?_
    have := hb'.grown ho' hg
    unfold SB
    rw [List.length_append, List.length_singleton]
    have e : strs (ls ++ [l]) = strs ls ++ [.string (str l)] := by simp [strs]
    rw [e]; exact this
theorem cut_big (l : List UInt8) (n : Nat) (w : World) (hl : l.length ≤ 9223372036854775807) (hn : n ≤ 1000000) :
    Calls Tryd.prog 23 #[.string (str l), .int .i64 n] w fun e w' => e = .returned (.string (str (l.take n))) ∧ w = w' := by
  have hs := str_size l
  by_cases h : n < l.length
  · have HT := Kept.mk (str_take l n (by omega))
    go_enter Tryd.func23, Tryd.ntmps23
    go_wp2_with fail
    go_ret
    refine ⟨?_, rfl⟩
    rw [HT.out]
    rfl
  · rw [List.take_of_length_le (by omega)]
    go_enter Tryd.func23, Tryd.ntmps23
    go_wp2_with fail
    go_ret
    exact ⟨rfl, rfl⟩
theorem cut_500 (l : List UInt8) (w : World) (hl : l.length ≤ 9223372036854775807) :
    Calls Tryd.prog 23 #[.string (str l), .int .i64 500] w fun e w' => e = .returned (.string (str (l.take 500))) ∧ w = w' := cut_big l 500 w hl (by decide)
/-- the first texts, each cut -/
def cuts (ls : List (List UInt8)) (k : Nat) : List (List UInt8) := (ls.take k).map (·.take 500)
theorem cuts_length (ls : List (List UInt8)) (k : Nat) (h : k ≤ ls.length) : (cuts ls k).length = k := by simp [cuts]; omega
theorem cuts_next (ls : List (List UInt8)) (k : Nat) (h : k < ls.length) : cuts ls k ++ [ls[k].take 500] = cuts ls (k + 1) := by
  unfold cuts; rw [List.take_succ_eq_append_getElem h, List.map_append]; rfl
theorem flat_small (m : List (List UInt8)) (h : ∀ l ∈ m, l.length ≤ 500) : m.flatten.length ≤ 500 * m.length := by
  induction m with
  | nil => simp
  | cons a r ih =>
    have h1 := h a (by simp)
    have h2 := ih fun l hl => h l (by simp [hl])
    simp only [List.flatten_cons, List.length_append, List.length_cons]
    omega
theorem cuts_flat (ls : List (List UInt8)) (k : Nat) (h : k ≤ ls.length) : (cuts ls k).flatten.length ≤ 500 * k := by
  have := flat_small (cuts ls k) (fun l hl => by
    unfold cuts at hl
    obtain ⟨x, _, rfl⟩ := List.mem_map.1 hl
    rw [List.length_take]; omega)
  rwa [cuts_length ls k h] at this
attribute [local irreducible] str sSum mXor mPad mKey mTag cuts

set_option maxRecDepth 100000 in
set_option maxHeartbeats 2000000 in
theorem macParts_w {w : World} (x : List UInt8) (hx : x.length ≤ 140737488351232) (A : Option Addr) (c : Nat) (ls : List (List UInt8)) (hl : ls.length ≤ 9223372036854775807) (hp : RowAt w A (strs ls) ∧ (∀ l ∈ ls, l.length ≤ 9223372036854775807) ∧ ls.length ≤ c ∧ c ≤ 9223372036854775807) (hk : KAt w) :
    Calls Tryd.prog 7 #[.string (str x), .slice A ls.length c] w fun e w' => e = .returned (.bool true) ∧ Below w.heap.size w w' := by
  have HR := Kept.mk hp.1
  have HL := Kept.mk hp.2.1
  clear hp
  go_enter Tryd.func7, Tryd.ntmps7
  go_wp2_with fail
  with_reducible refine (cut_500 x w (by omega)).mono ?_
  rintro e w1 ⟨rfl, rfl⟩
  have ha : (x.take 500).length ≤ 500 := by rw [List.length_take]; omega
  generalize x.take 500 = a at *
  clear hx
  have HK := Kept.mk hk
  clear hk
  go_wp2_with fail
  go_loopw [5, 6] (fun v i wr => ∃ k : Nat, k ≤ ls.length ∧ k ≤ 20 ∧ i = .int .i64 k ∧ SB w wr v (cuts ls k)) (fun _ i _ => ls.length - (RowKit.intOf i).toNat)
  case atStart => exact ⟨0, by omega, by omega, rfl, (sb_nil (Below.refl _ _)).is (by unfold cuts; simp)⟩
  case round =>
    obtain ⟨k, hk1, hk2, rfl, hsb⟩ := hrel
    have hcl := cuts_length ls k hk1
    have hcf := cuts_flat ls k hk1
    have HN := Kept.mk (cuts_next ls k)
    by_cases hlt : k < ls.length
    · by_cases h8 : k < 20
      · obtain ⟨ad, rfl, had, hc⟩ := (HR.out.below hsb.2.1).get (k := k) (by rw [strs_length]; exact hlt)
        rw [strs_get ls k hlt] at hc
        have htl := HL.out _ (List.getElem_mem hlt)
        have HNN := Kept.mk (HN.out hlt)
        clear HN
        generalize ls[k] = t at *
        generalize cuts ls k = m at *
        have HSB := Kept.mk hsb
        clear hsb
        go_wp2_with fail
        with_reducible refine (cut_500 t wr htl).mono ?_
        rintro e w2 ⟨rfl, rfl⟩
        generalize t.take 500 = t2 at *
        go_wp2_with (at_builtin; refine append_str rfl (.tmp 19) (.tmp 25) rfl HSB.out t2 rfl rfl ?_ ?_; omega; intro v' w' ho)
        exact ⟨⟨k + 1, by omega, by omega, by go_num, ho.is HNN.out⟩, by simp [RowKit.intOf]; omega⟩
      · have h20 : (20 : Int) ≤ (k : Int) := by omega
        clear HN
        have hsm : (cuts ls k).flatten.length ≤ 10000 := by omega
        obtain ⟨B, cap, rfl, hrow⟩ := hsb.shape
        have hbl := hsb.2.1
        generalize cuts ls k = m at *
        subst hcl
        have HR2 := Kept.mk hrow
        have HB := Kept.mk hbl
        have HK2 := Kept.mk (HK.out.below hbl)
        clear hsb hrow hbl HK
        go_wp2_with fail
        with_reducible refine (tag_any a B cap m wr HR2.out HK2.out (by omega) (by omega) (by omega)).mono ?_
        rintro e w3 ⟨rfl, hb3⟩
        have HR3 := Kept.mk (HR2.out.below hb3)
        have HK3 := Kept.mk (HK2.out.below hb3)
        have HB3 := Kept.mk (HB.out.trans (hb3.mono HB.out.size))
        clear hb3 HR2 HK2 HB
        go_wp2_with fail
        with_reducible refine (Join_any B cap m w3 HR3.out (by omega) (by omega)).mono ?_
        rintro e w4 ⟨rfl, rfl⟩
        go_wp2_with fail
        with_reducible refine (refTag_any a m.flatten w3 (by omega) (by omega)).mono ?_
        rintro e w4 ⟨rfl, hb4⟩
        have HK4 := Kept.mk (HK3.out.below hb4)
        have HB4 := Kept.mk (HB3.out.trans (hb4.mono HB3.out.size))
        clear hb4 HR3 HK3 HB3
        go_wp2_with fail
        with_reducible refine (macAwake_any w4 HK4.out).mono ?_
        rintro e w5 ⟨rfl, hb5⟩
        have HB5 := Kept.mk (HB4.out.trans (hb5.mono HB4.out.size))
        clear hb5
        go_wp2_with fail
        go_ret
        exact ⟨rfl, HB5.out⟩
    · clear HN
      have hsm : (cuts ls k).flatten.length ≤ 10000 := by omega
      obtain ⟨B, cap, rfl, hrow⟩ := hsb.shape
      have hbl := hsb.2.1
      generalize cuts ls k = m at *
      subst hcl
      have HR2 := Kept.mk hrow
      have HB := Kept.mk hbl
      have HK2 := Kept.mk (HK.out.below hbl)
      clear hsb hrow hbl HK
      go_wp2_with fail
      with_reducible refine (tag_any a B cap m wr HR2.out HK2.out (by omega) (by omega) (by omega)).mono ?_
      rintro e w3 ⟨rfl, hb3⟩
      have HR3 := Kept.mk (HR2.out.below hb3)
      have HK3 := Kept.mk (HK2.out.below hb3)
      have HB3 := Kept.mk (HB.out.trans (hb3.mono HB.out.size))
      clear hb3 HR2 HK2 HB
      go_wp2_with fail
      with_reducible refine (Join_any B cap m w3 HR3.out (by omega) (by omega)).mono ?_
      rintro e w4 ⟨rfl, rfl⟩
      go_wp2_with fail
      with_reducible refine (refTag_any a m.flatten w3 (by omega) (by omega)).mono ?_
      rintro e w4 ⟨rfl, hb4⟩
      have HK4 := Kept.mk (HK3.out.below hb4)
      have HB4 := Kept.mk (HB3.out.trans (hb4.mono HB3.out.size))
      clear hb4 HR3 HK3 HB3
      go_wp2_with fail
      with_reducible refine (macAwake_any w4 HK4.out).mono ?_
      rintro e w5 ⟨rfl, hb5⟩
      have HB5 := Kept.mk (HB4.out.trans (hb5.mono HB4.out.size))
      clear hb5
      go_wp2_with fail
      go_ret
      exact ⟨rfl, HB5.out⟩
end Go.Proofs.YtihhjjcghocgaaaDoor
