/- A buffer of bytes that a conversion of a string began (its block is marked behind its cells): append of one byte; the text with what stands behind it, by a contract. -/
import Derived.Test.YtfplagbjcilpjaaDoorShaG
import Derived.Lib.SlicesS
import Derived.Deep.CutBlock
import Derived.StillTailTactics
import Derived.Deep.AppendSrc
namespace Go.Proofs.YtfplagbjcilpjaaDoor
set_option linter.unusedVariables false
set_option linter.unusedSimpArgs false
open Go.RowKit Go.Lib

/-- the block g holds these bytes first, and its first cap cells are free -/
def BG (w wr : World) (v : Value) (l : List UInt8) : Prop :=
  Below w.heap.size w wr ∧ ∃ g cap cs T f0 f1, v = .slice (some ⟨g, 0, none⟩) l.length cap ∧ w.heap.size ≤ g ∧ wr.heap[g]? = some (.cells cs T (f0, f1)) ∧ l.length ≤ cap ∧ cap ≤ cs.size ∧ (cap ≤ f0 ∨ f1 = 0) ∧ cs.toList.take l.length = Lib.byteCells l
theorem BG.is {w wr : World} {v : Value} {l m : List UInt8} (h : BG w wr v l) (e : l = m) : BG w wr v m := by rw [← e]; exact h
theorem at_add (g n : Nat) : (⟨g, 0, none⟩ : Addr).add n = ⟨g, n, none⟩ := by unfold Addr.add; split <;> simp_all
theorem cell_of_cells {W : World} {g j : Nat} {cs : Array Value} {T : TypeId} {f : Nat × Nat} (h : W.heap[g]? = some (.cells cs T f)) : W.cell? ⟨g, j, none⟩ = cs[j]? := by simp [World.cell?, h]
theorem take_get {cs : Array Value} {n : Nat} {xs : List Value} (h : cs.toList.take n = xs) {j : Nat} {u : Value} (hu : xs[j]? = some u) : cs[j]? = some u := by
  subst h
  rw [List.getElem?_take] at hu
  split at hu
  · simpa using hu
  · cases hu
theorem BG.row {w wr : World} {v : Value} {l : List UInt8} (h : BG w wr v l) : ∃ g cap, v = .slice (some ⟨g, 0, none⟩) l.length cap ∧ w.heap.size ≤ g ∧ l.length ≤ cap ∧ RowAt wr (some ⟨g, 0, none⟩) (Lib.byteCells l) := by
  obtain ⟨hb, g, cap, cs, T, f0, f1, rfl, hg, hh, h1, h2, h3, h4⟩ := h
  refine ⟨g, cap, rfl, hg, h1, fun _ => ⟨_, rfl, block_lt hh, fun j u hu => ?_⟩⟩
  rw [at_add, cell_of_cells hh]
  exact take_get h4 hu
theorem bg_append {ops : Array Oper} {rest : List Oper} {o : Oper} {a : Act} {Q : Exit → Act → World → Prop} (hgd : o.guard = none) (s x : Operand)
    (ho : o.op = .call { callee := .builtin .append, args := #[s, x], argTypes := #[48, 48] })
    {w wr : World} {l : List UInt8} {v : Value} (hs : a.eval s = v) (hb : BG w wr v l) {c : Int} {d : UInt8}
    (hx : a.eval x = .slice (some ⟨wr.heap.size, 0, none⟩) 1 1) (h0 : c = d.toNat) (hlen : l.length + 1 ≤ 1000000000)
    (h : ∀ v' w', BG w w' v' (l ++ [d]) → wpList Tryd.prog ops Q rest (a.put o.dst v') w') : wpList Tryd.prog ops Q (o :: rest) a (wr.alloc (.cells #[.int .u8 c] 5)) := by
  subst h0
  obtain ⟨i0, hi, hz0, hz1, hz2⟩ := info_parts infoByte
  obtain ⟨hbl, g, cap, cs, T, f0, f1, rfl, hg, hh, hl1, hl2, hl3, hl4⟩ := hb
  have hgl := block_lt hh
  have hX : (wr.alloc (.cells #[.int .u8 (d.toNat : Int)] 5)).heap[g]? = some (.cells cs T (f0, f1)) := block_old hh _
  have hXs : (wr.alloc (.cells #[.int .u8 (d.toNat : Int)] 5)).heap.size = wr.heap.size + 1 := by simp
  have hBX : Below w.heap.size w (wr.alloc (.cells #[.int .u8 (d.toNat : Int)] 5)) := hbl.alloc hbl.size _
  have hnews : ∀ j u, [Value.int .u8 (d.toNat : Int)][j]? = some u → (wr.alloc (.cells #[.int .u8 (d.toNat : Int)] 5)).cell? ((⟨wr.heap.size, 0, none⟩ : Addr).add j) = some u := by
    intro j u hj
    match j, hj with
    | 0, hj => simp at hj; subst hj; simp [Addr.add]
    | (j + 1), hj => simp at hj
  have h1 : ∀ u ∈ [Value.int .u8 (d.toNat : Int)], u.oneCell' = true := by intro u hu; simp at hu; subst hu; rfl
  generalize wr.alloc (.cells #[.int .u8 (d.toNat : Int)] 5) = X at *
  have hbl4 : (Lib.byteCells l).length = l.length := Lib.byteCells_length l
  refine wpList_plain hgd fun K hK => ?_
  by_cases hroom : l.length + 1 ≤ cap
  · have hS : Src Tryd.prog i0.size 48 (.slice (some ⟨wr.heap.size, 0, none⟩) 1 1) 1 [.int .u8 (d.toNat : Int)] X := Src.ofSlice X Tryd.underlying48 _ 1 1 _ (by rw [hz1]; rfl) hnews h1
    have hr := run_append_room_src (P := Tryd.prog) X 48 48 o.type 5 i0 Tryd.underlying48 hi g 0 l.length cap _ 1 _ hS hroom
      (by intro j hj
          have : j = 0 := by simp at hj; omega
          subst this
          rw [cell_of_cells hX, hz1, Array.getElem?_eq_getElem (by omega)]; rfl)
      (by intro j hj
          have : j = 0 := by simp at hj; omega
          subst this
          simp only [World.frozen?, hX, hz1, Bool.and_eq_false_iff, decide_eq_false_iff_not]
          omega)
    rw [hz1, Nat.mul_one, Nat.zero_add] at hr
    have hset : X.setCells g l.length [.int .u8 (d.toNat : Int)] = X.setCell ⟨g, l.length, none⟩ (.int .u8 (d.toNat : Int)) := rfl
    rw [hset] at hr
    unfold Oper.wp execOp
    simp only [ho, resolve, invoke, builtin, Sem.run_bind, Sem.run_pure, Result.andThen_ok, List.map_toArray, List.map_cons, List.map_nil, hs, hx, hr]
    refine hK _ _ (h _ _ ⟨hBX.setCell hg _, g, cap, cs.setIfInBounds l.length (.int .u8 (d.toNat : Int)), T, f0, f1, by rw [List.length_append]; rfl, hg, ?_, by rw [List.length_append]; exact hroom, ?_, hl3, ?_⟩)
    · rw [setCell_eq_setRow X g l.length cs T (f0, f1) _ hX]
      exact setRow_heap X g cs _ T _ hX
    · rw [Array.size_setIfInBounds]; exact hl2
    · rw [List.length_append, Array.toList_setIfInBounds, byteCells_append, ← hl4]
      have hcl : l.length < cs.toList.length := by
        have e : cs.toList.length = cs.size := Array.length_toList
        omega
      show (cs.toList.set l.length _).take (l.length + 1) = cs.toList.take l.length ++ [Value.int .u8 (d.toNat : Int)]
      rw [List.take_succ_eq_append_getElem (by rw [List.length_set]; exact hcl), List.getElem_set_self, List.take_set_of_le (Nat.le_refl _)]
  · have holds : ∀ j u, (Lib.byteCells l)[j]? = some u → X.cell? ((⟨g, 0, none⟩ : Addr).add j) = some u := by
      intro j u hu
      rw [at_add, cell_of_cells hX]
      exact take_get hl4 hu
    have hr := run_append_grow (P := Tryd.prog) X 48 o.type 5 i0 (.int .u8 0) Tryd.underlying48 hi hz0 ⟨g, 0, none⟩ l.length cap (Lib.byteCells l) (by rw [hz1, hbl4]; omega) holds ⟨wr.heap.size, 0, none⟩ 1 1 _ (by rw [hz1]; rfl) hnews (by omega) (by omega) (growslice_fits (by omega) (by rw [hz2]; omega))
    have hge := grownCap_ge X (l.length + 1) cap 5
    generalize grownCap X (l.length + 1) cap 5 = G at *
    unfold Oper.wp execOp
    simp only [ho, resolve, invoke, builtin, Sem.run_bind, Sem.run_pure, Result.andThen_ok, List.map_toArray, List.map_cons, List.map_nil, hs, hx, hr]
    refine hK _ _ (h _ _ ⟨hBX.drew.alloc (by have := hBX.size; exact this) _, X.heap.size, G, _, 5, 0, 0, by rw [List.length_append]; rfl, hBX.size, heap_alloc_new X.drew _, by rw [List.length_append]; exact hge, ?_, .inr rfl, ?_⟩)
    · simp only [Array.size_append, List.size_toArray, size_zeroCells, hbl4]
      show G ≤ l.length + 1 + (G - (l.length + 1)) * 1
      omega
    · rw [byteCells_append, List.length_append]
      have hl5 : (Lib.byteCells l ++ Lib.byteCells [d]).length = l.length + 1 := by rw [List.length_append, hbl4]; rfl
      simp only [Array.toList_append]
      show ((Lib.byteCells l ++ Lib.byteCells [d]) ++ _).take (l.length + 1) = _
      rw [← hl5]
      exact List.take_left

theorem bg_start (w : World) (l : List UInt8) : BG w (bytesWorld w 5 (str l)) (.slice (some ⟨w.heap.size, 0, none⟩) l.length (grownCap w l.length 0 5)) l := by
  have hge := grownCap_ge w l.length 0 5
  have hss := str_size l
  have hsz : (bytesCells w 5 (str l)).size = grownCap w l.length 0 5 := by
    unfold bytesCells
    rw [hss]
    rw [Array.size_append, Array.size_map, Array.size_replicate]
    show l.length + _ = _
    omega
  refine ⟨⟨rfl, rfl, rfl, by rw [bytesWorld_size]; omega, fun k hk => bytesWorld_at_old w _ _ k hk⟩, w.heap.size, _, _, _, _, _, rfl, Nat.le_refl _, bytesWorld_at_new w _ _, hge, by rw [hsz]; exact Nat.le_refl _, .inl (by rw [hsz]; exact Nat.le_refl _), ?_⟩
  unfold bytesCells
  rw [Array.toList_append]
  have e : ((str l).data.map fun b => Value.int .u8 (b.toNat : Int)).toList = Lib.byteCells l := by
    rw [Array.toList_map]; rfl
  rw [e, List.take_append_of_le_length (by rw [Lib.byteCells_length]; exact Nat.le_refl _), List.take_of_length_le (by rw [Lib.byteCells_length]; exact Nat.le_refl _)]

def lenV : Value → Nat
  | .slice _ n _ => n
  | _ => 0
theorem pad_count (n : Nat) : (n + 1 + (119 - n % 64) % 64) % 64 = 56 := by omega
theorem pad_not (n k : Nat) (h : k < (119 - n % 64) % 64) : (n + 1 + k) % 64 ≠ 56 := by omega
theorem sPad_split (n : Nat) : sPad n = [128] ++ List.replicate ((119 - n % 64) % 64) 0 ++ be8 (8 * (n : Int)) := rfl
theorem be8_next (n : Int) (i : Nat) (h : i < 8) : (be8 n).take (i + 1) = (be8 n).take i ++ [byt (n / 2 ^ (8 * (7 - i)))] := by
  match i, h with
  | 0, _ => rfl
  | 1, _ => rfl
  | 2, _ => rfl
  | 3, _ => rfl
  | 4, _ => rfl
  | 5, _ => rfl
  | 6, _ => rfl
  | 7, _ => simp [be8]
attribute [local irreducible] str

set_option maxRecDepth 100000 in
set_option maxHeartbeats 2000000 in
theorem refPadded_any (l : List UInt8) (w : World) (hl : l.length ≤ 900000000) :
    Calls Tryd.prog 48 #[.string (str l)] w fun e w' => ∃ g cap, e = .returned (.slice (some ⟨g, 0, none⟩) (l ++ sPad l.length).length cap) ∧ (l ++ sPad l.length).length ≤ cap ∧ RowAt w' (some ⟨g, 0, none⟩) (Lib.byteCells (l ++ sPad l.length)) ∧ Below w.heap.size w w' := by
  have hs := str_size l
  have hcv := Go.Lib.run_convert_string_bytes (P := Tryd.prog) w 9 48 5 (str l) Tryd.underlying9 Tryd.underlying48 Tryd.underlying5
  rw [hs] at hcv
  have hb0 := bg_start w l
  have HB := Kept.mk hb0; clear hb0
  generalize bytesWorld w 5 (str l) = W0 at *
  generalize grownCap w l.length 0 5 = cap0 at *
  have HCV := Kept.mk hcv; clear hcv
  go_enter Tryd.func48, Tryd.ntmps48
  go_wp2_with fail
  rw [HCV.out]
  clear HCV
  go_wp2_with (at_builtin; refine bg_append rfl (.tmp 8) (.tmp 9) rfl (w := w) rfl HB.out (d := 128) rfl rfl ?_ ?_; omega; intro v' w' ho)
  clear HB
  obtain ⟨z, hz⟩ : ∃ z, (119 - l.length % 64) % 64 = z := ⟨_, rfl⟩
  have hpc := pad_count l.length
  have hpn := pad_not l.length
  rw [hz] at hpc hpn
  have hsp := sPad_split l.length
  rw [hz] at hsp
  have hz64 : z < 64 := by omega
  have HO := Kept.mk ho
  have HN := Kept.mk hpn
  have HC := Kept.mk hpc
  have HS := Kept.mk hsp
  clear ho hpn hpc hsp hz
  go_loopw [3] (fun s3 wr => ∃ k : Nat, k ≤ z ∧ BG w wr s3 (l ++ [128] ++ List.replicate k 0)) (fun s3 _ => l.length + 1 + z - lenV s3)
  case atStart => exact ⟨0, by omega, HO.out.is (by simp)⟩
  case round =>
    clear HO
    obtain ⟨k, hk, hb⟩ := hrel
    by_cases hlt : k < z
    · have hL : (l ++ [128] ++ List.replicate k 0).length = l.length + 1 + k := by simp; omega
      have HR := Kept.mk (show l ++ [128] ++ List.replicate k 0 ++ [0] = l ++ [128] ++ List.replicate (k + 1) 0 by rw [List.append_assoc, ← List.replicate_succ'])
      generalize l ++ [128] ++ List.replicate k 0 = L at *
      have hne := HN.out k hlt
      have hne2 : ¬ ((L.length : Int) % 64 = 56) := by omega
      obtain ⟨g, cap, rfl, hg, hc, hrow⟩ := hb.row
      have HBG := Kept.mk hb
      clear hb hrow hne
      go_wp2_with (at_builtin; refine bg_append rfl (.tmp 15) (.tmp 16) rfl (w := w) rfl HBG.out (d := 0) rfl rfl ?_ ?_; omega; intro v' w' ho)
      obtain ⟨g2, cap2, rfl, hg2, hc2, hrow2⟩ := ho.row
      refine ⟨⟨k + 1, by omega, ho.is HR.out⟩, ?_⟩
      simp only [lenV, List.length_append, List.length_singleton]
      omega
    · have hkz : k = z := by omega
      subst hkz
      have hL : (l ++ [128] ++ List.replicate k 0).length = l.length + 1 + k := by simp; omega
      have HR := Kept.mk (show l ++ sPad l.length = l ++ [128] ++ List.replicate k 0 ++ be8 (8 * (l.length : Int)) by rw [HS.out]; simp only [List.append_assoc])
      generalize l ++ [128] ++ List.replicate k 0 = L at *
      have hne := HC.out
      have hne2 : (L.length : Int) % 64 = 56 := by omega
      obtain ⟨g, cap, rfl, hg, hc, hrow⟩ := hb.row
      have HBG := Kept.mk hb
      have HNE := Kept.mk hne2
      have hLL : L.length ≤ 900000100 := by omega
      clear hb hrow hne HN HC HS hlt
      go_wp2_with fail
      rw [show (((l.length : Int) + 1 + (k : Int)) % 64 != 56) = false by simp; omega]
      clear hne2 hL
      go_loopw [3, 5] (fun s3 s5 wr => ∃ j : Nat, j ≤ 8 ∧ s5 = .int .i64 (7 - (j : Int)) ∧ BG w wr s3 (L ++ (be8 (8 * (l.length : Int))).take j)) (fun _ s5 _ => (RowKit.intOf s5 + 1).toNat)
      case atStart => exact ⟨0, by omega, rfl, HBG.out.is (by simp)⟩
      case round =>
        clear HBG
        obtain ⟨j, hj, rfl, hb⟩ := hrel
        have hcs : j = 0 ∨ j = 1 ∨ j = 2 ∨ j = 3 ∨ j = 4 ∨ j = 5 ∨ j = 6 ∨ j = 7 ∨ j = 8 := by omega
        have hlen : (L ++ (be8 (8 * (l.length : Int))).take j).length ≤ 900000200 := by
          rw [List.length_append, List.length_take]; omega
        rcases hcs with rfl | rfl | rfl | rfl | rfl | rfl | rfl | rfl | rfl
        · have HR2 := Kept.mk (show L ++ (be8 (8 * (l.length : Int))).take 0 ++ [byt (8 * (l.length : Int) / 72057594037927936)] = L ++ (be8 (8 * (l.length : Int))).take (0 + 1) by rw [List.append_assoc]; rfl)
          have h255 := and_255 (8 * (l.length : Int) / 72057594037927936)
          have hby := byt_toNat (8 * (l.length : Int) / 72057594037927936)
          have HY := Kept.mk hby; clear hby
          generalize L ++ (be8 (8 * (l.length : Int))).take 0 = M at *
          obtain ⟨g, cap, rfl, hg, hc, hrow⟩ := hb.row
          have HBG := Kept.mk hb
          clear hb hrow
          go_wp2_with (at_builtin; refine bg_append rfl (.tmp 25) (.tmp 32) rfl (w := w) rfl HBG.out (d := byt (8 * (l.length : Int) / 72057594037927936)) rfl HY.out.symm ?_ ?_; omega; intro v' w' ho)
          exact ⟨⟨0 + 1, by omega, rfl, ho.is HR2.out⟩, by decide⟩
        · have HR2 := Kept.mk (show L ++ (be8 (8 * (l.length : Int))).take 1 ++ [byt (8 * (l.length : Int) / 281474976710656)] = L ++ (be8 (8 * (l.length : Int))).take (1 + 1) by rw [List.append_assoc]; rfl)
          have h255 := and_255 (8 * (l.length : Int) / 281474976710656)
          have hby := byt_toNat (8 * (l.length : Int) / 281474976710656)
          have HY := Kept.mk hby; clear hby
          generalize L ++ (be8 (8 * (l.length : Int))).take 1 = M at *
          obtain ⟨g, cap, rfl, hg, hc, hrow⟩ := hb.row
          have HBG := Kept.mk hb
          clear hb hrow
          go_wp2_with (at_builtin; refine bg_append rfl (.tmp 25) (.tmp 32) rfl (w := w) rfl HBG.out (d := byt (8 * (l.length : Int) / 281474976710656)) rfl HY.out.symm ?_ ?_; omega; intro v' w' ho)
          exact ⟨⟨1 + 1, by omega, rfl, ho.is HR2.out⟩, by decide⟩
        · have HR2 := Kept.mk (show L ++ (be8 (8 * (l.length : Int))).take 2 ++ [byt (8 * (l.length : Int) / 1099511627776)] = L ++ (be8 (8 * (l.length : Int))).take (2 + 1) by rw [List.append_assoc]; rfl)
          have h255 := and_255 (8 * (l.length : Int) / 1099511627776)
          have hby := byt_toNat (8 * (l.length : Int) / 1099511627776)
          have HY := Kept.mk hby; clear hby
          generalize L ++ (be8 (8 * (l.length : Int))).take 2 = M at *
          obtain ⟨g, cap, rfl, hg, hc, hrow⟩ := hb.row
          have HBG := Kept.mk hb
          clear hb hrow
          go_wp2_with (at_builtin; refine bg_append rfl (.tmp 25) (.tmp 32) rfl (w := w) rfl HBG.out (d := byt (8 * (l.length : Int) / 1099511627776)) rfl HY.out.symm ?_ ?_; omega; intro v' w' ho)
          exact ⟨⟨2 + 1, by omega, rfl, ho.is HR2.out⟩, by decide⟩
        · have HR2 := Kept.mk (show L ++ (be8 (8 * (l.length : Int))).take 3 ++ [byt (8 * (l.length : Int) / 4294967296)] = L ++ (be8 (8 * (l.length : Int))).take (3 + 1) by rw [List.append_assoc]; rfl)
          have h255 := and_255 (8 * (l.length : Int) / 4294967296)
          have hby := byt_toNat (8 * (l.length : Int) / 4294967296)
          have HY := Kept.mk hby; clear hby
          generalize L ++ (be8 (8 * (l.length : Int))).take 3 = M at *
          obtain ⟨g, cap, rfl, hg, hc, hrow⟩ := hb.row
          have HBG := Kept.mk hb
          clear hb hrow
          go_wp2_with (at_builtin; refine bg_append rfl (.tmp 25) (.tmp 32) rfl (w := w) rfl HBG.out (d := byt (8 * (l.length : Int) / 4294967296)) rfl HY.out.symm ?_ ?_; omega; intro v' w' ho)
          exact ⟨⟨3 + 1, by omega, rfl, ho.is HR2.out⟩, by decide⟩
        · have HR2 := Kept.mk (show L ++ (be8 (8 * (l.length : Int))).take 4 ++ [byt (8 * (l.length : Int) / 16777216)] = L ++ (be8 (8 * (l.length : Int))).take (4 + 1) by rw [List.append_assoc]; rfl)
          have h255 := and_255 (8 * (l.length : Int) / 16777216)
          have hby := byt_toNat (8 * (l.length : Int) / 16777216)
          have HY := Kept.mk hby; clear hby
          generalize L ++ (be8 (8 * (l.length : Int))).take 4 = M at *
          obtain ⟨g, cap, rfl, hg, hc, hrow⟩ := hb.row
          have HBG := Kept.mk hb
          clear hb hrow
          go_wp2_with (at_builtin; refine bg_append rfl (.tmp 25) (.tmp 32) rfl (w := w) rfl HBG.out (d := byt (8 * (l.length : Int) / 16777216)) rfl HY.out.symm ?_ ?_; omega; intro v' w' ho)
          exact ⟨⟨4 + 1, by omega, rfl, ho.is HR2.out⟩, by decide⟩
        · have HR2 := Kept.mk (show L ++ (be8 (8 * (l.length : Int))).take 5 ++ [byt (8 * (l.length : Int) / 65536)] = L ++ (be8 (8 * (l.length : Int))).take (5 + 1) by rw [List.append_assoc]; rfl)
          have h255 := and_255 (8 * (l.length : Int) / 65536)
          have hby := byt_toNat (8 * (l.length : Int) / 65536)
          have HY := Kept.mk hby; clear hby
          generalize L ++ (be8 (8 * (l.length : Int))).take 5 = M at *
          obtain ⟨g, cap, rfl, hg, hc, hrow⟩ := hb.row
          have HBG := Kept.mk hb
          clear hb hrow
          go_wp2_with (at_builtin; refine bg_append rfl (.tmp 25) (.tmp 32) rfl (w := w) rfl HBG.out (d := byt (8 * (l.length : Int) / 65536)) rfl HY.out.symm ?_ ?_; omega; intro v' w' ho)
          exact ⟨⟨5 + 1, by omega, rfl, ho.is HR2.out⟩, by decide⟩
        · have HR2 := Kept.mk (show L ++ (be8 (8 * (l.length : Int))).take 6 ++ [byt (8 * (l.length : Int) / 256)] = L ++ (be8 (8 * (l.length : Int))).take (6 + 1) by rw [List.append_assoc]; rfl)
          have h255 := and_255 (8 * (l.length : Int) / 256)
          have hby := byt_toNat (8 * (l.length : Int) / 256)
          have HY := Kept.mk hby; clear hby
          generalize L ++ (be8 (8 * (l.length : Int))).take 6 = M at *
          obtain ⟨g, cap, rfl, hg, hc, hrow⟩ := hb.row
          have HBG := Kept.mk hb
          clear hb hrow
          go_wp2_with (at_builtin; refine bg_append rfl (.tmp 25) (.tmp 32) rfl (w := w) rfl HBG.out (d := byt (8 * (l.length : Int) / 256)) rfl HY.out.symm ?_ ?_; omega; intro v' w' ho)
          exact ⟨⟨6 + 1, by omega, rfl, ho.is HR2.out⟩, by decide⟩
        · have HR2 := Kept.mk (show L ++ (be8 (8 * (l.length : Int))).take 7 ++ [byt (8 * (l.length : Int))] = L ++ (be8 (8 * (l.length : Int))).take (7 + 1) by rw [List.append_assoc]; rfl)
          have h255 := and_255 (8 * (l.length : Int))
          have hby := byt_toNat (8 * (l.length : Int))
          have HY := Kept.mk hby; clear hby
          generalize L ++ (be8 (8 * (l.length : Int))).take 7 = M at *
          obtain ⟨g, cap, rfl, hg, hc, hrow⟩ := hb.row
          have HBG := Kept.mk hb
          clear hb hrow
          go_wp2_with (at_builtin; refine bg_append rfl (.tmp 25) (.tmp 32) rfl (w := w) rfl HBG.out (d := byt (8 * (l.length : Int))) rfl HY.out.symm ?_ ?_; omega; intro v' w' ho)
          exact ⟨⟨7 + 1, by omega, rfl, ho.is HR2.out⟩, by decide⟩
        · have HR2 := Kept.mk (show l ++ sPad l.length = L ++ (be8 (8 * (l.length : Int))).take 8 by rw [HR.out]; rfl)
          generalize L ++ (be8 (8 * (l.length : Int))).take 8 = M at *
          have HBL := Kept.mk hb.1
          obtain ⟨g, cap, rfl, hg, hc, hrow⟩ := hb.row
          have HRW := Kept.mk hrow
          clear hb hrow
          go_wp2_with fail
          go_ret
          rw [HR2.out]
          exact ⟨g, cap, rfl, hc, HRW.out, HBL.out⟩
end Go.Proofs.YtfplagbjcilpjaaDoor
