/- ChaCha: a text combined with the blocks from a counter on, by a contract. -/
import Derived.Test.YtabeehljpdehcaaDoorChH
namespace Go.Proofs.YtabeehljpdehcaaDoor
set_option linter.unusedVariables false
set_option linter.unusedSimpArgs false
open Go.RowKit Go.Lib
theorem blk_length (xs : List Nat) : (blk xs).length = 16 := adk_length _ _ _
theorem blk_small (xs : List Nat) : ∀ i, i < 16 → wat (blk xs) i < 4294967296 := by
  intro i hi
  rw [blk, wat_adk _ _ _ _ hi, if_pos hi]
  exact ad_lt _ _
theorem BG.other {w wr wx : World} {g m cap gs : Nat} {l : List UInt8} (h : BG w wr (.slice (some ⟨g, 0, none⟩) m cap) l) (ho : ButB gs wr wx) (hne : g ≠ gs) (hgs : w.heap.size ≤ gs) : BG w wx (.slice (some ⟨g, 0, none⟩) m cap) l := by
  obtain ⟨h1, g', cap', cs, T, f0, f1, e, hg, hh, r⟩ := h
  cases e
  refine ⟨⟨ho.os.trans h1.os, ho.tape.trans h1.tape, ho.output.trans h1.output, Nat.le_trans h1.size ho.size, fun k hk => (ho.block k (Nat.lt_of_lt_of_le hk h1.size) (by omega)).trans (h1.block k hk)⟩, g, cap, cs, T, f0, f1, rfl, hg, ?_, r⟩
  rw [ho.block g (block_lt hh) hne]; exact hh
theorem BG.blk {w wr : World} {g m cap : Nat} {l : List UInt8} (h : BG w wr (.slice (some ⟨g, 0, none⟩) m cap) l) : g < wr.heap.size ∧ m = l.length ∧ l.length ≤ cap := by
  obtain ⟨h1, g', cap', cs, T, f0, f1, e, hg, hh, h2, r⟩ := h
  cases e
  exact ⟨block_lt hh, rfl, h2⟩
/-- the block with this number, from a counter on -/
def nblk (key nonce : List UInt8) (c j : Nat) : List Nat := blk (stW key nonce ((c + j) % 4294967296))
/-- the text when so many blocks have been combined with it -/
def xoJ (key nonce : List UInt8) (c : Nat) (s : List UInt8) : Nat → List UInt8
  | 0 => s
  | j + 1 => xorAt (xoJ key nonce c s j) (64 * j) (nblk key nonce c j) (min 64 (s.length - 64 * j))
theorem xoJ_zero (key nonce : List UInt8) (c : Nat) (s : List UInt8) : xoJ key nonce c s 0 = s := rfl
theorem xoJ_next (key nonce : List UInt8) (c : Nat) (s : List UInt8) (j : Nat) : xorAt (xoJ key nonce c s j) (64 * j) (nblk key nonce c j) (min 64 (s.length - 64 * j)) = xoJ key nonce c s (j + 1) := rfl
theorem xoJ_length (key nonce : List UInt8) (c : Nat) (s : List UInt8) (j : Nat) : (xoJ key nonce c s j).length = s.length := by
  induction j with
  | zero => rfl
  | succ j ih => rw [xoJ, xorAt_length, ih]
theorem xoJ_get (key nonce : List UInt8) (c : Nat) (s : List UInt8) (j i : Nat) : (xoJ key nonce c s j)[i]? = if i < 64 * j then (s[i]?).map (fun b => b ^^^ kb (nblk key nonce c (i / 64)) (i % 64)) else s[i]? := by
  induction j with
  | zero => rw [if_neg (by omega)]; rfl
  | succ j ih =>
    rw [xoJ, xorAt_get, ih]
    by_cases h : 64 * j ≤ i ∧ i < 64 * j + min 64 (s.length - 64 * j)
    · rw [if_pos h, if_neg (by omega), if_pos (show i < 64 * (j + 1) by omega), show i / 64 = j by omega, show i % 64 = i - 64 * j by omega]
    · rw [if_neg h]
      by_cases h1 : i < 64 * j
      · rw [if_pos h1, if_pos (show i < 64 * (j + 1) by omega)]
      · rw [if_neg h1]
        by_cases h2 : i < 64 * (j + 1)
        · rw [if_pos h2, List.getElem?_eq_none (by omega)]; rfl
        · rw [if_neg h2]
/-- the text turned -/
def turn (key nonce : List UInt8) (c : Nat) (s : List UInt8) : List UInt8 := xoJ key nonce c s ((s.length + 63) / 64)
theorem turn_length (key nonce : List UInt8) (c : Nat) (s : List UInt8) : (turn key nonce c s).length = s.length := xoJ_length ..
theorem turn_get (key nonce : List UInt8) (c : Nat) (s : List UInt8) (i : Nat) : (turn key nonce c s)[i]? = (s[i]?).map (fun b => b ^^^ kb (nblk key nonce c (i / 64)) (i % 64)) := by
  rw [turn, xoJ_get]
  by_cases h : i < 64 * ((s.length + 63) / 64)
  · rw [if_pos h]
  · rw [if_neg h, List.getElem?_eq_none (by omega)]; rfl
theorem xor_cancel (a b : UInt8) : a ^^^ b ^^^ b = a := by
  rw [UInt8.xor_assoc, UInt8.xor_self, UInt8.xor_zero]
theorem turn_twice (key nonce : List UInt8) (c : Nat) (s : List UInt8) : turn key nonce c (turn key nonce c s) = s := by
  apply List.ext_getElem?
  intro i
  rw [turn_get, turn_get, Option.map_map]
  cases s[i]? with
  | none => rfl
  | some b => simp only [Option.map_some, Function.comp]; rw [xor_cancel]
theorem turn_drop (key nonce : List UInt8) (c k : Nat) (s : List UInt8) : (turn key nonce c s).drop (64 * k) = turn key nonce (c + k) (s.drop (64 * k)) := by
  apply List.ext_getElem?
  intro i
  rw [List.getElem?_drop, turn_get, turn_get, List.getElem?_drop, show (64 * k + i) / 64 = k + i / 64 by omega, show (64 * k + i) % 64 = i % 64 by omega]
  unfold nblk
  rw [Nat.add_assoc]
theorem nblk_eq (key nonce : List UInt8) (c j : Nat) : nblk key nonce c j = blk (stW key nonce ((c + j) % 4294967296)) := rfl
theorem combine_step (key nonce s : List UInt8) (c j o n c2 cap g gs : Nat) (T : TypeId) (X : List Nat) (w wr w5 : World) (hb : BG w wr (.slice (some ⟨g, 0, none⟩) s.length cap) (xoJ key nonce c s j)) (hv : Words T wr gs X) (hb5 : Below wr.drew.heap.size wr.drew w5) (ho : 64 * j = o) (hnn : min 64 (s.length - o) = n) (hs : s.length ≤ 100000) (hne : gs ≠ g) (hlt : o < s.length) :
    Calls Tryd.prog 65 #[.slice (some ⟨g, o, none⟩) n c2, .agg (wcells (blk (stW key nonce ((c + j) % 4294967296))))] w5 fun e w' => e = .returned (.tuple #[]) ∧ BG w w' (.slice (some ⟨g, 0, none⟩) s.length cap) (xoJ key nonce c s (j + 1)) ∧ Words T w' gs X := by
  subst ho hnn
  have hB : BG w w5 (.slice (some ⟨g, 0, none⟩) s.length cap) (xoJ key nonce c s j) := (hb.kept ((Below.refl _ _).drew)).kept hb5
  have hV : Words T w5 gs X := hv.drew.kept hb5
  rw [← nblk_eq, ← xoJ_next]
  refine (combine_any w w5 g s.length cap (64 * j) _ c2 (xoJ key nonce c s j) (nblk key nonce c j) hB (by rw [xoJ_length]; omega) (by omega) (by rw [xoJ_length]; exact hs) (blk_length _) (blk_small _)).mono ?_
  rintro e w6 ⟨rfl, h1, h2⟩
  exact ⟨rfl, h1, h2.words hV hne⟩
theorem ctr_next (c j : Nat) : IntKind.u32.wrap ((((c + j) % 4294967296 : Nat) : Int) + 1) = (((c + (j + 1)) % 4294967296 : Nat) : Int) := by
  rw [IntKind.wrap_u32]; omega
attribute [local irreducible] str wat wcells kb xorAt stW blk nblk xoJ

set_option maxRecDepth 100000 in
set_option maxHeartbeats 4000000 in
theorem xor_any (key nonce s : List UInt8) (c : Nat) (w : World) (hk : key.length = 32) (hn : nonce.length = 12) (hs : s.length ≤ 100000) (hc : c < 4294967296) (hr : (s.length + 63) / 64 ≤ 4294967296 - c) :
    Calls Tryd.prog 40 #[.string (str key), .string (str nonce), .int .i64 (c : Int), .string (str s)] w fun e w' => e = .returned (.tuple #[.string (str (turn key nonce c s)), .int .i64 0]) ∧ Below w.heap.size w w' := by
  have hss := str_size s
  have hd1 : ¬ (4294967295 - (c : Int) + 1 < ((s.length : Int) + 64 - 1) / 64) := by omega
  have HV := Kept.mk (valid_any key nonce (c : Int))
  have HD := Kept.mk (show (decide (key.length = 32) && decide (nonce.length = 12) && decide (0 ≤ (c : Int)) && decide ((c : Int) ≤ 4294967295)) = true from by
    rw [decide_eq_true hk, decide_eq_true hn, decide_eq_true (show 0 ≤ (c : Int) by omega), decide_eq_true (show (c : Int) ≤ 4294967295 by omega)]; rfl)
  have hk2 : key.length ≤ 140737488355328 := by omega
  have hn2 : nonce.length ≤ 140737488355328 := by omega
  have HK := Kept.mk hk
  have HN := Kept.mk hn
  have HR := Kept.mk hr
  clear hk hn hr
  go_enter Tryd.func40, Tryd.ntmps40
  go_upto_region 3 with (with_reducible refine (HV.out _ hk2 hn2).mono ?_; rintro e w1 ⟨rfl, rfl⟩; rw [HD.out])
  go_upto_region 6 with fail
  with_reducible refine (start_any key nonce c _ HK.out HN.out hc).mono ?_
  rintro e w2 ⟨rfl, hl16, hsm, hb2⟩
  have hsz := wcells_size (stW key nonce c)
  rw [hl16] at hsz
  have HI := Kept.mk (show (Tryd.prog.info? 81).map (·.size) = some (wcells (stW key nonce c)).size from by rw [hsz]; kernel_rfl)
  have HO := Kept.mk (show (#[.int .u32 0, .int .u32 0, .int .u32 0, .int .u32 0, .int .u32 0, .int .u32 0, .int .u32 0, .int .u32 0, .int .u32 0, .int .u32 0, .int .u32 0, .int .u32 0, .int .u32 0, .int .u32 0, .int .u32 0, .int .u32 0] : Array Value).size = (wcells (stW key nonce c)).size from by rw [hsz]; rfl)
  go_upto_region 6 with (with_reducible refine wpList_store_row rfl 81 (.tmp 10) (.tmp 30) rfl w2.heap.size (wcells (stW key nonce c)) rfl rfl _ _ (heap_new w2 (.cells #[.int .u32 0, .int .u32 0, .int .u32 0, .int .u32 0, .int .u32 0, .int .u32 0, .int .u32 0, .int .u32 0, .int .u32 0, .int .u32 0, .int .u32 0, .int .u32 0, .int .u32 0, .int .u32 0, .int .u32 0, .int .u32 0] 81) w2.heap.size rfl) HI.out HO.out (wcells_one _) ?_)
  have hZ := heap_new w2 (.cells #[.int .u32 0, .int .u32 0, .int .u32 0, .int .u32 0, .int .u32 0, .int .u32 0, .int .u32 0, .int .u32 0, .int .u32 0, .int .u32 0, .int .u32 0, .int .u32 0, .int .u32 0, .int .u32 0, .int .u32 0, .int .u32 0] 81) w2.heap.size rfl
  have hv : Words 81 _ w2.heap.size (stW key nonce c) := ⟨setRow_heap _ w2.heap.size _ (wcells (stW key nonce c)) _ _ hZ, hl16, hsm⟩
  have hbx : Below w.heap.size w (w2.alloc (.cells #[.int .u32 0, .int .u32 0, .int .u32 0, .int .u32 0, .int .u32 0, .int .u32 0, .int .u32 0, .int .u32 0, .int .u32 0, .int .u32 0, .int .u32 0, .int .u32 0, .int .u32 0, .int .u32 0, .int .u32 0, .int .u32 0] 81)) := hb2.alloc hb2.size _
  have hbx := below_setRow hbx hb2.size (wcells (stW key nonce c))
  have hgs : w.heap.size ≤ w2.heap.size := hb2.size
  generalize World.setRow _ _ _ = W3 at *
  obtain ⟨gs, hgse⟩ : ∃ gs, w2.heap.size = gs := ⟨_, rfl⟩
  rw [hgse] at hv hgs
  have hgl := block_lt hv.heap
  have HCV := Kept.mk (conv_bytes W3 s)
  have hB := (bg_start W3 s).base hbx
  have hBU : ButB gs W3 (bytesWorld W3 5 (str s)) := ButB.of_below (bg_start W3 s).1
  have hV2 : Words 81 (bytesWorld W3 5 (str s)) gs (stW key nonce c) := hv.kept (bg_start W3 s).1
  generalize bytesWorld W3 5 (str s) = W4 at *
  generalize grownCap W3 s.length 0 5 = cap at *
  obtain ⟨g, hge⟩ : ∃ g, W3.heap.size = g := ⟨_, rfl⟩
  rw [hge] at hB HCV
  have hne : gs ≠ g := by omega
  have HB0 := Kept.mk hB
  have HV0 := Kept.mk hV2
  clear hv hbx hB hBU hV2 hb2 hl16 hsm hZ HI HO hsz
  go_wp2_with (rw [HCV.out])
  go_loopw [12] (fun i wr => ∃ j : Nat, 64 * j < s.length + 64 ∧ i = .int .i64 ((64 * j : Nat) : Int) ∧ BG w wr (.slice (some ⟨g, 0, none⟩) s.length cap) (xoJ key nonce c s j) ∧ Words 81 wr gs (stW key nonce ((c + j) % 4294967296))) (fun i _ => s.length + 64 - (RowKit.intOf i).toNat)
  case atStart => exact ⟨0, by omega, rfl, by rw [xoJ_zero]; exact HB0.out, by rw [show (c + 0) % 4294967296 = c from by omega]; exact HV0.out⟩
  case round =>
    clear HB0 HV0
    obtain ⟨j, hj, rfl, hb, hv⟩ := hrel
    by_cases hlt : 64 * j < s.length
    · obtain ⟨gl, hml, hmc⟩ := hb.blk
      rw [xoJ_length] at hml hmc
      obtain ⟨o, ho⟩ : ∃ o, 64 * j = o := ⟨_, rfl⟩
      have hXN := Kept.mk (xoJ_next key nonce c s j)
      rw [ho] at hXN hlt hj
      obtain ⟨n, hnn⟩ : ∃ n, min 64 (s.length - o) = n := ⟨_, rfl⟩
      rw [ho]
      have CN := ctr_next c j
      have hd2 : (c + (j + 1)) % 4294967296 < 4294967296 := Nat.mod_lt _ (by decide)
      have HST := Kept.mk (stW_set key nonce ((c + j) % 4294967296) ((c + (j + 1)) % 4294967296))
      generalize hd2e : (c + (j + 1)) % 4294967296 = d2 at CN hd2 HST
      have HD2 := Kept.mk hd2e
      clear hd2e
      rcases (show ((o : Int) + 64 ≤ (s.length : Int) ∧ n = 64) ∨ ((s.length : Int) < (o : Int) + 64 ∧ n = s.length - o) from by omega) with ⟨hf, hn1⟩ | ⟨hf, hn1⟩
      · have hoi : (o : Int) < (s.length : Int) := by omega
        have hnl : ¬ ((s.length : Int) < (o : Int) + 64) := by omega
        have hcap : (o : Int) + 64 ≤ (cap : Int) := by omega
        have hcap2 : (o : Int) ≤ (cap : Int) := by omega
        have hoo : (o : Int) ≤ (o : Int) + 64 := by omega
        have hco : ¬ (cap = o) := by omega
        have ho0 : (0 : Int) ≤ (o : Int) := by omega
        have ho1 : (0 : Int) ≤ (o : Int) + 64 := by omega
        have ho2 : ((o : Int) + 64).toNat = o + 64 := by omega
        have ho3 : IntKind.i64.wrap ((o : Int) + 64) = (o : Int) + 64 := wrap_i64_small _ (by omega) (by omega)
        have HB := Kept.mk hb
        have HV := Kept.mk hv
        clear hb hv
        rw [hn1] at hnn
        go_wp2_with fail
        go_region_with (first
          | (go_at_call 66; refine (block_any 81 gs (stW key nonce ((c + j) % 4294967296)) _ HV.out.drew).mono ?_; rintro e w5 ⟨rfl, hb5⟩)
          | (go_at_call 65; refine (combine_step key nonce s c j o 64 _ cap g gs 81 (stW key nonce ((c + j) % 4294967296)) w wr _ HB.out HV.out hb5 ho hnn hs hne hlt).mono ?_; rintro e w6 ⟨rfl, hb6, hv6⟩; have HB6 := Kept.mk hb6; have HV6 := Kept.mk hv6; clear hb6 hv6))
        all_goals (
          clear HB HV hb5
          have HV7 := Kept.mk (HV6.out.set (show 12 < 16 by decide) hd2)
          rw [HST.out] at HV7
          have HB7 := Kept.mk (HB6.out.other (ButB.set gs w6 12 (.int .u32 (d2 : Int))) (Ne.symm hne) hgs)
          have c12 := HV6.out.cell (show 12 < 16 by decide)
          rw [wat_stW] at c12
          have f12 := HV6.out.free 12
          clear HB6 HV6
          go_wp2_with fail
          have e2 : ((c : Int) + (j : Int) + 1) % 4294967296 = (d2 : Int) := by have := HD2.out; omega
          rw [e2]
          exact ⟨⟨j + 1, by omega, by rw [← ho]; push_cast; rfl, HB7.out, by rw [HD2.out]; exact HV7.out⟩, by show s.length + 64 - ((o : Int) + 64).toNat < s.length + 64 - ((o : Nat) : Int).toNat; omega⟩)
      · have hoi : (o : Int) < (s.length : Int) := by omega
        have hcap : (s.length : Int) ≤ (cap : Int) := by omega
        have hcap2 : (o : Int) ≤ (cap : Int) := by omega
        have hoo : (o : Int) ≤ (s.length : Int) := by omega
        have hco : ¬ (cap = o) := by omega
        have ho0 : (0 : Int) ≤ (o : Int) := by omega
        have ho3 : IntKind.i64.wrap ((o : Int) + 64) = (o : Int) + 64 := wrap_i64_small _ (by omega) (by omega)
        have HB := Kept.mk hb
        have HV := Kept.mk hv
        clear hb hv
        rw [hn1] at hnn
        go_wp2_with fail
        go_region_with (first
          | (go_at_call 66; refine (block_any 81 gs (stW key nonce ((c + j) % 4294967296)) _ HV.out.drew).mono ?_; rintro e w5 ⟨rfl, hb5⟩)
          | (go_at_call 65; refine (combine_step key nonce s c j o (s.length - o) _ cap g gs 81 (stW key nonce ((c + j) % 4294967296)) w wr _ HB.out HV.out hb5 ho hnn hs hne hlt).mono ?_; rintro e w6 ⟨rfl, hb6, hv6⟩; have HB6 := Kept.mk hb6; have HV6 := Kept.mk hv6; clear hb6 hv6))
        all_goals (
          clear HB HV hb5
          have HV7 := Kept.mk (HV6.out.set (show 12 < 16 by decide) hd2)
          rw [HST.out] at HV7
          have HB7 := Kept.mk (HB6.out.other (ButB.set gs w6 12 (.int .u32 (d2 : Int))) (Ne.symm hne) hgs)
          have c12 := HV6.out.cell (show 12 < 16 by decide)
          rw [wat_stW] at c12
          have f12 := HV6.out.free 12
          clear HB6 HV6
          go_wp2_with fail
          have e2 : ((c : Int) + (j : Int) + 1) % 4294967296 = (d2 : Int) := by have := HD2.out; omega
          rw [e2]
          exact ⟨⟨j + 1, by omega, by rw [← ho]; push_cast; rfl, HB7.out, by rw [HD2.out]; exact HV7.out⟩, by show s.length + 64 - ((o : Int) + 64).toNat < s.length + 64 - ((o : Nat) : Int).toNat; omega⟩)
    · obtain ⟨gl, hml, hmc⟩ := hb.blk
      have hje : j = (s.length + 63) / 64 := by omega
      have hoi : ¬ (((64 * j : Nat) : Int) < (s.length : Int)) := by omega
      have HS := Kept.mk (BG.string hb)
      have HB := Kept.mk hb
      rw [hje] at HS
      clear hb hv hml hmc
      generalize ((64 * j : Nat) : Int) = oi at *
      go_wp2_with (rw [HS.out])
      go_returns
      exact ⟨rfl, HB.out.1⟩
end Go.Proofs.YtabeehljpdehcaaDoor
