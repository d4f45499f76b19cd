/- Deeds of layer 6: not too many, nor bytes: by a contract. -/
import Derived.Test.YtohdekokdljgjaaDdA
import Derived.Great.Ranges
namespace Go.Proofs.Ytohdekokdljgjaa
set_option linter.unusedVariables false
set_option linter.unusedSimpArgs false
open Go.RowKit Go.Lib
/-- a deed with no more than a hundred bytes -/
def dcut (d : Dd) : Dd := { d with s := d.s.take 100 }
def dsome (ls : List Dd) : List Dd := (ls.take 60).map dcut
theorem str_take (r : List UInt8) (n : Nat) : (str r).extract 0 n = str (r.take n) := by
  apply ByteArray.ext; apply Array.toList_inj.1
  rw [ByteArray.data_extract, Array.toList_extract]
  simp [str]
theorem dcut_small (d : Dd) (h : d.s.length ≤ 100) : dcut d = d := by
  unfold dcut; rw [List.take_of_length_le h]
theorem dsome_snoc (ls : List Dd) (i : Nat) (h : i < ls.length) (h6 : i < 60) : (ls.take i).map dcut ++ [dcut ls[i]] = (ls.take (i + 1)).map dcut := by
  rw [List.take_add_one, List.getElem?_eq_getElem h, List.map_append]; rfl
attribute [local irreducible] str
set_option maxRecDepth 100000 in
set_option maxHeartbeats 2000000 in
theorem some_any (A : Option Addr) (c : Nat) (ls : List Dd) (w : World) (hr : DdsAt w A ls) (hle : ∀ d ∈ ls, d.s.length ≤ 9223372036854775807) (hls : ls.length ≤ 9223372036854775807) :
    Calls Try.prog 11 #[.slice A ls.length c] w fun e w' => ∃ v, e = .returned v ∧ VD w w' v (dsome ls) := by
  have HR := Kept.mk hr
  have HL := Kept.mk hle
  clear hr hle
  go_enter Try.func11, Try.ntmps11
  go_wp2_with fail
  go_loopw [3, 4] (fun o n wr => ∃ k : Nat, k ≤ ls.length ∧ k ≤ 60 ∧ n = .int .i64 k ∧ VD w wr o ((ls.take k).map dcut)) (fun _ n _ => 60 - (RowKit.intOf n).toNat)
  case atStart => exact ⟨0, by omega, by omega, rfl, vd_nil w⟩
  case round =>
    obtain ⟨k, hk, hk6, rfl, hv⟩ := hrel
    have HV := Kept.mk hv
    have hbw := hv.1
    clear hv
    by_cases hlt : k < ls.length
    · by_cases h60 : k < 60
      · have hii : (k : Int) < (ls.length : Int) := by omega
        have hi6 : (k : Int) < 60 := by omega
        obtain ⟨ad, rfl, had, hd⟩ := (HR.out.below hbw).get hlt
        have hle := HL.out _ (List.getElem_mem hlt)
        have HN := Kept.mk (dsome_snoc ls k hlt h60)
        generalize ls[k] = d at *
        have HLN := Kept.mk (show ((ls.take k).map dcut).length + 1 ≤ 100000 from by rw [List.length_map, List.length_take]; omega)
        obtain ⟨n1, n2, n3⟩ := hd.near
        have c0 := hd.c0
        clear hd
        have hs := str_size d.s
        clear hbw h60 hlt
        generalize hml : (ls.take k).map dcut = ms at *
        clear hml
        go_upto_if 23 with fail
        go_cut [] from 16 to 27 (fun wx => VD w wx u3 ms ∧ wx.heap[wr.heap.size]? = some (.cells #[.int .i64 d.k, .int .i64 d.v, .int .i64 d.n, .string (str (d.s.take 100))] 34 (0, 0)))
        case first =>
          by_cases h : d.s.length ≤ 100
          · have h1 : ¬ (100 : Int) < (d.s.length : Int) := by omega
            have HT := Kept.mk (show d.s.take 100 = d.s from List.take_of_length_le h)
            clear h
            go_wp2_with fail
            go_meet
            exact ⟨HV.out.alloc _, by rw [HT.out]; exact heap_new wr _ _ rfl⟩
          · have h1 : (100 : Int) < (d.s.length : Int) := by omega
            have HT := Kept.mk (str_take d.s 100)
            clear h
            go_wp2_with fail
            go_meet
            rw [HT.out]
            exact ⟨HV.out.alloc _, heap_new wr _ _ rfl⟩
        case rest =>
        obtain ⟨hvx, hbx⟩ := hcut
        have HVX := Kept.mk hvx
        clear n1 n2 n3 c0 hs hvx HV
        have e0 := Joins.cell_of_block hbx 0
        have e1 := Joins.cell_of_block hbx 1
        have e2 := Joins.cell_of_block hbx 2
        have e3 := Joins.cell_of_block hbx 3
        generalize wr.heap.size = B at *
        go_wp2_with (at_builtin; refine deed_append rfl _ _ (by rfl) (w := w) (ls := ms) (d := dcut d) (by rfl) HVX.out (by rfl) HLN.out ?_; intro v2 w2 hv2)
        rw [HN.out] at hv2
        exact ⟨⟨k + 1, by omega, by omega, by push_cast; rfl, hv2⟩, by show 60 - ((k : Int) + 1).toNat < 60 - ((k : Nat) : Int).toNat; omega⟩
      · have hi6 : ¬ (k : Int) < 60 := by omega
        obtain rfl : k = 60 := by omega
        go_wp2_with fail
        go_ret
        exact ⟨_, rfl, HV.out⟩
    · have hii : ¬ (k : Int) < (ls.length : Int) := by omega
      obtain rfl : k = ls.length := by omega
      have HE := Kept.mk (show (ls.take ls.length).map dcut = dsome ls from by unfold dsome; rw [List.take_of_length_le (Nat.le_refl _), List.take_of_length_le hk6])
      rw [HE.out] at HV
      go_wp2_with fail
      go_ret
      exact ⟨_, rfl, HV.out⟩
end Go.Proofs.Ytohdekokdljgjaa
