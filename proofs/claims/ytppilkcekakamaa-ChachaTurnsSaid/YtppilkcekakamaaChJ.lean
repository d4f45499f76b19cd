/- ChaCha: XOR's errors; a text cut to a length, by a contract. -/
import Derived.Test.YtppilkcekakamaaChI
import Derived.Test.YtppilkcekakamaaChaW
namespace Go.Proofs.Ytppilkcekakamaa
set_option linter.unusedVariables false
set_option linter.unusedSimpArgs false
open Go.RowKit Go.Lib
theorem BG.string_take {w wr : World} {g m cap : Nat} {l : List UInt8} (h : BG w wr (.slice (some ⟨g, 0, none⟩) m cap) l) (n c2 : Nat) (hn : n ≤ l.length) : (convert 35 9 (.slice (some ⟨g, 0, none⟩) n c2)).run Try.prog wr = .ok (.string (str (l.take n))) wr := by
  obtain ⟨h1, g', cap', cs, T, f0, f1, e, hg, hh, h2, h3, h4, h5⟩ := h
  cases e
  have hl : (l.take n).length = n := by rw [List.length_take]; omega
  have hr := run_convert_bytes_back (P := Try.prog) wr 35 9 5 ⟨g, 0, none⟩ c2 (l.take n) Try.underlying35 Try.underlying5 Try.underlying9 fun j hj => by
    rw [at_add, cell_of_cells hh]
    refine take_get h5 ?_
    simp [Lib.byteCells, List.getElem?_eq_getElem (show j < l.length by omega)]
  rw [hl] at hr
  exact hr
def slen : Value → Nat
  | .slice _ n _ => n
  | _ => 0
attribute [local irreducible] str turn stW blk nblk xoJ wcells wat

set_option maxRecDepth 100000 in
theorem sized_any (l : List UInt8) (n : Nat) (w : World) (hl : l.length ≤ 140737488355328) (hn : n ≤ 100) :
    Calls Try.prog 20 #[.string (str l), .int .i64 (n : Int)] w fun e w' => ∃ t, e = .returned (.string (str t)) ∧ t.length = n ∧ Below w.heap.size w w' := by
  have HCV := Kept.mk (conv_bytes w l)
  have hB := bg_start w l
  generalize bytesWorld w 5 (str l) = W0 at *
  generalize grownCap w l.length 0 5 = cap at *
  have HB := Kept.mk hB
  clear hB
  go_enter Try.func20, Try.ntmps20
  go_wp2_with (rw [HCV.out])
  go_loopw [5] (fun s5 wr => ∃ L, BG w wr s5 L ∧ L.length ≤ 140737488355528) (fun s5 _ => n - slen s5)
  case atStart => exact ⟨l, HB.out, by omega⟩
  case round =>
    clear HB HCV
    obtain ⟨L, hb, hL⟩ := hrel
    obtain ⟨g, cap, rfl, hg, hc, hrow⟩ := hb.row
    by_cases hlt : L.length < n
    · have hi : (L.length : Int) < (n : Int) := by omega
      have hY : (UInt8.ofNat L.length).toNat = L.length := by rw [UInt8.toNat_ofNat']; omega
      have h256 : (L.length : Int) % 256 = (L.length : Int) := by omega
      have HBG := Kept.mk hb
      have HY := Kept.mk (show (L.length : Int) = ((UInt8.ofNat L.length).toNat : Int) from by rw [hY])
      clear hb hrow hY
      go_wp2_with (at_builtin; refine bg_append rfl (.tmp 12) (.tmp 16) rfl (w := w) rfl HBG.out (d := UInt8.ofNat L.length) rfl HY.out ?_ ?_; omega; intro v' w' ho)
      obtain ⟨g2, cap2, rfl, hg2, hc2, hrow2⟩ := ho.row
      refine ⟨⟨_, ho, by rw [List.length_append, List.length_singleton]; omega⟩, ?_⟩
      simp only [slen, List.length_append, List.length_singleton]
      omega
    · have hi : ¬ (L.length : Int) < (n : Int) := by omega
      have HS := Kept.mk (hb.string_take n cap (by omega))
      have hnc : (n : Int) ≤ (cap : Int) := by omega
      have hn0 : (0 : Int) ≤ (n : Int) := by omega
      have HB := Kept.mk hb
      clear hb hrow
      go_wp2_with (rw [HS.out])
      go_returns
      exact ⟨_, rfl, by rw [List.length_take]; omega, HB.out.1⟩
set_option maxRecDepth 100000 in
theorem xor_range (key nonce s : List UInt8) (c : Nat) (w : World) (hk : key.length = 32) (hn : nonce.length = 12) (hs : s.length ≤ 100000) (hc : c < 4294967296) (hr : ¬ (s.length + 63) / 64 ≤ 4294967296 - c) :
    Calls Try.prog 18 #[.string (str key), .string (str nonce), .int .i64 (c : Int), .string (str s)] w fun e w' => e = .returned (.tuple #[.string (ByteArray.mk #[]), .int .i64 10]) ∧ w' = w := by
  have hss := str_size s
  have hd1 : (4294967295 - (c : Int) + 1 < ((s.length : Int) + 64 - 1) / 64) := by omega
  have HV := Kept.mk (valid_any key nonce (c : Int))
  have HD := Kept.mk (show (decide (key.length = 32) && decide (nonce.length = 12) && decide (0 ≤ (c : Int)) && decide ((c : Int) ≤ 4294967295)) = true from by
    rw [decide_eq_true hk, decide_eq_true hn, decide_eq_true (show 0 ≤ (c : Int) by omega), decide_eq_true (show (c : Int) ≤ 4294967295 by omega)]; rfl)
  have hk2 : key.length ≤ 140737488355328 := by omega
  have hn2 : nonce.length ≤ 140737488355328 := by omega
  clear hk hn hr
  go_enter Try.func18, Try.ntmps18
  go_wp2_with (with_reducible refine (HV.out _ hk2 hn2).mono ?_; rintro e w1 ⟨rfl, rfl⟩; rw [HD.out])
  go_returns
  exact ⟨rfl, rfl⟩
set_option maxRecDepth 100000 in
theorem xor_arg (key nonce s : List UInt8) (c : Int) (w : World) (hk : key.length = 32) (hn : nonce.length = 12) (hc : ¬ (0 ≤ c ∧ c ≤ 4294967295)) :
    Calls Try.prog 18 #[.string (str key), .string (str nonce), .int .i64 c, .string (str s)] w fun e w' => e = .returned (.tuple #[.string (ByteArray.mk #[]), .int .i64 1]) ∧ w' = w := by
  have HV := Kept.mk (valid_any key nonce c)
  have HD := Kept.mk (show (decide (key.length = 32) && decide (nonce.length = 12) && decide (0 ≤ c) && decide (c ≤ 4294967295)) = false from by
    rw [Bool.and_assoc, ← Bool.decide_and (p := 0 ≤ c), decide_eq_false hc, Bool.and_false])
  have hk2 : key.length ≤ 140737488355328 := by omega
  have hn2 : nonce.length ≤ 140737488355328 := by omega
  clear hk hn hc
  go_enter Try.func18, Try.ntmps18
  go_wp2_with (with_reducible refine (HV.out _ hk2 hn2).mono ?_; rintro e w1 ⟨rfl, rfl⟩; rw [HD.out])
  go_returns
  exact ⟨rfl, rfl⟩
end Go.Proofs.Ytppilkcekakamaa
