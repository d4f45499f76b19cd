/- HKDF: fewer bytes are the beginning of more; the most bytes: walked by the contracts. -/
import Derived.Test.YtihhjjcghocgaaaDoorKdfL
namespace Go.Proofs.YtihhjjcghocgaaaDoor
set_option linter.unusedVariables false
set_option linter.unusedSimpArgs false
open Go.RowKit Go.Lib
theorem str_mid (r : List UInt8) (n m : Nat) : (str r).extract n m = str ((r.take m).drop n) := by
  apply ByteArray.ext; apply Array.toList_inj.1
  rw [ByteArray.data_extract, Array.toList_extract]
  simp only [str]
  rw [List.drop_take]
theorem lit_255 : ({ data := #[255] } : ByteArray) = str [255] := rfl
theorem kExpand_most (key info : List UInt8) (w : World) (hk : KAt w) (hkl : key.length ≤ 100000) (hil : info.length ≤ 100000) :
    Calls Tryd.prog 29 #[.string (str key), .string (str info), .int .i64 8160] w fun e w' => e = .returned (.tuple #[.string (str (kExp key info 8160)), .int .i64 0]) ∧ Below w.heap.size w w' :=
  kExpand_any key info 8160 w hk (by decide) (by omega) (by omega)
attribute [local irreducible] str sSum mXor mPad mKey mTag kT kOut kExp

set_option maxRecDepth 100000 in
set_option maxHeartbeats 2000000 in
theorem kdfBegins_w {w : World} (x : List UInt8) (hx : x.length ≤ 140737488351232) (y : List UInt8) (hy : y.length ≤ 140737488351232) (n : Int) (hn : (Lit.int .i64 n).wf = true) (m : Int) (hm : (Lit.int .i64 m).wf = true) (hk : KAt w) :
    Calls Tryd.prog 12 #[.string (str x), .string (str y), .int .i64 n, .int .i64 m] w fun e w' => e = .returned (.bool true) ∧ Below w.heap.size w w' := by
  have h1 := and_mask n 9 (by omega) 511 rfl
  have h2 := and_mask m 9 (by omega) 511 rfl
  simp only [Int.reducePow, Nat.reducePow] at h1 h2
  obtain ⟨p, hp⟩ : ∃ p : Nat, n % ((512 : Nat) : Int) = p := ⟨(n % 512).toNat, by omega⟩
  obtain ⟨q, hq⟩ : ∃ q : Nat, m % ((512 : Nat) : Int) = q := ⟨(m % 512).toNat, by omega⟩
  rw [hp] at h1
  rw [hq] at h2
  have p1 : p ≤ 511 := by omega
  have q1 : q ≤ 511 := by omega
  clear hp hq
  go_enter Tryd.func12, Tryd.ntmps12
  go_wp2_with fail
  with_reducible refine (cut_a 500 (by decide) 500 rfl x w hx).mono ?_
  rintro e w1 ⟨rfl, rfl⟩
  have ha : (x.take 500).length ≤ 500 := by rw [List.length_take]; omega
  generalize x.take 500 = a at *
  clear hx
  go_wp2_with fail
  with_reducible refine (cut_a 500 (by decide) 500 rfl y w hy).mono ?_
  rintro e w1 ⟨rfl, rfl⟩
  have hb : (y.take 500).length ≤ 500 := by rw [List.length_take]; omega
  generalize y.take 500 = b at *
  clear hy
  go_wp2_with fail
  with_reducible refine (kExpand_any a b p w hk (by omega) (by omega) (by omega)).mono ?_
  rintro e w1 ⟨rfl, hb1⟩
  have HB1 := Kept.mk hb1
  have HK1 := Kept.mk (hk.below hb1)
  clear hb1 hk h1 h2
  go_wp2_with fail
  rw [show ((p : Int) + (q : Int)) = ((p + q : Nat) : Int) from by omega]
  refine (kExpand_any a b (p + q) w1 HK1.out (by omega) (by omega) (by omega)).mono ?_
  rintro e w2 ⟨rfl, hb2⟩
  have HB2 := Kept.mk (HB1.out.trans (hb2.mono HB1.out.size))
  have HK2 := Kept.mk (HK1.out.below hb2)
  clear hb2 HB1 HK1
  have l1 := kExp_length a b p (by omega)
  have l2 := kExp_length a b (p + q) (by omega)
  have l3 := str_take (kExp a b (p + q)) p (by omega)
  rw [kExp_begin] at l3
  have s1 := str_size (kExp a b p)
  have s2 := str_size (kExp a b (p + q))
  rw [l1] at s1
  rw [l2] at s2
  generalize kExp a b p = X at *
  generalize kExp a b (p + q) = Y at *
  clear l1 l2
  go_wp2_with fail
  with_reducible refine (kdfAwake_any w2 HK2.out).mono ?_
  rintro e w3 ⟨rfl, hb3⟩
  have HB3 := Kept.mk (HB2.out.trans (hb3.mono HB2.out.size))
  clear hb3
  go_wp2_with fail
  go_ret
  exact ⟨rfl, HB3.out⟩

set_option maxRecDepth 100000 in
set_option maxHeartbeats 2000000 in
theorem kdfMost_w {w : World} (x : List UInt8) (hx : x.length ≤ 140737488351232) (y : List UInt8) (hy : y.length ≤ 140737488351232) (hk : KAt w) :
    Calls Tryd.prog 14 #[.string (str x), .string (str y)] w fun e w' => e = .returned (.bool true) ∧ Below w.heap.size w w' := by
  go_enter Tryd.func14, Tryd.ntmps14
  go_wp2_with fail
  with_reducible refine (cut_a 100 (by decide) 100 rfl x w hx).mono ?_
  rintro e w1 ⟨rfl, rfl⟩
  have ha : (x.take 100).length ≤ 100 := by rw [List.length_take]; omega
  generalize x.take 100 = a at *
  clear hx
  go_wp2_with fail
  with_reducible refine (cut_a 20 (by decide) 20 rfl y w hy).mono ?_
  rintro e w1 ⟨rfl, rfl⟩
  have hb : (y.take 20).length ≤ 20 := by rw [List.length_take]; omega
  generalize y.take 20 = b at *
  clear hy
  go_wp2_with fail
  with_reducible refine (kExpand_most a b w hk (by omega) (by omega)).mono ?_
  rintro e w1 ⟨rfl, hb1⟩
  have HB1 := Kept.mk hb1
  have HK1 := Kept.mk (hk.below hb1)
  clear hb1 hk
  go_wp2_with fail
  with_reducible refine (kExpand_bad a b 8161 w1 (.inr (by decide))).mono ?_
  rintro e w2 ⟨rfl, hb2⟩
  have HB2 := Kept.mk (HB1.out.trans (hb2.mono HB1.out.size))
  have HK2 := Kept.mk (HK1.out.below hb2)
  clear hb2 HB1 HK1
  rw [str_nil]
  go_wp2_with fail
  with_reducible refine (kExpand_bad a b (-1) w2 (.inl (by decide))).mono ?_
  rintro e w3 ⟨rfl, hb3⟩
  have HB3 := Kept.mk (HB2.out.trans (hb3.mono HB2.out.size))
  have HK3 := Kept.mk (HK2.out.below hb3)
  clear hb3 HB2 HK2
  rw [str_nil]
  have l1 := kExp_length a b 8160 (by decide)
  have s1 := str_size (kExp a b 8160)
  rw [l1] at s1
  have l2 := str_mid (kExp a b 8160) 8096 8128
  have l3 := str_drop (kExp a b 8160) 8128 (by omega)
  rw [l1] at l3
  have l4 := kLast a b
  rw [List.take_drop] at l4
  have z1 : (List.drop 8096 (List.take 8128 (kExp a b 8160))).length = 32 := by rw [List.length_drop, List.length_take, l1]; decide
  generalize hX : kExp a b 8160 = X at *
  generalize hT : List.drop 8096 (List.take 8128 X) = T at *
  have HL4 := Kept.mk l4
  have a1 := str_append T b
  have a2 := str_append (T ++ b) [255]
  have e1 := lit_255
  have s2 := str_size T
  have s3 := str_size (T ++ b)
  have s4 := str_size b
  have s5 := str_size [255]
  rw [List.length_singleton] at s5
  rw [z1] at s2
  rw [List.length_append, z1] at s3
  rw [l4] at l3
  clear l4 hT hX l1 z1 HL4
  have L2 : (T ++ b ++ [255]).length ≤ 200 := by
    rw [List.length_append, List.length_singleton, ← str_size (T ++ b), s3]; omega
  generalize hG : mTag a (T ++ b ++ [255]) = G at *
  have HG := Kept.mk hG
  clear hG
  go_wp2_with fail
  rw [← List.append_assoc T b]
  with_reducible refine (refTag_any a (T ++ b ++ [255]) w3 (by omega) (by omega)).mono ?_
  rintro e w4 ⟨rfl, hb4⟩
  have HB4 := Kept.mk (HB3.out.trans (hb4.mono HB3.out.size))
  have HK4 := Kept.mk (HK3.out.below hb4)
  clear hb4 HB3 HK3
  rw [HG.out]
  go_wp2_with fail
  with_reducible refine (kdfAwake_any w4 HK4.out).mono ?_
  rintro e w5 ⟨rfl, hb5⟩
  have HB5 := Kept.mk (HB4.out.trans (hb5.mono HB4.out.size))
  clear hb5
  go_wp2_with fail
  go_ret
  exact ⟨rfl, HB5.out⟩
end Go.Proofs.YtihhjjcghocgaaaDoor
