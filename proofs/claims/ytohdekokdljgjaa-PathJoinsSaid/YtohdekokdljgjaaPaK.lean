/- path: Join, the program's and the document's, each by a contract. -/
import Derived.Test.YtohdekokdljgjaaPaJ
import Derived.Lib.Join
namespace Go.Proofs.Ytohdekokdljgjaa
set_option linter.unusedVariables false
set_option linter.unusedSimpArgs false
open Go.RowKit Go.Lib
/-- is there a slash? -/
def hasS (x : List UInt8) : Bool := decide (¬ ∀ c ∈ x, c ≠ 47)
theorem hasS_contains (x : List UInt8) : decide (0 ≤ Lib.indexByte x 47) = hasS x := by
  unfold hasS
  by_cases h : ∀ c ∈ x, c ≠ 47
  · rw [contains_no x 47 h, decide_eq_false (fun hn => hn h)]
  · rw [contains_yes x 47 h, decide_eq_true h]
theorem psp_pos (p cur : List UInt8) : 0 < (psp p cur).length := by
  induction p generalizing cur with
  | nil => simp [psp]
  | cons c r ih =>
    rw [psp]
    split
    · simp
    · exact ih _
theorem hasS_split (x : List UInt8) : hasS x = decide (1 < (psp x []).length) := by
  unfold hasS
  rcases split_at 47 x with h | ⟨a, b, rfl, h⟩
  · rw [psp_no x [] h, decide_eq_false (fun hn => hn h)]; rfl
  · have h2 := psp_pos b []
    rw [psp_yes a b [] h, List.length_cons, decide_eq_true (show 1 < (psp b []).length + 1 by omega), decide_eq_true (show ¬ ∀ c ∈ a ++ 47 :: b, c ≠ 47 from fun hn => hn 47 (by simp) rfl)]
/-- joined, or the error -/
def jn (L : List (List UInt8)) : List UInt8 × Int :=
  if L.any hasS then ([], 5) else if pok (Lib.join L [47]) then (Lib.join L [47], 0) else ([], 5)
theorem jn_bad (L : List (List UInt8)) (i : Nat) (h : i < L.length) (hb : hasS L[i] = true) : jn L = ([], 5) := by
  unfold jn; rw [if_pos (List.any_eq_true.2 ⟨_, List.getElem_mem h, hb⟩)]
theorem jn_good (L : List (List UInt8)) (h : ∀ i (h : i < L.length), hasS L[i] = false) : jn L = if pok (Lib.join L [47]) then (Lib.join L [47], 0) else ([], 5) := by
  unfold jn
  rw [if_neg]
  intro ha
  obtain ⟨x, hx, hb⟩ := List.any_eq_true.1 ha
  obtain ⟨i, hi, rfl⟩ := List.getElem_of_mem hx
  rw [h i hi] at hb; cases hb
theorem join_take (L : List (List UInt8)) (i : Nat) (h : i < L.length) : Lib.join (L.take (i + 1)) [47] = (if 0 < i then Lib.join (L.take i) [47] ++ [47] else Lib.join (L.take i) [47]) ++ L[i] := by
  match L, h with
  | x :: r, h =>
    cases i with
    | zero => simp [Lib.join_one, Lib.join_nil]
    | succ i =>
      have hri : i < r.length := by rw [List.length_cons] at h; omega
      have hr : r[i]? = some r[i] := List.getElem?_eq_getElem hri
      rw [if_pos (by omega), List.take_succ_cons, List.take_succ_cons, Lib.join_cons, Lib.join_cons, Lib.joinTail_take_succ _ _ _ _ hr]
      simp
theorem join_take_le (L : List (List UInt8)) (i : Nat) : (Lib.join (L.take i) [47]).length ≤ (Lib.join L [47]).length := by
  match L with
  | [] => simp
  | x :: r =>
    cases i with
    | zero => simp [Lib.join_nil]
    | succ i =>
      rw [List.take_succ_cons, Lib.join_cons, Lib.join_cons, List.length_append, List.length_append]
      have := Lib.joinTail_take_le [47] r i
      omega
theorem join_psp (p : List UInt8) : ∀ cur, Lib.join (psp p cur) [47] = cur ++ p := by
  induction p with
  | nil => intro cur; rw [psp, Lib.join_one]; simp
  | cons c r ih =>
    intro cur
    rw [psp]
    split
    · rename_i hc
      have h1 := ih []
      have h2 := psp_pos r []
      match hq : psp r [], h2 with
      | y :: ys, _ =>
        rw [hq, Lib.join_cons] at h1
        rw [Lib.join_cons]
        simp only [Lib.joinTail, List.map_cons, List.flatten_cons] at h1 ⊢
        rw [hc, List.append_assoc, h1]
        simp
    · rw [ih]; simp
theorem psp_clean (p : List UInt8) : ∀ cur, (∀ c ∈ cur, c ≠ 47) → ∀ x ∈ psp p cur, hasS x = false := by
  induction p with
  | nil => 
    intro cur h x hx
    rw [psp] at hx
    simp at hx; subst hx
    unfold hasS; exact decide_eq_false (fun hn => hn h)
  | cons c r ih =>
    intro cur h x hx
    rw [psp] at hx
    split at hx
    · rcases List.mem_cons.1 hx with rfl | hx
      · unfold hasS; exact decide_eq_false (fun hn => hn h)
      · exact ih [] (by simp) x hx
    · rename_i hc
      refine ih (cur ++ [c]) (fun d hd => ?_) x hx
      rcases List.mem_append.1 hd with hd | hd
      · exact h d hd
      · simp at hd; rw [hd]; exact hc
attribute [local irreducible] str psp pok hasS jn
theorem chk_pok (p : List UInt8) : chk p = if pok p then 0 else 5 := by unfold chk; rfl
set_option maxRecDepth 100000 in
set_option maxHeartbeats 2000000 in
theorem pJoin_any (L : List (List UInt8)) (v : Value) (w0 w : World) (hv : VB w0 w v (sts L)) (hL : L.length ≤ 20000) (hl : (Lib.join L [47]).length ≤ 900000) :
    Calls Try.prog 33 #[v] w fun e w' => e = .returned (.tuple #[.string (str (jn L).1), .int .i64 (jn L).2]) ∧ Below w.heap.size w w' := by
  obtain ⟨A, cap, rfl, hcap⟩ := hv.len
  have HV := Kept.mk hv
  have HJB := Kept.mk (jn_bad L)
  have HJG := Kept.mk (jn_good L)
  clear hv
  rw [sts_length] at *
  go_enter Try.func33, Try.ntmps33
  go_wp2_with fail
  go_loop [10] (fun c => ∃ i : Nat, i ≤ L.length ∧ c = .int .i64 i ∧ ∀ k (hk : k < L.length), k < i → hasS L[k] = false) (fun c => L.length - (RowKit.intOf c).toNat)
  case atStart => exact ⟨0, by omega, rfl, fun k _ h => absurd h (by omega)⟩
  case round =>
    obtain ⟨i, hi, rfl, hz⟩ := hrel
    have HZ := Kept.mk hz
    clear hz
    by_cases hlt : i < L.length
    · have hii : (i : Int) < (L.length : Int) := by omega
      obtain ⟨g, cap2, hve, hgw, hgl, hcp, hrow⟩ := HV.out.row (by rw [sts_length]; omega)
      rw [sts_length] at hve
      cases hve
      have c0 := row_get1 hrow (sts_get L i hlt)
      have HC := Kept.mk (fun w => sContains_one L[i] 47 w (hasS L[i]) (hasS_contains L[i]))
      clear hrow
      cases hb : hasS L[i] with
      | true =>
        have HJ := Kept.mk (HJB.out i hlt hb)
        rw [hb] at HC
        clear hb
        generalize L[i] = x at *
        go_wp2_with fail
        with_reducible refine (HC.out w).mono ?_
        rintro e w1 ⟨rfl, rfl⟩
        go_wp2_with fail
        go_ret2
        exact ⟨by rw [HJ.out]; first | rfl | (rw [str_nil]; rfl), Below.refl _ _⟩
      | false =>
        have HZ2 := Kept.mk (show ∀ k (hk : k < L.length), k < i + 1 → hasS L[k] = false from fun k hk h => by
          rcases (show k < i ∨ k = i from by omega) with h3 | h3
          · exact HZ.out k hk h3
          · subst h3; exact hb)
        rw [hb] at HC
        clear hb
        generalize L[i] = x at *
        go_wp2_with fail
        with_reducible refine (HC.out w).mono ?_
        rintro e w1 ⟨rfl, rfl⟩
        go_wp2_with fail
        go_round
        case rel => exact ⟨i + 1, hlt, by push_cast; rfl, HZ2.out⟩
        case measure => show L.length - ((i : Int) + 1).toNat < L.length - ((i : Nat) : Int).toNat; omega
    · have hii : ¬ (i : Int) < (L.length : Int) := by omega
      have HG := Kept.mk (HJG.out (fun k hk => HZ.out k hk (by omega)))
      have HSJ := Kept.mk (show Calls Try.prog 52 #[.slice A L.length cap, .string ⟨#[47]⟩] w fun e w' => e = .returned (.string (str (Lib.join L [47]))) ∧ Below w.heap.size w w' from by
        by_cases h0 : L.length = 0
        · have hLn : L = [] := List.length_eq_zero_iff.1 h0
          subst hLn
          refine (sJoin_none A cap w).mono ?_
          rintro e w1 ⟨rfl, rfl⟩
          exact ⟨by rw [Lib.join_nil], Below.refl _ _⟩
        · obtain ⟨g, cap2, hve, hgw, hgl, hcp, hrow⟩ := HV.out.row (by rw [sts_length]; omega)
          rw [sts_length] at hve
          cases hve
          exact sJoin_any L g cap w hrow hgl hcap (by omega) (by omega))
      generalize Lib.join L [47] = q at *
      obtain rfl : i = L.length := by omega
      go_wp2_with fail
      with_reducible refine HSJ.out.mono ?_
      rintro e w1 ⟨rfl, b1⟩
      go_wp2_with fail
      with_reducible refine (check_any q w1 (by omega)).mono ?_
      rintro e w2 ⟨rfl, b2⟩
      have b2 := b1.trans (b2.mono b1.size)
      rw [chk_pok]
      cases hk : pok q with
      | true =>
        rw [hk] at HG
        clear hk
        go_wp2_with fail
        go_ret2
        exact ⟨by rw [HG.out]; rfl, b2⟩
      | false =>
        rw [hk] at HG
        clear hk
        go_wp2_with fail
        go_ret2
        exact ⟨by rw [HG.out]; first | rfl | (show _ = Ending.returned (.tuple #[.string (str []), .int .i64 5]); rw [str_nil]; rfl), b2⟩
end Go.Proofs.Ytohdekokdljgjaa
