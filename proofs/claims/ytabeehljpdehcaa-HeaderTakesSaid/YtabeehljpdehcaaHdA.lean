/- header.Check, of the program and by definition, each by a contract. -/
import Derived.Test.YtabeehljpdehcaaHdM
namespace Go.Proofs.Ytabeehljpdehcaa
set_option linter.unusedVariables false
set_option linter.unusedSimpArgs false
open Go.RowKit Go.Lib
attribute [local irreducible] str beL

set_option maxRecDepth 100000 in
theorem within_yes (x l m : Int) (w : World) (h : l ≤ x ∧ x ≤ m) : Calls Try.prog 17 #[.int .i64 x, .int .i64 l, .int .i64 m] w fun e w' => e = .returned (.bool true) ∧ w = w' := by
  obtain ⟨h1, h2⟩ := h
  go_enter Try.func17, Try.ntmps17
  go_wp2_with fail
  go_ret
  exact ⟨rfl, rfl⟩
set_option maxRecDepth 100000 in
theorem within_no (x l m : Int) (w : World) (h : ¬ (l ≤ x ∧ x ≤ m)) : Calls Try.prog 17 #[.int .i64 x, .int .i64 l, .int .i64 m] w fun e w' => e = .returned (.bool false) ∧ w = w' := by
  by_cases h1 : l ≤ x
  · have h2 : ¬ x ≤ m := by omega
    clear h
    go_enter Try.func17, Try.ntmps17
    go_wp2_with fail
    go_ret
    exact ⟨rfl, rfl⟩
  · clear h
    go_enter Try.func17, Try.ntmps17
    go_wp2_with fail
    go_ret
    exact ⟨rfl, rfl⟩
theorem div192 (b : Int) (h : 1 ≤ b) (h2 : b ≤ 49152) : IntKind.i64.wrap (Int.tdiv (b + 191) 192) = (b + 191) / 192 := by
  rw [Int.tdiv_eq_ediv_of_nonneg (by omega), wrap_i64_small _ (by omega) (by omega)]

set_option maxRecDepth 100000 in
theorem Check_yes (id : Int) (salt : List UInt8) (n b raw : Int) (root tag : List UInt8) (w : World) (h : hMay id salt n b raw root tag) :
    Calls Try.prog 10 #[.agg #[.int .i64 id, .string (str salt), .int .i64 n, .int .i64 b, .int .i64 raw, .string (str root), .string (str tag)]] w fun e w' => e = .returned (.int .i64 0) ∧ Below w.heap.size w w' := by
  obtain ⟨h1, h2, h3, h4, h5, h6, h7⟩ := h
  have s5 := str_size salt
  have s6 := str_size root
  have s7 := str_size tag
  rw [h5] at s5
  rw [h6] at s6
  rw [h7] at s7
  have hd := div192 b h2.1 h2.2
  clear h5 h6 h7
  subst h4
  go_enter Try.func10, Try.ntmps10
  go_wp2_with fail
  with_reducible refine (within_yes id 1 4294967295 _ h1).mono ?_
  rintro e w1 ⟨rfl, rfl⟩
  go_wp2_with fail
  with_reducible refine (within_yes b 1 49152 _ h2).mono ?_
  rintro e w1 ⟨rfl, rfl⟩
  go_wp2_with fail
  with_reducible refine (within_yes raw 1 134217728 _ h3).mono ?_
  rintro e w1 ⟨rfl, rfl⟩
  go_wp2_with fail
  go_ret
  exact ⟨rfl, (Below.refl _ _).alloc (Nat.le_refl _) _⟩
set_option maxRecDepth 100000 in
set_option maxHeartbeats 1000000 in
theorem Check_no (id : Int) (salt : List UInt8) (n b raw : Int) (root tag : List UInt8) (w : World) (h : ¬ hMay id salt n b raw root tag) (z1 : salt.length ≤ 140737488355328) (z2 : root.length ≤ 140737488355328) (z3 : tag.length ≤ 140737488355328) :
    Calls Try.prog 10 #[.agg #[.int .i64 id, .string (str salt), .int .i64 n, .int .i64 b, .int .i64 raw, .string (str root), .string (str tag)]] w fun e w' => e = .returned (.int .i64 1) ∧ Below w.heap.size w w' := by
  by_cases h1 : 1 ≤ id ∧ id ≤ 4294967295
  · by_cases h2 : 1 ≤ b ∧ b ≤ 49152
    · by_cases h3 : 1 ≤ raw ∧ raw ≤ 134217728
      · by_cases h4 : n = (b + 191) / 192
        · by_cases h5 : salt.length = 16
          · by_cases h6 : root.length = 32
            · by_cases h7 : tag.length = 32
              · exact absurd ⟨h1, h2, h3, h4, h5, h6, h7⟩ h
              · clear h
                have s5 := str_size salt
                rw [h5] at s5
                have s6 := str_size root
                rw [h6] at s6
                have s7 := str_size tag
                have h7i : ((tag.length : Int) == 32) = false := by simp only [beq_eq_false_iff_ne, ne_eq]; omega
                have h7j : ((tag.length : Int) != 32) = true := by rw [bne, h7i]; rfl
                have hd := div192 b h2.1 h2.2
                clear h5
                clear h6
                subst h4
                go_enter Try.func10, Try.ntmps10
                go_wp2_with fail
                with_reducible refine (within_yes id 1 4294967295 _ h1).mono ?_
                rintro e w1 ⟨rfl, rfl⟩
                go_wp2_with fail
                with_reducible refine (within_yes b 1 49152 _ h2).mono ?_
                rintro e w1 ⟨rfl, rfl⟩
                go_wp2_with fail
                with_reducible refine (within_yes raw 1 134217728 _ h3).mono ?_
                rintro e w1 ⟨rfl, rfl⟩
                go_wp2_with fail
                go_ret
                exact ⟨rfl, (Below.refl _ _).alloc (Nat.le_refl _) _⟩
            · clear h
              have s5 := str_size salt
              rw [h5] at s5
              have s6 := str_size root
              have s7 := str_size tag
              have h6i : ((root.length : Int) == 32) = false := by simp only [beq_eq_false_iff_ne, ne_eq]; omega
              have h6j : ((root.length : Int) != 32) = true := by rw [bne, h6i]; rfl
              have hd := div192 b h2.1 h2.2
              clear h5
              subst h4
              go_enter Try.func10, Try.ntmps10
              go_wp2_with fail
              with_reducible refine (within_yes id 1 4294967295 _ h1).mono ?_
              rintro e w1 ⟨rfl, rfl⟩
              go_wp2_with fail
              with_reducible refine (within_yes b 1 49152 _ h2).mono ?_
              rintro e w1 ⟨rfl, rfl⟩
              go_wp2_with fail
              with_reducible refine (within_yes raw 1 134217728 _ h3).mono ?_
              rintro e w1 ⟨rfl, rfl⟩
              go_wp2_with fail
              go_ret
              exact ⟨rfl, (Below.refl _ _).alloc (Nat.le_refl _) _⟩
          · clear h
            have s5 := str_size salt
            have s6 := str_size root
            have s7 := str_size tag
            have h5i : ((salt.length : Int) == 16) = false := by simp only [beq_eq_false_iff_ne, ne_eq]; omega
            have h5j : ((salt.length : Int) != 16) = true := by rw [bne, h5i]; rfl
            have hd := div192 b h2.1 h2.2
            subst h4
            go_enter Try.func10, Try.ntmps10
            go_wp2_with fail
            with_reducible refine (within_yes id 1 4294967295 _ h1).mono ?_
            rintro e w1 ⟨rfl, rfl⟩
            go_wp2_with fail
            with_reducible refine (within_yes b 1 49152 _ h2).mono ?_
            rintro e w1 ⟨rfl, rfl⟩
            go_wp2_with fail
            with_reducible refine (within_yes raw 1 134217728 _ h3).mono ?_
            rintro e w1 ⟨rfl, rfl⟩
            go_wp2_with fail
            go_ret
            exact ⟨rfl, (Below.refl _ _).alloc (Nat.le_refl _) _⟩
        · clear h
          have s5 := str_size salt
          have s6 := str_size root
          have s7 := str_size tag
          have hd := div192 b h2.1 h2.2
          have h4i : (n == (b + 191) / 192) = false := by simpa using h4
          have h4j : (n != (b + 191) / 192) = true := by rw [bne, h4i]; rfl
          have e9 : b + 192 - 1 = b + 191 := by omega
          go_enter Try.func10, Try.ntmps10
          go_wp2_with fail
          with_reducible refine (within_yes id 1 4294967295 _ h1).mono ?_
          rintro e w1 ⟨rfl, rfl⟩
          go_wp2_with fail
          with_reducible refine (within_yes b 1 49152 _ h2).mono ?_
          rintro e w1 ⟨rfl, rfl⟩
          go_wp2_with fail
          with_reducible refine (within_yes raw 1 134217728 _ h3).mono ?_
          rintro e w1 ⟨rfl, rfl⟩
          go_wp2_with fail
          go_ret
          exact ⟨rfl, (Below.refl _ _).alloc (Nat.le_refl _) _⟩
      · clear h
        have s5 := str_size salt
        have s6 := str_size root
        have s7 := str_size tag
        have hd := div192 b h2.1 h2.2
        go_enter Try.func10, Try.ntmps10
        go_wp2_with fail
        with_reducible refine (within_yes id 1 4294967295 _ h1).mono ?_
        rintro e w1 ⟨rfl, rfl⟩
        go_wp2_with fail
        with_reducible refine (within_yes b 1 49152 _ h2).mono ?_
        rintro e w1 ⟨rfl, rfl⟩
        go_wp2_with fail
        with_reducible refine (within_no raw 1 134217728 _ h3).mono ?_
        rintro e w1 ⟨rfl, rfl⟩
        go_wp2_with fail
        go_ret
        exact ⟨rfl, (Below.refl _ _).alloc (Nat.le_refl _) _⟩
    · clear h
      have s5 := str_size salt
      have s6 := str_size root
      have s7 := str_size tag
      go_enter Try.func10, Try.ntmps10
      go_wp2_with fail
      with_reducible refine (within_yes id 1 4294967295 _ h1).mono ?_
      rintro e w1 ⟨rfl, rfl⟩
      go_wp2_with fail
      with_reducible refine (within_no b 1 49152 _ h2).mono ?_
      rintro e w1 ⟨rfl, rfl⟩
      go_wp2_with fail
      go_ret
      exact ⟨rfl, (Below.refl _ _).alloc (Nat.le_refl _) _⟩
  · clear h
    have s5 := str_size salt
    have s6 := str_size root
    have s7 := str_size tag
    go_enter Try.func10, Try.ntmps10
    go_wp2_with fail
    with_reducible refine (within_no id 1 4294967295 _ h1).mono ?_
    rintro e w1 ⟨rfl, rfl⟩
    go_wp2_with fail
    go_ret
    exact ⟨rfl, (Below.refl _ _).alloc (Nat.le_refl _) _⟩
set_option maxRecDepth 100000 in
theorem May_yes (id : Int) (salt : List UInt8) (n b raw : Int) (root tag : List UInt8) (w : World) (h : hMay id salt n b raw root tag) :
    Calls Try.prog 15 #[.agg #[.int .i64 id, .string (str salt), .int .i64 n, .int .i64 b, .int .i64 raw, .string (str root), .string (str tag)]] w fun e w' => e = .returned (.bool true) ∧ Below w.heap.size w w' := by
  obtain ⟨h1, h2, h3, h4, h5, h6, h7⟩ := h
  have s5 := str_size salt
  have s6 := str_size root
  have s7 := str_size tag
  rw [h5] at s5
  rw [h6] at s6
  rw [h7] at s7
  clear h5 h6 h7
  have e1 : IntKind.i64.wrap (b.tmod 192) = b % 192 := by rw [Int.tmod_eq_emod_of_nonneg (by omega), wrap_i64_small _ (by omega) (by omega)]
  have e2 : IntKind.i64.wrap (b.tdiv 192) = b / 192 := by rw [Int.tdiv_eq_ediv_of_nonneg (by omega), wrap_i64_small _ (by omega) (by omega)]
  by_cases hm : 0 < b % 192
  · have h4k : (n == b / 192 + 1) = true := by simp only [beq_iff_eq, beq_eq_false_iff_ne, ne_eq]; omega
    clear h4
    go_enter Try.func15, Try.ntmps15
    go_wp2_with fail
    go_ret
    exact ⟨by first | rfl | simp only [h4k], (Below.refl _ _).alloc (Nat.le_refl _) _⟩
  · have h4k : (n == b / 192) = true := by simp only [beq_iff_eq, beq_eq_false_iff_ne, ne_eq]; omega
    clear h4
    go_enter Try.func15, Try.ntmps15
    go_wp2_with fail
    go_ret
    exact ⟨by first | rfl | simp only [h4k], (Below.refl _ _).alloc (Nat.le_refl _) _⟩
set_option maxRecDepth 100000 in
set_option maxHeartbeats 1000000 in
theorem May_no (id : Int) (salt : List UInt8) (n b raw : Int) (root tag : List UInt8) (w : World) (h : ¬ hMay id salt n b raw root tag) (z1 : salt.length ≤ 140737488355328) (z2 : root.length ≤ 140737488355328) (z3 : tag.length ≤ 140737488355328) :
    Calls Try.prog 15 #[.agg #[.int .i64 id, .string (str salt), .int .i64 n, .int .i64 b, .int .i64 raw, .string (str root), .string (str tag)]] w fun e w' => e = .returned (.bool false) ∧ Below w.heap.size w w' := by
  by_cases h1 : 1 ≤ id ∧ id ≤ 4294967295
  · by_cases h5 : salt.length = 16
    · by_cases h6 : root.length = 32
      · by_cases h7 : tag.length = 32
        · by_cases h2 : 1 ≤ b ∧ b ≤ 49152
          · by_cases h3 : 1 ≤ raw ∧ raw ≤ 134217728
            · by_cases h4 : n = (b + 191) / 192
              · exact absurd ⟨h1, h2, h3, h4, h5, h6, h7⟩ h
              · clear h
                have s5 := str_size salt
                rw [h5] at s5
                have s6 := str_size root
                rw [h6] at s6
                have s7 := str_size tag
                rw [h7] at s7
                clear h5
                clear h6
                clear h7
                have e1 : IntKind.i64.wrap (b.tmod 192) = b % 192 := by rw [Int.tmod_eq_emod_of_nonneg (by omega), wrap_i64_small _ (by omega) (by omega)]
                have e2 : IntKind.i64.wrap (b.tdiv 192) = b / 192 := by rw [Int.tdiv_eq_ediv_of_nonneg (by omega), wrap_i64_small _ (by omega) (by omega)]
                by_cases hm : 0 < b % 192
                · have h4k : (n == b / 192 + 1) = false := by simp only [beq_iff_eq, beq_eq_false_iff_ne, ne_eq]; omega
                  clear h4
                  go_enter Try.func15, Try.ntmps15
                  go_wp2_with fail
                  go_ret
                  exact ⟨by first | rfl | simp only [h4k], (Below.refl _ _).alloc (Nat.le_refl _) _⟩
                · have h4k : (n == b / 192) = false := by simp only [beq_iff_eq, beq_eq_false_iff_ne, ne_eq]; omega
                  clear h4
                  go_enter Try.func15, Try.ntmps15
                  go_wp2_with fail
                  go_ret
                  exact ⟨by first | rfl | simp only [h4k], (Below.refl _ _).alloc (Nat.le_refl _) _⟩
            · clear h
              have s5 := str_size salt
              rw [h5] at s5
              have s6 := str_size root
              rw [h6] at s6
              have s7 := str_size tag
              rw [h7] at s7
              clear h5
              clear h6
              clear h7
              go_enter Try.func15, Try.ntmps15
              go_wp2_with fail
              all_goals
                first
                  | (go_ret; exact ⟨rfl, (Below.refl _ _).alloc (Nat.le_refl _) _⟩)
                  | (exfalso; omega)
          · clear h
            have s5 := str_size salt
            rw [h5] at s5
            have s6 := str_size root
            rw [h6] at s6
            have s7 := str_size tag
            rw [h7] at s7
            clear h5
            clear h6
            clear h7
            go_enter Try.func15, Try.ntmps15
            go_wp2_with fail
            all_goals
              first
                | (go_ret; exact ⟨rfl, (Below.refl _ _).alloc (Nat.le_refl _) _⟩)
                | (exfalso; omega)
        · clear h
          have s5 := str_size salt
          rw [h5] at s5
          have s6 := str_size root
          rw [h6] at s6
          have s7 := str_size tag
          have h7i : ((tag.length : Int) == 32) = false := by simp only [beq_eq_false_iff_ne, ne_eq]; omega
          have h7j : ((tag.length : Int) != 32) = true := by rw [bne, h7i]; rfl
          clear h5
          clear h6
          go_enter Try.func15, Try.ntmps15
          go_wp2_with fail
          all_goals
            first
              | (go_ret; exact ⟨rfl, (Below.refl _ _).alloc (Nat.le_refl _) _⟩)
              | (exfalso; omega)
      · clear h
        have s5 := str_size salt
        rw [h5] at s5
        have s6 := str_size root
        have s7 := str_size tag
        have h6i : ((root.length : Int) == 32) = false := by simp only [beq_eq_false_iff_ne, ne_eq]; omega
        have h6j : ((root.length : Int) != 32) = true := by rw [bne, h6i]; rfl
        clear h5
        go_enter Try.func15, Try.ntmps15
        go_wp2_with fail
        all_goals
          first
            | (go_ret; exact ⟨rfl, (Below.refl _ _).alloc (Nat.le_refl _) _⟩)
            | (exfalso; omega)
    · clear h
      have s5 := str_size salt
      have s6 := str_size root
      have s7 := str_size tag
      have h5i : ((salt.length : Int) == 16) = false := by simp only [beq_eq_false_iff_ne, ne_eq]; omega
      have h5j : ((salt.length : Int) != 16) = true := by rw [bne, h5i]; rfl
      go_enter Try.func15, Try.ntmps15
      go_wp2_with fail
      all_goals
        first
          | (go_ret; exact ⟨rfl, (Below.refl _ _).alloc (Nat.le_refl _) _⟩)
          | (exfalso; omega)
  · clear h
    have s5 := str_size salt
    have s6 := str_size root
    have s7 := str_size tag
    go_enter Try.func15, Try.ntmps15
    go_wp2_with fail
    all_goals
      first
        | (go_ret; exact ⟨rfl, (Below.refl _ _).alloc (Nat.le_refl _) _⟩)
        | (exfalso; omega)
end Go.Proofs.Ytabeehljpdehcaa
