/-
  Proved here: isDigit, isNameByte, isQuoted, isName of package show. Conditions: the tables.
-/
/-
  Proved here: isDigit, isNameByte, isQuoted, isName of package show. Conditions: the tables.
-/
/-
  Proved here: isDigit, isNameByte, isQuoted, isName of package show. Conditions: the tables.
-/
import Derived.Test.YtoncogkamlgjhaaGreatDoorFOS
import Derived.Test.YtoncogkamlgjhaaGreatDoorFJ5
namespace Go.Proofs.YtoncogkamlgjhaaGreatDoor
set_option maxRecDepth 100000
open Go.RowKit
set_option maxRecDepth 100000

theorem hdig_any (c : Nat) (w : World) : Calls Tryz.prog 37 #[.int .u8 ((c : Nat) : Int)] w fun e w' => e = .returned (.bool (isD c)) ∧ w' = w := by
  by_cases h1 : 48 ≤ c
  · have g1 : decide ((48 : Int) ≤ (c : Int)) = true := decide_eq_true (by omega)
    have hk : isD c = decide ((c : Int) ≤ 57) := by
      unfold isD; rw [decide_eq_true h1, Bool.true_and]; exact decide_eq_decide.2 (by omega)
    rw [hk]
    clear h1 hk
    go_enter Tryz.func37, Tryz.ntmps37
    go_wp2
    go_ret
    exact ⟨rfl, rfl⟩
  · have g1 : decide ((48 : Int) ≤ (c : Int)) = false := decide_eq_false (by omega)
    have hk : isD c = false := by unfold isD; rw [decide_eq_false h1, Bool.false_and]
    rw [hk]
    clear h1 hk
    go_enter Tryz.func37, Tryz.ntmps37
    go_wp2
    go_ret
    exact ⟨rfl, rfl⟩
set_option maxHeartbeats 3200000 in
theorem hnmb_any (c : Nat) (w : World) : Calls Tryz.prog 38 #[.int .u8 ((c : Nat) : Int)] w fun e w' => e = .returned (.bool (isN c)) ∧ w' = w := by
  have HD := hid (hdig_any c w)
  obtain ⟨r, hr⟩ : ∃ r, r = isN c := ⟨_, rfl⟩
  rw [← hr]
  have HR := hid hr
  clear hr
  cases hd : isD c with
  | true =>
    obtain rfl : r = true := by rw [HR.out]; unfold isN; rw [hd, Bool.or_true]
    rw [hd] at HD
    clear HR hd
    go_enter Tryz.func38, Tryz.ntmps38
    go_wp2_with (go_at_call 37; refine (HD.out).mono ?_; rintro e w' ⟨rfl, rfl⟩)
    go_ret
    exact ⟨rfl, rfl⟩
  | false =>
    rw [hd] at HD
    have HR2 : Hid (r = true ↔ ((65 ≤ c ∧ c ≤ 90) ∨ (97 ≤ c ∧ c ≤ 122) ∨ c = 95)) := by
      show _ ↔ _
      rw [HR.out]; unfold isN; rw [hd, Bool.or_false, isL_iff]
    clear HR hd
    by_cases h1 : 97 ≤ c
    · have g1 : decide ((97 : Int) ≤ (c : Int)) = true := decide_eq_true (by omega)
      by_cases h2 : c ≤ 122
      · have g2 : decide ((c : Int) ≤ 122) = true := decide_eq_true (by omega)
        obtain rfl : r = true := by exact HR2.out.2 (by omega)
        clear HR2
        try clear h1
        try clear h2
        try clear k1
        try clear k2
        try clear k5
        go_enter Tryz.func38, Tryz.ntmps38
        go_wp2_with (go_at_call 37; refine (HD.out).mono ?_; rintro e w' ⟨rfl, rfl⟩)
        go_ret
        exact ⟨rfl, rfl⟩
      · have g2 : decide ((c : Int) ≤ 122) = false := decide_eq_false (by omega)
        by_cases k1 : 65 ≤ c
        · have g3 : decide ((65 : Int) ≤ (c : Int)) = true := decide_eq_true (by omega)
          by_cases k2 : c ≤ 90
          · have g4 : decide ((c : Int) ≤ 90) = true := decide_eq_true (by omega)
            obtain rfl : r = true := by exact HR2.out.2 (by omega)
            clear HR2
            try clear h1
            try clear h2
            try clear k1
            try clear k2
            try clear k5
            go_enter Tryz.func38, Tryz.ntmps38
            go_wp2_with (go_at_call 37; refine (HD.out).mono ?_; rintro e w' ⟨rfl, rfl⟩)
            go_ret
            exact ⟨rfl, rfl⟩
          · have g4 : decide ((c : Int) ≤ 90) = false := decide_eq_false (by omega)
            by_cases k5 : c = 95
            · have g5 : (((c : Nat) : Int) == 95) = true := by rw [k5]; rfl
              obtain rfl : r = true := by exact HR2.out.2 (by omega)
              clear HR2
              try clear h1
              try clear h2
              try clear k1
              try clear k2
              try clear k5
              go_enter Tryz.func38, Tryz.ntmps38
              go_wp2_with (go_at_call 37; refine (HD.out).mono ?_; rintro e w' ⟨rfl, rfl⟩)
              go_ret
              exact ⟨rfl, rfl⟩
            · have g5 : (((c : Nat) : Int) == 95) = false := beq_eq_false_iff_ne.2 (by omega)
              obtain rfl : r = false := by rcases Bool.eq_false_or_eq_true r with h | h; exact absurd (HR2.out.1 h) (by omega); exact h
              clear HR2
              try clear h1
              try clear h2
              try clear k1
              try clear k2
              try clear k5
              go_enter Tryz.func38, Tryz.ntmps38
              go_wp2_with (go_at_call 37; refine (HD.out).mono ?_; rintro e w' ⟨rfl, rfl⟩)
              go_ret
              exact ⟨rfl, rfl⟩
        · have g3 : decide ((65 : Int) ≤ (c : Int)) = false := decide_eq_false (by omega)
          by_cases k5 : c = 95
          · have g5 : (((c : Nat) : Int) == 95) = true := by rw [k5]; rfl
            obtain rfl : r = true := by exact HR2.out.2 (by omega)
            clear HR2
            try clear h1
            try clear h2
            try clear k1
            try clear k2
            try clear k5
            go_enter Tryz.func38, Tryz.ntmps38
            go_wp2_with (go_at_call 37; refine (HD.out).mono ?_; rintro e w' ⟨rfl, rfl⟩)
            go_ret
            exact ⟨rfl, rfl⟩
          · have g5 : (((c : Nat) : Int) == 95) = false := beq_eq_false_iff_ne.2 (by omega)
            obtain rfl : r = false := by rcases Bool.eq_false_or_eq_true r with h | h; exact absurd (HR2.out.1 h) (by omega); exact h
            clear HR2
            try clear h1
            try clear h2
            try clear k1
            try clear k2
            try clear k5
            go_enter Tryz.func38, Tryz.ntmps38
            go_wp2_with (go_at_call 37; refine (HD.out).mono ?_; rintro e w' ⟨rfl, rfl⟩)
            go_ret
            exact ⟨rfl, rfl⟩
    · have g1 : decide ((97 : Int) ≤ (c : Int)) = false := decide_eq_false (by omega)
      by_cases k1 : 65 ≤ c
      · have g3 : decide ((65 : Int) ≤ (c : Int)) = true := decide_eq_true (by omega)
        by_cases k2 : c ≤ 90
        · have g4 : decide ((c : Int) ≤ 90) = true := decide_eq_true (by omega)
          obtain rfl : r = true := by exact HR2.out.2 (by omega)
          clear HR2
          try clear h1
          try clear h2
          try clear k1
          try clear k2
          try clear k5
          go_enter Tryz.func38, Tryz.ntmps38
          go_wp2_with (go_at_call 37; refine (HD.out).mono ?_; rintro e w' ⟨rfl, rfl⟩)
          go_ret
          exact ⟨rfl, rfl⟩
        · have g4 : decide ((c : Int) ≤ 90) = false := decide_eq_false (by omega)
          by_cases k5 : c = 95
          · have g5 : (((c : Nat) : Int) == 95) = true := by rw [k5]; rfl
            obtain rfl : r = true := by exact HR2.out.2 (by omega)
            clear HR2
            try clear h1
            try clear h2
            try clear k1
            try clear k2
            try clear k5
            go_enter Tryz.func38, Tryz.ntmps38
            go_wp2_with (go_at_call 37; refine (HD.out).mono ?_; rintro e w' ⟨rfl, rfl⟩)
            go_ret
            exact ⟨rfl, rfl⟩
          · have g5 : (((c : Nat) : Int) == 95) = false := beq_eq_false_iff_ne.2 (by omega)
            obtain rfl : r = false := by rcases Bool.eq_false_or_eq_true r with h | h; exact absurd (HR2.out.1 h) (by omega); exact h
            clear HR2
            try clear h1
            try clear h2
            try clear k1
            try clear k2
            try clear k5
            go_enter Tryz.func38, Tryz.ntmps38
            go_wp2_with (go_at_call 37; refine (HD.out).mono ?_; rintro e w' ⟨rfl, rfl⟩)
            go_ret
            exact ⟨rfl, rfl⟩
      · have g3 : decide ((65 : Int) ≤ (c : Int)) = false := decide_eq_false (by omega)
        by_cases k5 : c = 95
        · have g5 : (((c : Nat) : Int) == 95) = true := by rw [k5]; rfl
          obtain rfl : r = true := by exact HR2.out.2 (by omega)
          clear HR2
          try clear h1
          try clear h2
          try clear k1
          try clear k2
          try clear k5
          go_enter Tryz.func38, Tryz.ntmps38
          go_wp2_with (go_at_call 37; refine (HD.out).mono ?_; rintro e w' ⟨rfl, rfl⟩)
          go_ret
          exact ⟨rfl, rfl⟩
        · have g5 : (((c : Nat) : Int) == 95) = false := beq_eq_false_iff_ne.2 (by omega)
          obtain rfl : r = false := by rcases Bool.eq_false_or_eq_true r with h | h; exact absurd (HR2.out.1 h) (by omega); exact h
          clear HR2
          try clear h1
          try clear h2
          try clear k1
          try clear k2
          try clear k5
          go_enter Tryz.func38, Tryz.ntmps38
          go_wp2_with (go_at_call 37; refine (HD.out).mono ?_; rintro e w' ⟨rfl, rfl⟩)
          go_ret
          exact ⟨rfl, rfl⟩
end Go.Proofs.YtoncogkamlgjhaaGreatDoor
namespace Go.Proofs.YtoncogkamlgjhaaGreatDoor
set_option maxRecDepth 100000
open Go.RowKit
set_option maxRecDepth 100000

abbrev fns : Array Value := #[.string Qsrc, .string Qdst, .string Qkind, .string Qvlan, .string Qfrom, .string Qto, .string Qproto, .string Qsport, .string Qdport, .string Qport, .string Qswitch]
theorem fns_at : ∀ j, j < 11 → fns[j]? = some (.string (fnm j)) := by
  intro j hj
  have : j = 0 ∨ j = 1 ∨ j = 2 ∨ j = 3 ∨ j = 4 ∨ j = 5 ∨ j = 6 ∨ j = 7 ∨ j = 8 ∨ j = 9 ∨ j = 10 := by omega
  rcases this with rfl | rfl | rfl | rfl | rfl | rfl | rfl | rfl | rfl | rfl | rfl <;> rfl
theorem TabS.names {w : World} (h : TabS w) : w.rangeAt 1 0 fns.toList := fun j v hj => by
  have hj' : fns[j]? = some v := by simpa using hj
  have hl : j < 11 := (Array.getElem?_eq_some_iff.1 hj').1
  rw [fns_at j hl] at hj'
  rw [Nat.zero_add, h.fn j hl, hj']
theorem ixN (j : Nat) (hj : j < 11) (w : World) : (Instr.index 84 (.agg fns) (.int .i64 ((j : Nat) : Int))).run Tryz.prog w = .ok (.string (fnm j)) w := by
  have : j = 0 ∨ j = 1 ∨ j = 2 ∨ j = 3 ∨ j = 4 ∨ j = 5 ∨ j = 6 ∨ j = 7 ∨ j = 8 ∨ j = 9 ∨ j = 10 := by omega
  rcases this with rfl | rfl | rfl | rfl | rfl | rfl | rfl | rfl | rfl | rfl | rfl <;> (show _ = _; kernel_rfl)
theorem infoFN : (Tryz.prog.info? 84).map (·.size) = some fns.size := by kernel_rfl
theorem fd_none {s : ByteArray} (h : ∀ j, j < 11 → s ≠ fnm j) : fdOf s = none := by
  have h0 : s ≠ Qsrc := h 0 (by decide)
  have h1 : s ≠ Qdst := h 1 (by decide)
  have h2 : s ≠ Qkind := h 2 (by decide)
  have h3 : s ≠ Qvlan := h 3 (by decide)
  have h4 : s ≠ Qfrom := h 4 (by decide)
  have h5 : s ≠ Qto := h 5 (by decide)
  have h6 : s ≠ Qproto := h 6 (by decide)
  have h7 : s ≠ Qsport := h 7 (by decide)
  have h8 : s ≠ Qdport := h 8 (by decide)
  have h9 : s ≠ Qport := h 9 (by decide)
  have ha : s ≠ Qswitch := h 10 (by decide)
  unfold fdOf fdT
  simp [List.find?, h0, h1, h2, h3, h4, h5, h6, h7, h8, h9, ha]
set_option maxHeartbeats 3200000 in
theorem hquo_any (s : ByteArray) (w : World) (hT : TabS w) : Calls Tryz.prog 39 #[.string s] w fun e w' => e = .returned (.bool (isKw s)) ∧ w' = w := by
  have HN := hid hT.names
  clear hT
  have f0 : ∀ b, decide (s = Qid) = b → (s.toList == [105, 100]) = b := fun b hb => by have := str_b hb; rw [show (Qid).toList = [105, 100] by rw [ByteArray.toList_eq]] at this; exact this
  have f1 : ∀ b, decide (s = Qdrop) = b → (s.toList == [100, 114, 111, 112]) = b := fun b hb => by have := str_b hb; rw [show (Qdrop).toList = [100, 114, 111, 112] by rw [ByteArray.toList_eq]] at this; exact this
  have f2 : ∀ b, decide (s = Qfilter) = b → (s.toList == [102, 105, 108, 116, 101, 114]) = b := fun b hb => by have := str_b hb; rw [show (Qfilter).toList = [102, 105, 108, 116, 101, 114] by rw [ByteArray.toList_eq]] at this; exact this
  have f3 : ∀ b, decide (s = Qtrue) = b → (s.toList == [116, 114, 117, 101]) = b := fun b hb => by have := str_b hb; rw [show (Qtrue).toList = [116, 114, 117, 101] by rw [ByteArray.toList_eq]] at this; exact this
  have f4 : ∀ b, decide (s = Qfalse) = b → (s.toList == [102, 97, 108, 115, 101]) = b := fun b hb => by have := str_b hb; rw [show (Qfalse).toList = [102, 97, 108, 115, 101] by rw [ByteArray.toList_eq]] at this; exact this
  have f5 : ∀ b, decide (s = Qcount) = b → (s.toList == [99, 111, 117, 110, 116]) = b := fun b hb => by have := str_b hb; rw [show (Qcount).toList = [99, 111, 117, 110, 116] by rw [ByteArray.toList_eq]] at this; exact this
  have f6 : ∀ b, decide (s = Qif) = b → (s.toList == [105, 102]) = b := fun b hb => by have := str_b hb; rw [show (Qif).toList = [105, 102] by rw [ByteArray.toList_eq]] at this; exact this
  have f7 : ∀ b, decide (s = Qthen) = b → (s.toList == [116, 104, 101, 110]) = b := fun b hb => by have := str_b hb; rw [show (Qthen).toList = [116, 104, 101, 110] by rw [ByteArray.toList_eq]] at this; exact this
  have f8 : ∀ b, decide (s = Qelse) = b → (s.toList == [101, 108, 115, 101]) = b := fun b hb => by have := str_b hb; rw [show (Qelse).toList = [101, 108, 115, 101] by rw [ByteArray.toList_eq]] at this; exact this
  cases e0 : decide (s = Qid) with
  | true =>
    have HK : Hid (isKw s = true) := by show _ = _; unfold isKw kwT; simp only [List.any_cons, List.any_nil, e0]; simp
    replace f0 := f0 _ e0
    clear HN e0 f1 f2 f3 f4 f5 f6 f7 f8
    rw [HK.out]
    go_enter Tryz.func39, Tryz.ntmps39
    go_wp2
    go_ret
    exact ⟨rfl, rfl⟩
  | false =>
    cases e1 : decide (s = Qdrop) with
    | true =>
      have HK : Hid (isKw s = true) := by show _ = _; unfold isKw kwT; simp only [List.any_cons, List.any_nil, e0, e1]; simp
      replace f0 := f0 _ e0
      replace f1 := f1 _ e1
      clear HN e0 e1 f2 f3 f4 f5 f6 f7 f8
      rw [HK.out]
      go_enter Tryz.func39, Tryz.ntmps39
      go_wp2
      go_ret
      exact ⟨rfl, rfl⟩
    | false =>
      cases e2 : decide (s = Qfilter) with
      | true =>
        have HK : Hid (isKw s = true) := by show _ = _; unfold isKw kwT; simp only [List.any_cons, List.any_nil, e0, e1, e2]; simp
        replace f0 := f0 _ e0
        replace f1 := f1 _ e1
        replace f2 := f2 _ e2
        clear HN e0 e1 e2 f3 f4 f5 f6 f7 f8
        rw [HK.out]
        go_enter Tryz.func39, Tryz.ntmps39
        go_wp2
        go_ret
        exact ⟨rfl, rfl⟩
      | false =>
        cases e3 : decide (s = Qtrue) with
        | true =>
          have HK : Hid (isKw s = true) := by show _ = _; unfold isKw kwT; simp only [List.any_cons, List.any_nil, e0, e1, e2, e3]; simp
          replace f0 := f0 _ e0
          replace f1 := f1 _ e1
          replace f2 := f2 _ e2
          replace f3 := f3 _ e3
          clear HN e0 e1 e2 e3 f4 f5 f6 f7 f8
          rw [HK.out]
          go_enter Tryz.func39, Tryz.ntmps39
          go_wp2
          go_ret
          exact ⟨rfl, rfl⟩
        | false =>
          cases e4 : decide (s = Qfalse) with
          | true =>
            have HK : Hid (isKw s = true) := by show _ = _; unfold isKw kwT; simp only [List.any_cons, List.any_nil, e0, e1, e2, e3, e4]; simp
            replace f0 := f0 _ e0
            replace f1 := f1 _ e1
            replace f2 := f2 _ e2
            replace f3 := f3 _ e3
            replace f4 := f4 _ e4
            clear HN e0 e1 e2 e3 e4 f5 f6 f7 f8
            rw [HK.out]
            go_enter Tryz.func39, Tryz.ntmps39
            go_wp2
            go_ret
            exact ⟨rfl, rfl⟩
          | false =>
            cases e5 : decide (s = Qcount) with
            | true =>
              have HK : Hid (isKw s = true) := by show _ = _; unfold isKw kwT; simp only [List.any_cons, List.any_nil, e0, e1, e2, e3, e4, e5]; simp
              replace f0 := f0 _ e0
              replace f1 := f1 _ e1
              replace f2 := f2 _ e2
              replace f3 := f3 _ e3
              replace f4 := f4 _ e4
              replace f5 := f5 _ e5
              clear HN e0 e1 e2 e3 e4 e5 f6 f7 f8
              rw [HK.out]
              go_enter Tryz.func39, Tryz.ntmps39
              go_wp2
              go_ret
              exact ⟨rfl, rfl⟩
            | false =>
              cases e6 : decide (s = Qif) with
              | true =>
                have HK : Hid (isKw s = true) := by show _ = _; unfold isKw kwT; simp only [List.any_cons, List.any_nil, e0, e1, e2, e3, e4, e5, e6]; simp
                replace f0 := f0 _ e0
                replace f1 := f1 _ e1
                replace f2 := f2 _ e2
                replace f3 := f3 _ e3
                replace f4 := f4 _ e4
                replace f5 := f5 _ e5
                replace f6 := f6 _ e6
                clear HN e0 e1 e2 e3 e4 e5 e6 f7 f8
                rw [HK.out]
                go_enter Tryz.func39, Tryz.ntmps39
                go_wp2
                go_ret
                exact ⟨rfl, rfl⟩
              | false =>
                cases e7 : decide (s = Qthen) with
                | true =>
                  have HK : Hid (isKw s = true) := by show _ = _; unfold isKw kwT; simp only [List.any_cons, List.any_nil, e0, e1, e2, e3, e4, e5, e6, e7]; simp
                  replace f0 := f0 _ e0
                  replace f1 := f1 _ e1
                  replace f2 := f2 _ e2
                  replace f3 := f3 _ e3
                  replace f4 := f4 _ e4
                  replace f5 := f5 _ e5
                  replace f6 := f6 _ e6
                  replace f7 := f7 _ e7
                  clear HN e0 e1 e2 e3 e4 e5 e6 e7 f8
                  rw [HK.out]
                  go_enter Tryz.func39, Tryz.ntmps39
                  go_wp2
                  go_ret
                  exact ⟨rfl, rfl⟩
                | false =>
                  cases e8 : decide (s = Qelse) with
                  | true =>
                    have HK : Hid (isKw s = true) := by show _ = _; unfold isKw kwT; simp only [List.any_cons, List.any_nil, e0, e1, e2, e3, e4, e5, e6, e7, e8]; simp
                    replace f0 := f0 _ e0
                    replace f1 := f1 _ e1
                    replace f2 := f2 _ e2
                    replace f3 := f3 _ e3
                    replace f4 := f4 _ e4
                    replace f5 := f5 _ e5
                    replace f6 := f6 _ e6
                    replace f7 := f7 _ e7
                    replace f8 := f8 _ e8
                    clear HN e0 e1 e2 e3 e4 e5 e6 e7 e8 
                    rw [HK.out]
                    go_enter Tryz.func39, Tryz.ntmps39
                    go_wp2
                    go_ret
                    exact ⟨rfl, rfl⟩
                  | false =>
                    have HK0 : Hid (isKw s = (fdOf s).isSome) := by show _ = _; unfold isKw kwT; simp only [List.any_cons, List.any_nil, e0, e1, e2, e3, e4, e5, e6, e7, e8]; simp
                    replace f0 := f0 _ e0
                    replace f1 := f1 _ e1
                    replace f2 := f2 _ e2
                    replace f3 := f3 _ e3
                    replace f4 := f4 _ e4
                    replace f5 := f5 _ e5
                    replace f6 := f6 _ e6
                    replace f7 := f7 _ e7
                    replace f8 := f8 _ e8
                    obtain ⟨r, hr⟩ : ∃ r, r = isKw s := ⟨_, rfl⟩
                    rw [← hr]
                    have HR := hid hr
                    clear e0 e1 e2 e3 e4 e5 e6 e7 e8 hr
                    go_enter Tryz.func39, Tryz.ntmps39
                    go_upto_region 13 with (refine ldMid 84 (.global 1) rfl rfl 1 0 rfl fns _ Tryz.underlying84 rfl infoFN HN.out ?_)
                    clear f0 f1 f2 f3 f4 f5 f6 f7 f8
                    go_loop [17] (fun v => ∃ j : Nat, v = .int .i64 ((j : Nat) : Int) ∧ j ≤ 11 ∧ Hid (∀ i, i < j → s ≠ fnm i)) (fun v => 11 - (intOf v).toNat)
                    case atStart => exact ⟨0, rfl, by omega, fun i hi => by omega⟩
                    case round =>
                      obtain ⟨j, rfl, hj, HS⟩ := hrel
                      by_cases hl : j < 11
                      · have gl : decide ((j : Int) < 11) = true := decide_eq_true (by omega)
                        have hix := ixN j hl w
                        have hw1 : IntKind.i64.wrap ((j : Int) + 1) = (j : Int) + 1 := by rw [IntKind.wrap_i64]; omega
                        by_cases he : s = fnm j
                        · have g1 := str_b (decide_eq_true he)
                          obtain rfl : r = true := by rw [HR.out, HK0.out, he, (fnm_fd (by omega)).1]; rfl
                          generalize fnm j = q at hix g1
                          clear he HS HR HK0
                          go_wp2
                          go_ret
                          exact ⟨rfl, rfl⟩
                        · have g1 := str_b (decide_eq_false he)
                          have HS2 : Hid (∀ i, i < j + 1 → s ≠ fnm i) := fun i hi => by
                            rcases Nat.lt_or_eq_of_le (Nat.lt_succ_iff.1 hi) with h | h
                            · exact HS.out i h
                            · rw [h]; exact he
                          generalize fnm j = q at hix g1
                          clear he HS
                          go_wp2
                          go_round
                          case rel => exact ⟨j + 1, by go_num, by omega, HS2⟩
                          case measure => simp [intOf]; omega
                      · obtain rfl : j = 11 := by omega
                        have gl : decide (((11 : Nat) : Int) < 11) = false := by decide
                        obtain rfl : r = false := by rw [HR.out, HK0.out, fd_none HS.out]; rfl
                        clear HS HR HK0
                        go_wp2
                        go_ret
                        exact ⟨rfl, rfl⟩
end Go.Proofs.YtoncogkamlgjhaaGreatDoor
namespace Go.Proofs.YtoncogkamlgjhaaGreatDoor
set_option maxRecDepth 100000
open Go.RowKit
set_option maxRecDepth 100000

theorem isNm_no {s : ByteArray} {j : Nat} (hj : j < s.size) (h : isN (bt s j) = false) : isNm s = false := by
  cases hn : isNm s with
  | false => rfl
  | true =>
    unfold isNm at hn
    simp only [Bool.and_eq_true, decide_eq_true_eq, Bool.not_eq_true', List.all_eq_true] at hn
    have hl : j < s.data.toList.length := by rw [← size_list]; exact hj
    have := hn.1.2 _ (List.getElem_mem hl)
    have e : bt s j = (s.data.toList[j]).toNat := by rw [bt_list, List.getElem?_eq_getElem hl]; rfl
    rw [← e, h] at this
    cases this
set_option maxHeartbeats 1600000 in
theorem hname_any (s : ByteArray) (w : World) (hT : TabS w) : Calls Tryz.prog 22 #[.string s] w fun e w' => e = .returned (.bool (isNm s)) ∧ w' = w := by
  have HQ := hid (hquo_any s w hT)
  clear hT
  obtain ⟨r, hr⟩ : ∃ r, r = isNm s := ⟨_, rfl⟩
  rw [← hr]
  have HR := hid hr
  clear hr
  by_cases h0 : s.size = 0
  · have hs : s = ⟨#[]⟩ := ByteArray.ext (Array.eq_empty_of_size_eq_zero h0)
    obtain rfl : r = false := by rw [HR.out, hs]; rfl
    have g0 := str_b (decide_eq_true hs)
    have g0' : (s.toList == []) = true := by rw [hs, ByteArray.toList_eq]; rfl
    clear HR HQ h0 g0
    clear hs
    go_enter Tryz.func22, Tryz.ntmps22
    go_wp2
    go_ret
    exact ⟨rfl, rfl⟩
  have g0 : (s.toList == []) = false := by
    have := str_b (b := false) (decide_eq_false (show ¬ s = ⟨#[]⟩ from fun e => h0 (by rw [e]; rfl)))
    rw [show (⟨#[]⟩ : ByteArray).toList = [] by rw [ByteArray.toList_eq]] at this
    exact this
  by_cases h1 : 32 < s.size
  · have g1 : decide ((32 : Int) < (s.size : Int)) = true := decide_eq_true (by omega)
    obtain rfl : r = false := by rw [HR.out]; unfold isNm; rw [decide_eq_false (show ¬ s.size ≤ 32 by omega)]; simp
    clear HR HQ
    go_enter Tryz.func22, Tryz.ntmps22
    go_wp2
    go_ret
    exact ⟨rfl, rfl⟩
  have g1 : decide ((32 : Int) < (s.size : Int)) = false := decide_eq_false (by omega)
  have hp : 0 < s.size := by omega
  have hix : (Instr.index 9 (.string s) (.int .i64 0)).run Tryz.prog w = .ok (.int .u8 ((bt s 0 : Nat) : Int)) w := run_bt s 0 hp w
  have HD := hid (hdig_any (bt s 0) w)
  cases hd : isD (bt s 0) with
  | true =>
    obtain rfl : r = false := by rw [HR.out]; unfold isNm; rw [hd]; simp
    rw [hd] at HD
    clear HR HQ hd
    generalize bt s 0 = c at hix HD
    go_enter Tryz.func22, Tryz.ntmps22
    go_wp2_with (go_at_call 37; refine (HD.out).mono ?_; rintro e w' ⟨rfl, rfl⟩)
    go_ret
    exact ⟨rfl, rfl⟩
  | false =>
    have HR2 : Hid ((∀ j, j < s.size → isN (bt s j) = true) → r = !isKw s) := fun h => by
      have ha : s.data.toList.all (fun c => isN c.toNat) = true := by
        rw [List.all_eq_true]
        intro c hc
        obtain ⟨k, hk, rfl⟩ := List.mem_iff_getElem.1 hc
        have := h k (by rw [size_list]; exact hk)
        rw [bt_list, List.getElem?_eq_getElem hk] at this
        exact this
      rw [HR.out]; unfold isNm; rw [hd, ha, decide_eq_true hp, decide_eq_true (show s.size ≤ 32 by omega)]; simp
    rw [hd] at HD
    clear hd
    generalize bt s 0 = c0 at hix HD
    go_enter Tryz.func22, Tryz.ntmps22
    go_upto_region 4 with (go_at_call 37; refine (HD.out).mono ?_; rintro e w' ⟨rfl, hw⟩; rw [hw]; clear hw w')
    clear hix HD g0
    go_loop [18] (fun v => ∃ j : Nat, v = .int .i64 ((j : Nat) : Int) ∧ j ≤ s.size ∧ Hid (∀ i, i < j → isN (bt s i) = true)) (fun v => s.size - (intOf v).toNat)
    case atStart => exact ⟨0, rfl, by omega, fun i hi => by omega⟩
    case round =>
      obtain ⟨j, rfl, hj, HS⟩ := hrel
      by_cases hl : j < s.size
      · have gl : decide ((j : Int) < (s.size : Int)) = true := decide_eq_true (by omega)
        have hix := run_bt s j hl w
        have hw1 : IntKind.i64.wrap ((j : Int) + 1) = (j : Int) + 1 := by rw [IntKind.wrap_i64]; omega
        have HB := hid (hnmb_any (bt s j) w)
        cases hb : isN (bt s j) with
        | false =>
          obtain rfl : r = false := by rw [HR.out]; exact isNm_no hl hb
          rw [hb] at HB
          clear HR HR2 HS hb HQ
          generalize bt s j = c at hix HB
          go_wp2_with (go_at_call 38; refine (HB.out).mono ?_; rintro e w' ⟨rfl, rfl⟩)
          go_ret
          exact ⟨rfl, rfl⟩
        | true =>
          have HS2 : Hid (∀ i, i < j + 1 → isN (bt s i) = true) := fun i hi => by
            rcases Nat.lt_or_eq_of_le (Nat.lt_succ_iff.1 hi) with h | h
            · exact HS.out i h
            · rw [h]; exact hb
          rw [hb] at HB
          clear HS hb
          generalize bt s j = c at hix HB
          go_wp2_with (go_at_call 38; refine (HB.out).mono ?_; rintro e w' ⟨rfl, rfl⟩)
          go_round
          case rel => exact ⟨j + 1, by go_num, by omega, HS2⟩
          case measure => simp [intOf]; omega
      · obtain rfl : j = s.size := by omega
        have gl : decide ((s.size : Int) < (s.size : Int)) = false := by simp
        obtain rfl : r = !isKw s := HR2.out HS.out
        clear HR HR2 HS
        go_wp2_with (go_at_call 39; refine (HQ.out).mono ?_; rintro e w' ⟨rfl, rfl⟩)
        go_ret
        exact ⟨rfl, rfl⟩
end Go.Proofs.YtoncogkamlgjhaaGreatDoor
