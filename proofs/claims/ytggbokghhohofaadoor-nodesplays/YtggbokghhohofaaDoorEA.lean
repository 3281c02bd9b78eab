/-
  Proved here: the document's own answer for layer 20: Width and Fits; order of rows, by its sign. Condition: the rows lie where they are said to.
-/
import Derived.Test.YtggbokghhohofaaDoorCI
namespace Go.Proofs.YtggbokghhohofaaDoor
open Go.RowKit
set_option maxRecDepth 100000

def wdI (f : Int) : Nat := if 0 ≤ f ∧ f < 11 then wdt f.toNat else 0
theorem rwd_in (f : Int) (h : 0 ≤ f ∧ f < 11) (w : World) : Calls Tryd.prog 45 #[.int .i8 f] w fun e w' => e = .returned (.int .i64 ((wdI f : Nat) : Int)) ∧ w' = w := by
  have hf : f = 0 ∨ f = 1 ∨ f = 2 ∨ f = 3 ∨ f = 4 ∨ f = 5 ∨ f = 6 ∨ f = 7 ∨ f = 8 ∨ f = 9 ∨ f = 10 := by omega
  clear h
  rcases hf with rfl | rfl | rfl | rfl | rfl | rfl | rfl | rfl | rfl | rfl | rfl
  all_goals
    go_enter Tryd.func45, Tryd.ntmps45
    go_wp2
    go_ret
    exact ⟨rfl, rfl⟩
theorem rwd_out (f : Int) (h : ¬ (0 ≤ f ∧ f < 11)) (w : World) : Calls Tryd.prog 45 #[.int .i8 f] w fun e w' => e = .returned (.int .i64 ((wdI f : Nat) : Int)) ∧ w' = w := by
  have e0 : wdI f = 0 := if_neg h
  rw [e0]
  have t0 : (f == 0) = false := beq_eq_false_iff_ne.2 (by omega)
  have t1 : (f == 1) = false := beq_eq_false_iff_ne.2 (by omega)
  have t2 : (f == 2) = false := beq_eq_false_iff_ne.2 (by omega)
  have t3 : (f == 3) = false := beq_eq_false_iff_ne.2 (by omega)
  have t4 : (f == 4) = false := beq_eq_false_iff_ne.2 (by omega)
  have t5 : (f == 5) = false := beq_eq_false_iff_ne.2 (by omega)
  have t6 : (f == 6) = false := beq_eq_false_iff_ne.2 (by omega)
  have t7 : (f == 7) = false := beq_eq_false_iff_ne.2 (by omega)
  have t8 : (f == 8) = false := beq_eq_false_iff_ne.2 (by omega)
  have t9 : (f == 9) = false := beq_eq_false_iff_ne.2 (by omega)
  have t10 : (f == 10) = false := beq_eq_false_iff_ne.2 (by omega)
  clear h e0
  go_enter Tryd.func45, Tryd.ntmps45
  go_wp2
  go_ret
  exact ⟨rfl, rfl⟩
theorem rwd_any (f : Int) (w : World) : Calls Tryd.prog 45 #[.int .i8 f] w fun e w' => e = .returned (.int .i64 ((wdI f : Nat) : Int)) ∧ w' = w := by
  by_cases h : 0 ≤ f ∧ f < 11
  · exact rwd_in f h w
  · exact rwd_out f h w
theorem wdt_pos (f : Nat) (h : f < 11) : 0 < wdt f := by
  have : f = 0 ∨ f = 1 ∨ f = 2 ∨ f = 3 ∨ f = 4 ∨ f = 5 ∨ f = 6 ∨ f = 7 ∨ f = 8 ∨ f = 9 ∨ f = 10 := by omega
  rcases this with rfl | rfl | rfl | rfl | rfl | rfl | rfl | rfl | rfl | rfl | rfl <;> decide
theorem rfits_any (fd n : Int) (hn : InB n) (w : World) : Calls Tryd.prog 30 #[.int .i8 fd, .int .u64 n] w fun e w' => e = .returned (.bool (fitB fd n)) ∧ w' = w := by
  have HW := hid (rwd_any fd w)
  by_cases h : 0 ≤ fd ∧ fd < 11
  · have e1 : wdI fd = wdt fd.toNat := if_pos h
    have e2 : fitB fd n = decide (n / 2 ^ wdt fd.toNat = 0) := by unfold fitB; rw [decide_eq_true h.1, decide_eq_true h.2]; rfl
    have hp := wdt_pos fd.toNat (by omega)
    have hb := wdt_bd fd.toNat
    rw [e1] at HW
    rw [e2]
    obtain ⟨h0, h3⟩ := hn
    generalize wdt fd.toNat = x at HW hp hb ⊢
    have d1 : decide ((0 : Int) < (x : Int)) = true := decide_eq_true (by omega)
    clear h e1 e2
    go_enter Tryd.func30, Tryd.ntmps30
    go_wp2_with (go_at_call 45; refine (HW.out).mono ?_; rintro e w' ⟨rfl, rfl⟩)
    go_ret
    refine ⟨?_, rfl⟩
    first | rfl | simp
  · have e1 : wdI fd = 0 := if_neg h
    have e2 : fitB fd n = false := by
      unfold fitB
      by_cases h1 : 0 ≤ fd
      · rw [decide_eq_false (show ¬ fd < 11 from fun h2 => h ⟨h1, h2⟩)]; simp
      · rw [decide_eq_false h1]; simp
    rw [e1] at HW
    rw [e2]
    clear h e1 e2 hn
    go_enter Tryd.func30, Tryd.ntmps30
    go_wp2_with (go_at_call 45; refine (HW.out).mono ?_; rintro e w' ⟨rfl, rfl⟩)
    go_ret
    exact ⟨rfl, rfl⟩
theorem ord_fd {x y : Ac} (l m : List Ac) (h : x.fd ≠ y.fd) : (x.fd - y.fd < 0 ↔ cmpR (x :: l) (y :: m) < 0) ∧ (x.fd - y.fd = 0 ↔ cmpR (x :: l) (y :: m) = 0) := by
  have h1 : cmpI x.fd y.fd ≠ 0 := fun e => h (cmpI_eq.1 e)
  have h2 : cmpS x y = cmpI x.fd y.fd := by unfold cmpS orI; rw [if_neg h1]
  have h3 : cmpR (x :: l) (y :: m) = cmpI x.fd y.fd := by unfold cmpR; rw [h2, if_neg h1]
  rw [h3, cmpI_lt, cmpI_eq]
  omega
theorem ord_n {x y : Ac} (l m : List Ac) (h : x.fd = y.fd) (hn : x.n ≠ y.n) : cmpR (x :: l) (y :: m) = cmpI x.n y.n := by
  have h1 : cmpI x.fd y.fd = 0 := cmpI_eq.2 h
  have h2 : cmpS x y = cmpI x.n y.n := by unfold cmpS orI; rw [if_pos h1]
  have h4 : cmpI x.n y.n ≠ 0 := fun e => hn (cmpI_eq.1 e)
  unfold cmpR
  rw [h2, if_neg h4]
theorem ord_eq {x y : Ac} (l m : List Ac) (h : x.fd = y.fd) (hn : x.n = y.n) : cmpR (x :: l) (y :: m) = cmpR l m := by
  have h2 : cmpS x y = 0 := by unfold cmpS orI; rw [if_pos (cmpI_eq.2 h)]; exact cmpI_eq.2 hn
  rw [cmpR, if_pos h2]
theorem ord_end {a b : List Ac} {i : Nat} (hi : i ≤ a.length) (hj : i ≤ b.length) (h : i = a.length ∨ i = b.length) : ((a.length : Int) - (b.length : Int) < 0 ↔ cmpR (a.drop i) (b.drop i) < 0) ∧ ((a.length : Int) - (b.length : Int) = 0 ↔ cmpR (a.drop i) (b.drop i) = 0) := by
  cases hA : a.drop i with
  | nil =>
    have h1 : a.length = i := by have := congrArg List.length hA; simp at this; omega
    cases hB : b.drop i with
    | nil =>
      have h2 : b.length = i := by have := congrArg List.length hB; simp at this; omega
      rw [show cmpR [] [] = 0 from rfl]; omega
    | cons y m =>
      have h2 : i < b.length := by have := congrArg List.length hB; simp at this; omega
      rw [show cmpR [] (y :: m) = -1 from rfl]; omega
  | cons x l =>
    have h1 : i < a.length := by have := congrArg List.length hA; simp at this; omega
    have h3 : b.length = i := by omega
    have hB : b.drop i = [] := List.drop_eq_nil_of_le (by omega)
    rw [hB, show cmpR (x :: l) [] = 1 from rfl]; omega
/-- What a comparison of two settings reads. -/
structure Hor (g1 j1 g2 j2 : Nat) (x y : Ac) (w : World) : Prop where
  f1 : w.cell? ⟨g1, j1 + 1, none⟩ = some (.int .i8 x.fd)
  f2 : w.cell? ⟨g2, j2 + 1, none⟩ = some (.int .i8 y.fd)
  n1 : w.cell? ⟨g1, j1 + 2, none⟩ = some (.int .u64 x.n)
  n2 : w.cell? ⟨g2, j2 + 2, none⟩ = some (.int .u64 y.n)
theorem Hor.dr {g1 j1 g2 j2 : Nat} {x y : Ac} {w : World} (h : Hor g1 j1 g2 j2 x y w) : Hor g1 j1 g2 j2 x y w.drew := ⟨h.f1, h.f2, h.n1, h.n2⟩
set_option maxHeartbeats 12800000 in
theorem order_any {T T' : Nat → Prop} (w : World) (u v : Value) (a b : List Ac) (ha : Acs T w u a) (hb : Acs T' w v b) : Calls Tryd.prog 40 #[u, v] w fun e w' => ∃ z : Int, e = .returned (.int .i64 z) ∧ (z < 0 ↔ cmpR a b < 0) ∧ (z = 0 ↔ cmpR a b = 0) ∧ Below w.heap.size w w' := by
  obtain ⟨a0, k0, rfl, hk0⟩ := ha.form
  obtain ⟨a1, k1, rfl, hk1⟩ := hb.form
  have hla := ha.len
  have hlb := hb.len
  have HA := hid (And.intro ha hb)
  clear ha hb
  go_enter Tryd.func40, Tryd.ntmps40
  go_upto_region 2 with fail
  go_loopw [5] (fun si wr => ∃ i : Nat, si = .int .i64 ((i : Nat) : Int) ∧ i ≤ a.length ∧ i ≤ b.length ∧ Hid (cmpR a b = cmpR (a.drop i) (b.drop i)) ∧ Hid (Below w.heap.size w wr)) (fun si _ => a.length - (intOf si).toNat)
  case atStart => exact ⟨0, rfl, Nat.zero_le _, Nat.zero_le _, by show _ = _; simp, Below.refl _ _⟩
  case round =>
    obtain ⟨i, rfl, hi1, hi2, HC, HB⟩ := hrel
    by_cases hi : i < a.length
    · have d1 : decide ((i : Int) < (a.length : Int)) = true := by simp; omega
      by_cases hj : i < b.length
      · have d2 : decide ((i : Int) < (b.length : Int)) = true := by simp; omega
        have hiw : IntKind.i64.wrap ((i : Int) + 1) = (i : Int) + 1 := by rw [IntKind.wrap_i64]; omega
        obtain ⟨g1, j1, rfl, -, -, hr1, hf1⟩ := (HA.out.1.on HB.out).at i hi
        obtain ⟨g2, j2, rfl, -, -, hr2, hf2⟩ := (HA.out.2.on HB.out).at i hj
        have HH : Hid (Hor g1 (j1 + i * 3) g2 (j2 + i * 3) a[i] b[i] wr) := ⟨hr1 1 _ rfl, hr2 1 _ rfl, hr1 2 _ rfl, hr2 2 _ rfl⟩
        have HD : Hid (a.drop i = a[i] :: a.drop (i + 1) ∧ b.drop i = b[i] :: b.drop (i + 1)) := ⟨List.drop_eq_getElem_cons hi, List.drop_eq_getElem_cons hj⟩
        have hik : i < k0 := by omega
        have hjk : i < k1 := by omega
        clear hr1 hr2
        generalize a[i] = x at HH HD hf1
        generalize b[i] = y at HH HD hf2
        obtain ⟨-, ⟨xf1, xf2⟩, -⟩ := hf1
        obtain ⟨-, ⟨yf1, yf2⟩, -⟩ := hf2
        go_upto_region 4 with fail
        refine wp_region_held_drew (S := Hor g1 (j1 + i * 3) g2 (j2 + i * 3) x y) (by kernel_rfl) HH.out.dr (fun hHeld => ?_)
        refine wpAnyH_take (i := 0) (v := ?_) rfl (by kernel_rfl) (by kernel_rfl) (by kernel_rfl) (fun _ _ _ h => h) (Or.inl ⟨by rfl, ?_⟩) hHeld ?_
        rotate_left
        · intro w' hSw
          clear hSw
          go_simp
          first | done | with_reducible rfl
        simp only [Act.put, List.getElem_toArray, List.getElem_cons_zero, List.setIfInBounds_toArray, List.set_cons_zero, List.set_cons_succ]
        refine wpAnyH_take (i := 1) (v := ?_) rfl (by kernel_rfl) (by kernel_rfl) (by kernel_rfl) (fun _ _ _ h => h) (Or.inl ⟨by rfl, ?_⟩) hHeld ?_
        rotate_left
        · intro w' hSw
          clear hSw
          go_simp
          first | done | with_reducible rfl
        simp only [Act.put, List.getElem_toArray, List.getElem_cons_succ, List.getElem_cons_zero, List.setIfInBounds_toArray, List.set_cons_zero, List.set_cons_succ]
        refine wpAnyH_take (i := 2) (v := ?_) rfl (by kernel_rfl) (by kernel_rfl) (by kernel_rfl) (fun _ _ _ h => h) (Or.inl ⟨by rfl, ?_⟩) hHeld ?_
        rotate_left
        · intro w' hSw
          clear hSw
          go_simp
          first | done | with_reducible rfl
        simp only [Act.put, List.getElem_toArray, List.getElem_cons_succ, List.getElem_cons_zero, List.setIfInBounds_toArray, List.set_cons_zero, List.set_cons_succ]
        refine wpAnyH_take (i := 3) (v := ?_) rfl (by kernel_rfl) (by kernel_rfl) (by kernel_rfl) (fun _ _ _ h => h) (Or.inl ⟨by rfl, ?_⟩) hHeld ?_
        rotate_left
        · intro w' hSw
          clear hSw
          go_simp
          first | done | with_reducible rfl
        simp only [Act.put, List.getElem_toArray, List.getElem_cons_succ, List.getElem_cons_zero, List.setIfInBounds_toArray, List.set_cons_zero, List.set_cons_succ]
        refine wpAnyH_take (i := 4) (v := ?_) rfl (by kernel_rfl) (by kernel_rfl) (by kernel_rfl) (fun _ _ _ h => h) (Or.inl ⟨by rfl, ?_⟩) hHeld ?_
        rotate_left
        · intro w' hSw
          have f1 := hSw.f1
          clear hSw
          go_simp
          first | done | with_reducible rfl
        simp only [Act.put, List.getElem_toArray, List.getElem_cons_succ, List.getElem_cons_zero, List.setIfInBounds_toArray, List.set_cons_zero, List.set_cons_succ]
        refine wpAnyH_take (i := 5) (v := ?_) rfl (by kernel_rfl) (by kernel_rfl) (by kernel_rfl) (fun _ _ _ h => h) (Or.inl ⟨by rfl, ?_⟩) hHeld ?_
        rotate_left
        · intro w' hSw
          clear hSw
          go_simp
          first | done | with_reducible rfl
        simp only [Act.put, List.getElem_toArray, List.getElem_cons_succ, List.getElem_cons_zero, List.setIfInBounds_toArray, List.set_cons_zero, List.set_cons_succ]
        refine wpAnyH_take (i := 6) (v := ?_) rfl (by kernel_rfl) (by kernel_rfl) (by kernel_rfl) (fun _ _ _ h => h) (Or.inl ⟨by rfl, ?_⟩) hHeld ?_
        rotate_left
        · intro w' hSw
          clear hSw
          go_simp
          first | done | with_reducible rfl
        simp only [Act.put, List.getElem_toArray, List.getElem_cons_succ, List.getElem_cons_zero, List.setIfInBounds_toArray, List.set_cons_zero, List.set_cons_succ]
        refine wpAnyH_take (i := 7) (v := ?_) rfl (by kernel_rfl) (by kernel_rfl) (by kernel_rfl) (fun _ _ _ h => h) (Or.inl ⟨by rfl, ?_⟩) hHeld ?_
        rotate_left
        · intro w' hSw
          clear hSw
          go_simp
          first | done | with_reducible rfl
        simp only [Act.put, List.getElem_toArray, List.getElem_cons_succ, List.getElem_cons_zero, List.setIfInBounds_toArray, List.set_cons_zero, List.set_cons_succ]
        refine wpAnyH_take (i := 8) (v := ?_) rfl (by kernel_rfl) (by kernel_rfl) (by kernel_rfl) (fun _ _ _ h => h) (Or.inl ⟨by rfl, ?_⟩) hHeld ?_
        rotate_left
        · intro w' hSw
          clear hSw
          go_simp
          first | done | with_reducible rfl
        simp only [Act.put, List.getElem_toArray, List.getElem_cons_succ, List.getElem_cons_zero, List.setIfInBounds_toArray, List.set_cons_zero, List.set_cons_succ]
        refine wpAnyH_take (i := 9) (v := ?_) rfl (by kernel_rfl) (by kernel_rfl) (by kernel_rfl) (fun _ _ _ h => h) (Or.inl ⟨by rfl, ?_⟩) hHeld ?_
        rotate_left
        · intro w' hSw
          have f2 := hSw.f2
          clear hSw
          go_simp
          first | done | with_reducible rfl
        simp only [Act.put, List.getElem_toArray, List.getElem_cons_succ, List.getElem_cons_zero, List.setIfInBounds_toArray, List.set_cons_zero, List.set_cons_succ]
        refine wpAnyH_take (i := 10) (v := ?_) rfl (by kernel_rfl) (by kernel_rfl) (by kernel_rfl) (fun _ _ _ h => h) (Or.inl ⟨by rfl, ?_⟩) hHeld ?_
        rotate_left
        · intro w' hSw
          clear hSw
          go_simp
          first | done | with_reducible rfl
        simp only [Act.put, List.getElem_toArray, List.getElem_cons_succ, List.getElem_cons_zero, List.setIfInBounds_toArray, List.set_cons_zero, List.set_cons_succ]
        refine wpAnyH_done (by kernel_rfl) ?_ _
        clear hHeld
        have HB1 : Hid (Below w.heap.size w wr.drew) := HB.out.trans ((Gro.refl _).drew.below.mono HB.out.size)
        have HH1 := hid HH.out.dr
        clear HB HH
        generalize wr.drew = W1 at HB1 HH1 ⊢
        by_cases hf : x.fd = y.fd
        · have t1 : (x.fd != y.fd) = false := by simp [hf]
          go_upto_region 6 with fail
          clear t1
          refine wp_region_held_drew (S := Hor g1 (j1 + i * 3) g2 (j2 + i * 3) x y) (by kernel_rfl) HH1.out.dr (fun hHeld => ?_)
          refine wpAnyH_take (i := 0) (v := ?_) rfl (by kernel_rfl) (by kernel_rfl) (by kernel_rfl) (fun _ _ _ h => h) (Or.inl ⟨by rfl, ?_⟩) hHeld ?_
          rotate_left
          · intro w' hSw
            clear hSw
            go_simp
            first | done | with_reducible rfl
          simp only [Act.put, List.getElem_toArray, List.getElem_cons_zero, List.setIfInBounds_toArray, List.set_cons_zero, List.set_cons_succ]
          refine wpAnyH_take (i := 1) (v := ?_) rfl (by kernel_rfl) (by kernel_rfl) (by kernel_rfl) (fun _ _ _ h => h) (Or.inl ⟨by rfl, ?_⟩) hHeld ?_
          rotate_left
          · intro w' hSw
            clear hSw
            go_simp
            first | done | with_reducible rfl
          simp only [Act.put, List.getElem_toArray, List.getElem_cons_succ, List.getElem_cons_zero, List.setIfInBounds_toArray, List.set_cons_zero, List.set_cons_succ]
          refine wpAnyH_take (i := 2) (v := ?_) rfl (by kernel_rfl) (by kernel_rfl) (by kernel_rfl) (fun _ _ _ h => h) (Or.inl ⟨by rfl, ?_⟩) hHeld ?_
          rotate_left
          · intro w' hSw
            clear hSw
            go_simp
            first | done | with_reducible rfl
          simp only [Act.put, List.getElem_toArray, List.getElem_cons_succ, List.getElem_cons_zero, List.setIfInBounds_toArray, List.set_cons_zero, List.set_cons_succ]
          refine wpAnyH_take (i := 3) (v := ?_) rfl (by kernel_rfl) (by kernel_rfl) (by kernel_rfl) (fun _ _ _ h => h) (Or.inl ⟨by rfl, ?_⟩) hHeld ?_
          rotate_left
          · intro w' hSw
            clear hSw
            go_simp
            first | done | with_reducible rfl
          simp only [Act.put, List.getElem_toArray, List.getElem_cons_succ, List.getElem_cons_zero, List.setIfInBounds_toArray, List.set_cons_zero, List.set_cons_succ]
          refine wpAnyH_take (i := 4) (v := ?_) rfl (by kernel_rfl) (by kernel_rfl) (by kernel_rfl) (fun _ _ _ h => h) (Or.inl ⟨by rfl, ?_⟩) hHeld ?_
          rotate_left
          · intro w' hSw
            have n1 := hSw.n1
            clear hSw
            go_simp
            first | done | with_reducible rfl
          simp only [Act.put, List.getElem_toArray, List.getElem_cons_succ, List.getElem_cons_zero, List.setIfInBounds_toArray, List.set_cons_zero, List.set_cons_succ]
          refine wpAnyH_take (i := 5) (v := ?_) rfl (by kernel_rfl) (by kernel_rfl) (by kernel_rfl) (fun _ _ _ h => h) (Or.inl ⟨by rfl, ?_⟩) hHeld ?_
          rotate_left
          · intro w' hSw
            clear hSw
            go_simp
            first | done | with_reducible rfl
          simp only [Act.put, List.getElem_toArray, List.getElem_cons_succ, List.getElem_cons_zero, List.setIfInBounds_toArray, List.set_cons_zero, List.set_cons_succ]
          refine wpAnyH_take (i := 6) (v := ?_) rfl (by kernel_rfl) (by kernel_rfl) (by kernel_rfl) (fun _ _ _ h => h) (Or.inl ⟨by rfl, ?_⟩) hHeld ?_
          rotate_left
          · intro w' hSw
            clear hSw
            go_simp
            first | done | with_reducible rfl
          simp only [Act.put, List.getElem_toArray, List.getElem_cons_succ, List.getElem_cons_zero, List.setIfInBounds_toArray, List.set_cons_zero, List.set_cons_succ]
          refine wpAnyH_take (i := 7) (v := ?_) rfl (by kernel_rfl) (by kernel_rfl) (by kernel_rfl) (fun _ _ _ h => h) (Or.inl ⟨by rfl, ?_⟩) hHeld ?_
          rotate_left
          · intro w' hSw
            clear hSw
            go_simp
            first | done | with_reducible rfl
          simp only [Act.put, List.getElem_toArray, List.getElem_cons_succ, List.getElem_cons_zero, List.setIfInBounds_toArray, List.set_cons_zero, List.set_cons_succ]
          refine wpAnyH_take (i := 8) (v := ?_) rfl (by kernel_rfl) (by kernel_rfl) (by kernel_rfl) (fun _ _ _ h => h) (Or.inl ⟨by rfl, ?_⟩) hHeld ?_
          rotate_left
          · intro w' hSw
            clear hSw
            go_simp
            first | done | with_reducible rfl
          simp only [Act.put, List.getElem_toArray, List.getElem_cons_succ, List.getElem_cons_zero, List.setIfInBounds_toArray, List.set_cons_zero, List.set_cons_succ]
          refine wpAnyH_take (i := 9) (v := ?_) rfl (by kernel_rfl) (by kernel_rfl) (by kernel_rfl) (fun _ _ _ h => h) (Or.inl ⟨by rfl, ?_⟩) hHeld ?_
          rotate_left
          · intro w' hSw
            have n2 := hSw.n2
            clear hSw
            go_simp
            first | done | with_reducible rfl
          simp only [Act.put, List.getElem_toArray, List.getElem_cons_succ, List.getElem_cons_zero, List.setIfInBounds_toArray, List.set_cons_zero, List.set_cons_succ]
          refine wpAnyH_take (i := 10) (v := ?_) rfl (by kernel_rfl) (by kernel_rfl) (by kernel_rfl) (fun _ _ _ h => h) (Or.inl ⟨by rfl, ?_⟩) hHeld ?_
          rotate_left
          · intro w' hSw
            clear hSw
            go_simp
            first | done | with_reducible rfl
          simp only [Act.put, List.getElem_toArray, List.getElem_cons_succ, List.getElem_cons_zero, List.setIfInBounds_toArray, List.set_cons_zero, List.set_cons_succ]
          refine wpAnyH_done (by kernel_rfl) ?_ _
          clear hHeld
          have HB2 : Hid (Below w.heap.size w W1.drew) := HB1.out.trans ((Gro.refl _).drew.below.mono HB1.out.size)
          have HH2 := hid HH1.out.dr
          clear HB1 HH1
          generalize W1.drew = W2 at HB2 HH2 ⊢
          by_cases hn : x.n < y.n
          · have t2 : decide (x.n < y.n) = true := decide_eq_true hn
            have HE : Hid (cmpR a b = -1) := by show _ = _; rw [HC.out, HD.out.1, HD.out.2, ord_n _ _ hf (by omega)]; unfold cmpI; rw [if_pos hn]
            go_wp2
            go_ret
            exact ⟨-1, rfl, by rw [HE.out], by rw [HE.out], HB2.out⟩
          · have t2 : decide (x.n < y.n) = false := decide_eq_false hn
            have hn2 : y.n ≤ x.n := by omega
            go_upto_region 8 with fail
            clear t2
            refine wp_region_held_drew (S := Hor g1 (j1 + i * 3) g2 (j2 + i * 3) x y) (by kernel_rfl) HH2.out.dr (fun hHeld => ?_)
            refine wpAnyH_take (i := 0) (v := ?_) rfl (by kernel_rfl) (by kernel_rfl) (by kernel_rfl) (fun _ _ _ h => h) (Or.inl ⟨by rfl, ?_⟩) hHeld ?_
            rotate_left
            · intro w' hSw
              clear hSw
              go_simp
              first | done | with_reducible rfl
            simp only [Act.put, List.getElem_toArray, List.getElem_cons_zero, List.setIfInBounds_toArray, List.set_cons_zero, List.set_cons_succ]
            refine wpAnyH_take (i := 1) (v := ?_) rfl (by kernel_rfl) (by kernel_rfl) (by kernel_rfl) (fun _ _ _ h => h) (Or.inl ⟨by rfl, ?_⟩) hHeld ?_
            rotate_left
            · intro w' hSw
              clear hSw
              go_simp
              first | done | with_reducible rfl
            simp only [Act.put, List.getElem_toArray, List.getElem_cons_succ, List.getElem_cons_zero, List.setIfInBounds_toArray, List.set_cons_zero, List.set_cons_succ]
            refine wpAnyH_take (i := 2) (v := ?_) rfl (by kernel_rfl) (by kernel_rfl) (by kernel_rfl) (fun _ _ _ h => h) (Or.inl ⟨by rfl, ?_⟩) hHeld ?_
            rotate_left
            · intro w' hSw
              clear hSw
              go_simp
              first | done | with_reducible rfl
            simp only [Act.put, List.getElem_toArray, List.getElem_cons_succ, List.getElem_cons_zero, List.setIfInBounds_toArray, List.set_cons_zero, List.set_cons_succ]
            refine wpAnyH_take (i := 3) (v := ?_) rfl (by kernel_rfl) (by kernel_rfl) (by kernel_rfl) (fun _ _ _ h => h) (Or.inl ⟨by rfl, ?_⟩) hHeld ?_
            rotate_left
            · intro w' hSw
              clear hSw
              go_simp
              first | done | with_reducible rfl
            simp only [Act.put, List.getElem_toArray, List.getElem_cons_succ, List.getElem_cons_zero, List.setIfInBounds_toArray, List.set_cons_zero, List.set_cons_succ]
            refine wpAnyH_take (i := 4) (v := ?_) rfl (by kernel_rfl) (by kernel_rfl) (by kernel_rfl) (fun _ _ _ h => h) (Or.inl ⟨by rfl, ?_⟩) hHeld ?_
            rotate_left
            · intro w' hSw
              have n1 := hSw.n1
              clear hSw
              go_simp
              first | done | with_reducible rfl
            simp only [Act.put, List.getElem_toArray, List.getElem_cons_succ, List.getElem_cons_zero, List.setIfInBounds_toArray, List.set_cons_zero, List.set_cons_succ]
            refine wpAnyH_take (i := 5) (v := ?_) rfl (by kernel_rfl) (by kernel_rfl) (by kernel_rfl) (fun _ _ _ h => h) (Or.inl ⟨by rfl, ?_⟩) hHeld ?_
            rotate_left
            · intro w' hSw
              clear hSw
              go_simp
              first | done | with_reducible rfl
            simp only [Act.put, List.getElem_toArray, List.getElem_cons_succ, List.getElem_cons_zero, List.setIfInBounds_toArray, List.set_cons_zero, List.set_cons_succ]
            refine wpAnyH_take (i := 6) (v := ?_) rfl (by kernel_rfl) (by kernel_rfl) (by kernel_rfl) (fun _ _ _ h => h) (Or.inl ⟨by rfl, ?_⟩) hHeld ?_
            rotate_left
            · intro w' hSw
              clear hSw
              go_simp
              first | done | with_reducible rfl
            simp only [Act.put, List.getElem_toArray, List.getElem_cons_succ, List.getElem_cons_zero, List.setIfInBounds_toArray, List.set_cons_zero, List.set_cons_succ]
            refine wpAnyH_take (i := 7) (v := ?_) rfl (by kernel_rfl) (by kernel_rfl) (by kernel_rfl) (fun _ _ _ h => h) (Or.inl ⟨by rfl, ?_⟩) hHeld ?_
            rotate_left
            · intro w' hSw
              clear hSw
              go_simp
              first | done | with_reducible rfl
            simp only [Act.put, List.getElem_toArray, List.getElem_cons_succ, List.getElem_cons_zero, List.setIfInBounds_toArray, List.set_cons_zero, List.set_cons_succ]
            refine wpAnyH_take (i := 8) (v := ?_) rfl (by kernel_rfl) (by kernel_rfl) (by kernel_rfl) (fun _ _ _ h => h) (Or.inl ⟨by rfl, ?_⟩) hHeld ?_
            rotate_left
            · intro w' hSw
              clear hSw
              go_simp
              first | done | with_reducible rfl
            simp only [Act.put, List.getElem_toArray, List.getElem_cons_succ, List.getElem_cons_zero, List.setIfInBounds_toArray, List.set_cons_zero, List.set_cons_succ]
            refine wpAnyH_take (i := 9) (v := ?_) rfl (by kernel_rfl) (by kernel_rfl) (by kernel_rfl) (fun _ _ _ h => h) (Or.inl ⟨by rfl, ?_⟩) hHeld ?_
            rotate_left
            · intro w' hSw
              have n2 := hSw.n2
              clear hSw
              go_simp
              first | done | with_reducible rfl
            simp only [Act.put, List.getElem_toArray, List.getElem_cons_succ, List.getElem_cons_zero, List.setIfInBounds_toArray, List.set_cons_zero, List.set_cons_succ]
            refine wpAnyH_take (i := 10) (v := ?_) rfl (by kernel_rfl) (by kernel_rfl) (by kernel_rfl) (fun _ _ _ h => h) (Or.inl ⟨by rfl, ?_⟩) hHeld ?_
            rotate_left
            · intro w' hSw
              clear hSw
              go_simp
              first | done | with_reducible rfl
            simp only [Act.put, List.getElem_toArray, List.getElem_cons_succ, List.getElem_cons_zero, List.setIfInBounds_toArray, List.set_cons_zero, List.set_cons_succ]
            refine wpAnyH_done (by kernel_rfl) ?_ _
            clear hHeld
            have HB3 : Hid (Below w.heap.size w W2.drew) := HB2.out.trans ((Gro.refl _).drew.below.mono HB2.out.size)
            clear HB2 HH2
            generalize W2.drew = W3 at HB3 ⊢
            by_cases hm : y.n < x.n
            · have t3 : decide (y.n < x.n) = true := decide_eq_true hm
              have HE : Hid (cmpR a b = 1) := by show _ = _; rw [HC.out, HD.out.1, HD.out.2, ord_n _ _ hf (by omega)]; unfold cmpI; rw [if_neg hn, if_pos hm]
              clear hn hn2
              go_wp2
              go_ret
              exact ⟨1, rfl, by rw [HE.out], by rw [HE.out], HB3.out⟩
            · have t3 : decide (y.n < x.n) = false := decide_eq_false hm
              have HC2 : Hid (cmpR a b = cmpR (a.drop (i + 1)) (b.drop (i + 1))) := by show _ = _; rw [HC.out, HD.out.1, HD.out.2, ord_eq _ _ hf (by omega)]
              have hm2 : x.n ≤ y.n := by omega
              clear hn hn2
              go_wp2
              go_roundw
              case rel => exact ⟨i + 1, by rw [show (((i + 1 : Nat) : Nat) : Int) = (i : Int) + 1 by omega], hi, hj, HC2, HB3⟩
              case measure => simp [intOf]; omega
        · have t1 : (x.fd != y.fd) = true := bne_iff_ne.2 hf
          have hc1 : IntKind.i64.wrap x.fd = x.fd := by rw [IntKind.wrap_i64]; omega
          have hc2 : IntKind.i64.wrap y.fd = y.fd := by rw [IntKind.wrap_i64]; omega
          have hc3 : IntKind.i64.wrap (x.fd - y.fd) = x.fd - y.fd := by rw [IntKind.wrap_i64]; omega
          go_upto_region 5 with fail
          clear t1
          refine wp_region_held_drew (S := Hor g1 (j1 + i * 3) g2 (j2 + i * 3) x y) (by kernel_rfl) HH1.out.dr (fun hHeld => ?_)
          refine wpAnyH_take (i := 0) (v := ?_) rfl (by kernel_rfl) (by kernel_rfl) (by kernel_rfl) (fun _ _ _ h => h) (Or.inl ⟨by rfl, ?_⟩) hHeld ?_
          rotate_left
          · intro w' hSw
            clear hSw
            go_simp
            first | done | with_reducible rfl
          simp only [Act.put, List.getElem_toArray, List.getElem_cons_zero, List.setIfInBounds_toArray, List.set_cons_zero, List.set_cons_succ]
          refine wpAnyH_take (i := 1) (v := ?_) rfl (by kernel_rfl) (by kernel_rfl) (by kernel_rfl) (fun _ _ _ h => h) (Or.inl ⟨by rfl, ?_⟩) hHeld ?_
          rotate_left
          · intro w' hSw
            clear hSw
            go_simp
            first | done | with_reducible rfl
          simp only [Act.put, List.getElem_toArray, List.getElem_cons_succ, List.getElem_cons_zero, List.setIfInBounds_toArray, List.set_cons_zero, List.set_cons_succ]
          refine wpAnyH_take (i := 2) (v := ?_) rfl (by kernel_rfl) (by kernel_rfl) (by kernel_rfl) (fun _ _ _ h => h) (Or.inl ⟨by rfl, ?_⟩) hHeld ?_
          rotate_left
          · intro w' hSw
            clear hSw
            go_simp
            first | done | with_reducible rfl
          simp only [Act.put, List.getElem_toArray, List.getElem_cons_succ, List.getElem_cons_zero, List.setIfInBounds_toArray, List.set_cons_zero, List.set_cons_succ]
          refine wpAnyH_take (i := 3) (v := ?_) rfl (by kernel_rfl) (by kernel_rfl) (by kernel_rfl) (fun _ _ _ h => h) (Or.inl ⟨by rfl, ?_⟩) hHeld ?_
          rotate_left
          · intro w' hSw
            clear hSw
            go_simp
            first | done | with_reducible rfl
          simp only [Act.put, List.getElem_toArray, List.getElem_cons_succ, List.getElem_cons_zero, List.setIfInBounds_toArray, List.set_cons_zero, List.set_cons_succ]
          refine wpAnyH_take (i := 4) (v := ?_) rfl (by kernel_rfl) (by kernel_rfl) (by kernel_rfl) (fun _ _ _ h => h) (Or.inl ⟨by rfl, ?_⟩) hHeld ?_
          rotate_left
          · intro w' hSw
            have f1 := hSw.f1
            clear hSw
            go_simp
            first | done | with_reducible rfl
          simp only [Act.put, List.getElem_toArray, List.getElem_cons_succ, List.getElem_cons_zero, List.setIfInBounds_toArray, List.set_cons_zero, List.set_cons_succ]
          refine wpAnyH_take (i := 5) (v := ?_) rfl (by kernel_rfl) (by kernel_rfl) (by kernel_rfl) (fun _ _ _ h => h) (Or.inl ⟨by rfl, ?_⟩) hHeld ?_
          rotate_left
          · intro w' hSw
            clear hSw
            go_simp
            first | done | with_reducible rfl
          simp only [Act.put, List.getElem_toArray, List.getElem_cons_succ, List.getElem_cons_zero, List.setIfInBounds_toArray, List.set_cons_zero, List.set_cons_succ]
          refine wpAnyH_take (i := 6) (v := ?_) rfl (by kernel_rfl) (by kernel_rfl) (by kernel_rfl) (fun _ _ _ h => h) (Or.inl ⟨by rfl, ?_⟩) hHeld ?_
          rotate_left
          · intro w' hSw
            clear hSw
            go_simp
            first | done | with_reducible rfl
          simp only [Act.put, List.getElem_toArray, List.getElem_cons_succ, List.getElem_cons_zero, List.setIfInBounds_toArray, List.set_cons_zero, List.set_cons_succ]
          refine wpAnyH_take (i := 7) (v := ?_) rfl (by kernel_rfl) (by kernel_rfl) (by kernel_rfl) (fun _ _ _ h => h) (Or.inl ⟨by rfl, ?_⟩) hHeld ?_
          rotate_left
          · intro w' hSw
            clear hSw
            go_simp
            first | done | with_reducible rfl
          simp only [Act.put, List.getElem_toArray, List.getElem_cons_succ, List.getElem_cons_zero, List.setIfInBounds_toArray, List.set_cons_zero, List.set_cons_succ]
          refine wpAnyH_take (i := 8) (v := ?_) rfl (by kernel_rfl) (by kernel_rfl) (by kernel_rfl) (fun _ _ _ h => h) (Or.inl ⟨by rfl, ?_⟩) hHeld ?_
          rotate_left
          · intro w' hSw
            clear hSw
            go_simp
            first | done | with_reducible rfl
          simp only [Act.put, List.getElem_toArray, List.getElem_cons_succ, List.getElem_cons_zero, List.setIfInBounds_toArray, List.set_cons_zero, List.set_cons_succ]
          refine wpAnyH_take (i := 9) (v := ?_) rfl (by kernel_rfl) (by kernel_rfl) (by kernel_rfl) (fun _ _ _ h => h) (Or.inl ⟨by rfl, ?_⟩) hHeld ?_
          rotate_left
          · intro w' hSw
            clear hSw
            go_simp
            first | done | with_reducible rfl
          simp only [Act.put, List.getElem_toArray, List.getElem_cons_succ, List.getElem_cons_zero, List.setIfInBounds_toArray, List.set_cons_zero, List.set_cons_succ]
          refine wpAnyH_take (i := 10) (v := ?_) rfl (by kernel_rfl) (by kernel_rfl) (by kernel_rfl) (fun _ _ _ h => h) (Or.inl ⟨by rfl, ?_⟩) hHeld ?_
          rotate_left
          · intro w' hSw
            have f2 := hSw.f2
            clear hSw
            go_simp
            first | done | with_reducible rfl
          simp only [Act.put, List.getElem_toArray, List.getElem_cons_succ, List.getElem_cons_zero, List.setIfInBounds_toArray, List.set_cons_zero, List.set_cons_succ]
          refine wpAnyH_take (i := 11) (v := ?_) rfl (by kernel_rfl) (by kernel_rfl) (by kernel_rfl) (fun _ _ _ h => h) (Or.inl ⟨by rfl, ?_⟩) hHeld ?_
          rotate_left
          · intro w' hSw
            clear hSw
            go_simp
            first | done | with_reducible rfl
          simp only [Act.put, List.getElem_toArray, List.getElem_cons_succ, List.getElem_cons_zero, List.setIfInBounds_toArray, List.set_cons_zero, List.set_cons_succ]
          refine wpAnyH_take (i := 12) (v := ?_) rfl (by kernel_rfl) (by kernel_rfl) (by kernel_rfl) (fun _ _ _ h => h) (Or.inl ⟨by rfl, ?_⟩) hHeld ?_
          rotate_left
          · intro w' hSw
            clear hSw
            go_simp
            first | done | with_reducible rfl
          simp only [Act.put, List.getElem_toArray, List.getElem_cons_succ, List.getElem_cons_zero, List.setIfInBounds_toArray, List.set_cons_zero, List.set_cons_succ]
          refine wpAnyH_take (i := 13) (v := ?_) rfl (by kernel_rfl) (by kernel_rfl) (by kernel_rfl) (fun _ _ _ h => h) (Or.inl ⟨by rfl, ?_⟩) hHeld ?_
          rotate_left
          · intro w' hSw
            clear hSw
            go_simp
            first | done | with_reducible rfl
          simp only [Act.put, List.getElem_toArray, List.getElem_cons_succ, List.getElem_cons_zero, List.setIfInBounds_toArray, List.set_cons_zero, List.set_cons_succ]
          refine wpAnyH_done (by kernel_rfl) ?_ _
          clear hHeld
          have HB2 : Hid (Below w.heap.size w W1.drew) := HB1.out.trans ((Gro.refl _).drew.below.mono HB1.out.size)
          have HE := hid (ord_fd (a.drop (i + 1)) (b.drop (i + 1)) hf)
          rw [← HD.out.1, ← HD.out.2, ← HC.out] at HE
          go_wp2
          go_ret
          exact ⟨x.fd - y.fd, rfl, HE.out.1, HE.out.2, HB2.out⟩
      · have d2 : decide ((i : Int) < (b.length : Int)) = false := by simp; omega
        have hw : IntKind.i64.wrap ((a.length : Int) - (b.length : Int)) = (a.length : Int) - (b.length : Int) := by rw [IntKind.wrap_i64]; omega
        have HE := hid (ord_end hi1 hi2 (Or.inr (by omega)))
        rw [← HC.out] at HE
        go_wp2
        go_ret
        exact ⟨_, rfl, HE.out.1, HE.out.2, HB.out⟩
    · have d1 : decide ((i : Int) < (a.length : Int)) = false := by simp; omega
      have hw : IntKind.i64.wrap ((a.length : Int) - (b.length : Int)) = (a.length : Int) - (b.length : Int) := by rw [IntKind.wrap_i64]; omega
      have HE := hid (ord_end hi1 hi2 (Or.inl (by omega)))
      rw [← HC.out] at HE
      go_wp2
      go_ret
      exact ⟨_, rfl, HE.out.1, HE.out.2, HB.out⟩
end Go.Proofs.YtggbokghhohofaaDoor
