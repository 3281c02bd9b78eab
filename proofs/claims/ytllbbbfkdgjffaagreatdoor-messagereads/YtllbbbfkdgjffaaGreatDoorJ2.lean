/-
  Plain facts: what is written is read as it was (rules, lists); what is read, written, is as it was; looking while reading is looking behind it. No program is spoken of.
-/
import Derived.Test.YtllbbbfkdgjffaaGreatDoorV1
namespace Go.Proofs.YtllbbbfkdgjffaaGreatDoor

theorem kp_true {α : Type} {c : Bool} {x : α} : kp c true x = some x := by simp [kp]
theorem kp_some {α : Type} {ok : Bool} {x y : α} (h : kp true ok x = some y) : ok = true ∧ y = x := by
  unfold kp at h
  cases ok <;> simp at h
  exact ⟨rfl, h.symm⟩
theorem kp_false {α : Type} {ok : Bool} {x : α} : kp false ok x = some x := by simp [kp]
theorem i8_dg {x : Int} (_ : 0 ≤ x) (h1 : x < 128) : i8 x = x := by unfold i8; rw [if_pos h1]

section lists
variable {α : Type}
/-- A list that was written is read. -/
theorem rdl_enc {p : List Int → Option (α × List Int)} {enc : α → List Int} : ∀ (l : List α) (r : List Int), (∀ x ∈ l, ∀ r, p (enc x ++ r) = some (x, r)) → rdl p l.length (l.flatMap enc ++ r) = some (l, r)
  | [], r, _ => rfl
  | x :: l, r, h => by
    simp only [List.length_cons, rdl, List.flatMap_cons, List.append_assoc]
    rw [h x List.mem_cons_self, Option.bind_some, rdl_enc l r fun y hy => h y (List.mem_cons_of_mem _ hy)]
    rfl
theorem rdL_enc {p : List Int → Option (α × List Int)} {enc : α → List Int} (l : List α) (r : List Int) (hl : l.length < 65536) (h : ∀ x ∈ l, ∀ r, p (enc x ++ r) = some (x, r)) : rdL p ((dg l.length 2 ++ l.flatMap enc) ++ r) = some (l, r) := by
  unfold rdL
  rw [List.append_assoc, tk_dg (by omega) (by have : (2 : Int) ^ (8 * 2) = 65536 := by decide
                                              omega), Option.bind_some]
  simp only [Int.toNat_natCast]
  exact rdl_enc l r h
/-- A list that was read is written. -/
theorem rdl_inv {p : List Int → Option (α × List Int)} {enc : α → List Int} {ok : α → Prop} (hp : ∀ r x r', IsB r → p r = some (x, r') → r = enc x ++ r' ∧ IsB r' ∧ ok x) : ∀ (n : Nat) (r : List Int) (l : List α) (r' : List Int), IsB r → rdl p n r = some (l, r') → l.length = n ∧ r = l.flatMap enc ++ r' ∧ IsB r' ∧ ∀ x ∈ l, ok x
  | 0, r, l, r', hB, h => by
    simp only [rdl, Option.some.injEq, Prod.mk.injEq] at h
    obtain ⟨rfl, rfl⟩ := h
    exact ⟨rfl, rfl, hB, fun x hx => by cases hx⟩
  | n + 1, r, l, r', hB, h => by
    simp only [rdl, Option.bind_eq_some_iff, Option.map_eq_some_iff] at h
    obtain ⟨⟨x, r1⟩, hx, ⟨q, r2⟩, hq, he⟩ := h
    simp only [Prod.mk.injEq] at he
    obtain ⟨rfl, rfl⟩ := he
    obtain ⟨e1, b1, o1⟩ := hp r x r1 hB hx
    obtain ⟨e2, e3, b2, o2⟩ := rdl_inv hp n r1 q r2 b1 hq
    refine ⟨by simp [e2], by rw [e1, e3]; simp, b2, fun y hy => ?_⟩
    rcases List.mem_cons.1 hy with rfl | hy
    · exact o1
    · exact o2 y hy
theorem rdL_inv {p : List Int → Option (α × List Int)} {enc : α → List Int} {ok : α → Prop} (hp : ∀ r x r', IsB r → p r = some (x, r') → r = enc x ++ r' ∧ IsB r' ∧ ok x) {r : List Int} {l : List α} {r' : List Int} (hB : IsB r) (h : rdL p r = some (l, r')) : r = (dg l.length 2 ++ l.flatMap enc) ++ r' ∧ IsB r' ∧ l.length < 65536 ∧ ∀ x ∈ l, ok x := by
  unfold rdL at h
  simp only [Option.bind_eq_some_iff] at h
  obtain ⟨⟨n, r1⟩, hn, hl⟩ := h
  obtain ⟨e1, n0, n1, b1⟩ := tk_inv hB hn
  obtain ⟨e2, e3, b2, o2⟩ := rdl_inv hp _ _ _ _ b1 hl
  have e4 : (n.toNat : Int) = n := by omega
  have e5 : (2 : Int) ^ (8 * 2) = 65536 := by decide
  refine ⟨?_, b2, by omega, o2⟩
  rw [e1, e3, e2, e4, List.append_assoc]
/-- Looking while a list is read. -/
theorem rdl_kp {p q : List Int → Option (α × List Int)} {ok : α → Bool} (h : ∀ r, p r = (q r).bind fun x => kp true (ok x.1) x) : ∀ (n : Nat) (r : List Int), rdl p n r = (rdl q n r).bind fun x => kp true (x.1.all ok) x
  | 0, r => by simp [rdl, kp]
  | n + 1, r => by
    simp only [rdl]
    rw [h r]
    cases hq : q r with
    | none => rfl
    | some x =>
      simp only [Option.bind_some]
      cases ho : ok x.1 with
      | false =>
        have e : kp true false x = none := by simp [kp]
        rw [e, Option.bind_none]
        cases rdl q n x.2 with
        | none => rfl
        | some y => simp [kp, ho]
      | true =>
        rw [kp_true, Option.bind_some, rdl_kp h n]
        cases rdl q n x.2 with
        | none => rfl
        | some y =>
          simp only [Option.bind_some, Option.map_some, List.all_cons, ho, Bool.true_and]
          cases y.1.all ok <;> simp [kp]
theorem rdL_kp {p q : List Int → Option (α × List Int)} {ok : α → Bool} (h : ∀ r, p r = (q r).bind fun x => kp true (ok x.1) x) (r : List Int) : rdL p r = (rdL q r).bind fun x => kp true (x.1.all ok) x := by
  unfold rdL
  cases tk 2 r with
  | none => rfl
  | some c => simp only [Option.bind_some]; exact rdl_kp h _ _
end lists

/-- Actions. -/
theorem pw1 : (2 : Int) ^ (8 * 1) = 256 := by decide
theorem pw2 : (2 : Int) ^ (8 * 2) = 65536 := by decide
theorem pw4 : (2 : Int) ^ (8 * 4) = 4294967296 := by decide
theorem pw8 : (2 : Int) ^ (8 * 8) = 18446744073709551616 := by decide
theorem okAc_iff {a : Ac} : okAc a = true ↔ (a.dw = 0 ∧ 0 ≤ a.fd ∨ a.dw = 1 ∧ a.fd = 0 ∨ a.dw = 2 ∧ a.fd = 0 ∧ a.n = 0) := by simp [okAc]
theorem rdAc_enc {a : Ac} (hf : a.Fit) (ho : okAc a = true) (r : List Int) : rdAc true (encAc a ++ r) = some (a, r) := by
  obtain ⟨⟨f1, f2⟩, ⟨f3, f4⟩, f5, f6⟩ := hf
  have h := okAc_iff.1 ho
  unfold rdAc encAc
  rw [List.append_assoc, List.append_assoc, tk_dg (by omega) (by rw [pw1]; omega), Option.bind_some]
  simp only
  rw [tk_dg (by omega) (by rw [pw1]; omega), Option.bind_some]
  simp only
  rw [tk_dg (by omega) (by rw [pw8]; omega), Option.bind_some]
  simp only
  rw [i8_dg (by omega) (by omega), i8_dg (by omega) (by omega)]
  show kp true (okAc a) (a, r) = _
  rw [ho, kp_true]
theorem i8_bd {x : Int} (h0 : 0 ≤ x) (h1 : x < 256) : -128 ≤ i8 x ∧ i8 x < 128 ∧ (0 ≤ i8 x → i8 x = x) := by
  unfold i8; split <;> omega
theorem rdAc_inv (r : List Int) (a : Ac) (r' : List Int) (hB : IsB r) (h : rdAc true r = some (a, r')) : r = encAc a ++ r' ∧ IsB r' ∧ (okAc a = true ∧ a.Fit) := by
  unfold rdAc at h
  simp only [Option.bind_eq_some_iff] at h
  obtain ⟨⟨x, r1⟩, h1, ⟨y, r2⟩, h2, ⟨z, r3⟩, h3, h4⟩ := h
  obtain ⟨e1, x0, x1, b1⟩ := tk_inv hB h1
  obtain ⟨e2, y0, y1, b2⟩ := tk_inv b1 h2
  obtain ⟨e3, z0, z1, b3⟩ := tk_inv b2 h3
  obtain ⟨ho, he⟩ := kp_some h4
  simp only [Prod.mk.injEq] at he
  obtain ⟨rfl, rfl⟩ := he
  rw [pw1] at x1 y1
  rw [pw8] at z1
  have hx := i8_bd x0 x1
  have hy := i8_bd y0 y1
  refine ⟨?_, b3, ho, ⟨hx.1, hx.2.1⟩, ⟨hy.1, hy.2.1⟩, z0, z1⟩
  have h := okAc_iff.1 ho
  simp only at h
  unfold encAc
  simp only
  rw [hx.2.2 (by omega), hy.2.2 (by omega), e1, e2, e3, List.append_assoc, List.append_assoc]
theorem rdAc_kp (r : List Int) : rdAc true r = (rdAc false r).bind fun x => kp true (okAc x.1) x := by
  unfold rdAc
  cases tk 1 r with
  | none => rfl
  | some a =>
    simp only [Option.bind_some]
    cases tk 1 a.2 with
    | none => rfl
    | some b =>
      simp only [Option.bind_some]
      cases tk 8 b.2 with
      | none => rfl
      | some d => simp only [Option.bind_some, kp_false]
theorem rdCp_kp (r : List Int) : rdL (rdAc true) r = (rdL (rdAc false) r).bind fun x => kp true (okCp x.1) x := rdL_kp rdAc_kp r
theorem rdCs_kp (r : List Int) : rdL (rdL (rdAc true)) r = (rdL (rdL (rdAc false)) r).bind fun x => kp true (x.1.all okCp) x := rdL_kp rdCp_kp r

/-- Lengths. -/
theorem len_flat {α : Type} {enc : α → List Int} {k : Nat} : ∀ (l : List α), (∀ x ∈ l, k ≤ (enc x).length) → k * l.length ≤ (l.flatMap enc).length
  | [], _ => by simp
  | x :: l, h => by
    have := len_flat l fun y hy => h y (List.mem_cons_of_mem _ hy)
    have := h x List.mem_cons_self
    simp only [List.flatMap_cons, List.length_append, List.length_cons, Nat.mul_add]
    omega
theorem len_mem {α : Type} {enc : α → List Int} : ∀ {l : List α} {x : α}, x ∈ l → (enc x).length ≤ (l.flatMap enc).length
  | y :: l, x, h => by
    simp only [List.flatMap_cons, List.length_append]
    rcases List.mem_cons.1 h with rfl | h
    · omega
    · have := len_mem (enc := enc) h; omega
theorem encAc_len (a : Ac) : (encAc a).length = 10 := by simp [encAc, dg_len]
theorem encCp_len (l : List Ac) : (encCp l).length = 2 + 10 * l.length := by
  unfold encCp
  rw [List.length_append, dg_len]
  have : ∀ l : List Ac, (l.flatMap encAc).length = 10 * l.length := by
    intro l
    induction l with
    | nil => rfl
    | cons a l ih => simp [ih, encAc_len]; omega
  rw [this]

theorem rdCp_enc {l : List Ac} (hf : ∀ a ∈ l, a.Fit) (ho : okCp l = true) (hl : l.length < 65536) (r : List Int) : rdL (rdAc true) (encCp l ++ r) = some (l, r) :=
  rdL_enc l r hl fun a ha r => rdAc_enc (hf a ha) (List.all_eq_true.1 ho a ha) r
theorem rdCs_enc {l : List (List Ac)} (hf : ∀ c ∈ l, ∀ a ∈ c, a.Fit) (ho : l.all okCp = true) (hl : (encCs l).length ≤ 8192) (r : List Int) : rdL (rdL (rdAc true)) (encCs l ++ r) = some (l, r) := by
  unfold encCs at hl
  rw [List.length_append, dg_len] at hl
  have h1 := len_flat (enc := encCp) (k := 1) l fun x _ => by rw [encCp_len]; omega
  refine rdL_enc l r (by omega) fun c hc r => rdCp_enc (hf c hc) (List.all_eq_true.1 ho c hc) ?_ r
  have := len_mem (enc := encCp) hc
  rw [encCp_len] at this
  omega
theorem rdCs_inv {r : List Int} {l : List (List Ac)} {r' : List Int} (hB : IsB r) (h : rdL (rdL (rdAc true)) r = some (l, r')) : r = encCs l ++ r' ∧ IsB r' ∧ l.all okCp = true ∧ ∀ c ∈ l, ∀ a ∈ c, a.Fit := by
  have := rdL_inv (enc := encCp) (ok := fun c => okCp c = true ∧ ∀ a ∈ c, a.Fit) (fun r x r' hB hx => by
    have := rdL_inv (enc := encAc) (ok := fun a => okAc a = true ∧ a.Fit) rdAc_inv hB hx
    exact ⟨this.1, this.2.1, List.all_eq_true.2 fun a ha => (this.2.2.2 a ha).1, fun a ha => (this.2.2.2 a ha).2⟩) hB h
  exact ⟨this.1, this.2.1, List.all_eq_true.2 fun c hc => (this.2.2.2 c hc).1, fun c hc => (this.2.2.2 c hc).2⟩

/-- Matches: the bits. -/
theorem mb_bd (m : Nat → Int) : ∀ k, 0 ≤ mb m k ∧ mb m k < 2 ^ k
  | 0 => by simp [mb]
  | k + 1 => by
    have h := mb_bd m k
    unfold mb
    rw [Int.pow_succ]
    split <;> omega
theorem two_pow_split {f k : Nat} (h : f < k) : (2 : Int) ^ k = 2 ^ f * (2 * 2 ^ (k - f - 1)) := by
  have : k = f + (1 + (k - f - 1)) := by omega
  conv => lhs; rw [this, Int.pow_add, Int.pow_add]
  rfl
theorem mb_bit (m : Nat → Int) : ∀ k f, f < k → mb m k / 2 ^ f % 2 = if m (11 + f) = 0 then 0 else 1
  | 0, _, h => by omega
  | k + 1, f, h => by
    have hp : (0 : Int) < 2 ^ f := Int.pow_pos (by omega)
    have hb := mb_bd m k
    by_cases e : f = k
    · subst e
      unfold mb
      split
      · rw [Int.add_zero, Int.ediv_eq_zero_of_lt hb.1 hb.2]; rfl
      · have : (mb m f + 2 ^ f) / 2 ^ f = 1 := by
          have := Int.add_mul_ediv_right (mb m f) 1 (show (2 : Int) ^ f ≠ 0 by omega)
          rw [Int.one_mul] at this
          rw [this, Int.ediv_eq_zero_of_lt hb.1 hb.2]; rfl
        rw [this]; rfl
    · have ih := mb_bit m k f (by omega)
      rw [← ih]
      rw [show mb m (k + 1) = mb m k + (if m (11 + k) = 0 then 0 else 2 ^ k) from rfl]
      split
      · rw [Int.add_zero]
      · rw [two_pow_split (show f < k by omega), Int.add_mul_ediv_left _ _ (by omega)]
        omega
theorem mb_of (m : Nat → Int) (b : Int) (h0 : 0 ≤ b) : ∀ k, (∀ f, f < k → (b / 2 ^ f % 2 = 1 ↔ m (11 + f) ≠ 0)) → mb m k = b % 2 ^ k
  | 0, _ => by simp [mb, Int.emod_one]
  | k + 1, h => by
    have ih := mb_of m b h0 k fun f hf => h f (by omega)
    have hk := h k (by omega)
    have hp : (0 : Int) < 2 ^ k := Int.pow_pos (by omega)
    have e : b % 2 ^ (k + 1) = b % 2 ^ k + 2 ^ k * (b / 2 ^ k % 2) := by
      rw [Int.pow_succ, Int.emod_def b (2 ^ k * 2), Int.emod_def b (2 ^ k), Int.emod_def (b / 2 ^ k) 2, ← Int.ediv_ediv_of_nonneg (by omega), Int.mul_sub, Int.mul_assoc]
      omega
    rw [show mb m (k + 1) = mb m k + (if m (11 + k) = 0 then 0 else 2 ^ k) from rfl, ih, e]
    by_cases hz : m (11 + k) = 0
    · rw [if_pos hz]
      have : b / 2 ^ k % 2 = 0 := by
        have h2 : ¬ b / 2 ^ k % 2 = 1 := fun h => (hk.1 h) hz
        omega
      rw [this, Int.mul_zero]
    · rw [if_neg hz, hk.2 hz, Int.mul_one]
/-- The fields from 11 - j on. -/
def fsT (m : Nat → Int) : Nat → List Int
  | 0 => []
  | j + 1 => ent m (10 - j) ++ fsT m j
theorem fs_fsT (m : Nat → Int) : ∀ k, k ≤ 11 → fs m k ++ fsT m (11 - k) = fsT m 11
  | 0, _ => by simp [fs]
  | k + 1, h => by
    have ih := fs_fsT m k (by omega)
    have e : fsT m ((11 - (k + 1)) + 1) = ent m (10 - (11 - (k + 1))) ++ fsT m (11 - (k + 1)) := rfl
    rw [← ih, show 11 - k = (11 - (k + 1)) + 1 by omega, e, show 10 - (11 - (k + 1)) = k by omega, show fs m (k + 1) = fs m k ++ ent m k from rfl, List.append_assoc]
theorem fs_all (m : Nat → Int) : fs m 11 = fsT m 11 := by
  have := fs_fsT m 11 (Nat.le_refl _)
  simpa [fsT] using this

theorem rdFs_enc (m : Nat → Int) (hm : ∀ k, k < 11 → (0 ≤ m k ∧ m k ≤ m (11 + k)) ∧ m (11 + k) < 2 ^ (8 * sz k)) : ∀ (j : Nat) (g : Nat → Int) (r : List Int), j ≤ 11 → (∀ k, 11 - j ≤ k → k < 11 → g k = 0 ∧ g (11 + k) = 0) →
    ∃ g', rdFs (mb m 11) j g (fsT m j ++ r) = some (g', r) ∧ (∀ k, 11 - j ≤ k → k < 11 → g' k = m k ∧ g' (11 + k) = m (11 + k)) ∧ (∀ k, k < 11 - j → g' k = g k ∧ g' (11 + k) = g (11 + k)) ∧ ∀ k, 22 ≤ k → g' k = g k
  | 0, g, r, _, _ => ⟨g, rfl, fun k h1 h2 => by omega, fun k _ => ⟨rfl, rfl⟩, fun k _ => rfl⟩
  | j + 1, g, r, hj, hz => by
    have hb := mb_bit m 11 (10 - j) (by omega)
    have hk := hm (10 - j) (by omega)
    unfold rdFs fsT
    rw [hb]
    by_cases h0 : m (11 + (10 - j)) = 0
    · rw [if_pos h0, if_neg (by omega), show ent m (10 - j) = [] by unfold ent; rw [if_pos h0], List.nil_append]
      obtain ⟨g', e1, e2, e3, e4⟩ := rdFs_enc m hm j g r (by omega) fun k h1 h2 => hz k (by omega) h2
      refine ⟨g', e1, fun k h1 h2 => ?_, fun k h1 => e3 k (by omega), e4⟩
      by_cases hlt : 11 - j ≤ k
      · exact e2 k hlt h2
      · have : k = 10 - j := by omega
        subst this
        have h3 := e3 (10 - j) (by omega)
        have h4 := hz (10 - j) (by omega) (by omega)
        rw [h3.1, h3.2, h4.1, h4.2, h0]
        exact ⟨by omega, rfl⟩
    · rw [if_neg h0, if_pos rfl, show ent m (10 - j) = dg (m (10 - j)) (sz (10 - j)) ++ dg (m (11 + (10 - j))) (sz (10 - j)) by unfold ent; rw [if_neg h0], List.append_assoc, List.append_assoc]
      rw [tk_dg hk.1.1 (by omega), Option.bind_some]
      simp only
      rw [tk_dg (by omega) hk.2, Option.bind_some]
      simp only
      rw [if_neg h0]
      obtain ⟨g', e1, e2, e3, e4⟩ := rdFs_enc m hm j (upd (upd g (10 - j) (m (10 - j))) (11 + (10 - j)) (m (11 + (10 - j)))) r (by omega) fun k h1 h2 => by
        rw [upd_other _ _ _ k (by omega), upd_other _ _ _ k (by omega), upd_other _ _ _ (11 + k) (by omega), upd_other _ _ _ (11 + k) (by omega)]
        exact hz k (by omega) h2
      refine ⟨g', e1, fun k h1 h2 => ?_, fun k h1 => ?_, fun k h1 => ?_⟩
      · by_cases hlt : 11 - j ≤ k
        · exact e2 k hlt h2
        · have : k = 10 - j := by omega
          subst this
          have h3 := e3 (10 - j) (by omega)
          rw [h3.1, h3.2, upd_same, upd_other _ _ _ (10 - j) (by omega), upd_same]
          exact ⟨rfl, rfl⟩
      · have h3 := e3 k (by omega)
        rw [h3.1, h3.2, upd_other _ _ _ k (by omega), upd_other _ _ _ k (by omega), upd_other _ _ _ (11 + k) (by omega), upd_other _ _ _ (11 + k) (by omega)]
        exact ⟨rfl, rfl⟩
      · rw [e4 k h1, upd_other _ _ _ k (by omega), upd_other _ _ _ k (by omega)]
theorem rdMt_enc {m : Nat → Int} (hb : ∀ k, k < 22 → InB (m k)) (hz : ∀ k, 22 ≤ k → m k = 0) (ho : mOk m = true) (r : List Int) : rdMt true (encMt m ++ r) = some (m, r) := by
  have hbd := mb_bd m 11
  unfold rdMt encMt
  rw [List.append_assoc, tk_dg hbd.1 (by have : (2 : Int) ^ (8 * 2) = 65536 := by decide
                                         have : (2 : Int) ^ 11 = 2048 := by decide
                                         omega), Option.bind_some]
  simp only
  rw [if_pos (by have : (2 : Int) ^ 11 = 2048 := by decide
                 omega), fs_all]
  obtain ⟨g', e1, e2, _, e4⟩ := rdFs_enc m (fun k hk => ⟨⟨(hb k (by omega)).1, (mOk_le ho hb k hk).1⟩, (mOk_le ho hb k hk).2⟩) 11 zf r (Nat.le_refl _) fun k _ _ => ⟨rfl, rfl⟩
  have hg : g' = m := by
    funext k
    by_cases h1 : k < 11
    · exact (e2 k (by omega) h1).1
    · by_cases h2 : k < 22
      · have := (e2 (k - 11) (by omega) (by omega)).2
        rw [show 11 + (k - 11) = k by omega] at this
        exact this
      · rw [e4 k (by omega), hz k (by omega)]; rfl
  subst hg
  rw [e1, Option.bind_some, ho, kp_true]

theorem rdFs_inv (b : Int) : ∀ (j : Nat) (m : Nat → Int) (r : List Int) (g : Nat → Int) (r' : List Int), j ≤ 11 → (∀ k, 11 - j ≤ k → k < 11 → m k = 0 ∧ m (11 + k) = 0) → IsB r → rdFs b j m r = some (g, r') →
    r = fsT g j ++ r' ∧ IsB r' ∧ (∀ k, k < 11 - j → g k = m k ∧ g (11 + k) = m (11 + k)) ∧ (∀ k, 22 ≤ k → g k = m k) ∧ (∀ k, 11 - j ≤ k → k < 11 → (b / 2 ^ k % 2 = 1 ↔ g (11 + k) ≠ 0) ∧ InB (g k) ∧ InB (g (11 + k)))
  | 0, m, r, g, r', _, _, hB, h => by
    simp only [rdFs, Option.some.injEq, Prod.mk.injEq] at h
    obtain ⟨rfl, rfl⟩ := h
    exact ⟨rfl, hB, fun k _ => ⟨rfl, rfl⟩, fun k _ => rfl, fun k h1 h2 => by omega⟩
  | j + 1, m, r, g, r', hj, hz, hB, h => by
    unfold rdFs at h
    split at h
    · rename_i hbit
      simp only [Option.bind_eq_some_iff] at h
      obtain ⟨⟨x, r1⟩, h1, ⟨y, r2⟩, h2, h3⟩ := h
      obtain ⟨e1, x0, x1, b1⟩ := tk_inv hB h1
      obtain ⟨e2, y0, y1, b2⟩ := tk_inv b1 h2
      split at h3
      · cases h3
      · rename_i hy
        simp only at hy h3
        obtain ⟨e3, b3, q1, q2, q3⟩ := rdFs_inv b j _ r2 g r' (by omega) (fun k h1 h2 => by
          rw [upd_other _ _ _ k (by omega), upd_other _ _ _ k (by omega), upd_other _ _ _ (11 + k) (by omega), upd_other _ _ _ (11 + k) (by omega)]
          exact hz k (by omega) h2) b2 h3
        have hk := q1 (10 - j) (by omega)
        rw [upd_same, upd_other _ _ _ (10 - j) (by omega), upd_same] at hk
        have hpw : (2 : Int) ^ (8 * sz (10 - j)) ≤ 2 ^ 48 := by
          have := sz_le (10 - j)
          exact_mod_cast Nat.pow_le_pow_right (by omega) (show 8 * sz (10 - j) ≤ 48 by omega)
        have hp48 : (2 : Int) ^ 48 = 281474976710656 := by decide
        refine ⟨?_, b3, fun k h1 => ?_, fun k h1 => ?_, fun k h1 h2 => ?_⟩
        · unfold fsT ent
          rw [hk.1, hk.2, if_neg hy, e1, e2, e3]
          simp
        · have := q1 k (by omega)
          rw [upd_other _ _ _ k (by omega), upd_other _ _ _ k (by omega), upd_other _ _ _ (11 + k) (by omega), upd_other _ _ _ (11 + k) (by omega)] at this
          exact this
        · rw [q2 k h1, upd_other _ _ _ k (by omega), upd_other _ _ _ k (by omega)]
        · by_cases hlt : 11 - j ≤ k
          · exact q3 k hlt h2
          · have : k = 10 - j := by omega
            subst this
            rw [hk.1, hk.2]
            exact ⟨⟨fun _ => hy, fun _ => hbit⟩, ⟨x0, by omega⟩, ⟨y0, by omega⟩⟩
    · rename_i hbit
      obtain ⟨e3, b3, q1, q2, q3⟩ := rdFs_inv b j m r g r' (by omega) (fun k h1 h2 => hz k (by omega) h2) hB h
      have hk := q1 (10 - j) (by omega)
      have hz' := hz (10 - j) (by omega) (by omega)
      refine ⟨?_, b3, fun k h1 => q1 k (by omega), q2, fun k h1 h2 => ?_⟩
      · unfold fsT ent
        rw [hk.2, hz'.2, if_pos rfl, List.nil_append]; exact e3
      · by_cases hlt : 11 - j ≤ k
        · exact q3 k hlt h2
        · have : k = 10 - j := by omega
          subst this
          rw [hk.1, hk.2, hz'.1, hz'.2]
          exact ⟨⟨fun h => absurd h hbit, fun h => absurd rfl h⟩, ⟨by omega, by omega⟩, ⟨by omega, by omega⟩⟩
theorem rdMt_inv {r : List Int} {m : Nat → Int} {r' : List Int} (hB : IsB r) (h : rdMt true r = some (m, r')) : r = encMt m ++ r' ∧ IsB r' ∧ mOk m = true ∧ (∀ k, k < 22 → InB (m k)) ∧ ∀ k, 22 ≤ k → m k = 0 := by
  unfold rdMt at h
  simp only [Option.bind_eq_some_iff] at h
  obtain ⟨⟨b, r1⟩, h1, h2⟩ := h
  obtain ⟨e1, b0, b1, bB⟩ := tk_inv hB h1
  split at h2
  · rename_i hb
    simp only [Option.bind_eq_some_iff] at h2 hb
    obtain ⟨⟨g, r2⟩, h3, h4⟩ := h2
    obtain ⟨ho, he⟩ := kp_some h4
    simp only [Prod.mk.injEq] at he
    obtain ⟨rfl, rfl⟩ := he
    obtain ⟨e3, b3, _, q2, q3⟩ := rdFs_inv b 11 zf r1 m r' (Nat.le_refl _) (fun k _ _ => ⟨rfl, rfl⟩) bB h3
    have hm := mb_of m b b0 11 fun f hf => (q3 f (by omega) hf).1
    have e11 : (2 : Int) ^ 11 = 2048 := by decide
    rw [e11, Int.emod_eq_of_lt b0 (by omega)] at hm
    refine ⟨?_, b3, ho, fun k hk => ?_, fun k hk => by rw [q2 k hk]; rfl⟩
    · unfold encMt
      rw [hm, fs_all, e1, e3, List.append_assoc]
    · by_cases h11 : k < 11
      · exact (q3 k (by omega) h11).2.1
      · have := (q3 (k - 11) (by omega) (by omega)).2.2
        rw [show 11 + (k - 11) = k by omega] at this
        exact this
  · cases h2
theorem rdMt_kp (r : List Int) : rdMt true r = (rdMt false r).bind fun x => kp true (mOk x.1) x := by
  unfold rdMt
  cases tk 2 r with
  | none => rfl
  | some b =>
    simp only [Option.bind_some]
    split
    · cases rdFs b.1 11 zf b.2 with
      | none => rfl
      | some x => simp only [Option.bind_some, kp_false]
    · rfl
end Go.Proofs.YtllbbbfkdgjffaaGreatDoor
