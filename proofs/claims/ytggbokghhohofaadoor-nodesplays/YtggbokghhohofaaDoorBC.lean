/-
  Plain: the text of rows tells them. Condition: the settings are some.
-/
import Derived.Test.YtggbokghhohofaaDoorBB
import Derived.Lib.ItoaNum
namespace Go.Proofs.YtggbokghhohofaaDoor
open Go.RowKit

theorem ofNat_toNat (n : Nat) (h : n < 256) : (UInt8.ofNat n).toNat = n := by simp [UInt8.toNat_ofNat']; omega
def dval (l : List UInt8) : Nat := l.foldl (fun acc d => acc * 10 + (d.toNat - 48)) 0
theorem dval_snoc (l : List UInt8) (d : UInt8) : dval (l ++ [d]) = dval l * 10 + (d.toNat - 48) := by simp [dval]
theorem dval_dec (u : Nat) : dval (Lib.decDigits u) = u := by
  induction u using Nat.strongRecOn with
  | ind u ih =>
    rw [Lib.decDigits]
    split
    · have e := dval_snoc [] (UInt8.ofNat (48 + u))
      rw [List.nil_append] at e
      rw [e, ofNat_toNat _ (by omega)]; simp [dval]
    · rw [dval_snoc, ih (u / 10) (by omega), ofNat_toNat _ (by omega)]; omega
theorem dec_inj {u v : Nat} (h : Lib.decDigits u = Lib.decDigits v) : u = v := by
  rw [← dval_dec u, h, dval_dec]
theorem dec_digit (u : Nat) : ∀ x ∈ Lib.decDigits u, 48 ≤ x.toNat ∧ x.toNat ≤ 57 := by
  induction u using Nat.strongRecOn with
  | ind u ih =>
    rw [Lib.decDigits]
    split
    · intro x hx
      rw [List.mem_singleton] at hx
      rw [hx, ofNat_toNat _ (by omega)]; omega
    · intro x hx
      rcases List.mem_append.1 hx with hx | hx
      · exact ih _ (by omega) x hx
      · rw [List.mem_singleton] at hx
        rw [hx, ofNat_toNat _ (by omega)]; omega
theorem dec_len : ∀ (k u : Nat), u < 10 ^ (k + 1) → (Lib.decDigits u).length ≤ k + 1
  | 0, u, h => by rw [Lib.decDigits, dif_pos (by simpa using h)]; simp
  | k + 1, u, h => by
    rw [Lib.decDigits]
    split
    · simp
    · have : u / 10 < 10 ^ (k + 1) := Nat.div_lt_of_lt_mul (by rw [Nat.pow_succ] at h; omega)
      have := dec_len k (u / 10) this
      simp; omega
/-- Two lists parted at what is no digit. -/
theorem split_dig : ∀ {a b p q : List UInt8}, (∀ x ∈ a, x.toNat ≤ 57 ∧ 48 ≤ x.toNat) → (∀ x ∈ b, x.toNat ≤ 57 ∧ 48 ≤ x.toNat) → (∀ x r, p = x :: r → 57 < x.toNat) → (∀ x r, q = x :: r → 57 < x.toNat) → a ++ p = b ++ q → a = b ∧ p = q
  | [], [], _, _, _, _, _, _, h => by simp at h; exact ⟨rfl, h⟩
  | [], y :: b, p, _, _, hb, hp, _, h => by
    have := hp y (b ++ _) (by simpa using h)
    have := hb y (by simp); omega
  | x :: a, [], _, q, ha, _, _, hq, h => by
    have := hq x (a ++ _) (by simpa using h.symm)
    have := ha x (by simp); omega
  | x :: a, y :: b, p, q, ha, hb, hp, hq, h => by
    simp only [List.cons_append, List.cons.injEq] at h
    have := split_dig (fun z hz => ha z (List.mem_cons_of_mem _ hz)) (fun z hz => hb z (List.mem_cons_of_mem _ hz)) hp hq h.2
    exact ⟨by rw [h.1, this.1], this.2⟩
/-- The text of a setting, of a row, of rows. -/
def sgt (a : Ac) : List UInt8 := UInt8.ofNat (97 + a.fd.toNat) :: Lib.decDigits a.n.toNat
def rts (r : List Ac) : List UInt8 := r.flatMap sgt
def rtx (K : List (List Ac)) : List UInt8 := K.flatMap fun r => rts r ++ [59]
theorem rts_cons (a : Ac) (r : List Ac) : rts (a :: r) = sgt a ++ rts r := rfl
theorem rtx_cons (r : List Ac) (K : List (List Ac)) : rtx (r :: K) = rts r ++ 59 :: rtx K := by simp [rtx]
theorem rts_app (r s : List Ac) : rts (r ++ s) = rts r ++ rts s := by simp [rts]
theorem rtx_app (r s : List (List Ac)) : rtx (r ++ s) = rtx r ++ rtx s := by simp [rtx]
theorem okS_iff {a : Ac} (h : okS a = true) : a.dw = 0 ∧ 0 ≤ a.fd ∧ a.fd < 11 := by
  simp only [okS, fitB, Bool.and_eq_true, decide_eq_true_eq] at h
  exact ⟨h.1, h.2.1.1, h.2.1.2⟩
def Oks (K : List (List Ac)) : Prop := ∀ r ∈ K, ∀ a ∈ r, okS a = true ∧ InB a.n
theorem sgt_head {a : Ac} (h : okS a = true) : (UInt8.ofNat (97 + a.fd.toNat)).toNat = 97 + a.fd.toNat := by
  have := okS_iff h
  exact ofNat_toNat _ (by omega)
/-- what stands behind the digits of a setting -/
theorem tail_sign {r : List Ac} {K : List (List Ac)} (h : ∀ a ∈ r, okS a = true) : ∀ x s, rts r ++ 59 :: rtx K = x :: s → 57 < x.toNat := by
  intro x s e
  cases r with
  | nil => simp [rts] at e; rw [← e.1]; decide
  | cons b r =>
    rw [rts_cons, sgt] at e
    simp only [List.cons_append, List.cons.injEq] at e
    rw [← e.1, sgt_head (h b (by simp))]; omega
theorem rtx_inj : ∀ {K L : List (List Ac)}, Oks K → Oks L → rtx K = rtx L → K = L := by
  have key : ∀ (r s : List Ac) (K L : List (List Ac)), (∀ a ∈ r, okS a = true ∧ InB a.n) → (∀ a ∈ s, okS a = true ∧ InB a.n) → rts r ++ 59 :: rtx K = rts s ++ 59 :: rtx L → r = s ∧ rtx K = rtx L := by
    intro r
    induction r with
    | nil =>
      intro s K L _ hs h
      cases s with
      | nil => simp [rts] at h; exact ⟨rfl, h⟩
      | cons b s =>
        rw [rts_cons, sgt] at h
        simp only [rts, List.flatMap_nil, List.nil_append, List.cons_append, List.cons.injEq] at h
        have e := congrArg UInt8.toNat h.1
        rw [sgt_head (hs b (by simp)).1] at e
        have e1 : (59 : UInt8).toNat = 59 := rfl
        omega
    | cons a r ih =>
      intro s K L hr hs h
      cases s with
      | nil =>
        rw [rts_cons, sgt] at h
        simp only [rts, List.flatMap_nil, List.nil_append, List.cons_append, List.cons.injEq] at h
        have e := congrArg UInt8.toNat h.1
        rw [sgt_head (hr a (by simp)).1] at e
        have e1 : (59 : UInt8).toNat = 59 := rfl
        omega
      | cons b s =>
        rw [rts_cons, rts_cons, sgt, sgt] at h
        simp only [List.cons_append, List.append_assoc, List.cons.injEq] at h
        have e := congrArg UInt8.toNat h.1
        have ha := hr a (by simp)
        have hb := hs b (by simp)
        rw [sgt_head ha.1, sgt_head hb.1] at e
        have hr' : ∀ x ∈ r, okS x = true ∧ InB x.n := fun x hx => hr x (List.mem_cons_of_mem _ hx)
        have hs' : ∀ x ∈ s, okS x = true ∧ InB x.n := fun x hx => hs x (List.mem_cons_of_mem _ hx)
        obtain ⟨h1, h2⟩ := split_dig (fun x hx => (dec_digit _ x hx).symm) (fun x hx => (dec_digit _ x hx).symm) (tail_sign fun x hx => (hr' x hx).1) (tail_sign fun x hx => (hs' x hx).1) h.2
        obtain ⟨h3, h4⟩ := ih s K L hr' hs' h2
        have h5 := dec_inj h1
        obtain ⟨d, f, n⟩ := a
        obtain ⟨d', f', n'⟩ := b
        have o1 := okS_iff ha.1
        have o2 := okS_iff hb.1
        have i1 := ha.2
        have i2 := hb.2
        simp only [InB] at o1 o2 i1 i2 e h5
        have : f = f' := by omega
        have : n = n' := by omega
        have : d = d' := by omega
        subst_vars
        exact ⟨rfl, h4⟩
  intro K
  induction K with
  | nil =>
    intro L _ _ h
    cases L with
    | nil => rfl
    | cons s L => rw [rtx_cons] at h; simp [rtx] at h
  | cons r K ih =>
    intro L hK hL h
    cases L with
    | nil => rw [rtx_cons] at h; simp [rtx] at h
    | cons s L =>
      rw [rtx_cons, rtx_cons] at h
      obtain ⟨h1, h2⟩ := key r s K L (hK r (by simp)) (hL s (by simp)) h
      rw [h1, ih (fun x hx => hK x (List.mem_cons_of_mem _ hx)) (fun x hx => hL x (List.mem_cons_of_mem _ hx)) h2]
/-- How many rows and settings there are. -/
def tot : List (List Ac) → Nat
  | [] => 0
  | r :: K => 1 + r.length + tot K
theorem rts_len : ∀ {r : List Ac}, (∀ a ∈ r, okS a = true ∧ InB a.n) → (rts r).length ≤ 21 * r.length
  | [], _ => by simp [rts]
  | a :: r, h => by
    have ih := rts_len (r := r) fun x hx => h x (List.mem_cons_of_mem _ hx)
    have ha := (h a (by simp)).2
    have := dec_len 19 a.n.toNat (by simp only [InB] at ha; omega)
    rw [rts_cons, List.length_append, sgt, List.length_cons, List.length_cons]; omega
theorem rtx_len : ∀ {K : List (List Ac)}, Oks K → (rtx K).length ≤ 21 * tot K
  | [], _ => by simp [rtx]
  | r :: K, h => by
    have ih := rtx_len (K := K) fun x hx => h x (List.mem_cons_of_mem _ hx)
    have := rts_len (h r (by simp))
    rw [rtx_cons, List.length_append, List.length_cons, tot]; omega
end Go.Proofs.YtggbokghhohofaaDoor
