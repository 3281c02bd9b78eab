/-
  Plain: a policy that Check takes is one of terms that are some; its plain form; what Check answers of that. Nothing is walked. No condition.
-/
import Derived.Test.YtjallmncajhamaaDoorTG
namespace Go.Proofs.YtjallmncajhamaaDoor
open Go.RowKit

theorem sett_fbit {fd : Nat} (h : fd ≤ 10) : fbit 947 fd = sett fd := by
  have h : fd = 0 ∨ fd = 1 ∨ fd = 2 ∨ fd = 3 ∨ fd = 4 ∨ fd = 5 ∨ fd = 6 ∨ fd = 7 ∨ fd = 8 ∨ fd = 9 ∨ fd = 10 := by omega
  rcases h with rfl | rfl | rfl | rfl | rfl | rfl | rfl | rfl | rfl | rfl | rfl <;> rfl
theorem ask_fbit {fd : Nat} (h : fd ≤ 10) : fbit 2039 fd = decide (fd ≠ 3) := by
  have h : fd = 0 ∨ fd = 1 ∨ fd = 2 ∨ fd = 3 ∨ fd = 4 ∨ fd = 5 ∨ fd = 6 ∨ fd = 7 ∨ fd = 8 ∨ fd = 9 ∨ fd = 10 := by omega
  rcases h with rfl | rfl | rfl | rfl | rfl | rfl | rfl | rfl | rfl | rfl | rfl <;> rfl
theorem sett_le {fd : Nat} (h : sett fd = true) : fd ≤ 10 := by unfold sett at h; simp at h; omega
theorem nw_same (op fd n : Nat) : nwF (wfl op) (op : Int) (fd : Int) n = nwT op fd n := by
  unfold nwF nwT wfl
  by_cases h2 : op = 2
  · subst h2
    rw [if_pos rfl, if_neg (by decide), if_pos rfl, show ((fd : Nat) : Int).toNat = fd from rfl]
    unfold fitB
    rw [show ((fd : Nat) : Int).toNat = fd from rfl]
    by_cases hf : fd ≤ 10
    · rw [ask_fbit hf, decide_eq_true (show (0 : Int) ≤ (fd : Int) by omega), decide_eq_true (show ((fd : Nat) : Int) ≤ 10 by omega), decide_eq_true hf, decide_eq_true (show ((2 : Nat) : Int) ≠ 7 by decide), Bool.true_or, Bool.true_or, Bool.and_true, Bool.true_and, Bool.true_and, Bool.true_and, Bool.and_comm]
    · rw [decide_eq_false (show ¬ ((fd : Nat) : Int) ≤ 10 by omega), decide_eq_false hf]; simp
  · rw [if_neg h2]
    by_cases h7 : op = 7
    · subst h7
      rw [if_pos rfl, if_neg (by decide), if_neg (by decide), if_pos rfl, show ((fd : Nat) : Int).toNat = fd from rfl]
      unfold fitB
      rw [show ((fd : Nat) : Int).toNat = fd from rfl]
      by_cases hf : fd ≤ 10
      · rw [sett_fbit hf, decide_eq_true (show (0 : Int) ≤ (fd : Int) by omega), decide_eq_true (show ((fd : Nat) : Int) ≤ 10 by omega), decide_eq_false (show ¬ ((7 : Nat) : Int) ≠ 7 by decide), Bool.false_or, Bool.true_and, Bool.true_and, Bool.and_comm (decide _) (sett fd)]
        congr 2
        exact decide_eq_decide.2 (by omega)
      · rw [decide_eq_false (show ¬ ((fd : Nat) : Int) ≤ 10 by omega)]
        have : sett fd = false := by
          rw [Bool.eq_false_iff]; intro e; exact hf (sett_le e)
        rw [this]; simp
    · rw [if_neg h7, if_pos rfl, if_neg h2, if_neg h7]
      congr 1
      exact decide_eq_decide.2 (by omega)
theorem kndB_nat (b : Bool) (op : Nat) : kndB b (op : Int) = sideT b op := by
  unfold kndB sideT
  cases b
  · simp only [Bool.false_eq_true, if_false]
    rw [Bool.eq_iff_iff]; simp; omega
  · simp only [if_true]
    rw [Bool.eq_iff_iff]; simp; omega
mutual
theorem one_same (b : Bool) : ∀ t : Tm, oneI b (ti t) = oneT b t
  | .mk op fd n ks => by
    rw [Bool.eq_iff_iff, ti, oneI_iff, oneT_iff, kndB_nat, tis_len, show ((op : Nat) : Int).toNat = op from rfl, nw_same]
    constructor
    · rintro ⟨h1, h2, h3, h4, h5⟩
      refine ⟨h1, h2, h3, h4, fun k hk => ?_⟩
      by_cases h7 : op = 7
      · subst h7
        have : ks = [] := List.length_eq_zero_iff.1 (by have : mst 7 = 0 := rfl; omega)
        subst this; cases hk
      · have e : decide ((op : Int) ≤ 7) = decide (op ≤ 6) := decide_eq_decide.2 (by omega)
        rw [e] at h5
        exact (ones_same _ ks).1 h5 k hk
    · rintro ⟨h1, h2, h3, h4, h5⟩
      refine ⟨h1, h2, h3, h4, ?_⟩
      by_cases h7 : op = 7
      · subst h7
        have : ks = [] := List.length_eq_zero_iff.1 (by have : mst 7 = 0 := rfl; omega)
        subst this; rw [tis]; intro t ht; cases ht
      · have e : decide ((op : Int) ≤ 7) = decide (op ≤ 6) := decide_eq_decide.2 (by omega)
        rw [e]
        exact (ones_same _ ks).2 h5
theorem ones_same (b : Bool) : ∀ ks : List Tm, (∀ t ∈ tis ks, oneI b t = true) ↔ ∀ k ∈ ks, oneT b k = true
  | [] => by rw [tis]; simp
  | k :: ks => by
    rw [tis]
    simp only [List.mem_cons, forall_eq_or_imp]
    rw [one_same b k, ones_same b ks]
end
mutual
theorem one_of (b : Bool) : ∀ t : Ti, oneI b t = true → ∃ t', t = ti t'
  | .mk op fd n ks, h => by
    rw [oneI, Bool.and_eq_true, Bool.and_eq_true, Bool.and_eq_true, Bool.and_eq_true] at h
    obtain ⟨⟨⟨⟨h1, -⟩, -⟩, h4⟩, h5⟩ := h
    obtain ⟨ks', rfl⟩ := ones_of _ ks h5
    have ho : 0 ≤ op := by unfold kndB at h1; cases b <;> simp at h1 <;> omega
    have hf : 0 ≤ fd := by
      unfold nwF at h4
      split at h4
      · simp at h4; omega
      · unfold fitB at h4; simp at h4; omega
    exact ⟨.mk op.toNat fd.toNat n ks', by rw [ti, Int.toNat_of_nonneg ho, Int.toNat_of_nonneg hf]⟩
theorem ones_of (b : Bool) : ∀ ts : List Ti, oneIs b ts = true → ∃ ts', ts = tis ts'
  | [], _ => ⟨[], by rw [tis]⟩
  | t :: ts, h => by
    rw [oneIs, Bool.and_eq_true] at h
    obtain ⟨t', rfl⟩ := one_of b t h.1
    obtain ⟨ts', rfl⟩ := ones_of b ts h.2
    exact ⟨t' :: ts', by rw [tis]⟩
end
mutual
theorem wi_ti {b : Bool} : ∀ t : Tm, oneT b t = true → Wi (ti t)
  | .mk op fd n ks, h => by
    obtain ⟨h1, -, -, -, h5⟩ := oneT_iff.1 h
    have ho : op ≤ 10 := by cases b; exact (sideT_f.1 h1).2; have := sideT_t.1 h1; omega
    rw [ti]
    exact Wi.mk _ _ _ _ (by omega) (by omega) (wi_tis _ ks h5)
theorem wi_tis (b : Bool) : ∀ ks : List Tm, (∀ k ∈ ks, oneT b k = true) → ∀ t ∈ tis ks, Wi t
  | [], _, t, ht => by rw [tis] at ht; cases ht
  | k :: ks, h, t, ht => by
    rw [tis] at ht
    rcases List.mem_cons.1 ht with rfl | ht
    · exact wi_ti k (h k (List.mem_cons_self ..))
    · exact wi_tis b ks (fun x hx => h x (List.mem_cons_of_mem _ hx)) t ht
end
theorem sz_ti' (t : Tm) : szI (ti t) = sz t := sz_ti t
/-- a policy of terms that are some, not too great -/
structure OkW (P : Po) : Prop where
  m : oneT false P.main = true
  q : ∀ q ∈ P.qs, oneT true q.pd = true
  l : P.qs.length ≤ 32
  s : sz P.main + qsz P.qs ≤ 4096
  dm : dp P.main ≤ 128
  dq : ∀ q ∈ P.qs, dp q.pd ≤ 128
  a : AQ (pi P).qs
theorem pi_len (P : Po) : (pi P).qs.length = P.qs.length := List.length_map _
theorem pi_at (P : Po) {j : Nat} (hj : j < P.qs.length) (hj' : j < (pi P).qs.length) : (pi P).qs[j] = ⟨(P.qs[j]).nm, ti (P.qs[j]).pd⟩ := by
  simp [pi]
theorem tms_sz (P : Po) : szsI (tmsI (pi P)) = sz P.main + qsz P.qs := by
  have : ∀ qs : List Qy, szsI ((qs.map fun q => (⟨q.nm, ti q.pd⟩ : Qi)).map (·.pd)) = qsz qs := fun qs => by
    induction qs with
    | nil => simp [szsI, qsz]
    | cons q qs ih => rw [List.map_cons, List.map_cons, szsI, ih, qsz_cons, sz_ti]
  unfold tmsI
  rw [szsI, show (pi P).main = ti P.main from rfl, sz_ti, show (pi P).qs = P.qs.map fun q => (⟨q.nm, ti q.pd⟩ : Qi) from rfl, this]
theorem tms_dp (P : Po) : dpsI (tmsI (pi P)) ≤ 128 ↔ dp P.main ≤ 128 ∧ ∀ q ∈ P.qs, dp q.pd ≤ 128 := by
  have : ∀ qs : List Qy, dpsI ((qs.map fun q => (⟨q.nm, ti q.pd⟩ : Qi)).map (·.pd)) ≤ 128 ↔ ∀ q ∈ qs, dp q.pd ≤ 128 := fun qs => by
    induction qs with
    | nil => simp [dpsI]
    | cons q qs ih =>
      rw [List.map_cons, List.map_cons, dpsI, dp_ti]
      simp only [List.mem_cons, forall_eq_or_imp]
      rw [← ih]; omega
  unfold tmsI
  rw [dpsI, show (pi P).main = ti P.main from rfl, dp_ti, show (pi P).qs = P.qs.map fun q => (⟨q.nm, ti q.pd⟩ : Qi) from rfl, ← this]
  omega
theorem chk_zero {p : Pi} : chk p = 0 ↔ p.qs.length ≤ 32 ∧ fitI (tmsI p) = true ∧ oneI false p.main = true ∧ AQ p.qs := by
  unfold chk
  split
  · rename_i h
    split
    · rename_i h2; exact ⟨fun _ => ⟨h.1, h.2, h2.1, AQb_iff.1 h2.2⟩, fun _ => rfl⟩
    · rename_i h2; exact ⟨(fun e => by cases e), fun e => absurd ⟨e.2.2.1, AQb_iff.2 e.2.2.2⟩ h2⟩
  · rename_i h; exact ⟨(fun e => by cases e), fun e => absurd ⟨e.1, e.2.1⟩ h⟩
/-- what Check takes -/
theorem okW_chk {P : Po} (h : OkW P) : chk (pi P) = 0 := by
  refine chk_zero.2 ⟨by rw [pi_len]; exact h.l, fitI_iff.2 ⟨by rw [tms_sz]; exact h.s, (tms_dp P).2 ⟨h.dm, h.dq⟩⟩, ?_, h.a⟩
  exact (one_same false P.main).trans h.m
theorem qs_pick : ∀ qs : List Qi, (∀ q ∈ qs, oneI true q.pd = true) → ∃ qs' : List Qy, qs = qs'.map fun q => (⟨q.nm, ti q.pd⟩ : Qi)
  | [], _ => ⟨[], rfl⟩
  | q :: qs, h => by
    obtain ⟨t, ht⟩ := one_of true q.pd (h q (List.mem_cons_self ..))
    obtain ⟨qs', e⟩ := qs_pick qs fun x hx => h x (List.mem_cons_of_mem _ hx)
    exact ⟨⟨q.nm, t⟩ :: qs', by rw [List.map_cons, ← e, ← ht]⟩
theorem chk_ok {p : Pi} (h : chk p = 0) : ∃ P, p = pi P ∧ OkW P := by
  obtain ⟨h1, h2, h3, h4⟩ := chk_zero.1 h
  obtain ⟨main, qs⟩ := p
  obtain ⟨t, rfl⟩ := one_of false main h3
  have h5 : ∀ q ∈ qs, oneI true q.pd = true := fun q hq => by
    obtain ⟨i, hi, rfl⟩ := List.getElem_of_mem hq
    exact (h4 i hi).2.1
  obtain ⟨qs', rfl⟩ := qs_pick qs h5
  refine ⟨⟨t, qs'⟩, rfl, ?_⟩
  have hf := fitI_iff.1 h2
  have hs := tms_sz ⟨t, qs'⟩
  have hd := (tms_dp ⟨t, qs'⟩).1 hf.2
  refine ⟨(one_same false t).symm.trans h3, fun q hq => ?_, by simpa using h1, by rw [← hs]; exact hf.1, hd.1, hd.2, h4⟩
  have := h5 ⟨q.nm, ti q.pd⟩ (List.mem_map.2 ⟨q, hq, rfl⟩)
  exact (one_same true q.pd).symm.trans this
theorem OkW.wp {P : Po} (h : OkW P) : Wp (pi P) := ⟨wi_ti P.main h.m, fun q hq => by
  obtain ⟨x, hx, rfl⟩ := List.mem_map.1 hq
  exact wi_ti x.pd (h.q x hx)⟩
theorem qsz_mem {qs : List Qy} {q : Qy} (h : q ∈ qs) : sz q.pd ≤ qsz qs := by
  induction qs with
  | nil => cases h
  | cons a qs ih =>
    rw [qsz_cons]
    rcases List.mem_cons.1 h with rfl | h
    · omega
    · have := ih h; omega
/-- the plain form -/
def plQ (q : Qy) : Qy := ⟨q.nm, pl q.pd⟩
def plPo (P : Po) : Po := ⟨pl P.main, P.qs.map plQ⟩
theorem OkW.gm {P : Po} (h : OkW P) : Gd false (sz P.main) (dp P.main) (pl P.main) := gd_pl _ _ h.m (by have := h.s; omega)
theorem OkW.gq {P : Po} (h : OkW P) {q : Qy} (hq : q ∈ P.qs) : Gd true (sz q.pd) (dp q.pd) (pl q.pd) := gd_pl _ _ (h.q q hq) (by have := h.s; have := qsz_mem hq; omega)
theorem OkW.pl {P : Po} (h : OkW P) : OkW (plPo P) := by
  refine ⟨h.gm.o, fun q hq => ?_, by simpa [plPo] using h.l, ?_, Nat.le_trans h.gm.d h.dm, fun q hq => ?_, fun i hi => ?_⟩
  · obtain ⟨x, hx, rfl⟩ := List.mem_map.1 hq
    exact (h.gq hx).o
  · have h1 := h.gm.s
    have h2 : ∀ qs : List Qy, (∀ q ∈ qs, Gd true (sz q.pd) (dp q.pd) (Go.Proofs.YtjallmncajhamaaDoor.pl q.pd)) → qsz (qs.map plQ) ≤ qsz qs := fun qs => by
      induction qs with
      | nil => intro _; simp
      | cons a qs ih =>
        intro h
        rw [List.map_cons, qsz_cons, qsz_cons]
        have := (h a (List.mem_cons_self ..)).s
        have := ih fun q hq => h q (List.mem_cons_of_mem _ hq)
        show sz (Go.Proofs.YtjallmncajhamaaDoor.pl a.pd) + _ ≤ _
        omega
    have h3 := h2 P.qs fun q hq => h.gq hq
    have := h.s
    show sz (Go.Proofs.YtjallmncajhamaaDoor.pl P.main) + qsz (P.qs.map plQ) ≤ 4096
    omega
  · obtain ⟨x, hx, rfl⟩ := List.mem_map.1 hq
    exact Nat.le_trans (h.gq hx).d (h.dq x hx)
  · have hi2 : i < P.qs.length := by rw [pi_len] at hi; simpa [plPo] using hi
    have hi3 : i < (pi P).qs.length := by rw [pi_len]; exact hi2
    obtain ⟨a1, a2, a3⟩ := h.a i hi3
    rw [pi_at P hi2 hi3] at a1 a3
    have e : ∀ j (hj : j < P.qs.length) (hj' : j < (pi (plPo P)).qs.length), (pi (plPo P)).qs[j] = ⟨(P.qs[j]).nm, ti (Go.Proofs.YtjallmncajhamaaDoor.pl (P.qs[j]).pd)⟩ := fun j hj hj' => by simp [pi, plPo, plQ]
    rw [e i hi2 hi]
    refine ⟨a1, (one_same true _).trans (h.gq (List.getElem_mem hi2)).o, fun m hm => ?_⟩
    rw [e m (by omega) (by omega)]
    have := a3 m hm
    rw [pi_at P (by omega) (by omega)] at this
    exact this
theorem OkW.twice {P : Po} (h : OkW P) : plPo (plPo P) = plPo P := by
  have h1 : Go.Proofs.YtjallmncajhamaaDoor.pl (Go.Proofs.YtjallmncajhamaaDoor.pl P.main) = Go.Proofs.YtjallmncajhamaaDoor.pl P.main := pl_pl h.m (by have := h.s; omega)
  unfold plPo
  rw [h1, List.map_map]
  congr 1
  refine List.map_congr_left fun q hq => ?_
  show (⟨q.nm, Go.Proofs.YtjallmncajhamaaDoor.pl (Go.Proofs.YtjallmncajhamaaDoor.pl q.pd)⟩ : Qy) = ⟨q.nm, _⟩
  rw [pl_pl (h.q q hq) (by have := h.s; have := qsz_mem hq; omega)]
end Go.Proofs.YtjallmncajhamaaDoor
