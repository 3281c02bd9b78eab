/-
  Proved here: the document's own answer for layer 20: a row's settings by rising fields, or none. Condition: the row lies where it is said to.
-/
import Derived.Test.YtggbokghhohofaaDoorEA
namespace Go.Proofs.YtggbokghhohofaaDoor
open Go.RowKit
set_option maxRecDepth 100000

/-- The settings of the fields below f, field by field. -/
def outF (l : List Ac) : Nat → List Ac
  | 0 => []
  | f + 1 => outF l f ++ l.filter fun a => a.fd == ((f : Nat) : Int)
theorem outF_in (l : List Ac) : ∀ f, ∀ a ∈ outF l f, a ∈ l ∧ a.fd < ((f : Nat) : Int)
  | 0, a, h => by cases h
  | f + 1, a, h => by
    rcases List.mem_append.1 h with h | h
    · have := outF_in l f a h; exact ⟨this.1, by omega⟩
    · have := List.mem_filter.1 h
      have h2 := beq_iff_eq.1 this.2
      exact ⟨this.1, by omega⟩
theorem outF_cons (x : Ac) (l : List Ac) : ∀ f, (outF (x :: l) f).Perm (if 0 ≤ x.fd ∧ x.fd < ((f : Nat) : Int) then x :: outF l f else outF l f)
  | 0 => by rw [if_neg (by omega)]; exact List.Perm.refl _
  | f + 1 => by
    have ih := outF_cons x l f
    unfold outF
    by_cases h : x.fd = ((f : Nat) : Int)
    · rw [if_neg (by omega)] at ih
      rw [if_pos (by omega), List.filter_cons_of_pos (by simpa using h)]
      exact (ih.append_right _).trans List.perm_middle
    · rw [List.filter_cons_of_neg (by simpa using h)]
      by_cases h2 : 0 ≤ x.fd ∧ x.fd < ((f : Nat) : Int)
      · rw [if_pos h2] at ih
        rw [if_pos (by omega)]
        exact ih.append_right _
      · rw [if_neg h2] at ih
        rw [if_neg (by omega)]
        exact ih.append_right _
theorem outF_perm (l : List Ac) (f : Nat) (h : ∀ a ∈ l, 0 ≤ a.fd ∧ a.fd < ((f : Nat) : Int)) : (outF l f).Perm l := by
  induction l with
  | nil =>
    have : ∀ f, outF [] f = [] := fun f => by
      induction f with
      | zero => rfl
      | succ f ih => simp [outF, ih]
    rw [this]
  | cons x l ih =>
    have h1 := outF_cons x l f
    rw [if_pos (h x (by simp))] at h1
    exact h1.trans ((ih fun a ha => h a (List.mem_cons_of_mem _ ha)).cons x)
theorem outF_strict (l : List Ac) : ∀ f, (∀ k, k < f → (l.filter fun a => a.fd == ((k : Nat) : Int)).length ≤ 1) → (outF l f).Pairwise fun a b => a.fd < b.fd
  | 0, _ => List.Pairwise.nil
  | f + 1, h => by
    unfold outF
    rw [List.pairwise_append]
    refine ⟨outF_strict l f fun k hk => h k (by omega), ?_, fun a ha b hb => ?_⟩
    · have h1 := h f (by omega)
      cases hq : l.filter fun a => a.fd == ((f : Nat) : Int) with
      | nil => exact List.Pairwise.nil
      | cons y m =>
        rw [hq] at h1
        cases m with
        | nil => exact List.pairwise_singleton _ _
        | cons z m => simp at h1
    · have h1 := (outF_in l f a ha).2
      have h2 := beq_iff_eq.1 (List.mem_filter.1 hb).2
      omega
theorem okS_fd {a : Ac} (h : okS a = true) : 0 ≤ a.fd ∧ a.fd < ((11 : Nat) : Int) := by
  simp only [okS, fitB, Bool.and_eq_true, decide_eq_true_eq] at h
  exact ⟨h.2.1.1, h.2.1.2⟩
theorem row_yes {l : List Ac} (h : ∀ k, k < 11 → (l.filter fun a => a.fd == ((k : Nat) : Int)).length ≤ 1) (hok : l.all okS = true) : rowOk l = true ∧ outF l 11 = srt l ∧ (outF l 11).length = l.length := by
  have hp := outF_perm l 11 fun a ha => okS_fd (List.all_eq_true.1 hok a ha)
  have hs := outF_strict l 11 h
  have hn : (l.map (·.fd)).Nodup := nodup_perm hp.symm (by
    unfold List.Nodup
    rw [List.pairwise_map]
    exact hs.imp fun h => by omega)
  refine ⟨by unfold rowOk; rw [hok, decide_eq_true hn]; rfl, srt_uniq hn hp (hs.imp fun h => by omega), hp.length_eq⟩
theorem row_no {l : List Ac} {k : Nat} (h : 1 < (l.filter fun a => a.fd == ((k : Nat) : Int)).length) : rowOk l = false := by
  have hn : ¬ (l.map (·.fd)).Nodup := fun hn => by
    have h1 : ((l.filter fun a => a.fd == ((k : Nat) : Int)).map (·.fd)).Nodup := hn.sublist (List.Sublist.map _ List.filter_sublist)
    cases hq : l.filter fun a => a.fd == ((k : Nat) : Int) with
    | nil => rw [hq] at h; simp at h
    | cons y m =>
      cases m with
      | nil => rw [hq] at h; simp at h
      | cons z m =>
        have hy : y ∈ l.filter fun a => a.fd == ((k : Nat) : Int) := by rw [hq]; simp
        have hz : z ∈ l.filter fun a => a.fd == ((k : Nat) : Int) := by rw [hq]; simp
        have e1 := beq_iff_eq.1 (List.mem_filter.1 hy).2
        have e2 := beq_iff_eq.1 (List.mem_filter.1 hz).2
        rw [hq] at h1
        simp at h1
        exact h1.1.1 (by rw [e1, e2])
  unfold rowOk
  rw [decide_eq_false hn]; simp
theorem row_bad {l : List Ac} {a : Ac} (ha : a ∈ l) (h : okS a = false) : rowOk l = false := by
  unfold rowOk
  have : l.all okS = false := by
    cases hq : l.all okS
    · rfl
    · rw [List.all_eq_true.1 hq a ha] at h; cases h
  rw [this]; rfl
/-- A list of settings of one's own, while it grows. -/
structure Gw (w : World) (v : Value) (m : List Ac) (wr : World) : Prop where
  low : Below w.heap.size w wr
  rw : Rw (fun b => w.heap.size ≤ b) 3 54 wr v m.length (acL m)
theorem Gw.on {w : World} {v : Value} {m : List Ac} {wr w' : World} (h : Gw w v m wr) (hb : Below wr.heap.size wr w') : Gw w v m w' := ⟨h.low.trans (hb.mono h.low.size), h.rw.carry fun b hlt hS => ⟨hS, hb.block b hlt⟩⟩
theorem acL_snoc (l : List Ac) (a : Ac) : acL (l ++ [a]) = acL l ++ (acl a).toList := by simp [acL]
theorem Gw.app {w : World} {m : List Ac} {v v' : Value} {wr w' : World} (h : Gw w v m wr) (a : Ac) (hA : Apd wr v w') (hR : Rw (fun b => w.heap.size ≤ b ∨ wr.heap.size ≤ b) 3 54 w' v' (m.length + 1) (acL m ++ (acl a).toList)) : Gw w v' (m ++ [a]) w' := by
  have hz := h.low.size
  refine ⟨h.low.trans ⟨hA.os, hA.tape, hA.output, hA.size, fun k hk => hA.block k (by omega) fun e => by have := h.rw.own k e; omega⟩, ?_⟩
  rw [acL_snoc, List.length_append]
  exact hR.carry fun b _ hS => ⟨by omega, rfl⟩
theorem filt_next (l : List Ac) (i f : Nat) (hi : i < l.length) : (l.take (i + 1)).filter (fun a => a.fd == ((f : Nat) : Int)) = (l.take i).filter (fun a => a.fd == ((f : Nat) : Int)) ++ (if l[i].fd = ((f : Nat) : Int) then [l[i]] else []) := by
  rw [List.take_succ_eq_append_getElem hi, List.filter_append]
  congr 1
  split
  · rename_i h; simp [h]
  · rename_i h; simp [h]
/-- What the check of a setting reads. -/
structure Hrc (g j : Nat) (x : Ac) (w : World) : Prop where
  d : w.cell? ⟨g, j, none⟩ = some (.int .i8 x.dw)
  f : w.cell? ⟨g, j + 1, none⟩ = some (.int .i8 x.fd)
  n : w.cell? ⟨g, j + 2, none⟩ = some (.int .u64 x.n)
set_option maxHeartbeats 25600000 in
theorem row_any {T : Nat → Prop} (w : World) (u : Value) (l : List Ac) (h : Acs T w u l) (_hTl : ∀ b, T b → b < w.heap.size) (hl : l.length ≤ 40000) : Calls Tryd.prog 39 #[u] w fun e w' => Below w.heap.size w w' ∧ ((rowOk l = false ∧ ∃ v', e = .returned (.tuple #[v', .bool false])) ∨ (rowOk l = true ∧ ∃ v', e = .returned (.tuple #[v', .bool true]) ∧ Acs (fun b => w.heap.size ≤ b) w' v' (srt l))) := by
  obtain ⟨a0, k0, rfl, hk0⟩ := h.form
  have HA := hid h
  have HFit := hid h.fit
  clear h
  have HG0 : Hid (Gw w nilS [] w) := ⟨Below.refl _ _, Rw.nil _ _ _ _⟩
  go_enter Tryd.func39, Tryd.ntmps39
  go_upto_region 3 with fail
  go_loopw [4, 5] (fun so sf wr => ∃ (f : Nat) (v : Value), v = so ∧ sf = .int .i64 ((f : Nat) : Int) ∧ f ≤ 11 ∧ Hid (∀ k, k < f → (l.filter fun a => a.fd == ((k : Nat) : Int)).length ≤ 1) ∧ Hid ((outF l f).length ≤ f) ∧ Hid (Gw w v (outF l f) wr)) (fun _ sf _ => 11 - (intOf sf).toNat)
  case atStart => exact ⟨0, _, rfl, rfl, by omega, fun k hk => by omega, Nat.zero_le _, HG0.out⟩
  case round =>
    clear HG0
    obtain ⟨f, v, rfl, rfl, hf1, HL, HLn, HG⟩ := hrel
    by_cases hf : f < 11
    · have hd : decide ((f : Int) < 11) = true := by simp; omega
      have hfw : IntKind.i64.wrap ((f : Int) + 1) = (f : Int) + 1 := by rw [IntKind.wrap_i64]; omega
      have hf8 : IntKind.i8.wrap (f : Int) = (f : Int) := by rcases (show f = 0 ∨ f = 1 ∨ f = 2 ∨ f = 3 ∨ f = 4 ∨ f = 5 ∨ f = 6 ∨ f = 7 ∨ f = 8 ∨ f = 9 ∨ f = 10 by omega) with rfl | rfl | rfl | rfl | rfl | rfl | rfl | rfl | rfl | rfl | rfl <;> decide
      have hol := HLn.out
      go_upto_region 7 with fail
      generalize wr = W1 at HG ⊢
      go_loopw [4, 6, 7] (fun so sn si wr => ∃ (i : Nat) (v2 : Value), v2 = so ∧ sn = .int .i64 ((((l.take i).filter fun a => a.fd == ((f : Nat) : Int)).length : Nat) : Int) ∧ si = .int .i64 ((i : Nat) : Int) ∧ i ≤ l.length ∧ Hid (Gw w v2 (outF l f ++ (l.take i).filter fun a => a.fd == ((f : Nat) : Int)) wr)) (fun _ _ si _ => l.length - (intOf si).toNat)
      case atStart => exact ⟨0, v, rfl, by simp, rfl, Nat.zero_le _, by show Gw _ _ _ _; simpa using HG.out⟩
      case round =>
        clear HG
        obtain ⟨i, v2, rfl, rfl, rfl, hi1, HG⟩ := hrel
        by_cases hi : i < l.length
        · have hdi : decide ((i : Int) < (l.length : Int)) = true := by simp; omega
          have hiw : IntKind.i64.wrap ((i : Int) + 1) = (i : Int) + 1 := by rw [IntKind.wrap_i64]; omega
          have hik : i < k0 := by omega
          have ha : Acs (fun b => b < w.heap.size) wr (.slice a0 l.length k0) l := HA.out.carry fun b hb hT => ⟨hb, HG.out.low.block b hb⟩
          obtain ⟨g, j, rfl, -, -, hr, -⟩ := ha.at i hi
          have hfn := filt_next l i f hi
          have hfl : ((l.take i).filter fun a => a.fd == ((f : Nat) : Int)).length ≤ i := Nat.le_trans (List.length_filter_le _ _) (by simp; omega)
          have c1 : wr.cell? ⟨g, j + i * 3 + 1, none⟩ = some (.int .i8 l[i].fd) := hr 1 _ rfl
          have HRA := hid hr
          clear ha hr
          generalize l[i] = x at hfn c1 HRA
          by_cases hx : x.fd = (f : Int)
          · have hq : (x.fd == (f : Int)) = true := by simp [hx]
            rw [if_pos hx] at hfn
            have HFn := hid hfn
            have hnw : IntKind.i64.wrap ((((l.take i).filter fun a => a.fd == ((f : Nat) : Int)).length : Int) + 1) = (((l.take i).filter fun a => a.fd == ((f : Nat) : Int)).length : Int) + 1 := by rw [IntKind.wrap_i64]; omega
            clear hx hfn
            go_upto_region 10 with fail
            clear hq c1
            obtain ⟨m, hm⟩ : ∃ m, m = outF l f ++ (l.take i).filter fun a => a.fd == ((f : Nat) : Int) := ⟨_, rfl⟩
            have hml : m.length ≤ 50000 := by rw [hm, List.length_append]; omega
            rw [← hm] at HG
            have HM : Hid (outF l f ++ (l.take (i + 1)).filter (fun a => a.fd == ((f : Nat) : Int)) = m ++ [x]) := by show _ = _; rw [HFn.out, hm, List.append_assoc]
            have HLl : Hid (((l.take (i + 1)).filter fun a => a.fd == ((f : Nat) : Int)).length = ((l.take i).filter fun a => a.fd == ((f : Nat) : Int)).length + 1) := by show _ = _; rw [HFn.out]; simp
            clear hm HFn
            generalize ((l.take i).filter fun a => a.fd == ((f : Nat) : Int)).length = q at hnw HLl hfl ⊢
            have hal : Below wr.heap.size wr (wr.alloc (.cells (acl x) 54)) := (Below.refl _ _).alloc (Nat.le_refl _) _
            have HG3 := hid (HG.out.on hal)
            have HC4 : Hid (∀ (i : Nat) (y : Value), ((acl x).toList)[i]? = some y → (wr.alloc (.cells (acl x) 54)).cell? (Addr.add ⟨wr.heap.size, 0, none⟩ i) = some y) := fun i y hy => by
              rw [Addr.add_lit, Nat.zero_add, cell_of_row _ _ _ _ _ _ (heap_alloc_new _ _), ← hy]; simp
            clear hal HG
            go_wp2_with (first
              | (refine ldMid 54 (.tmp 30) rfl rfl g (j + i * 3) rfl (acl x) _ Tryd.underlying54 rfl infoACT HRA.out ?_)
              | (refine appRw (v := v2) (S := fun b => w.heap.size ≤ b) (k := 3) (t := 54) (n := m.length) (m := 1) (c := 1) (xs := acL m) (us := (acl x).toList) (ad := ⟨wr.heap.size, 0, none⟩) (.tmp 27) (.tmp 32) 52 rfl rfl rfl rfl Tryd.underlying52 infACT rfl (by omega) (by omega) HG3.out.rw rfl HC4.out (by intro y hy; simp at hy; rcases hy with rfl | rfl | rfl <;> rfl) (by omega) (Or.inl (by omega)) ?_; intro v6 w6 hap hrw; have HG6 := hid (HG3.out.app x hap ((hrw _ HG3.out.rw).carry fun b _ hS => ⟨hS, rfl⟩)); clear hap hrw HG3 HC4))
            have HG7 : Hid (Gw w v6 (outF l f ++ (l.take (i + 1)).filter fun a => a.fd == ((f : Nat) : Int)) w6) := by show Gw _ _ _ _; rw [HM.out]; exact HG6.out
            go_roundw
            case rel => exact ⟨i + 1, v6, rfl, by rw [HLl.out, show (((q + 1 : Nat) : Nat) : Int) = (q : Int) + 1 by omega], by rw [show (((i + 1 : Nat) : Nat) : Int) = (i : Int) + 1 by omega], hi, HG7⟩
            case measure => simp [intOf]; omega
          · have hq : (x.fd == (f : Int)) = false := by simp [hx]
            rw [if_neg hx, List.append_nil] at hfn
            have HFn := hid hfn
            have HG2 : Hid (Gw w v2 (outF l f ++ (l.take (i + 1)).filter fun a => a.fd == ((f : Nat) : Int)) wr) := by show Gw _ _ _ _; rw [HFn.out]; exact HG.out
            clear hx hfn
            go_wp2
            go_roundw
            case rel => exact ⟨i + 1, v2, rfl, by rw [HFn.out], by rw [show (((i + 1 : Nat) : Nat) : Int) = (i : Int) + 1 by omega], hi, HG2⟩
            case measure => simp [intOf]; omega
        · have hdi : decide ((i : Int) < (l.length : Int)) = false := by simp; omega
          obtain rfl : i = l.length := by omega
          rw [List.take_length] at HG ⊢
          by_cases hc : 1 < (l.filter fun a => a.fd == ((f : Nat) : Int)).length
          · have dc : decide ((1 : Int) < (((l.filter fun a => a.fd == ((f : Nat) : Int)).length : Nat) : Int)) = true := decide_eq_true (by omega)
            have HN := hid (row_no hc)
            clear hc
            go_wp2
            refine bodyPost_ret (results_tmp2 rfl _ _ _) rfl ?_
            exact ⟨HG.out.low, Or.inl ⟨HN.out, _, rfl⟩⟩
          · have dc : decide ((1 : Int) < (((l.filter fun a => a.fd == ((f : Nat) : Int)).length : Nat) : Int)) = false := decide_eq_false (by omega)
            have HL2 : Hid (∀ k, k < f + 1 → (l.filter fun a => a.fd == ((k : Nat) : Int)).length ≤ 1) := fun k hk => by
              by_cases h : k < f
              · exact HL.out k h
              · obtain rfl : k = f := by omega
                omega
            have HLn2 : Hid ((outF l (f + 1)).length ≤ f + 1) := by show _ ≤ _; rw [outF, List.length_append]; omega
            have HG2 : Hid (Gw w v2 (outF l (f + 1)) wr) := HG.out
            clear hc
            go_wp2
            go_roundw
            case rel => exact ⟨f + 1, v2, rfl, by rw [show (((f + 1 : Nat) : Nat) : Int) = (f : Int) + 1 by omega], by omega, HL2, HLn2, HG2⟩
            case measure => simp [intOf]; omega
    · have hd : decide ((f : Int) < 11) = false := by simp; omega
      obtain rfl : f = 11 := by omega
      go_upto_region 15 with fail
      clear hd
      generalize wr = W1 at HG ⊢
      go_loopw [8] (fun si wr => ∃ i : Nat, si = .int .i64 ((i : Nat) : Int) ∧ i ≤ l.length ∧ Hid (∀ a ∈ l.take i, okS a = true) ∧ Hid (Gw w v (outF l 11) wr)) (fun si _ => l.length - (intOf si).toNat)
      case atStart => exact ⟨0, rfl, Nat.zero_le _, fun a ha => by simp at ha, HG.out⟩
      case round =>
        clear HG
        obtain ⟨i, rfl, hi1, HO, HG⟩ := hrel
        by_cases hi : i < l.length
        · have hdi : decide ((i : Int) < (l.length : Int)) = true := by simp; omega
          have hiw : IntKind.i64.wrap ((i : Int) + 1) = (i : Int) + 1 := by rw [IntKind.wrap_i64]; omega
          have hik : i < k0 := by omega
          have ha : Acs (fun b => b < w.heap.size) wr (.slice a0 l.length k0) l := HA.out.carry fun b hb hT => ⟨hb, HG.out.low.block b hb⟩
          obtain ⟨g, j, rfl, -, -, hr, hft⟩ := ha.at i hi
          have HH : Hid (Hrc g (j + i * 3) l[i] wr) := ⟨hr 0 _ rfl, hr 1 _ rfl, hr 2 _ rfl⟩
          have HMem : Hid (okS l[i] = false → rowOk l = false) := row_bad (List.getElem_mem hi)
          have HON : Hid (okS l[i] = true → ∀ a ∈ l.take (i + 1), okS a = true) := fun h a ha => by
            rw [List.take_succ_eq_append_getElem hi] at ha
            rcases List.mem_append.1 ha with ha | ha
            · exact HO.out a ha
            · obtain rfl := List.mem_singleton.1 ha; exact h
          have hxn : InB l[i].n := hft.2.2
          clear ha hr hft
          generalize l[i] = x at HH HMem HON hxn
          go_upto_region 17 with fail
          by_cases hx : x.dw = 0
          · have hq : (x.dw != 0) = false := by simp [hx]
            have HF := hid (rfits_any x.fd x.n hxn wr.drew)
            have HOk : Hid (okS x = fitB x.fd x.n) := by show _ = _; unfold okS; rw [decide_eq_true hx]; rfl
            generalize fitB x.fd x.n = r at HF HOk
            clear hx hxn
            refine wp_region_held_drew (S := Hrc g (j + i * 3) x) (by kernel_rfl) ⟨HH.out.d, HH.out.f, HH.out.n⟩ (fun hHeld => ?_)
            refine wpAnyH_take (i := 0) (v := ?_) rfl (by kernel_rfl) (by kernel_rfl) (by kernel_rfl) (fun _ _ _ h => h) (Or.inl ⟨by rfl, ?_⟩) hHeld ?_
            rotate_left
            · intro w' hSw
              clear hSw
              go_simp
              first | done | with_reducible rfl
            simp only [Act.put, List.getElem_toArray, List.getElem_cons_zero, List.setIfInBounds_toArray, List.set_cons_zero, List.set_cons_succ]
            refine wpAnyH_take (i := 1) (v := ?_) rfl (by kernel_rfl) (by kernel_rfl) (by kernel_rfl) (fun _ _ _ h => h) (Or.inl ⟨by rfl, ?_⟩) hHeld ?_
            rotate_left
            · intro w' hSw
              clear hSw
              go_simp
              first | done | with_reducible rfl
            simp only [Act.put, List.getElem_toArray, List.getElem_cons_succ, List.getElem_cons_zero, List.setIfInBounds_toArray, List.set_cons_zero, List.set_cons_succ]
            refine wpAnyH_take (i := 2) (v := ?_) rfl (by kernel_rfl) (by kernel_rfl) (by kernel_rfl) (fun _ _ _ h => h) (Or.inl ⟨by rfl, ?_⟩) hHeld ?_
            rotate_left
            · intro w' hSw
              clear hSw
              go_simp
              first | done | with_reducible rfl
            simp only [Act.put, List.getElem_toArray, List.getElem_cons_succ, List.getElem_cons_zero, List.setIfInBounds_toArray, List.set_cons_zero, List.set_cons_succ]
            refine wpAnyH_take (i := 3) (v := ?_) rfl (by kernel_rfl) (by kernel_rfl) (by kernel_rfl) (fun _ _ _ h => h) (Or.inl ⟨by rfl, ?_⟩) hHeld ?_
            rotate_left
            · intro w' hSw
              clear hSw
              go_simp
              first | done | with_reducible rfl
            simp only [Act.put, List.getElem_toArray, List.getElem_cons_succ, List.getElem_cons_zero, List.setIfInBounds_toArray, List.set_cons_zero, List.set_cons_succ]
            refine wpAnyH_take (i := 4) (v := ?_) rfl (by kernel_rfl) (by kernel_rfl) (by kernel_rfl) (fun _ _ _ h => h) (Or.inl ⟨by rfl, ?_⟩) hHeld ?_
            rotate_left
            · intro w' hSw
              have d := hSw.d
              clear hSw
              go_simp
              first | done | with_reducible rfl
            simp only [Act.put, List.getElem_toArray, List.getElem_cons_succ, List.getElem_cons_zero, List.setIfInBounds_toArray, List.set_cons_zero, List.set_cons_succ]
            refine wpAnyH_take (i := 5) (v := ?_) rfl (by kernel_rfl) (by kernel_rfl) (by kernel_rfl) (fun _ _ _ h => h) (Or.inl ⟨by rfl, ?_⟩) hHeld ?_
            rotate_left
            · intro w' hSw
              clear hSw
              go_simp
              first | done | with_reducible rfl
            simp only [Act.put, List.getElem_toArray, List.getElem_cons_succ, List.getElem_cons_zero, List.setIfInBounds_toArray, List.set_cons_zero, List.set_cons_succ]
            refine wpAnyH_take (i := 6) (v := ?_) rfl (by kernel_rfl) (by kernel_rfl) (by kernel_rfl) (fun _ _ _ h => h) (Or.inl ⟨by rfl, ?_⟩) hHeld ?_
            rotate_left
            · intro w' hSw
              clear hSw
              go_simp
              first | done | with_reducible rfl
            simp only [Act.put, List.getElem_toArray, List.getElem_cons_succ, List.getElem_cons_zero, List.setIfInBounds_toArray, List.set_cons_zero, List.set_cons_succ]
            refine wpAnyH_take (i := 7) (v := ?_) rfl (by kernel_rfl) (by kernel_rfl) (by kernel_rfl) (fun _ _ _ h => h) (Or.inl ⟨by rfl, ?_⟩) hHeld ?_
            rotate_left
            · intro w' hSw
              clear hSw
              go_simp
              first | done | with_reducible rfl
            simp only [Act.put, List.getElem_toArray, List.getElem_cons_succ, List.getElem_cons_zero, List.setIfInBounds_toArray, List.set_cons_zero, List.set_cons_succ]
            refine wpAnyH_take (i := 8) (v := ?_) rfl (by kernel_rfl) (by kernel_rfl) (by kernel_rfl) (fun _ _ _ h => h) (Or.inl ⟨by rfl, ?_⟩) hHeld ?_
            rotate_left
            · intro w' hSw
              clear hSw
              go_simp
              first | done | with_reducible rfl
            simp only [Act.put, List.getElem_toArray, List.getElem_cons_succ, List.getElem_cons_zero, List.setIfInBounds_toArray, List.set_cons_zero, List.set_cons_succ]
            refine wpAnyH_take (i := 9) (v := ?_) rfl (by kernel_rfl) (by kernel_rfl) (by kernel_rfl) (fun _ _ _ h => h) (Or.inl ⟨by rfl, ?_⟩) hHeld ?_
            rotate_left
            · intro w' hSw
              clear hSw
              go_simp
              first | done | with_reducible rfl
            simp only [Act.put, List.getElem_toArray, List.getElem_cons_succ, List.getElem_cons_zero, List.setIfInBounds_toArray, List.set_cons_zero, List.set_cons_succ]
            refine wpAnyH_take (i := 10) (v := ?_) rfl (by kernel_rfl) (by kernel_rfl) (by kernel_rfl) (fun _ _ _ h => h) (Or.inl ⟨by rfl, ?_⟩) hHeld ?_
            rotate_left
            · intro w' hSw
              clear hSw
              go_simp
              first | done | with_reducible rfl
            simp only [Act.put, List.getElem_toArray, List.getElem_cons_succ, List.getElem_cons_zero, List.setIfInBounds_toArray, List.set_cons_zero, List.set_cons_succ]
            refine wpAnyH_take (i := 11) (v := ?_) rfl (by kernel_rfl) (by kernel_rfl) (by kernel_rfl) (fun _ _ _ h => h) (Or.inl ⟨by rfl, ?_⟩) hHeld ?_
            rotate_left
            · intro w' hSw
              have f := hSw.f
              clear hSw
              go_simp
              first | done | with_reducible rfl
            simp only [Act.put, List.getElem_toArray, List.getElem_cons_succ, List.getElem_cons_zero, List.setIfInBounds_toArray, List.set_cons_zero, List.set_cons_succ]
            refine wpAnyH_take (i := 12) (v := ?_) rfl (by kernel_rfl) (by kernel_rfl) (by kernel_rfl) (fun _ _ _ h => h) (Or.inl ⟨by rfl, ?_⟩) hHeld ?_
            rotate_left
            · intro w' hSw
              clear hSw
              go_simp
              first | done | with_reducible rfl
            simp only [Act.put, List.getElem_toArray, List.getElem_cons_succ, List.getElem_cons_zero, List.setIfInBounds_toArray, List.set_cons_zero, List.set_cons_succ]
            refine wpAnyH_take (i := 13) (v := ?_) rfl (by kernel_rfl) (by kernel_rfl) (by kernel_rfl) (fun _ _ _ h => h) (Or.inl ⟨by rfl, ?_⟩) hHeld ?_
            rotate_left
            · intro w' hSw
              clear hSw
              go_simp
              first | done | with_reducible rfl
            simp only [Act.put, List.getElem_toArray, List.getElem_cons_succ, List.getElem_cons_zero, List.setIfInBounds_toArray, List.set_cons_zero, List.set_cons_succ]
            refine wpAnyH_take (i := 14) (v := ?_) rfl (by kernel_rfl) (by kernel_rfl) (by kernel_rfl) (fun _ _ _ h => h) (Or.inl ⟨by rfl, ?_⟩) hHeld ?_
            rotate_left
            · intro w' hSw
              clear hSw
              go_simp
              first | done | with_reducible rfl
            simp only [Act.put, List.getElem_toArray, List.getElem_cons_succ, List.getElem_cons_zero, List.setIfInBounds_toArray, List.set_cons_zero, List.set_cons_succ]
            refine wpAnyH_take (i := 15) (v := ?_) rfl (by kernel_rfl) (by kernel_rfl) (by kernel_rfl) (fun _ _ _ h => h) (Or.inl ⟨by rfl, ?_⟩) hHeld ?_
            rotate_left
            · intro w' hSw
              clear hSw
              go_simp
              first | done | with_reducible rfl
            simp only [Act.put, List.getElem_toArray, List.getElem_cons_succ, List.getElem_cons_zero, List.setIfInBounds_toArray, List.set_cons_zero, List.set_cons_succ]
            refine wpAnyH_take (i := 16) (v := ?_) rfl (by kernel_rfl) (by kernel_rfl) (by kernel_rfl) (fun _ _ _ h => h) (Or.inl ⟨by rfl, ?_⟩) hHeld ?_
            rotate_left
            · intro w' hSw
              have n := hSw.n
              clear hSw
              go_simp
              first | done | with_reducible rfl
            simp only [Act.put, List.getElem_toArray, List.getElem_cons_succ, List.getElem_cons_zero, List.setIfInBounds_toArray, List.set_cons_zero, List.set_cons_succ]
            refine wpAnyH_ready (rs := [17]) (by kernel_rfl) (by simp) ?_
            refine AllReadyH.cons rfl (fun K hK => ?_) AllReadyH.nil
            refine stepFnW 30 (.func 30) [.tmp 55, .tmp 60] _ [.int .i8 x.fd, .int .u64 x.n] [] rfl rfl rfl rfl (fun _ _ => rfl) _ HF.out ?_
            rintro e w1 ⟨rfl, hw1⟩
            refine Or.inl ⟨_, rfl, ?_⟩
            rw [hw1]
            refine hK.out _ _ hHeld (fun hHeld => ?_)
            clear hK K
            simp only [Act.put, List.getElem_toArray, List.getElem_cons_succ, List.getElem_cons_zero, List.setIfInBounds_toArray, List.set_cons_zero, List.set_cons_succ]
            clear hw1
            refine wpAnyH_take (i := 18) (v := ?_) rfl (by kernel_rfl) (by kernel_rfl) (by kernel_rfl) (fun _ _ _ h => h) (Or.inl ⟨by rfl, ?_⟩) hHeld ?_
            rotate_left
            · intro w' hSw
              clear hSw
              go_simp
              first | done | with_reducible rfl
            simp only [Act.put, List.getElem_toArray, List.getElem_cons_succ, List.getElem_cons_zero, List.setIfInBounds_toArray, List.set_cons_zero, List.set_cons_succ]
            refine wpAnyH_take (i := 19) (v := ?_) rfl (by kernel_rfl) (by kernel_rfl) (by kernel_rfl) (fun _ _ _ h => h) (Or.inl ⟨by rfl, ?_⟩) hHeld ?_
            rotate_left
            · intro w' hSw
              clear hSw
              go_simp
              first | done | with_reducible rfl
            simp only [Act.put, List.getElem_toArray, List.getElem_cons_succ, List.getElem_cons_zero, List.setIfInBounds_toArray, List.set_cons_zero, List.set_cons_succ]
            refine wpAnyH_done (by kernel_rfl) ?_ _
            clear hHeld
            have HG2 := hid (HG.out.on (Gro.refl wr).drew.below)
            clear hq
            cases r
            · have HN := hid (HMem.out HOk.out)
              go_wp2
              refine bodyPost_ret (results_tmp2 rfl _ _ _) rfl ?_
              exact ⟨HG2.out.low, Or.inl ⟨HN.out, _, rfl⟩⟩
            · have HO2 := hid (HON.out HOk.out)
              go_wp2
              go_roundw
              case rel => exact ⟨i + 1, by rw [show (((i + 1 : Nat) : Nat) : Int) = (i : Int) + 1 by omega], hi, HO2, HG2⟩
              case measure => simp [intOf]; omega
          · have hq : (x.dw != 0) = true := bne_iff_ne.2 hx
            have HN := hid (HMem.out (by unfold okS; rw [decide_eq_false hx]; rfl))
            clear hx hxn
            refine wp_region_held_drew (S := Hrc g (j + i * 3) x) (by kernel_rfl) ⟨HH.out.d, HH.out.f, HH.out.n⟩ (fun hHeld => ?_)
            refine wpAnyH_take (i := 0) (v := ?_) rfl (by kernel_rfl) (by kernel_rfl) (by kernel_rfl) (fun _ _ _ h => h) (Or.inl ⟨by rfl, ?_⟩) hHeld ?_
            rotate_left
            · intro w' hSw
              clear hSw
              go_simp
              first | done | with_reducible rfl
            simp only [Act.put, List.getElem_toArray, List.getElem_cons_zero, List.setIfInBounds_toArray, List.set_cons_zero, List.set_cons_succ]
            refine wpAnyH_take (i := 1) (v := ?_) rfl (by kernel_rfl) (by kernel_rfl) (by kernel_rfl) (fun _ _ _ h => h) (Or.inl ⟨by rfl, ?_⟩) hHeld ?_
            rotate_left
            · intro w' hSw
              clear hSw
              go_simp
              first | done | with_reducible rfl
            simp only [Act.put, List.getElem_toArray, List.getElem_cons_succ, List.getElem_cons_zero, List.setIfInBounds_toArray, List.set_cons_zero, List.set_cons_succ]
            refine wpAnyH_take (i := 2) (v := ?_) rfl (by kernel_rfl) (by kernel_rfl) (by kernel_rfl) (fun _ _ _ h => h) (Or.inl ⟨by rfl, ?_⟩) hHeld ?_
            rotate_left
            · intro w' hSw
              clear hSw
              go_simp
              first | done | with_reducible rfl
            simp only [Act.put, List.getElem_toArray, List.getElem_cons_succ, List.getElem_cons_zero, List.setIfInBounds_toArray, List.set_cons_zero, List.set_cons_succ]
            refine wpAnyH_take (i := 3) (v := ?_) rfl (by kernel_rfl) (by kernel_rfl) (by kernel_rfl) (fun _ _ _ h => h) (Or.inl ⟨by rfl, ?_⟩) hHeld ?_
            rotate_left
            · intro w' hSw
              clear hSw
              go_simp
              first | done | with_reducible rfl
            simp only [Act.put, List.getElem_toArray, List.getElem_cons_succ, List.getElem_cons_zero, List.setIfInBounds_toArray, List.set_cons_zero, List.set_cons_succ]
            refine wpAnyH_take (i := 4) (v := ?_) rfl (by kernel_rfl) (by kernel_rfl) (by kernel_rfl) (fun _ _ _ h => h) (Or.inl ⟨by rfl, ?_⟩) hHeld ?_
            rotate_left
            · intro w' hSw
              have d := hSw.d
              clear hSw
              go_simp
              first | done | with_reducible rfl
            simp only [Act.put, List.getElem_toArray, List.getElem_cons_succ, List.getElem_cons_zero, List.setIfInBounds_toArray, List.set_cons_zero, List.set_cons_succ]
            refine wpAnyH_take (i := 5) (v := ?_) rfl (by kernel_rfl) (by kernel_rfl) (by kernel_rfl) (fun _ _ _ h => h) (Or.inl ⟨by rfl, ?_⟩) hHeld ?_
            rotate_left
            · intro w' hSw
              clear hSw
              go_simp
              first | done | with_reducible rfl
            simp only [Act.put, List.getElem_toArray, List.getElem_cons_succ, List.getElem_cons_zero, List.setIfInBounds_toArray, List.set_cons_zero, List.set_cons_succ]
            refine wpAnyH_take (i := 6) (v := ?_) rfl (by kernel_rfl) (by kernel_rfl) (by kernel_rfl) (fun _ _ _ h => h) (Or.inl ⟨by rfl, ?_⟩) hHeld ?_
            rotate_left
            · intro w' hSw
              clear hSw
              go_simp
              first | done | with_reducible rfl
            simp only [Act.put, List.getElem_toArray, List.getElem_cons_succ, List.getElem_cons_zero, List.setIfInBounds_toArray, List.set_cons_zero, List.set_cons_succ]
            refine wpAnyH_take (i := 7) (v := undef) rfl (by kernel_rfl) (by kernel_rfl) (by kernel_rfl) (fun _ _ _ h => h) (Or.inr ⟨by rfl, rfl⟩) hHeld ?_
            simp only [Act.put, List.getElem_toArray, List.getElem_cons_succ, List.getElem_cons_zero, List.setIfInBounds_toArray, List.set_cons_zero, List.set_cons_succ]
            refine wpAnyH_take (i := 8) (v := undef) rfl (by kernel_rfl) (by kernel_rfl) (by kernel_rfl) (fun _ _ _ h => h) (Or.inr ⟨by rfl, rfl⟩) hHeld ?_
            simp only [Act.put, List.getElem_toArray, List.getElem_cons_succ, List.getElem_cons_zero, List.setIfInBounds_toArray, List.set_cons_zero, List.set_cons_succ]
            refine wpAnyH_take (i := 9) (v := undef) rfl (by kernel_rfl) (by kernel_rfl) (by kernel_rfl) (fun _ _ _ h => h) (Or.inr ⟨by rfl, rfl⟩) hHeld ?_
            simp only [Act.put, List.getElem_toArray, List.getElem_cons_succ, List.getElem_cons_zero, List.setIfInBounds_toArray, List.set_cons_zero, List.set_cons_succ]
            refine wpAnyH_take (i := 10) (v := undef) rfl (by kernel_rfl) (by kernel_rfl) (by kernel_rfl) (fun _ _ _ h => h) (Or.inr ⟨by rfl, rfl⟩) hHeld ?_
            simp only [Act.put, List.getElem_toArray, List.getElem_cons_succ, List.getElem_cons_zero, List.setIfInBounds_toArray, List.set_cons_zero, List.set_cons_succ]
            refine wpAnyH_take (i := 11) (v := undef) rfl (by kernel_rfl) (by kernel_rfl) (by kernel_rfl) (fun _ _ _ h => h) (Or.inr ⟨by rfl, rfl⟩) hHeld ?_
            simp only [Act.put, List.getElem_toArray, List.getElem_cons_succ, List.getElem_cons_zero, List.setIfInBounds_toArray, List.set_cons_zero, List.set_cons_succ]
            refine wpAnyH_take (i := 12) (v := undef) rfl (by kernel_rfl) (by kernel_rfl) (by kernel_rfl) (fun _ _ _ h => h) (Or.inr ⟨by rfl, rfl⟩) hHeld ?_
            simp only [Act.put, List.getElem_toArray, List.getElem_cons_succ, List.getElem_cons_zero, List.setIfInBounds_toArray, List.set_cons_zero, List.set_cons_succ]
            refine wpAnyH_take (i := 13) (v := undef) rfl (by kernel_rfl) (by kernel_rfl) (by kernel_rfl) (fun _ _ _ h => h) (Or.inr ⟨by rfl, rfl⟩) hHeld ?_
            simp only [Act.put, List.getElem_toArray, List.getElem_cons_succ, List.getElem_cons_zero, List.setIfInBounds_toArray, List.set_cons_zero, List.set_cons_succ]
            refine wpAnyH_take (i := 14) (v := undef) rfl (by kernel_rfl) (by kernel_rfl) (by kernel_rfl) (fun _ _ _ h => h) (Or.inr ⟨by rfl, rfl⟩) hHeld ?_
            simp only [Act.put, List.getElem_toArray, List.getElem_cons_succ, List.getElem_cons_zero, List.setIfInBounds_toArray, List.set_cons_zero, List.set_cons_succ]
            refine wpAnyH_take (i := 15) (v := undef) rfl (by kernel_rfl) (by kernel_rfl) (by kernel_rfl) (fun _ _ _ h => h) (Or.inr ⟨by rfl, rfl⟩) hHeld ?_
            simp only [Act.put, List.getElem_toArray, List.getElem_cons_succ, List.getElem_cons_zero, List.setIfInBounds_toArray, List.set_cons_zero, List.set_cons_succ]
            refine wpAnyH_take (i := 16) (v := undef) rfl (by kernel_rfl) (by kernel_rfl) (by kernel_rfl) (fun _ _ _ h => h) (Or.inr ⟨by rfl, rfl⟩) hHeld ?_
            simp only [Act.put, List.getElem_toArray, List.getElem_cons_succ, List.getElem_cons_zero, List.setIfInBounds_toArray, List.set_cons_zero, List.set_cons_succ]
            refine wpAnyH_take (i := 17) (v := undef) rfl (by kernel_rfl) (by kernel_rfl) (by kernel_rfl) (fun _ _ _ h => h) (Or.inr ⟨by rfl, rfl⟩) hHeld ?_
            simp only [Act.put, List.getElem_toArray, List.getElem_cons_succ, List.getElem_cons_zero, List.setIfInBounds_toArray, List.set_cons_zero, List.set_cons_succ]
            refine wpAnyH_take (i := 18) (v := undef) rfl (by kernel_rfl) (by kernel_rfl) (by kernel_rfl) (fun _ _ _ h => h) (Or.inr ⟨by rfl, rfl⟩) hHeld ?_
            simp only [Act.put, List.getElem_toArray, List.getElem_cons_succ, List.getElem_cons_zero, List.setIfInBounds_toArray, List.set_cons_zero, List.set_cons_succ]
            refine wpAnyH_take (i := 19) (v := ?_) rfl (by kernel_rfl) (by kernel_rfl) (by kernel_rfl) (fun _ _ _ h => h) (Or.inl ⟨by rfl, ?_⟩) hHeld ?_
            rotate_left
            · intro w' hSw
              clear hSw
              go_simp
              first | done | with_reducible rfl
            simp only [Act.put, List.getElem_toArray, List.getElem_cons_succ, List.getElem_cons_zero, List.setIfInBounds_toArray, List.set_cons_zero, List.set_cons_succ]
            refine wpAnyH_done (by kernel_rfl) ?_ _
            clear hHeld
            have HG2 := hid (HG.out.on (Gro.refl wr).drew.below)
            go_wp2
            refine bodyPost_ret (results_tmp2 rfl _ _ _) rfl ?_
            exact ⟨HG2.out.low, Or.inl ⟨HN.out, _, rfl⟩⟩
        · have hdi : decide ((i : Int) < (l.length : Int)) = false := by simp; omega
          obtain rfl : i = l.length := by omega
          have hy := row_yes HL.out (by
            have := HO.out
            rw [List.take_length] at this
            exact List.all_eq_true.2 this)
          obtain ⟨hy1, hy2, hy3⟩ := hy
          have HY := hid (And.intro hy1 (And.intro hy2 hy3))
          have hfrm := HG.out.rw.form
          obtain ⟨a1, c1, rfl⟩ := hfrm
          have hql : (((outF l 11).length : Int) == (l.length : Int)) = true := beq_iff_eq.2 (by omega)
          clear hy1 hy2 hy3
          go_wp2
          refine bodyPost_ret (results_tmp2 rfl _ _ _) rfl ?_
          refine ⟨HG.out.low, Or.inr ⟨HY.out.1, _, rfl, ?_⟩⟩
          have h1 := acs_of HG.out.rw (fun a ha => HFit.out a (outF_in l 11 a ha).1) (by have := HY.out.2.2; omega)
          rw [← HY.out.2.1]
          exact h1
end Go.Proofs.YtggbokghhohofaaDoor
