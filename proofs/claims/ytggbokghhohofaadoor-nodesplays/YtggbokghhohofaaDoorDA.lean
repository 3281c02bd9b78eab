/-
  Proved here: fill and act of layer 20's laws: a store whose nodes are each once and in order; what an act makes of a store. Plain: what was made is told again (Told). Conditions: the acts lie where they are said to; the tables hold their numbers.
-/
import Derived.Test.YtggbokghhohofaaDoorCI
import Derived.Test.YtggbokghhohofaaDoorWB
namespace Go.Proofs.YtggbokghhohofaaDoor
open Go.RowKit Go.Maps
set_option maxRecDepth 100000

theorem Wk.on {w0 w w' : World} {p : Nat} {all : List Nd} (h : Wk w0 p all w) (hb : Below w.heap.size w w') : Wk w0 p all w' := ⟨h.st.on hb, h.low.trans (hb.mono h.low.size), h.tab.on (hb.mono h.low.size)⟩
theorem inL_pre {all all' : List Nd} (h : all <+: all') {i : Int} (hi : inL all i = true) : inL all' i = true := by
  have := h.length_le
  simp only [inL, Bool.and_eq_true, decide_eq_true_eq] at hi ⊢
  omega
theorem nd_pre {all all' : List Nd} (h : all <+: all') {i : Int} (hi : inL all i = true) : nd all' i = nd all i := by
  obtain ⟨t, rfl⟩ := h
  simp only [inL, Bool.and_eq_true, decide_eq_true_eq] at hi
  unfold nd
  rw [List.getD_eq_getElem?_getD, List.getD_eq_getElem?_getD, List.getElem?_append_left (by omega)]
theorem okT_pre {all all' : List Nd} (h : all <+: all') {fd n hi lo : Int} (hk : okT all fd n hi lo = true) : okT all' fd n hi lo = true := by
  unfold okT at *
  simp only [Bool.and_eq_true] at hk ⊢
  obtain ⟨h1, h2, h3, h4, h5⟩ := hk
  exact ⟨h1, inL_pre h h2, inL_pre h h3, by rw [nd_pre h h2]; exact h4, by rw [nd_pre h h3]; exact h5⟩
theorem nodup_new {all : List Nd} {x : Nd} (hn : all.Nodup) (hx : x ∉ all) : (all ++ [x]).Nodup := by
  unfold List.Nodup at *
  rw [List.pairwise_append]
  exact ⟨hn, List.pairwise_singleton _ _, fun a ha b hb e => hx (by rw [← List.mem_singleton.1 hb, ← e]; exact ha)⟩
theorem putR_pre {all : List Nd} {x : Nd} {id er : Int} {all' : List Nd} (h : PutR all x id er all') : all <+: all' ∧ (all.Nodup → all'.Nodup) ∧ all'.length ≤ all.length + 1 := by
  rcases h with ⟨_, _, _, _, _, rfl⟩ | ⟨_, _, _, _, rfl⟩ | ⟨hx, _, _, _, rfl⟩
  · exact ⟨List.prefix_refl _, fun k => k, by omega⟩
  · exact ⟨List.prefix_refl _, fun k => k, by omega⟩
  · exact ⟨List.prefix_append _ _, fun hn => nodup_new hn hx, by simp⟩
/-- A node, and those ahead of it. -/
def NdG (all : List Nd) (i : Nat) (x : Nd) : Prop := x.fd = -1 ∨ (0 ≤ x.fd ∧ (0 ≤ x.hi ∧ x.hi < i) ∧ (0 ≤ x.lo ∧ x.lo < i) ∧ x.hi ≠ x.lo ∧ ordH (nd all x.hi) x.fd = true ∧ ordL (nd all x.lo) x.fd x.n = true)
structure GoodN (all : List Nd) : Prop where
  nd : all.Nodup
  ok : ∀ i (h : i < all.length), NdG all i all[i]
theorem NdG.pre {all all' : List Nd} (h : all <+: all') {i : Nat} {x : Nd} (hi : i ≤ all.length) (hg : NdG all i x) : NdG all' i x := by
  rcases hg with hg | ⟨h1, h2, h3, h4, h5, h6⟩
  · exact Or.inl hg
  · exact Or.inr ⟨h1, h2, h3, h4, by rw [nd_pre h (by simp only [inL, Bool.and_eq_true, decide_eq_true_eq]; omega)]; exact h5, by rw [nd_pre h (by simp only [inL, Bool.and_eq_true, decide_eq_true_eq]; omega)]; exact h6⟩
theorem GoodN.put {all : List Nd} {x : Nd} {id er : Int} {all' : List Nd} (hg : GoodN all) (h : PutR all x id er all') (hx : NdG all all.length x) : GoodN all' ∧ all'.length ≤ all.length + 1 := by
  have hp := putR_pre h
  refine ⟨⟨hp.2.1 hg.nd, fun i hi => ?_⟩, hp.2.2⟩
  rcases h with ⟨_, _, _, _, _, rfl⟩ | ⟨_, _, _, _, rfl⟩ | ⟨_, _, _, _, rfl⟩
  · exact hg.ok i hi
  · exact hg.ok i hi
  · by_cases h1 : i < all.length
    · rw [List.getElem_append_left h1]
      exact (hg.ok i h1).pre hp.1 (by omega)
    · have : i = all.length := by simp at hi; omega
      subst this
      rw [show (all ++ [x])[all.length] = x by simp]
      exact hx.pre hp.1 (Nat.le_refl _)
theorem GoodN.leaf {all : List Nd} {rows : List (List Ac)} {id er : Int} {all' : List Nd} (hg : GoodN all) (h : LeafR all rows id er all') : GoodN all' ∧ all'.length ≤ all.length + 1 := by
  rcases h with ⟨_, _, _, rfl⟩ | ⟨K, _, hp⟩
  · exact ⟨hg, by omega⟩
  · exact hg.put hp (Or.inl rfl)
theorem GoodN.test {all : List Nd} {fd n hi lo : Int} {id er : Int} {all' : List Nd} (hg : GoodN all) (h : TestR all fd n hi lo id er all') : GoodN all' ∧ all'.length ≤ all.length + 1 := by
  rcases h with ⟨_, _, _, rfl⟩ | ⟨_, _, _, _, rfl⟩ | ⟨hk, hne, hp⟩
  · exact ⟨hg, by omega⟩
  · exact ⟨hg, by omega⟩
  · refine hg.put hp (Or.inr ?_)
    unfold okT at hk
    simp only [Bool.and_eq_true] at hk
    obtain ⟨h1, h2, h3, h4, h5⟩ := hk
    simp only [inL, fitB, Bool.and_eq_true, decide_eq_true_eq] at h1 h2 h3
    exact ⟨h1.1.1, h2, h3, hne, h4, h5⟩
def ActR (x : At) (all : List Nd) (id er : Int) (all' : List Nd) : Prop := if x.dw = 0 then LeafR all x.rows id er all' else TestR all x.fd x.n x.hi x.lo id er all'
/-- What was made of an act, and how it is told. -/
def Told (x : At) (id : Int) (all : List Nd) : Prop := if x.dw = 0 then ∃ K, nrows x.rows = some K ∧ ∃ i, ∃ h : i < all.length, all[i] = lfN K ∧ id = ((i : Nat) : Int) else okT all x.fd x.n x.hi x.lo = true ∧ ((x.hi = x.lo ∧ id = x.hi) ∨ (x.hi ≠ x.lo ∧ ∃ i, ∃ h : i < all.length, all[i] = tsN x.fd x.n x.hi x.lo ∧ id = ((i : Nat) : Int)))
theorem at_pre {all all' : List Nd} (hp : all <+: all') {x : Nd} {id : Int} (h : ∃ i, ∃ h : i < all.length, all[i] = x ∧ id = ((i : Nat) : Int)) : ∃ i, ∃ h : i < all'.length, all'[i] = x ∧ id = ((i : Nat) : Int) := by
  obtain ⟨i, hi, e, rfl⟩ := h
  exact ⟨i, Nat.lt_of_lt_of_le hi hp.length_le, (hp.getElem hi).symm.trans e, rfl⟩
theorem Told.pre {x : At} {id : Int} {all all' : List Nd} (h : Told x id all) (hp : all <+: all') : Told x id all' := by
  unfold Told at h
  unfold Told
  split at h
  · rename_i hd
    rw [if_pos hd]
    obtain ⟨K, h1, h2⟩ := h
    exact ⟨K, h1, at_pre hp h2⟩
  · rename_i hd
    rw [if_neg hd]
    exact ⟨okT_pre hp h.1, h.2.imp (fun k => k) fun k => ⟨k.1, at_pre hp k.2⟩⟩
theorem ActR.pre {x : At} {all : List Nd} {id er : Int} {all' : List Nd} (h : ActR x all id er all') : all <+: all' ∧ (all.Nodup → all'.Nodup) ∧ all'.length ≤ all.length + 1 := by
  unfold ActR at h
  split at h
  · rcases h with ⟨_, _, _, rfl⟩ | ⟨K, _, hp⟩
    · exact ⟨List.prefix_refl _, fun k => k, by omega⟩
    · exact putR_pre hp
  · rcases h with ⟨_, _, _, rfl⟩ | ⟨_, _, _, _, rfl⟩ | ⟨hk, hne, hp⟩
    · exact ⟨List.prefix_refl _, fun k => k, by omega⟩
    · exact ⟨List.prefix_refl _, fun k => k, by omega⟩
    · exact putR_pre hp
theorem putR_told {all : List Nd} {x : Nd} {id er : Int} {all' : List Nd} (h : PutR all x id er all') (he : er = 0) : ∃ i, ∃ h : i < all'.length, all'[i] = x ∧ id = ((i : Nat) : Int) := by
  rcases h with ⟨i, hi, e, rfl, _, rfl⟩ | ⟨_, _, _, h1, _⟩ | ⟨_, _, rfl, _, rfl⟩
  · exact ⟨i, hi, e, rfl⟩
  · omega
  · exact ⟨all.length, by simp, by simp, rfl⟩
theorem ActR.told {x : At} {all : List Nd} {id er : Int} {all' : List Nd} (h : ActR x all id er all') (he : er = 0) : Told x id all' := by
  have hp := h.pre.1
  unfold ActR at h
  unfold Told
  split at h
  · rename_i hd
    rw [if_pos hd]
    rcases h with ⟨_, _, h1, _⟩ | ⟨K, h1, h2⟩
    · omega
    · exact ⟨K, h1, putR_told h2 he⟩
  · rename_i hd
    rw [if_neg hd]
    rcases h with ⟨_, _, h1, _⟩ | ⟨h1, h2, h3, _, rfl⟩ | ⟨h1, h2, h3⟩
    · omega
    · exact ⟨h1, Or.inl ⟨h2, h3⟩⟩
    · exact ⟨okT_pre hp h1, Or.inr ⟨h2, putR_told h3 he⟩⟩
theorem putR_again {all : List Nd} {x : Nd} {id id' er' : Int} {all' : List Nd} (hn : all.Nodup) (h : ∃ i, ∃ h : i < all.length, all[i] = x ∧ id = ((i : Nat) : Int)) (hp : PutR all x id' er' all') : id' = id ∧ er' = 0 ∧ all' = all := by
  obtain ⟨i, hi, e, rfl⟩ := h
  exact putR_old hp (e ▸ List.getElem_mem hi) hn i hi e
theorem Told.again {x : At} {id id' er' : Int} {all all' : List Nd} (h : Told x id all) (hn : all.Nodup) (hr : ActR x all id' er' all') : id' = id ∧ er' = 0 ∧ all' = all := by
  unfold Told at h
  unfold ActR at hr
  split at h
  · rename_i hd
    rw [if_pos hd] at hr
    obtain ⟨K, h1, h2⟩ := h
    rcases hr with ⟨k, _⟩ | ⟨K', k, hp⟩
    · rw [h1] at k; cases k
    · rw [h1] at k
      simp only [Option.some.injEq] at k
      subst k
      exact putR_again hn h2 hp
  · rename_i hd
    rw [if_neg hd] at hr
    rcases hr with ⟨k, _⟩ | ⟨_, k, h1, h2, h3⟩ | ⟨_, k, hp⟩
    · rw [h.1] at k; cases k
    · rcases h.2 with ⟨_, e⟩ | ⟨e, _⟩
      · exact ⟨by rw [h1, e], h2, h3⟩
      · exact absurd k e
    · rcases h.2 with ⟨e, _⟩ | ⟨_, e⟩
      · exact absurd e k
      · exact putR_again hn e hp
/-- What a test of an act reads. -/
structure Hfl (b o : Nat) (x : At) (w : World) : Prop where
  c2 : w.cell? ⟨b, o + 2, none⟩ = some (.int .i8 x.fd)
  c3 : w.cell? ⟨b, o + 3, none⟩ = some (.int .u64 x.n)
  c4 : w.cell? ⟨b, o + 4, none⟩ = some (.int .i64 x.hi)
  c5 : w.cell? ⟨b, o + 5, none⟩ = some (.int .i64 x.lo)
theorem Hfl.on {b o : Nat} {x : At} {w w' : World} (h : Hfl b o x w) (hb : w'.heap[b]? = w.heap[b]?) : Hfl b o x w' := ⟨(cell_same hb).trans h.c2, (cell_same hb).trans h.c3, (cell_same hb).trans h.c4, (cell_same hb).trans h.c5⟩
set_option maxHeartbeats 12800000 in
theorem fill_any {T : Nat → Prop} (w : World) (v : Value) (l : List At) (h : Ats T w v l) (_hTl : ∀ b, T b → b < w.heap.size) (htot : totA l ≤ 8192) (hT : Tabs w.heap.size w) : Calls Tryd.prog 19 #[v] w fun e w' => ∃ p all, e = .returned (ptr p) ∧ Wk w p all w' ∧ GoodN all ∧ all.length ≤ l.length := by
  obtain ⟨ao, cap, rfl, hcap⟩ := h.form
  have hlen := h.len
  have HA := hid h
  have HT := hid hT
  have HTot := hid htot
  clear h hT htot
  go_enter Tryd.func19, Tryd.ntmps19
  go_upto_region 3 with (go_at_call 10; refine (new_any _).mono ?_; rintro e W1 ⟨p, rfl, hb, hs⟩; have H1 : Hid (Wk w p [] W1) := ⟨hs, hb, HT.out.on hb⟩; clear hb hs)
  go_loopw [4] (fun si wr => ∃ (i : Nat) (all : List Nd), si = .int .i64 ((i : Nat) : Int) ∧ i ≤ l.length ∧ Hid (Wk w p all wr ∧ GoodN all ∧ all.length ≤ i)) (fun si _ => l.length - (intOf si).toNat)
  case atStart => exact ⟨0, [], rfl, Nat.zero_le _, H1.out, ⟨List.nodup_nil, fun i hi => absurd hi (by simp)⟩, Nat.le_refl _⟩
  case round =>
    clear H1
    obtain ⟨i, all, rfl, hi1, HK⟩ := hrel
    by_cases hi : i < l.length
    · have hd : decide ((i : Int) < (l.length : Int)) = true := by simp; omega
      have hiw : IntKind.i64.wrap ((i : Int) + 1) = (i : Int) + 1 := by rw [IntKind.wrap_i64]; omega
      have hic : i < cap := by omega
      have ha : Ats (fun b => b < w.heap.size) wr (.slice ao l.length cap) l := Ats.carry (fun b hb hT => ⟨hb, HK.out.1.low.block b hb⟩) HA.out
      have htx := Nat.le_trans (totA_mem (List.getElem_mem hi)) HTot.out
      obtain ⟨b, o, rfl, hTb, h0, ⟨u, hu, hcp⟩, h2, h3, h4, h5, hTf, -⟩ := ha.cell i hi
      replace h0 : wr.cell? ⟨b, o + i * 6, none⟩ = some (.int .i64 l[i].dw) := h0
      replace hu : wr.cell? ⟨b, o + i * 6 + 1, none⟩ = some u := hu
      generalize l[i] = x at htx h0 hu hcp h2 h3 h4 h5 hTf
      clear ha
      by_cases hx0 : x.dw = 0
      · have hq0 : (x.dw == 0) = true := by simp [hx0]
        have C1 := hid (leafW HK.out.1.st u x.rows hcp (fun b hb => Nat.lt_of_lt_of_le hb HK.out.1.low.size) (by omega) HK.out.1.tab HK.out.1.low.size)
        obtain ⟨a1, k1, rfl, -⟩ := hcp.form
        clear h2 h3 h4 h5 hcp
        go_wp2_with (go_at_call 11; refine (C1.out).mono ?_; rintro e W2 ⟨id, er, all2, rfl, hr, hs, _, hb, ht⟩; have hg := GoodN.leaf HK.out.2.1 hr; have HK2 : Hid (Wk w p all2 W2 ∧ GoodN all2 ∧ all2.length ≤ i + 1) := ⟨⟨hs, HK.out.1.low.trans hb, ht⟩, hg.1, by have := HK.out.2.2; have := hg.2; omega⟩; clear hb hs hr ht hg C1 HK)
        go_roundw
        case rel => exact ⟨i + 1, all2, by rw [show (((i + 1 : Nat) : Nat) : Int) = (i : Int) + 1 by omega], hi, HK2⟩
        case measure => simp [intOf]; omega
      · have hq0 : (x.dw == 0) = false := beq_eq_false_iff_ne.2 hx0
        by_cases hx1 : x.dw = 1
        · have hq1 : (x.dw == 1) = true := by simp [hx1]
          have HF : Hid (Hfl b (o + i * 6) x wr) := ⟨h2, h3, h4, h5⟩
          have HKd := hid (HK.out.1.on (Gro.refl wr).drew.below)
          have C1 := hid (testW HKd.out.st x.fd x.n x.hi x.lo hTf HKd.out.tab HKd.out.low.size)
          clear hx0 hx1 hu hcp h2 h3 h4 h5
          go_upto_region 9 with fail
          clear h0 hq0 hq1
          refine wp_region_held_drew (S := Hfl b (o + i * 6) x) (by kernel_rfl) (HF.out.on rfl) (fun hHeld => ?_)
          refine wpAnyH_take (i := 0) (v := ?_) rfl (by kernel_rfl) (by kernel_rfl) (by kernel_rfl) (fun _ _ _ h => h) (Or.inl ⟨by rfl, ?_⟩) hHeld ?_
          rotate_left
          · intro w' hSw
            clear hSw
            go_simp
            first | done | with_reducible rfl
          simp only [Act.put, List.getElem_toArray, List.getElem_cons_zero, List.setIfInBounds_toArray, List.set_cons_zero, List.set_cons_succ]
          refine wpAnyH_take (i := 1) (v := ?_) rfl (by kernel_rfl) (by kernel_rfl) (by kernel_rfl) (fun _ _ _ h => h) (Or.inl ⟨by rfl, ?_⟩) hHeld ?_
          rotate_left
          · intro w' hSw
            clear hSw
            go_simp
            first | done | with_reducible rfl
          simp only [Act.put, List.getElem_toArray, List.getElem_cons_succ, List.getElem_cons_zero, List.setIfInBounds_toArray, List.set_cons_zero, List.set_cons_succ]
          refine wpAnyH_take (i := 2) (v := ?_) rfl (by kernel_rfl) (by kernel_rfl) (by kernel_rfl) (fun _ _ _ h => h) (Or.inl ⟨by rfl, ?_⟩) hHeld ?_
          rotate_left
          · intro w' hSw
            clear hSw
            go_simp
            first | done | with_reducible rfl
          simp only [Act.put, List.getElem_toArray, List.getElem_cons_succ, List.getElem_cons_zero, List.setIfInBounds_toArray, List.set_cons_zero, List.set_cons_succ]
          refine wpAnyH_take (i := 3) (v := ?_) rfl (by kernel_rfl) (by kernel_rfl) (by kernel_rfl) (fun _ _ _ h => h) (Or.inl ⟨by rfl, ?_⟩) hHeld ?_
          rotate_left
          · intro w' hSw
            clear hSw
            go_simp
            first | done | with_reducible rfl
          simp only [Act.put, List.getElem_toArray, List.getElem_cons_succ, List.getElem_cons_zero, List.setIfInBounds_toArray, List.set_cons_zero, List.set_cons_succ]
          refine wpAnyH_take (i := 4) (v := ?_) rfl (by kernel_rfl) (by kernel_rfl) (by kernel_rfl) (fun _ _ _ h => h) (Or.inl ⟨by rfl, ?_⟩) hHeld ?_
          rotate_left
          · intro w' hSw
            clear hSw
            go_simp
            first | done | with_reducible rfl
          simp only [Act.put, List.getElem_toArray, List.getElem_cons_succ, List.getElem_cons_zero, List.setIfInBounds_toArray, List.set_cons_zero, List.set_cons_succ]
          refine wpAnyH_take (i := 5) (v := ?_) rfl (by kernel_rfl) (by kernel_rfl) (by kernel_rfl) (fun _ _ _ h => h) (Or.inl ⟨by rfl, ?_⟩) hHeld ?_
          rotate_left
          · intro w' hSw
            have c2 := hSw.c2
            clear hSw
            go_simp
            first | done | with_reducible rfl
          simp only [Act.put, List.getElem_toArray, List.getElem_cons_succ, List.getElem_cons_zero, List.setIfInBounds_toArray, List.set_cons_zero, List.set_cons_succ]
          refine wpAnyH_take (i := 6) (v := ?_) rfl (by kernel_rfl) (by kernel_rfl) (by kernel_rfl) (fun _ _ _ h => h) (Or.inl ⟨by rfl, ?_⟩) hHeld ?_
          rotate_left
          · intro w' hSw
            clear hSw
            go_simp
            first | done | with_reducible rfl
          simp only [Act.put, List.getElem_toArray, List.getElem_cons_succ, List.getElem_cons_zero, List.setIfInBounds_toArray, List.set_cons_zero, List.set_cons_succ]
          refine wpAnyH_take (i := 7) (v := ?_) rfl (by kernel_rfl) (by kernel_rfl) (by kernel_rfl) (fun _ _ _ h => h) (Or.inl ⟨by rfl, ?_⟩) hHeld ?_
          rotate_left
          · intro w' hSw
            clear hSw
            go_simp
            first | done | with_reducible rfl
          simp only [Act.put, List.getElem_toArray, List.getElem_cons_succ, List.getElem_cons_zero, List.setIfInBounds_toArray, List.set_cons_zero, List.set_cons_succ]
          refine wpAnyH_take (i := 8) (v := ?_) rfl (by kernel_rfl) (by kernel_rfl) (by kernel_rfl) (fun _ _ _ h => h) (Or.inl ⟨by rfl, ?_⟩) hHeld ?_
          rotate_left
          · intro w' hSw
            clear hSw
            go_simp
            first | done | with_reducible rfl
          simp only [Act.put, List.getElem_toArray, List.getElem_cons_succ, List.getElem_cons_zero, List.setIfInBounds_toArray, List.set_cons_zero, List.set_cons_succ]
          refine wpAnyH_take (i := 9) (v := ?_) rfl (by kernel_rfl) (by kernel_rfl) (by kernel_rfl) (fun _ _ _ h => h) (Or.inl ⟨by rfl, ?_⟩) hHeld ?_
          rotate_left
          · intro w' hSw
            clear hSw
            go_simp
            first | done | with_reducible rfl
          simp only [Act.put, List.getElem_toArray, List.getElem_cons_succ, List.getElem_cons_zero, List.setIfInBounds_toArray, List.set_cons_zero, List.set_cons_succ]
          refine wpAnyH_take (i := 10) (v := ?_) rfl (by kernel_rfl) (by kernel_rfl) (by kernel_rfl) (fun _ _ _ h => h) (Or.inl ⟨by rfl, ?_⟩) hHeld ?_
          rotate_left
          · intro w' hSw
            have c3 := hSw.c3
            clear hSw
            go_simp
            first | done | with_reducible rfl
          simp only [Act.put, List.getElem_toArray, List.getElem_cons_succ, List.getElem_cons_zero, List.setIfInBounds_toArray, List.set_cons_zero, List.set_cons_succ]
          refine wpAnyH_take (i := 11) (v := ?_) rfl (by kernel_rfl) (by kernel_rfl) (by kernel_rfl) (fun _ _ _ h => h) (Or.inl ⟨by rfl, ?_⟩) hHeld ?_
          rotate_left
          · intro w' hSw
            clear hSw
            go_simp
            first | done | with_reducible rfl
          simp only [Act.put, List.getElem_toArray, List.getElem_cons_succ, List.getElem_cons_zero, List.setIfInBounds_toArray, List.set_cons_zero, List.set_cons_succ]
          refine wpAnyH_take (i := 12) (v := ?_) rfl (by kernel_rfl) (by kernel_rfl) (by kernel_rfl) (fun _ _ _ h => h) (Or.inl ⟨by rfl, ?_⟩) hHeld ?_
          rotate_left
          · intro w' hSw
            clear hSw
            go_simp
            first | done | with_reducible rfl
          simp only [Act.put, List.getElem_toArray, List.getElem_cons_succ, List.getElem_cons_zero, List.setIfInBounds_toArray, List.set_cons_zero, List.set_cons_succ]
          refine wpAnyH_take (i := 13) (v := ?_) rfl (by kernel_rfl) (by kernel_rfl) (by kernel_rfl) (fun _ _ _ h => h) (Or.inl ⟨by rfl, ?_⟩) hHeld ?_
          rotate_left
          · intro w' hSw
            clear hSw
            go_simp
            first | done | with_reducible rfl
          simp only [Act.put, List.getElem_toArray, List.getElem_cons_succ, List.getElem_cons_zero, List.setIfInBounds_toArray, List.set_cons_zero, List.set_cons_succ]
          refine wpAnyH_take (i := 14) (v := ?_) rfl (by kernel_rfl) (by kernel_rfl) (by kernel_rfl) (fun _ _ _ h => h) (Or.inl ⟨by rfl, ?_⟩) hHeld ?_
          rotate_left
          · intro w' hSw
            clear hSw
            go_simp
            first | done | with_reducible rfl
          simp only [Act.put, List.getElem_toArray, List.getElem_cons_succ, List.getElem_cons_zero, List.setIfInBounds_toArray, List.set_cons_zero, List.set_cons_succ]
          refine wpAnyH_take (i := 15) (v := ?_) rfl (by kernel_rfl) (by kernel_rfl) (by kernel_rfl) (fun _ _ _ h => h) (Or.inl ⟨by rfl, ?_⟩) hHeld ?_
          rotate_left
          · intro w' hSw
            have c4 := hSw.c4
            clear hSw
            go_simp
            first | done | with_reducible rfl
          simp only [Act.put, List.getElem_toArray, List.getElem_cons_succ, List.getElem_cons_zero, List.setIfInBounds_toArray, List.set_cons_zero, List.set_cons_succ]
          refine wpAnyH_take (i := 16) (v := ?_) rfl (by kernel_rfl) (by kernel_rfl) (by kernel_rfl) (fun _ _ _ h => h) (Or.inl ⟨by rfl, ?_⟩) hHeld ?_
          rotate_left
          · intro w' hSw
            clear hSw
            go_simp
            first | done | with_reducible rfl
          simp only [Act.put, List.getElem_toArray, List.getElem_cons_succ, List.getElem_cons_zero, List.setIfInBounds_toArray, List.set_cons_zero, List.set_cons_succ]
          refine wpAnyH_take (i := 17) (v := ?_) rfl (by kernel_rfl) (by kernel_rfl) (by kernel_rfl) (fun _ _ _ h => h) (Or.inl ⟨by rfl, ?_⟩) hHeld ?_
          rotate_left
          · intro w' hSw
            clear hSw
            go_simp
            first | done | with_reducible rfl
          simp only [Act.put, List.getElem_toArray, List.getElem_cons_succ, List.getElem_cons_zero, List.setIfInBounds_toArray, List.set_cons_zero, List.set_cons_succ]
          refine wpAnyH_take (i := 18) (v := ?_) rfl (by kernel_rfl) (by kernel_rfl) (by kernel_rfl) (fun _ _ _ h => h) (Or.inl ⟨by rfl, ?_⟩) hHeld ?_
          rotate_left
          · intro w' hSw
            clear hSw
            go_simp
            first | done | with_reducible rfl
          simp only [Act.put, List.getElem_toArray, List.getElem_cons_succ, List.getElem_cons_zero, List.setIfInBounds_toArray, List.set_cons_zero, List.set_cons_succ]
          refine wpAnyH_take (i := 19) (v := ?_) rfl (by kernel_rfl) (by kernel_rfl) (by kernel_rfl) (fun _ _ _ h => h) (Or.inl ⟨by rfl, ?_⟩) hHeld ?_
          rotate_left
          · intro w' hSw
            clear hSw
            go_simp
            first | done | with_reducible rfl
          simp only [Act.put, List.getElem_toArray, List.getElem_cons_succ, List.getElem_cons_zero, List.setIfInBounds_toArray, List.set_cons_zero, List.set_cons_succ]
          refine wpAnyH_take (i := 20) (v := ?_) rfl (by kernel_rfl) (by kernel_rfl) (by kernel_rfl) (fun _ _ _ h => h) (Or.inl ⟨by rfl, ?_⟩) hHeld ?_
          rotate_left
          · intro w' hSw
            have c5 := hSw.c5
            clear hSw
            go_simp
            first | done | with_reducible rfl
          simp only [Act.put, List.getElem_toArray, List.getElem_cons_succ, List.getElem_cons_zero, List.setIfInBounds_toArray, List.set_cons_zero, List.set_cons_succ]
          refine wpAnyH_ready (rs := [21]) (by kernel_rfl) (by simp) ?_
          refine AllReadyH.cons rfl (fun K hK => ?_) AllReadyH.nil
          refine stepFnW 13 (.func 13) [.tmp 28, .tmp 33, .tmp 38, .tmp 43, .tmp 48] _ [ptr p, .int .i8 x.fd, .int .u64 x.n, .int .i64 x.hi, .int .i64 x.lo] [] rfl rfl rfl rfl (fun _ _ => rfl) _ C1.out ?_
          rintro e W2 ⟨id, er, all2, rfl, hr, hs, _, hb, ht⟩
          refine Or.inl ⟨_, rfl, ?_⟩
          have hg := GoodN.test HK.out.2.1 hr
          have HK2 : Hid (Wk w p all2 W2 ∧ GoodN all2 ∧ all2.length ≤ i + 1) := ⟨⟨hs, HKd.out.low.trans hb, ht⟩, hg.1, by have := HK.out.2.2; have := hg.2; omega⟩
          have HF2 : Hid (Hfl b (o + i * 6) x W2) := HF.out.on ((HK2.out.1.low.block b hTb).trans (HK.out.1.low.block b hTb).symm)
          clear hb hs hr ht hg C1 HK HKd hHeld
          refine hK.out _ _ HF2.out (fun hHeld => ?_)
          clear hK K
          simp only [Act.put, List.getElem_toArray, List.getElem_cons_succ, List.getElem_cons_zero, List.setIfInBounds_toArray, List.set_cons_zero, List.set_cons_succ]
          clear hHeld
          refine wpAnyH_done (by kernel_rfl) ?_ _
          go_wp2
          go_roundw
          case rel => exact ⟨i + 1, all2, by rw [show (((i + 1 : Nat) : Nat) : Int) = (i : Int) + 1 by omega], hi, HK2⟩
          case measure => simp [intOf]; omega
        · have hq1 : (x.dw == 1) = false := beq_eq_false_iff_ne.2 hx1
          have HK2 : Hid (Wk w p all wr ∧ GoodN all ∧ all.length ≤ i + 1) := ⟨HK.out.1, HK.out.2.1, by have := HK.out.2.2; omega⟩
          clear h2 h3 h4 h5 hu hcp
          go_wp2
          go_roundw
          case rel => exact ⟨i + 1, all, by rw [show (((i + 1 : Nat) : Nat) : Int) = (i : Int) + 1 by omega], hi, HK2⟩
          case measure => simp [intOf]; omega
    · have hd : decide ((i : Int) < (l.length : Int)) = false := by simp; omega
      go_wp2
      go_ret
      exact ⟨p, all, rfl, HK.out.1, HK.out.2.1, Nat.le_trans HK.out.2.2 hi1⟩
end Go.Proofs.YtggbokghhohofaaDoor
