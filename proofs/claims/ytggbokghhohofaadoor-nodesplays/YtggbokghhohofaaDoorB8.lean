/-
  Proved here: slices.CompactFunc at settings: of those side by side that name one field one stays. Condition: the settings lie in a slice of one's own.
-/
import Derived.Test.YtggbokghhohofaaDoorB7
namespace Go.Proofs.YtggbokghhohofaaDoor
open Go.RowKit
set_option maxRecDepth 100000

abbrev fnF : Value := .func (.func 35) #[] #[]
abbrev flA (a : Ac) : List Value := (acl a).toList
theorem flA3 (x : Ac) : (flA x).length = 3 := rfl
def qF (a b : Ac) : Bool := decide (cmpF a b = 0)
theorem inA1_any (a b : Ac) (cb : Nat) (w : World) (hc : w.cell? ⟨cb, 0, none⟩ = some fnF) : Calls Tryd.prog 50 #[acv a, acv b, ptr cb] w fun e w' => e = .returned (.bool (qF a b)) ∧ Gro w w' := by
  obtain ⟨W, hW⟩ : ∃ W, W = (w.alloc (.cells (acl a) 54)).alloc (.cells (acl b) 54) := ⟨_, rfl⟩
  have hG : Gro w W := by rw [hW]; exact ((Gro.refl w).alloc _).alloc _
  have HG := hid hG
  have e1 : Hid (W.heap[w.heap.size]? = some (.cells (acl a) 54 (0, 0))) := by show _ = _; rw [hW]; exact (heap_alloc_old _ _ (by simp)).trans (heap_alloc_new _ _)
  have e2 : Hid (W.heap[w.heap.size + 1]? = some (.cells (acl b) 54 (0, 0))) := by show _ = _; rw [hW]; have := heap_alloc_new (w.alloc (.cells (acl a) 54)) (.cells (acl b) 54); simpa using this
  have HW : Hid ((w.alloc (.cells (acl a) 54)).alloc (.cells (acl b) 54) = W) := hW.symm
  have hcW := cell_on hG.below hc
  have HC := hid (byField_any a b W)
  have e3 : Hid (qF a b = (cmpF a b == 0)) := rfl
  generalize cmpF a b = x at HC e3
  rw [e3.out]
  clear hW hG hc e3
  go_enter Tryd.func50, Tryd.ntmps50
  go_upto_region 1 with fail
  rw [show (w.alloc (.cells (acl a) 54)).alloc (.cells (acl b) 54) = W from HW.out]
  clear HW
  go_wp2_with (first
    | (refine ldRow 54 (.tmp 3) rfl rfl w.heap.size rfl 54 (acl a) _ Tryd.underlying54 rfl infoACT e1.out ?_)
    | (refine ldRow 54 (.tmp 4) rfl rfl (w.heap.size + 1) rfl 54 (acl b) _ Tryd.underlying54 rfl infoACT e2.out ?_)
    | (go_at_call 35; refine (HC.out).mono ?_; rintro e w' ⟨rfl, hb⟩; have HB := hid (HG.out.trans hb); clear hb))
  go_ret
  exact ⟨rfl, HB.out⟩
/-- where the walk is: c is what the cells hold -/
structure CpS (S : Nat → Prop) (w : World) (v : Value) (n cb : Nat) (c : List Ac) (wr : World) : Prop where
  rw : Rw S 3 54 wr v n (fl flA c)
  cl : wr.cell? ⟨cb, 0, none⟩ = some fnF
  only : Only (Mine v w) w wr
theorem CpS.gro {S : Nat → Prop} {w : World} {v : Value} {n cb : Nat} {c : List Ac} {wr w' : World} (h : CpS S w v n cb c wr) (hg : Gro wr w') : CpS S w v n cb c w' :=
  ⟨h.rw.carry fun b hb hS => ⟨hS, hg.below.block b hb⟩, cell_on hg.below h.cl, h.only.trans (Only.of hg.below fun _k hk => Or.inr (Nat.le_trans h.only.size hk))⟩
theorem CpS.put {S : Nat → Prop} {w : World} {g o n cap cb : Nat} {c : List Ac} {wr : World} (h : CpS S w (.slice (some ⟨g, o, none⟩) n cap) n cb c wr) (hl : c.length = n) (hcb : cb ≠ g) (k : Nat) (hk : k < n) (x : Ac) : CpS S w (.slice (some ⟨g, o, none⟩) n cap) n cb (c.set k x) (wr.setCells g (o + k * 3) (flA x)) :=
  ⟨h.rw.put flA3 hl k hk x, (cell_same (cells_oth hcb _ _ _)).trans h.cl, h.only.trans ((only_cells g _ _ _).mono fun b hb => Or.inl (by rw [hb]; rfl))⟩
/-- What a comparison reads. -/
structure Hp (g i j cb : Nat) (x y : Ac) (w : World) : Prop where
  r1 : w.rangeAt g i (acl x).toList
  r2 : w.rangeAt g j (acl y).toList
  lt : g < w.heap.size
  c : w.cell? ⟨cb, 0, none⟩ = some fnF
theorem Hp.gro {g i j cb : Nat} {x y : Ac} {w w' : World} (h : Hp g i j cb x y w) (hg : Gro w w') : Hp g i j cb x y w' :=
  ⟨fun k u hk => (cell_same (hg.below.block g h.lt)).trans (h.r1 k u hk), fun k u hk => (cell_same (hg.below.block g h.lt)).trans (h.r2 k u hk), Nat.lt_of_lt_of_le h.lt hg.below.size, cell_on hg.below h.c⟩
theorem flA_one (x : Ac) : ∀ u ∈ flA x, u.oneCell' = true := fun u hu => acL_all [x] u (by simpa [acL] using hu)
set_option maxHeartbeats 6400000 in
theorem cpcA_any {S : Nat → Prop} (w : World) (v : Value) (d : List Ac) (cb : Nat) (h : Rw S 3 54 w v d.length (acL d)) (hc : w.cell? ⟨cb, 0, none⟩ = some fnF) (hcb : v.ownBlock ≠ some cb) (hn : d.length < 2147483648) :
    Calls Tryd.prog 49 #[v, .func (.func 50) #[] #[ptr cb]] w fun e w' => ∃ v', e = .returned v' ∧ (v'.ownBlock = v.ownBlock) ∧ Only (Mine v w) w w' ∧ Rw S 3 54 w' v' (cpt qF d).length (acL (cpt qF d)) := by
  have h : Rw S 3 54 w v d.length (fl flA d) := h
  obtain ⟨ao, cap, rfl, hcap⟩ := h.room
  have HS0 : Hid (CpS S w (.slice ao d.length cap) d.length cb d w) := ⟨h, hc, Only.refl _ _⟩
  clear h hc
  go_enter Tryd.func49, Tryd.ntmps49
  by_cases h2 : d.length < 2
  · have hd : decide ((d.length : Int) < 2) = true := by simp; omega
    have HF : Hid (cpt qF d = d) := cpt_small _ _ h2
    go_wp2
    go_ret
    refine ⟨_, rfl, rfl, HS0.out.only, ?_⟩
    rw [HF.out]; exact HS0.out.rw
  · have hd : decide ((d.length : Int) < 2) = false := by simp; omega
    go_upto_region 4 with fail
    go_loopw [5] (fun i wr => ∃ k : Nat, i = .int .i64 ((k : Nat) : Int) ∧ 1 ≤ k ∧ k ≤ d.length ∧ Hid (Sep qF d k) ∧ Hid (CpS S w (.slice ao d.length cap) d.length cb d wr)) (fun i _ => d.length - (intOf i).toNat)
    case atStart => exact ⟨1, rfl, Nat.le_refl _, by omega, Sep.one _ _, HS0.out⟩
    case round =>
      clear HS0
      obtain ⟨k, rfl, hk1, hk2, HO, HS⟩ := hrel
      by_cases hk : k < d.length
      · obtain ⟨g, o, rfl, hSg, -, hgl, hra⟩ := HS.out.rw.rg flA3 rfl k hk
        obtain ⟨g', o', e', -, -, -, hrb⟩ := HS.out.rw.rg flA3 rfl (k - 1) (by omega)
        obtain ⟨rfl, rfl⟩ : g = g' ∧ o = o' := by simpa using e'
        have hne : cb ≠ g := fun e => hcb (by rw [e]; rfl)
        have HH : Hid (Hp g (o + k * 3) (o + (k - 1) * 3) cb d[k] d[k - 1] wr) := ⟨hra, hrb, hgl, HS.out.cl⟩
        have hd2 : decide ((k : Int) < (d.length : Int)) = true := by simp; omega
        have hkc : k < cap := by omega
        have hw1 : IntKind.i64.wrap ((k : Int) - 1) = ((k - 1 : Nat) : Int) := by rw [IntKind.wrap_i64]; omega
        have hw3 : IntKind.i64.wrap ((k : Int) + 1) = (k : Int) + 1 := by rw [IntKind.wrap_i64]; omega
        have hk0 : k - 1 < d.length := by omega
        have hkc0 : k - 1 < cap := by omega
        have HC := hid (fun W hc => inA1_any d[k] d[k - 1] cb W hc)
        have HM := hid (fun hq => HO.out.more hk1 hk hq)
        have HI := hid (fun hq => CpI.start HO.out hk1 hk hq)
        clear hra hrb e'
        generalize d[k] = x at HH HC HM HI
        generalize d[k - 1] = y at HH HC HM HI
        go_upto_region 6 with fail
        refine wp_region_held_drew (S := Hp g (o + k * 3) (o + (k - 1) * 3) cb x y) (by kernel_rfl) ⟨HH.out.r1, HH.out.r2, HH.out.lt, HH.out.c⟩ (fun hHeld => ?_)
        refine wpAnyH_take (i := 0) (v := ?_) rfl (by kernel_rfl) (by kernel_rfl) (by kernel_rfl) (fun _ _ _ h => h) (Or.inl ⟨by rfl, ?_⟩) hHeld ?_
        rotate_left
        · intro w' hSw
          clear hSw
          go_simp
          first | done | with_reducible rfl
        simp only [Act.put, List.getElem_toArray, List.getElem_cons_zero, List.setIfInBounds_toArray, List.set_cons_zero, List.set_cons_succ]
        refine wpAnyH_take (i := 1) (v := ?_) rfl (by kernel_rfl) (by kernel_rfl) (by kernel_rfl) (fun _ _ _ h => h) (Or.inl ⟨by rfl, ?_⟩) hHeld ?_
        rotate_left
        · intro w' hSw
          clear hSw
          go_simp
          first | done | with_reducible rfl
        simp only [Act.put, List.getElem_toArray, List.getElem_cons_succ, List.getElem_cons_zero, List.setIfInBounds_toArray, List.set_cons_zero, List.set_cons_succ]
        refine wpAnyH_take (i := 2) (v := ?_) rfl (by kernel_rfl) (by kernel_rfl) (by kernel_rfl) (fun _ _ _ h => h) (Or.inl ⟨by rfl, ?_⟩) hHeld ?_
        rotate_left
        · intro w' hSw
          clear hSw
          go_simp
          first | done | with_reducible rfl
        simp only [Act.put, List.getElem_toArray, List.getElem_cons_succ, List.getElem_cons_zero, List.setIfInBounds_toArray, List.set_cons_zero, List.set_cons_succ]
        refine wpAnyH_take (i := 3) (v := ?_) rfl (by kernel_rfl) (by kernel_rfl) (by kernel_rfl) (fun _ _ _ h => h) (Or.inl ⟨by rfl, ?_⟩) hHeld ?_
        rotate_left
        · intro w' hSw
          clear hSw
          go_simp
          first | done | with_reducible rfl
        simp only [Act.put, List.getElem_toArray, List.getElem_cons_succ, List.getElem_cons_zero, List.setIfInBounds_toArray, List.set_cons_zero, List.set_cons_succ]
        refine wpAnyH_take (i := 4) (v := .agg (acl x)) rfl (by kernel_rfl) (by kernel_rfl) (by kernel_rfl) (fun _ _ _ h => h) (Or.inl ⟨by rfl, ?_⟩) hHeld ?_
        · intro w' hSw
          exact runLd 54 (.tmp 21) rfl g (o + k * 3) rfl (acl x) _ hSw.r1 Tryd.underlying54 rfl infoACT
        simp only [Act.put, List.getElem_toArray, List.getElem_cons_succ, List.getElem_cons_zero, List.setIfInBounds_toArray, List.set_cons_zero, List.set_cons_succ]
        refine wpAnyH_take (i := 5) (v := ?_) rfl (by kernel_rfl) (by kernel_rfl) (by kernel_rfl) (fun _ _ _ h => h) (Or.inl ⟨by rfl, ?_⟩) hHeld ?_
        rotate_left
        · intro w' hSw
          clear hSw
          go_simp
          first | done | with_reducible rfl
        simp only [Act.put, List.getElem_toArray, List.getElem_cons_succ, List.getElem_cons_zero, List.setIfInBounds_toArray, List.set_cons_zero, List.set_cons_succ]
        refine wpAnyH_take (i := 6) (v := ?_) rfl (by kernel_rfl) (by kernel_rfl) (by kernel_rfl) (fun _ _ _ h => h) (Or.inl ⟨by rfl, ?_⟩) hHeld ?_
        rotate_left
        · intro w' hSw
          clear hSw
          go_simp
          first | done | with_reducible rfl
        simp only [Act.put, List.getElem_toArray, List.getElem_cons_succ, List.getElem_cons_zero, List.setIfInBounds_toArray, List.set_cons_zero, List.set_cons_succ]
        refine wpAnyH_take (i := 7) (v := ?_) rfl (by kernel_rfl) (by kernel_rfl) (by kernel_rfl) (fun _ _ _ h => h) (Or.inl ⟨by rfl, ?_⟩) hHeld ?_
        rotate_left
        · intro w' hSw
          clear hSw
          go_simp
          first | done | with_reducible rfl
        simp only [Act.put, List.getElem_toArray, List.getElem_cons_succ, List.getElem_cons_zero, List.setIfInBounds_toArray, List.set_cons_zero, List.set_cons_succ]
        refine wpAnyH_take (i := 8) (v := ?_) rfl (by kernel_rfl) (by kernel_rfl) (by kernel_rfl) (fun _ _ _ h => h) (Or.inl ⟨by rfl, ?_⟩) hHeld ?_
        rotate_left
        · intro w' hSw
          clear hSw
          go_simp
          first | done | with_reducible rfl
        simp only [Act.put, List.getElem_toArray, List.getElem_cons_succ, List.getElem_cons_zero, List.setIfInBounds_toArray, List.set_cons_zero, List.set_cons_succ]
        refine wpAnyH_take (i := 9) (v := .agg (acl y)) rfl (by kernel_rfl) (by kernel_rfl) (by kernel_rfl) (fun _ _ _ h => h) (Or.inl ⟨by rfl, ?_⟩) hHeld ?_
        · intro w' hSw
          exact runLd 54 (.tmp 26) rfl g (o + (k - 1) * 3) rfl (acl y) _ hSw.r2 Tryd.underlying54 rfl infoACT
        simp only [Act.put, List.getElem_toArray, List.getElem_cons_succ, List.getElem_cons_zero, List.setIfInBounds_toArray, List.set_cons_zero, List.set_cons_succ]
        refine wpAnyH_ready (rs := [10]) (by kernel_rfl) (by simp) ?_
        refine AllReadyH.cons rfl (fun K hK => ?_) AllReadyH.nil
        refine stepFnW 50 (.tmp 18) [.tmp 22, .tmp 27] _ [acv x, acv y] [ptr cb] rfl rfl rfl rfl (fun _ _ => rfl) _ (HC.out _ hHeld.c) ?_
        rintro e w1 ⟨rfl, hw1'⟩
        refine Or.inl ⟨_, rfl, ?_⟩
        have HS1 := hid (HS.out.gro (Gro.trans (Gro.refl _).drew hw1'))
        refine hK.out _ _ (hHeld.gro hw1') (fun hHeld => ?_)
        clear hK K
        simp only [Act.put, List.getElem_toArray, List.getElem_cons_succ, List.getElem_cons_zero, List.setIfInBounds_toArray, List.set_cons_zero, List.set_cons_succ]
        clear hw1' HH HC hHeld
        refine wpAnyH_done (by kernel_rfl) ?_ _
        cases hq : qF x y
        · have HO2 := hid (HM.out hq)
          go_wp2
          go_roundw
          case rel => exact ⟨k + 1, by rw [show (((k + 1 : Nat) : Nat) : Int) = (k : Int) + 1 by omega], by omega, hk, HO2, HS1⟩
          case measure => simp [intOf]; omega
        · have HI2 := hid (HI.out hq)
          clear HM HI HO HS
          go_upto_region 9 with fail
          have hwk : (k : Int) + 0 = (k : Int) := by omega
          clear hw1 hw3 hkc0 hk0 hwk
          go_loopw [5, 7] (fun i i2 wr => ∃ (kk k2 : Nat) (c : List Ac), i = .int .i64 ((kk : Nat) : Int) ∧ i2 = .int .i64 ((k2 : Nat) : Int) ∧ 1 ≤ k2 ∧ k + k2 ≤ d.length ∧ kk < k + k2 ∧ c.length = d.length ∧ Hid (CpI qF d (k + k2) kk c) ∧ Hid (CpS S w (.slice (some ⟨g, o, none⟩) d.length cap) d.length cb c wr)) (fun _ i2 _ => d.length - k - (intOf i2).toNat)
          case atStart => exact ⟨k, 1, d, rfl, rfl, Nat.le_refl _, by omega, by omega, rfl, HI2.out, HS1.out⟩
          case round =>
            clear HI2 HS1
            obtain ⟨kk, k2, c, rfl, rfl, hk3, hk4, hkk, hcl, HI, HS⟩ := hrel
            by_cases hk5 : k + k2 < d.length
            · obtain ⟨_, _, e1, -, -, hgl2, hra⟩ := HS.out.rw.rg flA3 hcl (k + k2) (by omega)
              simp only [Option.some.injEq, Addr.mk.injEq, and_true] at e1
              obtain ⟨rfl, rfl⟩ := e1
              obtain ⟨_, _, e2, -, -, -, hrb⟩ := HS.out.rw.rg flA3 hcl (k + k2 - 1) (by omega)
              simp only [Option.some.injEq, Addr.mk.injEq, and_true] at e2
              obtain ⟨rfl, rfl⟩ := e2
              rw [HI.out.post (k + k2) (by omega) hk5 (by omega), show o + (k + k2) * 3 = o + k * 3 + k2 * 3 by omega] at hra
              rw [HI.out.post (k + k2 - 1) (by omega) (by omega) (by omega), show o + (k + k2 - 1) * 3 = o + k * 3 + (k2 - 1) * 3 by omega] at hrb
              have HH : Hid (Hp g (o + k * 3 + k2 * 3) (o + k * 3 + (k2 - 1) * 3) cb d[k + k2] d[k + k2 - 1] wr) := ⟨hra, hrb, hgl2, HS.out.cl⟩
              have hd3 : decide ((k2 : Int) < ((d.length - k : Nat) : Int)) = true := by simp; omega
              have hl2 : k2 < d.length - k := by omega
              have hl3 : k2 - 1 < d.length - k := by omega
              have hc2 : k2 < cap - k := by omega
              have hc3 : k2 - 1 < cap - k := by omega
              have hw1 : IntKind.i64.wrap ((k2 : Int) - 1) = ((k2 - 1 : Nat) : Int) := by rw [IntKind.wrap_i64]; omega
              have hw3 : IntKind.i64.wrap ((k2 : Int) + 1) = (k2 : Int) + 1 := by rw [IntKind.wrap_i64]; omega
              have hw4 : IntKind.i64.wrap ((kk : Int) + 1) = (kk : Int) + 1 := by rw [IntKind.wrap_i64]; omega
              have hkl : kk < d.length := by omega
              have hkc2 : kk < cap := by omega
              have HC := hid (fun W hc => inA1_any d[k + k2] d[k + k2 - 1] cb W hc)
              have HM := hid (fun hq : qF d[k + k2] d[k + k2 - 1] = false => HI.out.keep (by omega) hk5 hq)
              have HN := hid (fun hq : qF d[k + k2] d[k + k2 - 1] = true => HI.out.skip (by omega) hk5 hq)
              clear hra hrb
              generalize d[k + k2] = x2 at HH HC HM HN
              generalize d[k + k2 - 1] = y2 at HH HC HM HN
              go_upto_region 11 with fail
              refine wp_region_held_drew (S := Hp g (o + k * 3 + k2 * 3) (o + k * 3 + (k2 - 1) * 3) cb x2 y2) (by kernel_rfl) ⟨HH.out.r1, HH.out.r2, HH.out.lt, HH.out.c⟩ (fun hHeld => ?_)
              refine wpAnyH_take (i := 0) (v := ?_) rfl (by kernel_rfl) (by kernel_rfl) (by kernel_rfl) (fun _ _ _ h => h) (Or.inl ⟨by rfl, ?_⟩) hHeld ?_
              rotate_left
              · intro w' hSw
                clear hSw
                go_simp
                first | done | with_reducible rfl
              simp only [Act.put, List.getElem_toArray, List.getElem_cons_zero, List.setIfInBounds_toArray, List.set_cons_zero, List.set_cons_succ]
              refine wpAnyH_take (i := 1) (v := ?_) rfl (by kernel_rfl) (by kernel_rfl) (by kernel_rfl) (fun _ _ _ h => h) (Or.inl ⟨by rfl, ?_⟩) hHeld ?_
              rotate_left
              · intro w' hSw
                clear hSw
                go_simp
                first | done | with_reducible rfl
              simp only [Act.put, List.getElem_toArray, List.getElem_cons_succ, List.getElem_cons_zero, List.setIfInBounds_toArray, List.set_cons_zero, List.set_cons_succ]
              refine wpAnyH_take (i := 2) (v := ?_) rfl (by kernel_rfl) (by kernel_rfl) (by kernel_rfl) (fun _ _ _ h => h) (Or.inl ⟨by rfl, ?_⟩) hHeld ?_
              rotate_left
              · intro w' hSw
                clear hSw
                go_simp
                first | done | with_reducible rfl
              simp only [Act.put, List.getElem_toArray, List.getElem_cons_succ, List.getElem_cons_zero, List.setIfInBounds_toArray, List.set_cons_zero, List.set_cons_succ]
              refine wpAnyH_take (i := 3) (v := ?_) rfl (by kernel_rfl) (by kernel_rfl) (by kernel_rfl) (fun _ _ _ h => h) (Or.inl ⟨by rfl, ?_⟩) hHeld ?_
              rotate_left
              · intro w' hSw
                clear hSw
                go_simp
                first | done | with_reducible rfl
              simp only [Act.put, List.getElem_toArray, List.getElem_cons_succ, List.getElem_cons_zero, List.setIfInBounds_toArray, List.set_cons_zero, List.set_cons_succ]
              refine wpAnyH_take (i := 4) (v := .agg (acl x2)) rfl (by kernel_rfl) (by kernel_rfl) (by kernel_rfl) (fun _ _ _ h => h) (Or.inl ⟨by rfl, ?_⟩) hHeld ?_
              · intro w' hSw
                exact runLd 54 (.tmp 41) rfl g (o + k * 3 + k2 * 3) rfl (acl x2) _ hSw.r1 Tryd.underlying54 rfl infoACT
              simp only [Act.put, List.getElem_toArray, List.getElem_cons_succ, List.getElem_cons_zero, List.setIfInBounds_toArray, List.set_cons_zero, List.set_cons_succ]
              refine wpAnyH_take (i := 5) (v := ?_) rfl (by kernel_rfl) (by kernel_rfl) (by kernel_rfl) (fun _ _ _ h => h) (Or.inl ⟨by rfl, ?_⟩) hHeld ?_
              rotate_left
              · intro w' hSw
                clear hSw
                go_simp
                first | done | with_reducible rfl
              simp only [Act.put, List.getElem_toArray, List.getElem_cons_succ, List.getElem_cons_zero, List.setIfInBounds_toArray, List.set_cons_zero, List.set_cons_succ]
              refine wpAnyH_take (i := 6) (v := ?_) rfl (by kernel_rfl) (by kernel_rfl) (by kernel_rfl) (fun _ _ _ h => h) (Or.inl ⟨by rfl, ?_⟩) hHeld ?_
              rotate_left
              · intro w' hSw
                clear hSw
                go_simp
                first | done | with_reducible rfl
              simp only [Act.put, List.getElem_toArray, List.getElem_cons_succ, List.getElem_cons_zero, List.setIfInBounds_toArray, List.set_cons_zero, List.set_cons_succ]
              refine wpAnyH_take (i := 7) (v := ?_) rfl (by kernel_rfl) (by kernel_rfl) (by kernel_rfl) (fun _ _ _ h => h) (Or.inl ⟨by rfl, ?_⟩) hHeld ?_
              rotate_left
              · intro w' hSw
                clear hSw
                go_simp
                first | done | with_reducible rfl
              simp only [Act.put, List.getElem_toArray, List.getElem_cons_succ, List.getElem_cons_zero, List.setIfInBounds_toArray, List.set_cons_zero, List.set_cons_succ]
              refine wpAnyH_take (i := 8) (v := ?_) rfl (by kernel_rfl) (by kernel_rfl) (by kernel_rfl) (fun _ _ _ h => h) (Or.inl ⟨by rfl, ?_⟩) hHeld ?_
              rotate_left
              · intro w' hSw
                clear hSw
                go_simp
                first | done | with_reducible rfl
              simp only [Act.put, List.getElem_toArray, List.getElem_cons_succ, List.getElem_cons_zero, List.setIfInBounds_toArray, List.set_cons_zero, List.set_cons_succ]
              refine wpAnyH_take (i := 9) (v := .agg (acl y2)) rfl (by kernel_rfl) (by kernel_rfl) (by kernel_rfl) (fun _ _ _ h => h) (Or.inl ⟨by rfl, ?_⟩) hHeld ?_
              · intro w' hSw
                exact runLd 54 (.tmp 46) rfl g (o + k * 3 + (k2 - 1) * 3) rfl (acl y2) _ hSw.r2 Tryd.underlying54 rfl infoACT
              simp only [Act.put, List.getElem_toArray, List.getElem_cons_succ, List.getElem_cons_zero, List.setIfInBounds_toArray, List.set_cons_zero, List.set_cons_succ]
              refine wpAnyH_ready (rs := [10]) (by kernel_rfl) (by simp) ?_
              refine AllReadyH.cons rfl (fun K hK => ?_) AllReadyH.nil
              refine stepFnW 50 (.tmp 38) [.tmp 42, .tmp 47] _ [acv x2, acv y2] [ptr cb] rfl rfl rfl rfl (fun _ _ => rfl) _ (HC.out _ hHeld.c) ?_
              rintro e w1 ⟨rfl, hw1'⟩
              refine Or.inl ⟨_, rfl, ?_⟩
              have HS1 := hid (HS.out.gro (Gro.trans (Gro.refl _).drew hw1'))
              have HH1 := hid (hHeld.gro hw1')
              refine hK.out _ _ HH1.out (fun hHeld => ?_)
              clear hK K
              simp only [Act.put, List.getElem_toArray, List.getElem_cons_succ, List.getElem_cons_zero, List.setIfInBounds_toArray, List.set_cons_zero, List.set_cons_succ]
              clear hw1' HH HC HS
              cases hq2 : qF x2 y2
              · skip
                refine wpAnyH_take (i := 11) (v := ?_) rfl (by kernel_rfl) (by kernel_rfl) (by kernel_rfl) (fun _ _ _ h => h) (Or.inl ⟨by rfl, ?_⟩) hHeld ?_
                rotate_left
                · intro w' hSw
                  clear hSw
                  go_simp
                  first | done | with_reducible rfl
                simp only [Act.put, List.getElem_toArray, List.getElem_cons_succ, List.getElem_cons_zero, List.setIfInBounds_toArray, List.set_cons_zero, List.set_cons_succ]
                refine wpAnyH_done (by kernel_rfl) ?_ _
                have HM2 := hid (HM.out hq2)
                have HS2 := hid (HS1.out.put hcl hne kk hkl x2)
                have HT := hid (HS1.out.rw.there kk 3 (by omega))
                clear hHeld
                go_upto_region 13 with (first
                  | (refine ldMid 54 (.tmp 54) rfl rfl g (o + k * 3 + k2 * 3) rfl (acl x2) _ Tryd.underlying54 rfl infoACT HH1.out.r1 ?_)
                  | (refine stMid 54 (.tmp 56) (.tmp 55) rfl rfl g (o + kk * 3) (acl x2) rfl rfl HT.out infoACT (acl_one _) ?_))
                rw [show [Value.int IntKind.i8 x2.dw, Value.int IntKind.i8 x2.fd, Value.int IntKind.u64 x2.n] = flA x2 from rfl]
                generalize w1.setCells g (o + kk * 3) (flA x2) = w2 at HS2 ⊢
                go_wp2
                go_roundw
                case rel => exact ⟨kk + 1, k2 + 1, c.set kk x2, by rw [show (((kk + 1 : Nat) : Nat) : Int) = (kk : Int) + 1 by omega], by rw [show (((k2 + 1 : Nat) : Nat) : Int) = (k2 : Int) + 1 by omega], by omega, by omega, by omega, by simp [hcl], HM2, HS2⟩
                case measure => simp [intOf]; omega
              · skip
                refine wpAnyH_take (i := 11) (v := ?_) rfl (by kernel_rfl) (by kernel_rfl) (by kernel_rfl) (fun _ _ _ h => h) (Or.inl ⟨by rfl, ?_⟩) hHeld ?_
                rotate_left
                · intro w' hSw
                  clear hSw
                  go_simp
                  first | done | with_reducible rfl
                simp only [Act.put, List.getElem_toArray, List.getElem_cons_succ, List.getElem_cons_zero, List.setIfInBounds_toArray, List.set_cons_zero, List.set_cons_succ]
                refine wpAnyH_done (by kernel_rfl) ?_ _
                have HN2 := hid (HN.out hq2)
                clear hHeld
                go_wp2
                go_roundw
                case rel => exact ⟨kk, k2 + 1, c, rfl, by rw [show (((k2 + 1 : Nat) : Nat) : Int) = (k2 : Int) + 1 by omega], by omega, by omega, by omega, hcl, HN2, HS1⟩
                case measure => simp [intOf]; omega
            · obtain hm : k + k2 = d.length := by omega
              have hd3 : decide ((k2 : Int) < ((d.length - k : Nat) : Int)) = false := by simp; omega
              rw [hm] at HI
              have HF := hid HI.out.fin
              have hkl : kk < d.length := by omega
              have hkc2 : kk ≤ cap := by omega
              have hkc3 : kk < cap := by omega
              have hkl2 : kk ≤ d.length := by omega
              obtain ⟨zs, hzl, hzr⟩ := run_clr (w := wr) (ty := 0) (t := 52) Tryd.underlying52 Tryd.zeroValue54 (k := 3) rfl (acl_one ⟨0, 0, 0⟩) g (o + kk * 3) (d.length - kk) (cap - kk) (by omega) (HS.out.rw.there kk ((d.length - kk) * 3) (by omega))
              have HS2 := hid (HS.out.rw.clr flA3 hcl hkl2 zs)
              have HO2 : Hid (Only (Mine (.slice (some ⟨g, o, none⟩) d.length cap) w) w (wr.setCells g (o + kk * 3) zs)) := HS.out.only.trans ((only_cells g _ _ _).mono fun b hb => Or.inl (by rw [hb]; rfl))
              go_wp2
              go_ret
              refine ⟨_, rfl, rfl, HO2.out, ?_⟩
              have := HS2.out
              rw [HF.out.1] at this
              rw [HF.out.2]
              exact this
      · have hd2 : decide ((k : Int) < (d.length : Int)) = false := by simp; omega
        obtain rfl : k = d.length := by omega
        have HF := hid HO.out.all
        go_wp2
        go_ret
        refine ⟨_, rfl, rfl, HS.out.only, ?_⟩
        rw [HF.out]; exact HS.out.rw
end Go.Proofs.YtggbokghhohofaaDoor
