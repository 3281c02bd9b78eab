/-
  Proved here: slices.CompactFunc at rows: of those side by side that are alike one stays. Conditions: the rows lie in a slice of one's own, their settings in blocks of others.
-/
import Derived.Test.YtggbokghhohofaaDoorB8
namespace Go.Proofs.YtggbokghhohofaaDoor
open Go.RowKit
set_option maxRecDepth 100000

abbrev fnR : Value := .func (.func 37) #[] #[]
abbrev flR (x : Rv) : List Value := [x.1]
theorem flR1 (x : Rv) : (flR x).length = 1 := rfl
def qR (a b : Rv) : Bool := decide (cmpR a.2 b.2 = 0)
theorem inR1_any {T : Nat → Prop} (a b : Rv) (cb : Nat) (w : World) (ha : Acs T w a.1 a.2) (hb : Acs T w b.1 b.2) (hc : w.cell? ⟨cb, 0, none⟩ = some fnR) : Calls Tryd.prog 53 #[a.1, b.1, ptr cb] w fun e w' => e = .returned (.bool (qR a b)) ∧ Gro w w' := by
  have HC := hid (byRow_any w a.1 b.1 a.2 b.2 ha hb)
  have e3 : Hid (qR a b = (cmpR a.2 b.2 == 0)) := rfl
  obtain ⟨u1, r1⟩ := a
  obtain ⟨u2, r2⟩ := b
  simp only at HC e3 ⊢
  generalize cmpR r1 r2 = x at HC e3
  rw [e3.out]
  clear ha hb e3
  go_enter Tryd.func53, Tryd.ntmps53
  go_wp2_with (go_at_call 37; refine (HC.out).mono ?_; rintro e w' ⟨rfl, hb⟩; have HB := hid hb; clear hb)
  go_ret
  exact ⟨rfl, HB.out⟩
/-- where the walk is: c is what the cells hold -/
structure CqS (S T : Nat → Prop) (w : World) (v : Value) (n cb : Nat) (d c : List Rv) (wr : World) : Prop where
  rw : Rw S 1 52 wr v n (fl flR c)
  cl : wr.cell? ⟨cb, 0, none⟩ = some fnR
  only : Only (Mine v w) w wr
  ac : ∀ x ∈ d, Acs T wr x.1 x.2
theorem CqS.gro {S T : Nat → Prop} {w : World} {v : Value} {n cb : Nat} {d c : List Rv} {wr w' : World} (h : CqS S T w v n cb d c wr) (hg : Gro wr w') : CqS S T w v n cb d c w' :=
  ⟨h.rw.carry fun b hb hS => ⟨hS, hg.below.block b hb⟩, cell_on hg.below h.cl, h.only.trans (Only.of hg.below fun _k hk => Or.inr (Nat.le_trans h.only.size hk)), fun x hx => (h.ac x hx).on hg.below⟩
theorem CqS.put {S T : Nat → Prop} {w : World} {g o n cap cb : Nat} {d c : List Rv} {wr : World} (h : CqS S T w (.slice (some ⟨g, o, none⟩) n cap) n cb d c wr) (hl : c.length = n) (hcb : cb ≠ g) (hT : ∀ b, T b → b ≠ g) (k : Nat) (hk : k < n) (x : Rv) : CqS S T w (.slice (some ⟨g, o, none⟩) n cap) n cb d (c.set k x) (wr.setCells g (o + k * 1) (flR x)) :=
  ⟨h.rw.put flR1 hl k hk x, (cell_same (cells_oth hcb _ _ _)).trans h.cl, h.only.trans ((only_cells g _ _ _).mono fun b hb => Or.inl (by rw [hb]; rfl)), fun y hy => (h.ac y hy).carry fun b _ hTb => ⟨hTb, cells_oth (hT b hTb) _ _ _⟩⟩
/-- What a comparison reads. -/
structure Hr (T : Nat → Prop) (g i j cb : Nat) (x y : Rv) (w : World) : Prop where
  r1 : w.cell? ⟨g, i, none⟩ = some x.1
  r2 : w.cell? ⟨g, j, none⟩ = some y.1
  c : w.cell? ⟨cb, 0, none⟩ = some fnR
  ax : Acs T w x.1 x.2
  ay : Acs T w y.1 y.2
theorem Hr.gro {T : Nat → Prop} {g i j cb : Nat} {x y : Rv} {w w' : World} (h : Hr T g i j cb x y w) (hg : Gro w w') : Hr T g i j cb x y w' :=
  ⟨cell_on hg.below h.r1, cell_on hg.below h.r2, cell_on hg.below h.c, h.ax.on hg.below, h.ay.on hg.below⟩
theorem rg_one {w : World} {g o : Nat} {u : Value} (h : w.rangeAt g o [u]) : w.cell? ⟨g, o, none⟩ = some u := h 0 u rfl
theorem fl_R (d : List Rv) : fl flR d = d.map (·.1) := by
  induction d with
  | nil => rfl
  | cons x d ih => rw [List.map_cons, ← ih]; rfl
set_option maxHeartbeats 6400000 in
theorem cpcR_any {S T : Nat → Prop} (w : World) (v : Value) (d : List Rv) (cb : Nat) (h : Rw S 1 52 w v d.length (d.map (·.1))) (hd0 : ∀ x ∈ d, Acs T w x.1 x.2) (hT : ∀ b, T b → v.ownBlock ≠ some b) (hc : w.cell? ⟨cb, 0, none⟩ = some fnR) (hcb : v.ownBlock ≠ some cb) (hn : d.length < 2147483648) :
    Calls Tryd.prog 52 #[v, .func (.func 53) #[] #[ptr cb]] w fun e w' => ∃ v', e = .returned v' ∧ (v'.ownBlock = v.ownBlock) ∧ Only (Mine v w) w w' ∧ Rw S 1 52 w' v' (cpt qR d).length ((cpt qR d).map (·.1)) ∧ ∀ x ∈ cpt qR d, Acs T w' x.1 x.2 := by
  have h : Rw S 1 52 w v d.length (fl flR d) := by rw [fl_R]; exact h
  obtain ⟨ao, cap, rfl, hcap⟩ := h.room
  have HS0 : Hid (CqS S T w (.slice ao d.length cap) d.length cb d d w) := ⟨h, hc, Only.refl _ _, hd0⟩
  clear h hc hd0
  go_enter Tryd.func52, Tryd.ntmps52
  by_cases h2 : d.length < 2
  · have hd : decide ((d.length : Int) < 2) = true := by simp; omega
    have HF : Hid (cpt qR d = d) := cpt_small _ _ h2
    go_wp2
    go_ret
    refine ⟨_, rfl, rfl, HS0.out.only, ?_⟩
    rw [HF.out, ← fl_R]; exact ⟨HS0.out.rw, HS0.out.ac⟩
  · have hd : decide ((d.length : Int) < 2) = false := by simp; omega
    go_upto_region 4 with fail
    go_loopw [5] (fun i wr => ∃ k : Nat, i = .int .i64 ((k : Nat) : Int) ∧ 1 ≤ k ∧ k ≤ d.length ∧ Hid (Sep qR d k) ∧ Hid (CqS S T w (.slice ao d.length cap) d.length cb d d wr)) (fun i _ => d.length - (intOf i).toNat)
    case atStart => exact ⟨1, rfl, Nat.le_refl _, by omega, Sep.one _ _, HS0.out⟩
    case round =>
      clear HS0
      obtain ⟨k, rfl, hk1, hk2, HO, HS⟩ := hrel
      by_cases hk : k < d.length
      · obtain ⟨g, o, rfl, hSg, -, hgl, hra⟩ := HS.out.rw.rg flR1 rfl k hk
        obtain ⟨g', o', e', -, -, -, hrb⟩ := HS.out.rw.rg flR1 rfl (k - 1) (by omega)
        obtain ⟨rfl, rfl⟩ : g = g' ∧ o = o' := by simpa using e'
        have hne : cb ≠ g := fun e => hcb (by rw [e]; rfl)
        have HTg : Hid (∀ b, T b → b ≠ g) := fun b hb e => hT b hb (by rw [e]; rfl)
        rw [Nat.mul_one] at hra hrb
        have HH : Hid (Hr T g (o + k) (o + (k - 1)) cb d[k] d[k - 1] wr) := ⟨rg_one hra, rg_one hrb, HS.out.cl, HS.out.ac _ (List.getElem_mem _), HS.out.ac _ (List.getElem_mem _)⟩
        have hd2 : decide ((k : Int) < (d.length : Int)) = true := by simp; omega
        have hkc : k < cap := by omega
        have hw1 : IntKind.i64.wrap ((k : Int) - 1) = ((k - 1 : Nat) : Int) := by rw [IntKind.wrap_i64]; omega
        have hw3 : IntKind.i64.wrap ((k : Int) + 1) = (k : Int) + 1 := by rw [IntKind.wrap_i64]; omega
        have hk0 : k - 1 < d.length := by omega
        have hkc0 : k - 1 < cap := by omega
        have HC := hid (fun W (hh : Hr T g (o + k) (o + (k - 1)) cb d[k] d[k - 1] W) => inR1_any d[k] d[k - 1] cb W hh.ax hh.ay hh.c)
        have HM := hid (fun hq => HO.out.more hk1 hk hq)
        have HI := hid (fun hq => CpI.start HO.out hk1 hk hq)
        clear hra hrb e'
        generalize d[k] = x at HH HC HM HI
        generalize d[k - 1] = y at HH HC HM HI
        obtain ⟨ux, rx⟩ := x
        obtain ⟨uy, ry⟩ := y
        go_upto_region 6 with fail
        refine wp_region_held_drew (S := Hr T g (o + k) (o + (k - 1)) cb (ux, rx) (uy, ry)) (by kernel_rfl) ⟨HH.out.r1, HH.out.r2, HH.out.c, HH.out.ax.on (Gro.refl _).drew.below, HH.out.ay.on (Gro.refl _).drew.below⟩ (fun hHeld => ?_)
        refine wpAnyH_take (i := 0) (v := ?_) rfl (by kernel_rfl) (by kernel_rfl) (by kernel_rfl) (fun _ _ _ h => h) (Or.inl ⟨by rfl, ?_⟩) hHeld ?_
        rotate_left
        · intro w' hSw
          clear hSw
          go_simp
          first | done | with_reducible rfl
        simp only [Act.put, List.getElem_toArray, List.getElem_cons_zero, List.setIfInBounds_toArray, List.set_cons_zero, List.set_cons_succ]
        refine wpAnyH_take (i := 1) (v := ?_) rfl (by kernel_rfl) (by kernel_rfl) (by kernel_rfl) (fun _ _ _ h => h) (Or.inl ⟨by rfl, ?_⟩) hHeld ?_
        rotate_left
        · intro w' hSw
          clear hSw
          go_simp
          first | done | with_reducible rfl
        simp only [Act.put, List.getElem_toArray, List.getElem_cons_succ, List.getElem_cons_zero, List.setIfInBounds_toArray, List.set_cons_zero, List.set_cons_succ]
        refine wpAnyH_take (i := 2) (v := ?_) rfl (by kernel_rfl) (by kernel_rfl) (by kernel_rfl) (fun _ _ _ h => h) (Or.inl ⟨by rfl, ?_⟩) hHeld ?_
        rotate_left
        · intro w' hSw
          clear hSw
          go_simp
          first | done | with_reducible rfl
        simp only [Act.put, List.getElem_toArray, List.getElem_cons_succ, List.getElem_cons_zero, List.setIfInBounds_toArray, List.set_cons_zero, List.set_cons_succ]
        refine wpAnyH_take (i := 3) (v := ?_) rfl (by kernel_rfl) (by kernel_rfl) (by kernel_rfl) (fun _ _ _ h => h) (Or.inl ⟨by rfl, ?_⟩) hHeld ?_
        rotate_left
        · intro w' hSw
          clear hSw
          go_simp
          first | done | with_reducible rfl
        simp only [Act.put, List.getElem_toArray, List.getElem_cons_succ, List.getElem_cons_zero, List.setIfInBounds_toArray, List.set_cons_zero, List.set_cons_succ]
        refine wpAnyH_take (i := 4) (v := ?_) rfl (by kernel_rfl) (by kernel_rfl) (by kernel_rfl) (fun _ _ _ h => h) (Or.inl ⟨by rfl, ?_⟩) hHeld ?_
        rotate_left
        · intro w' hSw
          have r1 := hSw.r1
          clear hSw
          go_simp
          first | done | with_reducible rfl
        simp only [Act.put, List.getElem_toArray, List.getElem_cons_succ, List.getElem_cons_zero, List.setIfInBounds_toArray, List.set_cons_zero, List.set_cons_succ]
        refine wpAnyH_take (i := 5) (v := ?_) rfl (by kernel_rfl) (by kernel_rfl) (by kernel_rfl) (fun _ _ _ h => h) (Or.inl ⟨by rfl, ?_⟩) hHeld ?_
        rotate_left
        · intro w' hSw
          clear hSw
          go_simp
          first | done | with_reducible rfl
        simp only [Act.put, List.getElem_toArray, List.getElem_cons_succ, List.getElem_cons_zero, List.setIfInBounds_toArray, List.set_cons_zero, List.set_cons_succ]
        refine wpAnyH_take (i := 6) (v := ?_) rfl (by kernel_rfl) (by kernel_rfl) (by kernel_rfl) (fun _ _ _ h => h) (Or.inl ⟨by rfl, ?_⟩) hHeld ?_
        rotate_left
        · intro w' hSw
          clear hSw
          go_simp
          first | done | with_reducible rfl
        simp only [Act.put, List.getElem_toArray, List.getElem_cons_succ, List.getElem_cons_zero, List.setIfInBounds_toArray, List.set_cons_zero, List.set_cons_succ]
        refine wpAnyH_take (i := 7) (v := ?_) rfl (by kernel_rfl) (by kernel_rfl) (by kernel_rfl) (fun _ _ _ h => h) (Or.inl ⟨by rfl, ?_⟩) hHeld ?_
        rotate_left
        · intro w' hSw
          clear hSw
          go_simp
          first | done | with_reducible rfl
        simp only [Act.put, List.getElem_toArray, List.getElem_cons_succ, List.getElem_cons_zero, List.setIfInBounds_toArray, List.set_cons_zero, List.set_cons_succ]
        refine wpAnyH_take (i := 8) (v := ?_) rfl (by kernel_rfl) (by kernel_rfl) (by kernel_rfl) (fun _ _ _ h => h) (Or.inl ⟨by rfl, ?_⟩) hHeld ?_
        rotate_left
        · intro w' hSw
          clear hSw
          go_simp
          first | done | with_reducible rfl
        simp only [Act.put, List.getElem_toArray, List.getElem_cons_succ, List.getElem_cons_zero, List.setIfInBounds_toArray, List.set_cons_zero, List.set_cons_succ]
        refine wpAnyH_take (i := 9) (v := ?_) rfl (by kernel_rfl) (by kernel_rfl) (by kernel_rfl) (fun _ _ _ h => h) (Or.inl ⟨by rfl, ?_⟩) hHeld ?_
        rotate_left
        · intro w' hSw
          have r2 := hSw.r2
          clear hSw
          go_simp
          first | done | with_reducible rfl
        simp only [Act.put, List.getElem_toArray, List.getElem_cons_succ, List.getElem_cons_zero, List.setIfInBounds_toArray, List.set_cons_zero, List.set_cons_succ]
        refine wpAnyH_ready (rs := [10]) (by kernel_rfl) (by simp) ?_
        refine AllReadyH.cons rfl (fun K hK => ?_) AllReadyH.nil
        refine stepFnW 53 (.tmp 18) [.tmp 22, .tmp 27] _ [ux, uy] [ptr cb] rfl rfl rfl rfl (fun _ _ => rfl) _ (HC.out _ hHeld) ?_
        rintro e w1 ⟨rfl, hw1'⟩
        refine Or.inl ⟨_, rfl, ?_⟩
        have HS1 := hid (HS.out.gro (Gro.trans (Gro.refl _).drew hw1'))
        refine hK.out _ _ (hHeld.gro hw1') (fun hHeld => ?_)
        clear hK K
        simp only [Act.put, List.getElem_toArray, List.getElem_cons_succ, List.getElem_cons_zero, List.setIfInBounds_toArray, List.set_cons_zero, List.set_cons_succ]
        clear hw1' HH HC hHeld
        refine wpAnyH_done (by kernel_rfl) ?_ _
        cases hq : qR (ux, rx) (uy, ry)
        · have HO2 := hid (HM.out hq)
          go_wp2
          go_roundw
          case rel => exact ⟨k + 1, by rw [show (((k + 1 : Nat) : Nat) : Int) = (k : Int) + 1 by omega], by omega, hk, HO2, HS1⟩
          case measure => simp [intOf]; omega
        · have HI2 := hid (HI.out hq)
          clear HM HI HO HS
          go_upto_region 9 with fail
          have hwk : (k : Int) + 0 = (k : Int) := by omega
          clear hw1 hw3 hkc0 hk0 hwk
          go_loopw [5, 7] (fun i i2 wr => ∃ (kk k2 : Nat) (c : List Rv), i = .int .i64 ((kk : Nat) : Int) ∧ i2 = .int .i64 ((k2 : Nat) : Int) ∧ 1 ≤ k2 ∧ k + k2 ≤ d.length ∧ kk < k + k2 ∧ c.length = d.length ∧ Hid (CpI qR d (k + k2) kk c) ∧ Hid (CqS S T w (.slice (some ⟨g, o, none⟩) d.length cap) d.length cb d c wr)) (fun _ i2 _ => d.length - k - (intOf i2).toNat)
          case atStart => exact ⟨k, 1, d, rfl, rfl, Nat.le_refl _, by omega, by omega, rfl, HI2.out, HS1.out⟩
          case round =>
            clear HI2 HS1
            obtain ⟨kk, k2, c, rfl, rfl, hk3, hk4, hkk, hcl, HI, HS⟩ := hrel
            by_cases hk5 : k + k2 < d.length
            · obtain ⟨_, _, e1, -, -, hgl2, hra⟩ := HS.out.rw.rg flR1 hcl (k + k2) (by omega)
              simp only [Option.some.injEq, Addr.mk.injEq, and_true] at e1
              obtain ⟨rfl, rfl⟩ := e1
              obtain ⟨_, _, e2, -, -, -, hrb⟩ := HS.out.rw.rg flR1 hcl (k + k2 - 1) (by omega)
              simp only [Option.some.injEq, Addr.mk.injEq, and_true] at e2
              obtain ⟨rfl, rfl⟩ := e2
              rw [HI.out.post (k + k2) (by omega) hk5 (by omega), show o + (k + k2) * 1 = o + k + k2 by omega] at hra
              rw [HI.out.post (k + k2 - 1) (by omega) (by omega) (by omega), show o + (k + k2 - 1) * 1 = o + k + (k2 - 1) by omega] at hrb
              have HH : Hid (Hr T g (o + k + k2) (o + k + (k2 - 1)) cb d[k + k2] d[k + k2 - 1] wr) := ⟨rg_one hra, rg_one hrb, HS.out.cl, HS.out.ac _ (List.getElem_mem _), HS.out.ac _ (List.getElem_mem _)⟩
              have hd3 : decide ((k2 : Int) < ((d.length - k : Nat) : Int)) = true := by simp; omega
              have hl2 : k2 < d.length - k := by omega
              have hl3 : k2 - 1 < d.length - k := by omega
              have hc2 : k2 < cap - k := by omega
              have hc3 : k2 - 1 < cap - k := by omega
              have hw1 : IntKind.i64.wrap ((k2 : Int) - 1) = ((k2 - 1 : Nat) : Int) := by rw [IntKind.wrap_i64]; omega
              have hw3 : IntKind.i64.wrap ((k2 : Int) + 1) = (k2 : Int) + 1 := by rw [IntKind.wrap_i64]; omega
              have hw4 : IntKind.i64.wrap ((kk : Int) + 1) = (kk : Int) + 1 := by rw [IntKind.wrap_i64]; omega
              have hkl : kk < d.length := by omega
              have hkc2 : kk < cap := by omega
              have HC := hid (fun W (hh : Hr T g (o + k + k2) (o + k + (k2 - 1)) cb d[k + k2] d[k + k2 - 1] W) => inR1_any d[k + k2] d[k + k2 - 1] cb W hh.ax hh.ay hh.c)
              have HM := hid (fun hq : qR d[k + k2] d[k + k2 - 1] = false => HI.out.keep (by omega) hk5 hq)
              have HN := hid (fun hq : qR d[k + k2] d[k + k2 - 1] = true => HI.out.skip (by omega) hk5 hq)
              clear hra hrb
              generalize d[k + k2] = x2 at HH HC HM HN
              generalize d[k + k2 - 1] = y2 at HH HC HM HN
              obtain ⟨ux, rx⟩ := x2
              obtain ⟨uy, ry⟩ := y2
              go_upto_region 11 with fail
              refine wp_region_held_drew (S := Hr T g (o + k + k2) (o + k + (k2 - 1)) cb (ux, rx) (uy, ry)) (by kernel_rfl) ⟨HH.out.r1, HH.out.r2, HH.out.c, HH.out.ax.on (Gro.refl _).drew.below, HH.out.ay.on (Gro.refl _).drew.below⟩ (fun hHeld => ?_)
              refine wpAnyH_take (i := 0) (v := ?_) rfl (by kernel_rfl) (by kernel_rfl) (by kernel_rfl) (fun _ _ _ h => h) (Or.inl ⟨by rfl, ?_⟩) hHeld ?_
              rotate_left
              · intro w' hSw
                clear hSw
                go_simp
                first | done | with_reducible rfl
              simp only [Act.put, List.getElem_toArray, List.getElem_cons_zero, List.setIfInBounds_toArray, List.set_cons_zero, List.set_cons_succ]
              refine wpAnyH_take (i := 1) (v := ?_) rfl (by kernel_rfl) (by kernel_rfl) (by kernel_rfl) (fun _ _ _ h => h) (Or.inl ⟨by rfl, ?_⟩) hHeld ?_
              rotate_left
              · intro w' hSw
                clear hSw
                go_simp
                first | done | with_reducible rfl
              simp only [Act.put, List.getElem_toArray, List.getElem_cons_succ, List.getElem_cons_zero, List.setIfInBounds_toArray, List.set_cons_zero, List.set_cons_succ]
              refine wpAnyH_take (i := 2) (v := ?_) rfl (by kernel_rfl) (by kernel_rfl) (by kernel_rfl) (fun _ _ _ h => h) (Or.inl ⟨by rfl, ?_⟩) hHeld ?_
              rotate_left
              · intro w' hSw
                clear hSw
                go_simp
                first | done | with_reducible rfl
              simp only [Act.put, List.getElem_toArray, List.getElem_cons_succ, List.getElem_cons_zero, List.setIfInBounds_toArray, List.set_cons_zero, List.set_cons_succ]
              refine wpAnyH_take (i := 3) (v := ?_) rfl (by kernel_rfl) (by kernel_rfl) (by kernel_rfl) (fun _ _ _ h => h) (Or.inl ⟨by rfl, ?_⟩) hHeld ?_
              rotate_left
              · intro w' hSw
                clear hSw
                go_simp
                first | done | with_reducible rfl
              simp only [Act.put, List.getElem_toArray, List.getElem_cons_succ, List.getElem_cons_zero, List.setIfInBounds_toArray, List.set_cons_zero, List.set_cons_succ]
              refine wpAnyH_take (i := 4) (v := ?_) rfl (by kernel_rfl) (by kernel_rfl) (by kernel_rfl) (fun _ _ _ h => h) (Or.inl ⟨by rfl, ?_⟩) hHeld ?_
              rotate_left
              · intro w' hSw
                have r1 := hSw.r1
                clear hSw
                go_simp
                first | done | with_reducible rfl
              simp only [Act.put, List.getElem_toArray, List.getElem_cons_succ, List.getElem_cons_zero, List.setIfInBounds_toArray, List.set_cons_zero, List.set_cons_succ]
              refine wpAnyH_take (i := 5) (v := ?_) rfl (by kernel_rfl) (by kernel_rfl) (by kernel_rfl) (fun _ _ _ h => h) (Or.inl ⟨by rfl, ?_⟩) hHeld ?_
              rotate_left
              · intro w' hSw
                clear hSw
                go_simp
                first | done | with_reducible rfl
              simp only [Act.put, List.getElem_toArray, List.getElem_cons_succ, List.getElem_cons_zero, List.setIfInBounds_toArray, List.set_cons_zero, List.set_cons_succ]
              refine wpAnyH_take (i := 6) (v := ?_) rfl (by kernel_rfl) (by kernel_rfl) (by kernel_rfl) (fun _ _ _ h => h) (Or.inl ⟨by rfl, ?_⟩) hHeld ?_
              rotate_left
              · intro w' hSw
                clear hSw
                go_simp
                first | done | with_reducible rfl
              simp only [Act.put, List.getElem_toArray, List.getElem_cons_succ, List.getElem_cons_zero, List.setIfInBounds_toArray, List.set_cons_zero, List.set_cons_succ]
              refine wpAnyH_take (i := 7) (v := ?_) rfl (by kernel_rfl) (by kernel_rfl) (by kernel_rfl) (fun _ _ _ h => h) (Or.inl ⟨by rfl, ?_⟩) hHeld ?_
              rotate_left
              · intro w' hSw
                clear hSw
                go_simp
                first | done | with_reducible rfl
              simp only [Act.put, List.getElem_toArray, List.getElem_cons_succ, List.getElem_cons_zero, List.setIfInBounds_toArray, List.set_cons_zero, List.set_cons_succ]
              refine wpAnyH_take (i := 8) (v := ?_) rfl (by kernel_rfl) (by kernel_rfl) (by kernel_rfl) (fun _ _ _ h => h) (Or.inl ⟨by rfl, ?_⟩) hHeld ?_
              rotate_left
              · intro w' hSw
                clear hSw
                go_simp
                first | done | with_reducible rfl
              simp only [Act.put, List.getElem_toArray, List.getElem_cons_succ, List.getElem_cons_zero, List.setIfInBounds_toArray, List.set_cons_zero, List.set_cons_succ]
              refine wpAnyH_take (i := 9) (v := ?_) rfl (by kernel_rfl) (by kernel_rfl) (by kernel_rfl) (fun _ _ _ h => h) (Or.inl ⟨by rfl, ?_⟩) hHeld ?_
              rotate_left
              · intro w' hSw
                have r2 := hSw.r2
                clear hSw
                go_simp
                first | done | with_reducible rfl
              simp only [Act.put, List.getElem_toArray, List.getElem_cons_succ, List.getElem_cons_zero, List.setIfInBounds_toArray, List.set_cons_zero, List.set_cons_succ]
              refine wpAnyH_ready (rs := [10]) (by kernel_rfl) (by simp) ?_
              refine AllReadyH.cons rfl (fun K hK => ?_) AllReadyH.nil
              refine stepFnW 53 (.tmp 38) [.tmp 42, .tmp 47] _ [ux, uy] [ptr cb] rfl rfl rfl rfl (fun _ _ => rfl) _ (HC.out _ hHeld) ?_
              rintro e w1 ⟨rfl, hw1'⟩
              refine Or.inl ⟨_, rfl, ?_⟩
              have HS1 := hid (HS.out.gro (Gro.trans (Gro.refl _).drew hw1'))
              have HH1 := hid (hHeld.gro hw1')
              refine hK.out _ _ HH1.out (fun hHeld => ?_)
              clear hK K
              simp only [Act.put, List.getElem_toArray, List.getElem_cons_succ, List.getElem_cons_zero, List.setIfInBounds_toArray, List.set_cons_zero, List.set_cons_succ]
              clear hw1' HH HC HS
              cases hq2 : qR (ux, rx) (uy, ry)
              · skip
                refine wpAnyH_take (i := 11) (v := ?_) rfl (by kernel_rfl) (by kernel_rfl) (by kernel_rfl) (fun _ _ _ h => h) (Or.inl ⟨by rfl, ?_⟩) hHeld ?_
                rotate_left
                · intro w' hSw
                  clear hSw
                  go_simp
                  first | done | with_reducible rfl
                simp only [Act.put, List.getElem_toArray, List.getElem_cons_succ, List.getElem_cons_zero, List.setIfInBounds_toArray, List.set_cons_zero, List.set_cons_succ]
                refine wpAnyH_done (by kernel_rfl) ?_ _
                have HM2 := hid (HM.out hq2)
                have HS2 := hid (HS1.out.put hcl hne HTg.out kk hkl (ux, rx))
                have HT := hid (HS1.out.rw.there kk 1 (by omega))
                obtain ⟨hsome, hfz⟩ := HT.out 0 (by omega)
                rw [Nat.add_zero, Nat.mul_one] at hsome hfz
                obtain ⟨old, hold⟩ := Option.isSome_iff_exists.1 hsome
                obtain ⟨au, cu, hux, -⟩ := HH1.out.ax.form
                simp only at hux
                have hr1 := HH1.out.r1
                simp only at hr1
                subst hux
                have HEQ : Hid (w1.setCells g (o + kk * 1) (flR (.slice au rx.length cu, rx)) = w1.setCell ⟨g, o + kk, none⟩ (.slice au rx.length cu)) := by show _ = _; rw [Nat.mul_one]; rfl
                clear hHeld hsome HT
                go_upto_region 13 with fail
                rw [← HEQ.out]
                clear HEQ hold hfz hr1
                generalize w1.setCells g (o + kk * 1) (flR (.slice au rx.length cu, rx)) = w2 at HS2 ⊢
                go_wp2
                go_roundw
                case rel => exact ⟨kk + 1, k2 + 1, c.set kk (.slice au rx.length cu, rx), by rw [show (((kk + 1 : Nat) : Nat) : Int) = (kk : Int) + 1 by omega], by rw [show (((k2 + 1 : Nat) : Nat) : Int) = (k2 : Int) + 1 by omega], by omega, by omega, by omega, by simp [hcl], HM2, HS2⟩
                case measure => simp [intOf]; omega
              · skip
                refine wpAnyH_take (i := 11) (v := ?_) rfl (by kernel_rfl) (by kernel_rfl) (by kernel_rfl) (fun _ _ _ h => h) (Or.inl ⟨by rfl, ?_⟩) hHeld ?_
                rotate_left
                · intro w' hSw
                  clear hSw
                  go_simp
                  first | done | with_reducible rfl
                simp only [Act.put, List.getElem_toArray, List.getElem_cons_succ, List.getElem_cons_zero, List.setIfInBounds_toArray, List.set_cons_zero, List.set_cons_succ]
                refine wpAnyH_done (by kernel_rfl) ?_ _
                have HN2 := hid (HN.out hq2)
                clear hHeld
                go_wp2
                go_roundw
                case rel => exact ⟨kk, k2 + 1, c, rfl, by rw [show (((k2 + 1 : Nat) : Nat) : Int) = (k2 : Int) + 1 by omega], by omega, by omega, by omega, hcl, HN2, HS1⟩
                case measure => simp [intOf]; omega
            · obtain hm : k + k2 = d.length := by omega
              have hd3 : decide ((k2 : Int) < ((d.length - k : Nat) : Int)) = false := by simp; omega
              rw [hm] at HI
              have HF := hid HI.out.fin
              have hkl : kk < d.length := by omega
              have hkc2 : kk ≤ cap := by omega
              have hkc3 : kk < cap := by omega
              have hkl2 : kk ≤ d.length := by omega
              obtain ⟨zs, hzl, hzr⟩ := run_clr (w := wr) (ty := 0) (t := 31) Tryd.underlying31 Tryd.zeroValue52 (k := 1) rfl (by simp [Value.cells, Value.oneCell']) g (o + kk * 1) (d.length - kk) (cap - kk) (by omega) (HS.out.rw.there kk ((d.length - kk) * 1) (by omega))
              have HA2 : Hid (∀ x ∈ d, Acs T (wr.setCells g (o + kk * 1) zs) x.1 x.2) := fun x hx => (HS.out.ac x hx).carry fun b _ hTb => ⟨hTb, cells_oth (HTg.out b hTb) _ _ _⟩
              have HS2 := hid (HS.out.rw.clr flR1 hcl hkl2 zs)
              have HO2 : Hid (Only (Mine (.slice (some ⟨g, o, none⟩) d.length cap) w) w (wr.setCells g (o + kk * 1) zs)) := HS.out.only.trans ((only_cells g _ _ _).mono fun b hb => Or.inl (by rw [hb]; rfl))
              rw [Nat.mul_one] at hzr HA2 HS2 HO2
              go_wp2
              go_ret
              refine ⟨_, rfl, rfl, HO2.out, ?_, fun x hx => HA2.out x (cpt_mem _ _ _ hx)⟩
              have := HS2.out
              rw [HF.out.1, fl_R] at this
              rw [HF.out.2]
              exact this
      · have hd2 : decide ((k : Int) < (d.length : Int)) = false := by simp; omega
        obtain rfl : k = d.length := by omega
        have HF := hid HO.out.all
        go_wp2
        go_ret
        refine ⟨_, rfl, rfl, HS.out.only, ?_⟩
        rw [HF.out, ← fl_R]; exact ⟨HS.out.rw, HS.out.ac⟩
end Go.Proofs.YtggbokghhohofaaDoor
