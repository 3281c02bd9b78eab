/-
  Proved here: Find of a table of package tuples goes through its rows, and ends as soon as none can have a better one. Condition: fewer than 2 to 31 rows.
-/
import Derived.Test.YtfbehaodhooaaaaGreatDoorFI
import Derived.WalkMore
namespace Go.Proofs.YtfbehaodhooaaaaGreatDoor
set_option maxRecDepth 100000
open Go.RowKit

/-- The better of two. -/
def nxt (f : Option En) (b : En) : Option En := match f with | some e => if ahd e b then some e else some b | none => some b
/-- What Find finds in rows, where b is found ahead. -/
noncomputable def fnd (h : Nat → Int) : List Ro → Option En → Option En
  | [], b => b
  | ρ :: rs, none => fnd h rs (fst ρ h)
  | ρ :: rs, some b => if ρ.top < b.r then some b else fnd h rs (nxt (fst ρ h) b)
theorem cells_two {w : World} {g t : Nat} {x y : Value} (h : w.heap[g]? = some (.cells #[x, y] t (0, 0))) : w.cell? ⟨g, 0, none⟩ = some x ∧ w.cell? ⟨g, 1, none⟩ = some y ∧ ∀ i, w.frozen? ⟨g, i, none⟩ = false :=
  ⟨by rw [cell_of_row _ _ _ _ _ _ h]; rfl, by rw [cell_of_row _ _ _ _ _ _ h]; rfl, fun i => by simp [World.frozen?, h]⟩
/-- What a round of Find keeps. -/
structure Fi (w : World) (h : Nat → Int) (rs : List Ro) (q : Nat) (b : Option En) (wr : World) : Prop where
  low : Below w.heap.size w wr
  hd : Blk wr w.heap.size 11 30 h
  best : wr.heap[w.heap.size + 1]? = some (.cells #[.int .i64 (eD b).r, .int .i64 (eD b).k] 130 (0, 0))
  eq : fnd h rs none = fnd h (rs.drop q) b
theorem Fi.next {w : World} {h : Nat → Int} {rs : List Ro} {q : Nat} {b b' : Option En} {wr w5 : World} (hF : Fi w h rs q b wr) (hb : Below wr.heap.size wr w5) (he : fnd h rs none = fnd h (rs.drop (q + 1)) b') : Fi w h rs (q + 1) b' ((w5.setCell ⟨w.heap.size + 1, 0, none⟩ (.int .i64 (eD b').r)).setCell ⟨w.heap.size + 1, 1, none⟩ (.int .i64 (eD b').k)) := by
  have hl := (Array.getElem?_eq_some_iff.1 hF.best).1
  have h5 : w5.heap[w.heap.size + 1]? = _ := (hb.block _ hl).trans hF.best
  have hB : Below w.heap.size w w5 := hF.low.trans (hb.mono hF.low.size)
  have h2 := two_set (x := .int .i64 (eD b').r) (y := .int .i64 (eD b').k) h5 hB (by omega)
  exact ⟨h2.2, ((hF.hd.on hb).setOther _ _ _ (by omega)).setOther _ _ _ (by omega), h2.1, he⟩
theorem Fi.keep {w : World} {h : Nat → Int} {rs : List Ro} {q : Nat} {b : Option En} {wr w5 : World} (hF : Fi w h rs q b wr) (hb : Below wr.heap.size wr w5) (he : fnd h rs none = fnd h (rs.drop (q + 1)) b) : Fi w h rs (q + 1) b w5 := by
  have hl := (Array.getElem?_eq_some_iff.1 hF.best).1
  exact ⟨hF.low.trans (hb.mono hF.low.size), hF.hd.on hb, (hb.block _ hl).trans hF.best, he⟩
set_option maxHeartbeats 3200000 in
set_option maxRecDepth 100000 in
theorem find_any {S : Nat → Prop} {o : Nat → Tag} (w : World) (g : Nat) (ad : Int) (bm nm : Nat) (Gm : Lit → Option Value) (vr : Value) (rs : List Ro) (h : Nat → Int) (hT : TabM S o w g ad bm nm Gm vr rs) (hw : Wf h) (hn : rs.length < 2147483647) :
    Calls Tryz.prog 45 #[pv g, hv h] w fun r w' => r = .returned (.tuple #[.int .i64 (eD (fnd h rs none)).k, .bool (fnd h rs none).isSome]) ∧ Below w.heap.size w w' := by
  obtain ⟨W0, hW0⟩ : ∃ W0, W0 = (w.alloc (.cells (row 11 h) 30)).alloc (.cells #[.int .i64 0, .int .i64 0] 130) := ⟨_, rfl⟩
  have hB0 : Below w.heap.size w W0 := by rw [hW0]; exact ((Below.refl _ _).alloc (Nat.le_refl _) _).alloc (by simp) _
  have hG0 : Blk W0 w.heap.size 11 30 h := by rw [hW0]; exact (Blk.new w 11 30 h).alloc _
  have hG1 : W0.heap[w.heap.size + 1]? = some (.cells #[.int .i64 0, .int .i64 0] 130 (0, 0)) := by
    rw [hW0]
    have := heap_alloc_new (w.alloc (.cells (row 11 h) 30)) (.cells #[.int .i64 0, .int .i64 0] 130)
    simpa using this
  have hF0 : Fi w h rs 0 none W0 := ⟨hB0, hG0, hG1, rfl⟩
  have hgl := (Array.getElem?_eq_some_iff.1 hT.hg).1
  obtain ⟨ao, cap, rfl⟩ := hT.row.form
  obtain ⟨t0, t1, t2, t3⟩ := three_cells ((hB0.block g hgl).trans hT.hg)
  have HF0 := hid hF0
  have HT := hid hT
  have HW0 := hid hW0
  clear hB0 hG0 hG1 hF0 hW0 hT
  go_enter Tryz.func45, Tryz.ntmps45
  go_wp2
  go_step3
  go_upto_region 4 with fail
  rw [← HW0.out]
  clear HW0
  go_wp2
  go_step3
  go_wp2
  go_loopw [7, 19] (fun f i wr => ∃ (q : Nat) (b : Option En), q ≤ rs.length ∧ i = .int .i64 q ∧ f = .bool b.isSome ∧ Fi w h rs q b wr) (fun _ i _ => rs.length - (intOf i).toNat)
  case atStart => exact ⟨0, none, by omega, rfl, rfl, HF0.out⟩
  case round =>
    obtain ⟨q, b, hq, rfl, rfl, hF⟩ := hrel
    generalize wr = wx at *
    have HF := hid hF
    obtain ⟨z0, z1, z2⟩ := cells_two hF.best
    by_cases hlt : q < rs.length
    · have hql : decide ((q : Int) < (rs.length : Int)) = true := decide_eq_true (by omega)
      obtain ⟨ρ, hρ⟩ : ∃ ρ, ρ = rs[q] := ⟨_, rfl⟩
      have hρm : ρ ∈ rs := hρ ▸ List.getElem_mem hlt
      have hdr : rs.drop q = ρ :: rs.drop (q + 1) := by rw [hρ]; exact List.drop_eq_getElem_cons hlt
      rcases HT.out.row with ⟨hx, ⟨_, hz0⟩ | ⟨b1, o1, cap', cur, he, hb1, hb2, hb3, hb4, hb5⟩⟩
      · omega
      obtain ⟨rfl, rfl⟩ : ao = some ⟨b1, o1, none⟩ ∧ cap = cap' := by simpa using he
      have hb1l := (Array.getElem?_eq_some_iff.1 hb2).1
      have d0 : wx.cell? ⟨b1, o1 + q, none⟩ = some (pv ρ.p) := by
        rw [cell_of_row _ _ _ _ _ _ ((hF.low.block b1 hb1l).trans hb2), cells_at hb5 (by omega), hρ]
        simp [hlt]
      have hM := (HT.out.all ρ hρm).carry (T := S) (o' := o) (w' := wx) fun b hb hS _ => ⟨hS, rfl, hF.low.block b hb⟩
      obtain ⟨p11, -, -, -⟩ := hM.cells
      have hMr := hM
      have HC := hid (first_any wx ρ h hM hw)
      have hBx := hF.hd
      have hEq := hF.eq
      rw [hdr] at hEq
      have HEq := hid hEq
      have hw1 : IntKind.i64.wrap ((q : Int) + 1) = (q : Int) + 1 := by rw [IntKind.wrap_i64]; omega
      obtain ⟨f1, hf1⟩ : ∃ f1, f1 = fst ρ h := ⟨_, rfl⟩
      rw [← hf1] at HC
      have hnot : ∀ (x : Bool) (w : World), (Op.unary .not (.bool x)).run Tryz.prog w = .ok (.bool (!x)) w := fun _ _ => rfl
      have hbl := cell_lt z0
      clear hx he hb1 hb2 hb3 hb4 hb5 hb1l hρ hρm hM hF hEq hdr
      cases b with
      | none =>
        replace z0 : wx.cell? ⟨w.heap.size + 1, 0, none⟩ = some (.int .i64 0) := z0
        replace z1 : wx.cell? ⟨w.heap.size + 1, 1, none⟩ = some (.int .i64 0) := z1
        have HE1 : Hid (fnd h rs none = fnd h (rs.drop (q + 1)) f1) := by show _ = _; rw [HEq.out, hf1]; rfl
        obtain ⟨⟨er, ek⟩, he1⟩ : ∃ e, e = eD f1 := ⟨_, rfl⟩
        have HN : Hid (∀ w5, Below wx.heap.size wx w5 → (w5.cell? ⟨w.heap.size + 1, 0, none⟩ = some (.int .i64 0) ∧ w5.cell? ⟨w.heap.size + 1, 1, none⟩ = some (.int .i64 0) ∧ ∀ i, w5.frozen? ⟨w.heap.size + 1, i, none⟩ = false) ∧ Fi w h rs (q + 1) f1 ((w5.setCell ⟨w.heap.size + 1, 0, none⟩ (.int .i64 er)).setCell ⟨w.heap.size + 1, 1, none⟩ (.int .i64 ek))) := fun w5 hb => by
          have := HF.out.next hb HE1.out
          rw [← he1] at this
          exact ⟨cells_two ((hb.block _ hbl).trans HF.out.best), this⟩
        rw [← he1] at HC
        clear he1 hf1 HEq hMr
        go_wp2_with (first
          | (refine ld24 (.tmp 3) rfl _ rfl rfl h hBx ?_)
          | (go_at_call 68; refine (HC.out).mono ?_; rintro r w5 ⟨rfl, hb5⟩; obtain ⟨⟨y0, y1, y2⟩, y3⟩ := HN.out w5 hb5; have HY := hid y3; clear y3 hb5))
        go_roundw
        case rel => exact ⟨q + 1, f1, by omega, by go_num, rfl, HY.out⟩
        case measure => simp [intOf]; omega
      | some e0 =>
        obtain ⟨br, bk⟩ := e0
        replace z0 : wx.cell? ⟨w.heap.size + 1, 0, none⟩ = some (.int .i64 br) := z0
        replace z1 : wx.cell? ⟨w.heap.size + 1, 1, none⟩ = some (.int .i64 bk) := z1
        by_cases htop : ρ.top < br
        · have HE1 : Hid (fnd h rs none = some ⟨br, bk⟩) := by show _ = _; rw [HEq.out]; show (if ρ.top < br then _ else _) = _; rw [if_pos htop]
          have hdt : decide (ρ.top < br) = true := decide_eq_true htop
          have HL := hid HF.out.low
          clear HEq hf1 HF HC hMr
          go_wp2_with fail
          go_quiet (fail)
          go_wp2
          try rw [Exit.noGoto_ret]
          refine bodyPost_ret (results_tmp2 rfl _ _ _) rfl ?_
          rw [HE1.out]
          exact ⟨rfl, ⟨HL.out.os, HL.out.tape, HL.out.output, HL.out.size, HL.out.block⟩⟩
        · have hE1 : ∀ f, f = fst ρ h → fnd h rs none = fnd h (rs.drop (q + 1)) (nxt f ⟨br, bk⟩) := by
            rintro f rfl
            rw [HEq.out]
            show (if ρ.top < br then _ else _) = _
            rw [if_neg htop]
          have HE1 := hid (hE1 f1 hf1)
          have hdt : decide (ρ.top < br) = false := decide_eq_false htop
          have HMr := hid hMr
          have HF1 := hid hf1
          have HBx := hid hBx
          clear HEq hE1 hMr HC hf1 hBx
          go_wp2_with fail
          go_quiet (fail)
          have hMd := HMr.out.carry (T := S) (o' := o) (w' := wx.drewN nq) fun b _ hS _ => ⟨hS, rfl, rfl⟩
          have HC := hid (first_any (wx.drewN nq) ρ h hMd hw)
          rw [← HF1.out] at HC
          have hBd : Blk (wx.drewN nq) w.heap.size 11 30 h := HBx.out
          have HBd : Hid (∀ w5, Below (wx.drewN nq).heap.size (wx.drewN nq) w5 → Below wx.heap.size wx w5) := fun w5 hb => ⟨hb.os, hb.tape, hb.output, hb.size, hb.block⟩
          clear hMd HMr HF1 HBx
          cases f1 with
          | none =>
            replace HC : Hid (Calls Tryz.prog 68 #[pv ρ.p, hv h] (wx.drewN nq) fun r w' => r = .returned (.tuple #[ev ⟨0, 0⟩, .bool false]) ∧ Below (wx.drewN nq).heap.size (wx.drewN nq) w') := HC
            have HN : Hid (∀ w5, Below (wx.drewN nq).heap.size (wx.drewN nq) w5 → Fi w h rs (q + 1) (some ⟨br, bk⟩) (w5.alloc (.cells #[.int .i64 0, .int .i64 0] 130))) := fun w5 hb => HF.out.keep ((HBd.out w5 hb).alloc (HBd.out w5 hb).size _) HE1.out
            clear HF
            go_upto_region 9 with (first
              | (refine ld24 (.tmp 3) rfl _ rfl rfl h hBd ?_)
              | (go_at_call 68; refine (HC.out).mono ?_; rintro r w5 ⟨rfl, hb5⟩; have HY := hid (HN.out w5 hb5); clear hb5)
              | (refine stNew 130 (.tmp 10) (.tmp 27) rfl rfl w5 130 #[.int .i64 0, .int .i64 0] #[.int .i64 0, .int .i64 0] rfl rfl rfl sizeE2 rfl rfl ?_))
            go_wp2
            go_roundw
            case rel => exact ⟨q + 1, some ⟨br, bk⟩, by omega, by go_num, rfl, HY.out⟩
            case measure => simp [intOf]; omega
          | some e1 =>
            obtain ⟨er, ek⟩ := e1
            replace HC : Hid (Calls Tryz.prog 68 #[pv ρ.p, hv h] (wx.drewN nq) fun r w' => r = .returned (.tuple #[ev ⟨er, ek⟩, .bool true]) ∧ Below (wx.drewN nq).heap.size (wx.drewN nq) w') := HC
            obtain ⟨c, hc⟩ : ∃ c, c = ahd ⟨er, ek⟩ ⟨br, bk⟩ := ⟨_, rfl⟩
            have HE2 : Hid (fnd h rs none = fnd h (rs.drop (q + 1)) (if c then some ⟨er, ek⟩ else some ⟨br, bk⟩)) := by show _ = _; rw [HE1.out, hc]; rfl
            have HN : Hid (∀ w5, Below (wx.drewN nq).heap.size (wx.drewN nq) w5 → (Calls Tryz.prog 69 #[ev ⟨er, ek⟩, ev ⟨br, bk⟩] (w5.alloc (.cells #[.int .i64 er, .int .i64 ek] 130)) fun e w' => e = .returned (.bool c) ∧ Below wx.heap.size wx w' ∧ (w'.cell? ⟨w5.heap.size, 0, none⟩ = some (.int .i64 er) ∧ w'.cell? ⟨w5.heap.size, 1, none⟩ = some (.int .i64 ek)) ∧ (w'.cell? ⟨w.heap.size + 1, 0, none⟩ = some (.int .i64 br) ∧ w'.cell? ⟨w.heap.size + 1, 1, none⟩ = some (.int .i64 bk) ∧ ∀ i, w'.frozen? ⟨w.heap.size + 1, i, none⟩ = false)) ∧ ((w5.alloc (.cells #[.int .i64 er, .int .i64 ek] 130)).cell? ⟨w5.heap.size, 0, none⟩ = some (.int .i64 er) ∧ (w5.alloc (.cells #[.int .i64 er, .int .i64 ek] 130)).cell? ⟨w5.heap.size, 1, none⟩ = some (.int .i64 ek)) ∧ (w5.alloc (.cells #[.int .i64 er, .int .i64 ek] 130)).cell? ⟨w.heap.size + 1, 0, none⟩ = some (.int .i64 br) ∧ (w5.alloc (.cells #[.int .i64 er, .int .i64 ek] 130)).cell? ⟨w.heap.size + 1, 1, none⟩ = some (.int .i64 bk)) := fun w5 hb => by
              have hb' := HBd.out w5 hb
              have hb2 : Below wx.heap.size wx (w5.alloc (.cells #[.int .i64 er, .int .i64 ek] 130)) := hb'.alloc hb'.size _
              have hn := heap_alloc_new w5 (.cells #[.int .i64 er, .int .i64 ek] 130)
              have hbest : (w5.alloc (.cells #[.int .i64 er, .int .i64 ek] 130)).heap[w.heap.size + 1]? = _ := (hb2.block _ hbl).trans HF.out.best
              refine ⟨(ahead_any ⟨er, ek⟩ ⟨br, bk⟩ _).mono ?_, ⟨(cells_two hn).1, (cells_two hn).2.1⟩, (cells_two hbest).1, (cells_two hbest).2.1⟩
              rintro e w' ⟨rfl, hb3⟩
              have hn3 := (hb3.block w5.heap.size (by simp)).trans hn
              have hbest3 := (hb3.block (w.heap.size + 1) (by have := hb'.size; simp; omega)).trans hbest
              exact ⟨by rw [hc], hb2.trans (hb3.mono hb2.size), ⟨(cells_two hn3).1, (cells_two hn3).2.1⟩, cells_two hbest3⟩
            clear hc HE1
            go_upto_region 9 with (first
              | (refine ld24 (.tmp 3) rfl _ rfl rfl h hBd ?_)
              | (go_at_call 68; refine (HC.out).mono ?_; rintro r w5 ⟨rfl, hb5⟩; obtain ⟨n1, ⟨n2, n3⟩, n4, n5⟩ := HN.out w5 hb5; have HA := hid n1; clear hb5 n1)
              | (refine stNew 130 (.tmp 10) (.tmp 27) rfl rfl w5 130 #[.int .i64 0, .int .i64 0] #[.int .i64 er, .int .i64 ek] rfl rfl rfl sizeE2 rfl rfl ?_))
            cases c with
            | true =>
              go_wp2_with (go_at_call 69; refine (HA.out).mono ?_; rintro r w6 ⟨rfl, m1, ⟨m2, m3⟩, m4, m5, m6⟩; have HY := hid (HF.out.next m1 HE2.out); clear m1)
              go_roundw
              case rel => exact ⟨q + 1, some ⟨er, ek⟩, by omega, by go_num, rfl, HY.out⟩
              case measure => simp [intOf]; omega
            | false =>
              go_wp2_with (go_at_call 69; refine (HA.out).mono ?_; rintro r w6 ⟨rfl, m1, ⟨m2, m3⟩, m4, m5, m6⟩; have HY := hid (HF.out.keep m1 HE2.out); clear m1)
              go_roundw
              case rel => exact ⟨q + 1, some ⟨br, bk⟩, by omega, by go_num, rfl, HY.out⟩
              case measure => simp [intOf]; omega
    · obtain rfl : q = rs.length := by omega
      have hql : decide ((rs.length : Int) < (rs.length : Int)) = false := by simp
      have HE1 : Hid (fnd h rs none = b) := by show _ = _; rw [hF.eq, List.drop_length]; rfl
      have HL := hid hF.low
      clear hF HF
      go_wp2
      try rw [Exit.noGoto_ret]
      refine bodyPost_ret (results_tmp2 rfl _ _ _) rfl ?_
      rw [HE1.out]
      exact ⟨rfl, HL.out⟩
end Go.Proofs.YtfbehaodhooaaaaGreatDoor
