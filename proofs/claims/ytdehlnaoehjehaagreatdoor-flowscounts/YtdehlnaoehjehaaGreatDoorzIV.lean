/-
  Proved here: Find of a table of package tuples goes through its rows, and ends as soon as none can have a better one. Condition: fewer than 2 to 31 rows.
-/
/-
  Plain facts: rules, and the rows that stand for them (Inv); one more rule; what is found is the best that hits (fnd_best). No program is spoken of.
-/
import Derived.Test.YtdehlnaoehjehaaGreatDoorzFI
import Derived.WalkMore
namespace Go.Proofs.YtdehlnaoehjehaaGreatDoor
set_option maxRecDepth 100000
open Go.RowKit

/-- The better of two. -/
def nxt (f : Option En) (b : En) : Option En := match f with | some e => if ahd e b then some e else some b | none => some b
/-- What Find finds in rows, where b is found ahead. -/
noncomputable def fnd (h : Nat → Int) : List Ro → Option En → Option En
  | [], b => b
  | ρ :: rs, none => fnd h rs (fst ρ h)
  | ρ :: rs, some b => if ρ.top < b.r then some b else fnd h rs (nxt (fst ρ h) b)
theorem cells_two {w : World} {g t : Nat} {x y : Value} (h : w.heap[g]? = some (.cells #[x, y] t (0, 0))) : w.cell? ⟨g, 0, none⟩ = some x ∧ w.cell? ⟨g, 1, none⟩ = some y ∧ ∀ i, w.frozen? ⟨g, i, none⟩ = false :=
  ⟨by rw [cell_of_row _ _ _ _ _ _ h]; rfl, by rw [cell_of_row _ _ _ _ _ _ h]; rfl, fun i => by simp [World.frozen?, h]⟩
/-- What a round of Find keeps. -/
structure Fi (w : World) (h : Nat → Int) (rs : List Ro) (q : Nat) (b : Option En) (wr : World) : Prop where
  low : Below w.heap.size w wr
  hd : Blk wr w.heap.size 11 30 h
  best : wr.heap[w.heap.size + 1]? = some (.cells #[.int .i64 (eD b).r, .int .i64 (eD b).k] 217 (0, 0))
  eq : fnd h rs none = fnd h (rs.drop q) b
theorem Fi.next {w : World} {h : Nat → Int} {rs : List Ro} {q : Nat} {b b' : Option En} {wr w5 : World} (hF : Fi w h rs q b wr) (hb : Below wr.heap.size wr w5) (he : fnd h rs none = fnd h (rs.drop (q + 1)) b') : Fi w h rs (q + 1) b' ((w5.setCell ⟨w.heap.size + 1, 0, none⟩ (.int .i64 (eD b').r)).setCell ⟨w.heap.size + 1, 1, none⟩ (.int .i64 (eD b').k)) := by
  have hl := (Array.getElem?_eq_some_iff.1 hF.best).1
  have h5 : w5.heap[w.heap.size + 1]? = _ := (hb.block _ hl).trans hF.best
  have hB : Below w.heap.size w w5 := hF.low.trans (hb.mono hF.low.size)
  have h2 := two_set (x := .int .i64 (eD b').r) (y := .int .i64 (eD b').k) h5 hB (by omega)
  exact ⟨h2.2, ((hF.hd.on hb).setOther _ _ _ (by omega)).setOther _ _ _ (by omega), h2.1, he⟩
theorem Fi.keep {w : World} {h : Nat → Int} {rs : List Ro} {q : Nat} {b : Option En} {wr w5 : World} (hF : Fi w h rs q b wr) (hb : Below wr.heap.size wr w5) (he : fnd h rs none = fnd h (rs.drop (q + 1)) b) : Fi w h rs (q + 1) b w5 := by
  have hl := (Array.getElem?_eq_some_iff.1 hF.best).1
  exact ⟨hF.low.trans (hb.mono hF.low.size), hF.hd.on hb, (hb.block _ hl).trans hF.best, he⟩
set_option maxHeartbeats 3200000 in
set_option maxRecDepth 100000 in
theorem find_any {S : Nat → Prop} {o : Nat → Tag} (w : World) (g : Nat) (ad : Int) (bm nm : Nat) (Gm : Lit → Option Value) (vr : Value) (rs : List Ro) (h : Nat → Int) (hT : TabM S o w g ad bm nm Gm vr rs) (hw : Wf h) (hn : rs.length < 2147483647) :
    Calls Tryz.prog 74 #[pv g, hv h] w fun r w' => r = .returned (.tuple #[.int .i64 (eD (fnd h rs none)).k, .bool (fnd h rs none).isSome]) ∧ Below w.heap.size w w' := by
  obtain ⟨W0, hW0⟩ : ∃ W0, W0 = (w.alloc (.cells (row 11 h) 30)).alloc (.cells #[.int .i64 0, .int .i64 0] 217) := ⟨_, rfl⟩
  have hB0 : Below w.heap.size w W0 := by rw [hW0]; exact ((Below.refl _ _).alloc (Nat.le_refl _) _).alloc (by simp) _
  have hG0 : Blk W0 w.heap.size 11 30 h := by rw [hW0]; exact (Blk.new w 11 30 h).alloc _
  have hG1 : W0.heap[w.heap.size + 1]? = some (.cells #[.int .i64 0, .int .i64 0] 217 (0, 0)) := by
    rw [hW0]
    have := heap_alloc_new (w.alloc (.cells (row 11 h) 30)) (.cells #[.int .i64 0, .int .i64 0] 217)
    simpa using this
  have hF0 : Fi w h rs 0 none W0 := ⟨hB0, hG0, hG1, rfl⟩
  have hgl := (Array.getElem?_eq_some_iff.1 hT.hg).1
  obtain ⟨ao, cap, rfl⟩ := hT.row.form
  obtain ⟨t0, t1, t2, t3⟩ := three_cells ((hB0.block g hgl).trans hT.hg)
  have HF0 := hid hF0
  have HT := hid hT
  have HW0 := hid hW0
  clear hB0 hG0 hG1 hF0 hW0 hT
  go_enter Tryz.func74, Tryz.ntmps74
  go_wp2
  go_step3
  go_upto_region 4 with fail
  rw [← HW0.out]
  clear HW0
  go_wp2
  go_step3
  go_wp2
  go_loopw [7, 19] (fun f i wr => ∃ (q : Nat) (b : Option En), q ≤ rs.length ∧ i = .int .i64 q ∧ f = .bool b.isSome ∧ Fi w h rs q b wr) (fun _ i _ => rs.length - (intOf i).toNat)
  case atStart => exact ⟨0, none, by omega, rfl, rfl, HF0.out⟩
  case round =>
    obtain ⟨q, b, hq, rfl, rfl, hF⟩ := hrel
    generalize wr = wx at *
    have HF := hid hF
    obtain ⟨z0, z1, z2⟩ := cells_two hF.best
    by_cases hlt : q < rs.length
    · have hql : decide ((q : Int) < (rs.length : Int)) = true := decide_eq_true (by omega)
      obtain ⟨ρ, hρ⟩ : ∃ ρ, ρ = rs[q] := ⟨_, rfl⟩
      have hρm : ρ ∈ rs := hρ ▸ List.getElem_mem hlt
      have hdr : rs.drop q = ρ :: rs.drop (q + 1) := by rw [hρ]; exact List.drop_eq_getElem_cons hlt
      rcases HT.out.row with ⟨hx, ⟨_, hz0⟩ | ⟨b1, o1, cap', cur, he, hb1, hb2, hb3, hb4, hb5⟩⟩
      · omega
      obtain ⟨rfl, rfl⟩ : ao = some ⟨b1, o1, none⟩ ∧ cap = cap' := by simpa using he
      have hb1l := (Array.getElem?_eq_some_iff.1 hb2).1
      have d0 : wx.cell? ⟨b1, o1 + q, none⟩ = some (pv ρ.p) := by
        rw [cell_of_row _ _ _ _ _ _ ((hF.low.block b1 hb1l).trans hb2), cells_at hb5 (by omega), hρ]
        simp [hlt]
      have hM := (HT.out.all ρ hρm).carry (T := S) (o' := o) (w' := wx) fun b hb hS _ => ⟨hS, rfl, hF.low.block b hb⟩
      obtain ⟨p11, -, -, -⟩ := hM.cells
      have hMr := hM
      have HC := hid (first_any wx ρ h hM hw)
      have hBx := hF.hd
      have hEq := hF.eq
      rw [hdr] at hEq
      have HEq := hid hEq
      have hw1 : IntKind.i64.wrap ((q : Int) + 1) = (q : Int) + 1 := by rw [IntKind.wrap_i64]; omega
      obtain ⟨f1, hf1⟩ : ∃ f1, f1 = fst ρ h := ⟨_, rfl⟩
      rw [← hf1] at HC
      have hnot : ∀ (x : Bool) (w : World), (Op.unary .not (.bool x)).run Tryz.prog w = .ok (.bool (!x)) w := fun _ _ => rfl
      have hbl := cell_lt z0
      clear hx he hb1 hb2 hb3 hb4 hb5 hb1l hρ hρm hM hF hEq hdr
      cases b with
      | none =>
        replace z0 : wx.cell? ⟨w.heap.size + 1, 0, none⟩ = some (.int .i64 0) := z0
        replace z1 : wx.cell? ⟨w.heap.size + 1, 1, none⟩ = some (.int .i64 0) := z1
        have HE1 : Hid (fnd h rs none = fnd h (rs.drop (q + 1)) f1) := by show _ = _; rw [HEq.out, hf1]; rfl
        obtain ⟨⟨er, ek⟩, he1⟩ : ∃ e, e = eD f1 := ⟨_, rfl⟩
        have HN : Hid (∀ w5, Below wx.heap.size wx w5 → (w5.cell? ⟨w.heap.size + 1, 0, none⟩ = some (.int .i64 0) ∧ w5.cell? ⟨w.heap.size + 1, 1, none⟩ = some (.int .i64 0) ∧ ∀ i, w5.frozen? ⟨w.heap.size + 1, i, none⟩ = false) ∧ Fi w h rs (q + 1) f1 ((w5.setCell ⟨w.heap.size + 1, 0, none⟩ (.int .i64 er)).setCell ⟨w.heap.size + 1, 1, none⟩ (.int .i64 ek))) := fun w5 hb => by
          have := HF.out.next hb HE1.out
          rw [← he1] at this
          exact ⟨cells_two ((hb.block _ hbl).trans HF.out.best), this⟩
        rw [← he1] at HC
        clear he1 hf1 HEq hMr
        go_wp2_with (first
          | (refine ld24 (.tmp 3) rfl _ rfl rfl h hBx ?_)
          | (go_at_call 119; refine (HC.out).mono ?_; rintro r w5 ⟨rfl, hb5⟩; obtain ⟨⟨y0, y1, y2⟩, y3⟩ := HN.out w5 hb5; have HY := hid y3; clear y3 hb5))
        go_roundw
        case rel => exact ⟨q + 1, f1, by omega, by go_num, rfl, HY.out⟩
        case measure => simp [intOf]; omega
      | some e0 =>
        obtain ⟨br, bk⟩ := e0
        replace z0 : wx.cell? ⟨w.heap.size + 1, 0, none⟩ = some (.int .i64 br) := z0
        replace z1 : wx.cell? ⟨w.heap.size + 1, 1, none⟩ = some (.int .i64 bk) := z1
        by_cases htop : ρ.top < br
        · have HE1 : Hid (fnd h rs none = some ⟨br, bk⟩) := by show _ = _; rw [HEq.out]; show (if ρ.top < br then _ else _) = _; rw [if_pos htop]
          have hdt : decide (ρ.top < br) = true := decide_eq_true htop
          have HL := hid HF.out.low
          clear HEq hf1 HF HC hMr
          go_wp2_with fail
          go_quiet (fail)
          go_wp2
          try rw [Exit.noGoto_ret]
          refine bodyPost_ret (results_tmp2 rfl _ _ _) rfl ?_
          rw [HE1.out]
          exact ⟨rfl, ⟨HL.out.os, HL.out.tape, HL.out.output, HL.out.size, HL.out.block⟩⟩
        · have hE1 : ∀ f, f = fst ρ h → fnd h rs none = fnd h (rs.drop (q + 1)) (nxt f ⟨br, bk⟩) := by
            rintro f rfl
            rw [HEq.out]
            show (if ρ.top < br then _ else _) = _
            rw [if_neg htop]
          have HE1 := hid (hE1 f1 hf1)
          have hdt : decide (ρ.top < br) = false := decide_eq_false htop
          have HMr := hid hMr
          have HF1 := hid hf1
          have HBx := hid hBx
          clear HEq hE1 hMr HC hf1 hBx
          go_wp2_with fail
          go_quiet (fail)
          have hMd := HMr.out.carry (T := S) (o' := o) (w' := wx.drewN nq) fun b _ hS _ => ⟨hS, rfl, rfl⟩
          have HC := hid (first_any (wx.drewN nq) ρ h hMd hw)
          rw [← HF1.out] at HC
          have hBd : Blk (wx.drewN nq) w.heap.size 11 30 h := HBx.out
          have HBd : Hid (∀ w5, Below (wx.drewN nq).heap.size (wx.drewN nq) w5 → Below wx.heap.size wx w5) := fun w5 hb => ⟨hb.os, hb.tape, hb.output, hb.size, hb.block⟩
          clear hMd HMr HF1 HBx
          cases f1 with
          | none =>
            replace HC : Hid (Calls Tryz.prog 119 #[pv ρ.p, hv h] (wx.drewN nq) fun r w' => r = .returned (.tuple #[ev ⟨0, 0⟩, .bool false]) ∧ Below (wx.drewN nq).heap.size (wx.drewN nq) w') := HC
            have HN : Hid (∀ w5, Below (wx.drewN nq).heap.size (wx.drewN nq) w5 → Fi w h rs (q + 1) (some ⟨br, bk⟩) (w5.alloc (.cells #[.int .i64 0, .int .i64 0] 217))) := fun w5 hb => HF.out.keep ((HBd.out w5 hb).alloc (HBd.out w5 hb).size _) HE1.out
            clear HF
            go_upto_region 9 with (first
              | (refine ld24 (.tmp 3) rfl _ rfl rfl h hBd ?_)
              | (go_at_call 119; refine (HC.out).mono ?_; rintro r w5 ⟨rfl, hb5⟩; have HY := hid (HN.out w5 hb5); clear hb5)
              | (refine stNew 217 (.tmp 10) (.tmp 27) rfl rfl w5 217 #[.int .i64 0, .int .i64 0] #[.int .i64 0, .int .i64 0] rfl rfl rfl sizeE2 rfl rfl ?_))
            go_wp2
            go_roundw
            case rel => exact ⟨q + 1, some ⟨br, bk⟩, by omega, by go_num, rfl, HY.out⟩
            case measure => simp [intOf]; omega
          | some e1 =>
            obtain ⟨er, ek⟩ := e1
            replace HC : Hid (Calls Tryz.prog 119 #[pv ρ.p, hv h] (wx.drewN nq) fun r w' => r = .returned (.tuple #[ev ⟨er, ek⟩, .bool true]) ∧ Below (wx.drewN nq).heap.size (wx.drewN nq) w') := HC
            obtain ⟨c, hc⟩ : ∃ c, c = ahd ⟨er, ek⟩ ⟨br, bk⟩ := ⟨_, rfl⟩
            have HE2 : Hid (fnd h rs none = fnd h (rs.drop (q + 1)) (if c then some ⟨er, ek⟩ else some ⟨br, bk⟩)) := by show _ = _; rw [HE1.out, hc]; rfl
            have HN : Hid (∀ w5, Below (wx.drewN nq).heap.size (wx.drewN nq) w5 → (Calls Tryz.prog 120 #[ev ⟨er, ek⟩, ev ⟨br, bk⟩] (w5.alloc (.cells #[.int .i64 er, .int .i64 ek] 217)) fun e w' => e = .returned (.bool c) ∧ Below wx.heap.size wx w' ∧ (w'.cell? ⟨w5.heap.size, 0, none⟩ = some (.int .i64 er) ∧ w'.cell? ⟨w5.heap.size, 1, none⟩ = some (.int .i64 ek)) ∧ (w'.cell? ⟨w.heap.size + 1, 0, none⟩ = some (.int .i64 br) ∧ w'.cell? ⟨w.heap.size + 1, 1, none⟩ = some (.int .i64 bk) ∧ ∀ i, w'.frozen? ⟨w.heap.size + 1, i, none⟩ = false)) ∧ ((w5.alloc (.cells #[.int .i64 er, .int .i64 ek] 217)).cell? ⟨w5.heap.size, 0, none⟩ = some (.int .i64 er) ∧ (w5.alloc (.cells #[.int .i64 er, .int .i64 ek] 217)).cell? ⟨w5.heap.size, 1, none⟩ = some (.int .i64 ek)) ∧ (w5.alloc (.cells #[.int .i64 er, .int .i64 ek] 217)).cell? ⟨w.heap.size + 1, 0, none⟩ = some (.int .i64 br) ∧ (w5.alloc (.cells #[.int .i64 er, .int .i64 ek] 217)).cell? ⟨w.heap.size + 1, 1, none⟩ = some (.int .i64 bk)) := fun w5 hb => by
              have hb' := HBd.out w5 hb
              have hb2 : Below wx.heap.size wx (w5.alloc (.cells #[.int .i64 er, .int .i64 ek] 217)) := hb'.alloc hb'.size _
              have hn := heap_alloc_new w5 (.cells #[.int .i64 er, .int .i64 ek] 217)
              have hbest : (w5.alloc (.cells #[.int .i64 er, .int .i64 ek] 217)).heap[w.heap.size + 1]? = _ := (hb2.block _ hbl).trans HF.out.best
              refine ⟨(ahead_any ⟨er, ek⟩ ⟨br, bk⟩ _).mono ?_, ⟨(cells_two hn).1, (cells_two hn).2.1⟩, (cells_two hbest).1, (cells_two hbest).2.1⟩
              rintro e w' ⟨rfl, hb3⟩
              have hn3 := (hb3.block w5.heap.size (by simp)).trans hn
              have hbest3 := (hb3.block (w.heap.size + 1) (by have := hb'.size; simp; omega)).trans hbest
              exact ⟨by rw [hc], hb2.trans (hb3.mono hb2.size), ⟨(cells_two hn3).1, (cells_two hn3).2.1⟩, cells_two hbest3⟩
            clear hc HE1
            go_upto_region 9 with (first
              | (refine ld24 (.tmp 3) rfl _ rfl rfl h hBd ?_)
              | (go_at_call 119; refine (HC.out).mono ?_; rintro r w5 ⟨rfl, hb5⟩; obtain ⟨n1, ⟨n2, n3⟩, n4, n5⟩ := HN.out w5 hb5; have HA := hid n1; clear hb5 n1)
              | (refine stNew 217 (.tmp 10) (.tmp 27) rfl rfl w5 217 #[.int .i64 0, .int .i64 0] #[.int .i64 er, .int .i64 ek] rfl rfl rfl sizeE2 rfl rfl ?_))
            cases c with
            | true =>
              go_wp2_with (go_at_call 120; refine (HA.out).mono ?_; rintro r w6 ⟨rfl, m1, ⟨m2, m3⟩, m4, m5, m6⟩; have HY := hid (HF.out.next m1 HE2.out); clear m1)
              go_roundw
              case rel => exact ⟨q + 1, some ⟨er, ek⟩, by omega, by go_num, rfl, HY.out⟩
              case measure => simp [intOf]; omega
            | false =>
              go_wp2_with (go_at_call 120; refine (HA.out).mono ?_; rintro r w6 ⟨rfl, m1, ⟨m2, m3⟩, m4, m5, m6⟩; have HY := hid (HF.out.keep m1 HE2.out); clear m1)
              go_roundw
              case rel => exact ⟨q + 1, some ⟨br, bk⟩, by omega, by go_num, rfl, HY.out⟩
              case measure => simp [intOf]; omega
    · obtain rfl : q = rs.length := by omega
      have hql : decide ((rs.length : Int) < (rs.length : Int)) = false := by simp
      have HE1 : Hid (fnd h rs none = b) := by show _ = _; rw [hF.eq, List.drop_length]; rfl
      have HL := hid hF.low
      clear hF HF
      go_wp2
      try rw [Exit.noGoto_ret]
      refine bodyPost_ret (results_tmp2 rfl _ _ _) rfl ?_
      rw [HE1.out]
      exact ⟨rfl, HL.out⟩
end Go.Proofs.YtdehlnaoehjehaaGreatDoor
namespace Go.Proofs.YtdehlnaoehjehaaGreatDoor
set_option maxRecDepth 100000

set_option maxRecDepth 100000 in
theorem ahd_iff {a b : En} : ahd a b = true ↔ b.r < a.r ∨ (a.r = b.r ∧ a.k < b.k) := by simp [ahd]
set_option maxRecDepth 100000 in
theorem ahd_trans {a b c : En} (h1 : ahd a b = true) (h2 : ahd b c = true) : ahd a c = true := by
  rw [ahd_iff] at *; omega
set_option maxRecDepth 100000 in
theorem ahd_total {a b : En} (h : ahd a b = false) : a = b ∨ ahd b a = true := by
  have : ¬ (b.r < a.r ∨ (a.r = b.r ∧ a.k < b.k)) := fun e => by rw [ahd_iff.2 e] at h; cases h
  by_cases e : a.r = b.r ∧ a.k = b.k
  · left
    obtain ⟨ar, ak⟩ := a
    obtain ⟨br, bk⟩ := b
    simp only at e
    rw [e.1, e.2]
  · right; rw [ahd_iff]; omega
set_option maxRecDepth 100000 in
theorem mem_put {α : Type} {l : List α} {x y : α} {q : Nat} : y ∈ l.take q ++ [x] ++ l.drop q ↔ y = x ∨ y ∈ l := by
  constructor
  · intro h
    rcases List.mem_append.1 h with h | h
    · rcases List.mem_append.1 h with h | h
      · exact Or.inr (List.mem_of_mem_take h)
      · exact Or.inl (List.mem_singleton.1 h)
    · exact Or.inr (List.mem_of_mem_drop h)
  · rintro (rfl | h)
    · simp
    · rw [← List.take_append_drop q l] at h
      rcases List.mem_append.1 h with h | h
      · simp [h]
      · simp [h]
set_option maxRecDepth 100000 in
theorem pair_put {α : Type} {R : α → α → Prop} {l : List α} {x : α} {q : Nat} (h : l.Pairwise R) (h1 : ∀ y ∈ l.take q, R y x) (h2 : ∀ y ∈ l.drop q, R x y) : (l.take q ++ [x] ++ l.drop q).Pairwise R := by
  have hs := h
  rw [← List.take_append_drop q l, List.pairwise_append] at hs
  rw [List.append_assoc, List.pairwise_append]
  refine ⟨hs.1, List.pairwise_cons.2 ⟨h2, hs.2.1⟩, fun a ha b hb => ?_⟩
  rcases List.mem_cons.1 hb with rfl | hb
  · exact h1 a ha
  · exact hs.2.2 a ha b hb
set_option maxRecDepth 100000 in
theorem mem_place {l : List En} {e x : En} : x ∈ place l e ↔ x = e ∨ x ∈ l := mem_put
set_option maxRecDepth 100000 in
theorem posd_spec (l : List En) (e : En) : ∀ k, k ≤ l.length → (∀ j, posd l e k ≤ j → j < k → ahd e (l.getD j ⟨0, 0⟩) = true) ∧ (posd l e k ≠ 0 → ahd e (l.getD (posd l e k - 1) ⟨0, 0⟩) = false)
  | 0, _ => ⟨fun j _ h => absurd h (by omega), fun h => absurd rfl h⟩
  | k + 1, hk => by
    have ih := posd_spec l e k (by omega)
    unfold posd
    split
    · rename_i h
      refine ⟨fun j h1 h2 => ?_, ih.2⟩
      by_cases hj : j = k
      · subst hj; exact h
      · exact ih.1 j h1 (by omega)
    · rename_i h
      exact ⟨fun j h1 h2 => absurd h1 (by omega), fun _ => by simpa using h⟩
set_option maxRecDepth 100000 in
theorem getD_at {α : Type} (l : List α) (j : Nat) (d : α) (h : j < l.length) : l.getD j d = l[j] := by
  rw [List.getD_eq_getElem?_getD, List.getElem?_eq_getElem h]; rfl
set_option maxRecDepth 100000 in
theorem place_ord {l : List En} {e : En} (h : l.Pairwise fun a b => ahd a b = true) (hn : ∀ x ∈ l, x ≠ e) : (place l e).Pairwise fun a b => ahd a b = true := by
  have hs := posd_spec l e l.length (Nat.le_refl _)
  have hle := posd_le l e l.length
  refine pair_put h (fun y hy => ?_) fun y hy => ?_
  · obtain ⟨i, hi, rfl⟩ := List.getElem_of_mem hy
    rw [List.length_take] at hi
    rw [List.getElem_take]
    have hp : posd l e l.length ≠ 0 := by omega
    have hlast := hs.2 hp
    rw [getD_at _ _ _ (by omega)] at hlast
    have hl : ahd l[posd l e l.length - 1] e = true := by
      rcases ahd_total hlast with h1 | h1
      · exact absurd h1.symm (hn _ (List.getElem_mem _))
      · exact h1
    by_cases hie : i = posd l e l.length - 1
    · subst hie; exact hl
    · exact ahd_trans (List.pairwise_iff_getElem.1 h i (posd l e l.length - 1) (by omega) (by omega) (by omega)) hl
  · obtain ⟨i, hi, rfl⟩ := List.getElem_of_mem hy
    rw [List.length_drop] at hi
    rw [List.getElem_drop]
    have := hs.1 (posd l e l.length + i) (by omega) (by omega)
    rwa [getD_at _ _ _ (by omega)] at this
set_option maxRecDepth 100000 in
theorem posr_spec (l : List Ro) (t : Int) : ∀ k, k ≤ l.length → (∀ j (hj : j < l.length), posr l t k ≤ j → j < k → l[j].top < t) ∧ ∀ (h : posr l t k - 1 < l.length), posr l t k ≠ 0 → t ≤ (l[posr l t k - 1]).top
  | 0, _ => ⟨fun j _ _ h => absurd h (by omega), fun _ h => absurd rfl h⟩
  | k + 1, hk => by
    have ih := posr_spec l t k (by omega)
    have e : (l[k]?.map Ro.top).getD 0 = l[k].top := by rw [List.getElem?_eq_getElem (by omega)]; rfl
    by_cases hc : (l[k]?.map Ro.top).getD 0 < t
    · have e1 : posr l t (k + 1) = posr l t k := by show (if _ then _ else _) = _; rw [if_pos hc]
      rw [e1]
      refine ⟨fun j hj h1 h2 => ?_, ih.2⟩
      by_cases hjk : j = k
      · subst hjk; omega
      · exact ih.1 j hj h1 (by omega)
    · have e1 : posr l t (k + 1) = k + 1 := by show (if _ then _ else _) = _; rw [if_neg hc]
      simp only [e1]
      refine ⟨fun j _ h1 h2 => absurd h1 (by omega), fun _ _ => ?_⟩
      simp only [Nat.add_sub_cancel]
      omega
set_option maxRecDepth 100000 in
theorem placeR_sort {l : List Ro} {x : Ro} (h : l.Pairwise fun a b => b.top ≤ a.top) : (placeR l x).Pairwise fun a b => b.top ≤ a.top := by
  have hs := posr_spec l x.top l.length (Nat.le_refl _)
  have hle := posr_le l x.top l.length
  refine pair_put h (fun y hy => ?_) fun y hy => ?_
  · obtain ⟨i, hi, rfl⟩ := List.getElem_of_mem hy
    rw [List.length_take] at hi
    rw [List.getElem_take]
    have hl := hs.2 (by omega) (by omega)
    by_cases hie : i = posr l x.top l.length - 1
    · subst hie; exact hl
    · have := List.pairwise_iff_getElem.1 h i (posr l x.top l.length - 1) (by omega) (by omega) (by omega)
      omega
  · obtain ⟨i, hi, rfl⟩ := List.getElem_of_mem hy
    rw [List.length_drop] at hi
    rw [List.getElem_drop]
    have := hs.1 (posr l x.top l.length + i) (by omega) (by omega) (by omega)
    omega
set_option maxRecDepth 100000 in
theorem mem_placeR {l : List Ro} {x y : Ro} : y ∈ placeR l x ↔ y = x ∨ y ∈ l := mem_put
set_option maxRecDepth 100000 in
theorem placeR_len (l : List Ro) (x : Ro) : (placeR l x).length = l.length + 1 := by
  have := posr_le l x.top l.length
  unfold placeR; simp; omega
set_option maxRecDepth 100000 in
theorem eqR_symm {a b : Nat → Int} : eqR 11 a b = eqR 11 b a := by
  rw [Bool.eq_iff_iff, eqR_iff, eqR_iff]
  exact ⟨fun h k hk => (h k hk).symm, fun h k hk => (h k hk).symm⟩
set_option maxRecDepth 100000 in
theorem eqR_trans {a b c : Nat → Int} (h1 : eqR 11 a b = true) (h2 : eqR 11 b c = true) : eqR 11 a c = true := eqR_iff.2 fun k hk => (eqR_iff.1 h1 k hk).trans (eqR_iff.1 h2 k hk)
set_option maxRecDepth 100000 in
theorem eqR_congr {a b c : Nat → Int} (h1 : eqR 11 a b = true) : eqR 11 a c = eqR 11 b c := by
  rw [Bool.eq_iff_iff]
  exact ⟨fun h => eqR_trans (eqR_symm ▸ h1) h, fun h => eqR_trans h1 h⟩
/-- A rule: its number, its rank, its match. -/
structure Ru where
  k : Int
  r : Int
  m : Nat → Int
def mkk (u : Ru) : Nat → Int := fun k => u.m (11 + k)
/-- The rows stand for the rules. -/
structure Inv (T : List Ru) (ad : Int) (nm : Nat) (Gm : Lit → Option Value) (rs : List Ro) : Prop where
  mem : ∀ ρ ∈ rs, ∀ l e, e ∈ ρ.E l ↔ ∃ u ∈ T, eqR 11 ρ.mask (mkk u) = true ∧ l = kl u.m ∧ e = ⟨u.r, u.k⟩
  has : ∀ u ∈ T, ∃ ρ ∈ rs, eqR 11 ρ.mask (mkk u) = true
  apart : rs.Pairwise fun a b => eqR 11 a.mask b.mask = false
  som : ∀ ρ ∈ rs, ∃ u ∈ T, eqR 11 ρ.mask (mkk u) = true
  sort : rs.Pairwise fun a b => b.top ≤ a.top
  top : ∀ ρ ∈ rs, ∀ l e, e ∈ ρ.E l → e.r ≤ ρ.top
  ord : ∀ ρ ∈ rs, ∀ l, (ρ.E l).Pairwise fun a b => ahd a b = true
  num : T.Pairwise fun a b => a.k < b.k
  bd : ∀ u ∈ T, 1 ≤ u.k ∧ u.k ≤ ad
  ad0 : 0 ≤ ad
  ok : ∀ u ∈ T, mOk u.m = true ∧ Wf u.m
  cnt : nm = T.length
  mat : ∀ k : Int, (∀ u ∈ T, u.k = k → Gm (.int .i64 k) = some (mv u.m)) ∧ ((∀ u ∈ T, u.k ≠ k) → Gm (.int .i64 k) = none)
  len : (rs.length : Int) ≤ ad ∧ ∀ ρ ∈ rs, (ρ.n : Int) ≤ ad ∧ ∀ l, ((ρ.E l).length : Int) ≤ ad
set_option maxRecDepth 100000 in
theorem Inv.nil : Inv [] 0 0 (fun _ => none) [] :=
  ⟨(fun _ h => by cases h), (fun _ h => by cases h), List.Pairwise.nil, (fun _ h => by cases h), List.Pairwise.nil, (fun _ h => by cases h), (fun _ h => by cases h), List.Pairwise.nil, (fun _ h => by cases h), Int.le_refl _, (fun _ h => by cases h), rfl, fun _ => ⟨(fun _ h => by cases h), fun _ => rfl⟩, by simp, (fun _ h => by cases h)⟩
set_option maxRecDepth 100000 in
theorem Inv.wf {T : List Ru} {ad : Int} {nm : Nat} {Gm : Lit → Option Value} {rs : List Ro} (h : Inv T ad nm Gm rs) {u : Ru} (hu : u ∈ T) : Wf u.m := (h.ok u hu).2
open Classical in
set_option maxRecDepth 100000 in
/-- One more rule. -/
theorem Inv.add {T : List Ru} {ad : Int} {nm : Nat} {Gm : Lit → Option Value} {rs rs' : List Ro} {ρ : Ro} {u : Ru} {v : Value} (h : Inv T ad nm Gm rs) (hk : u.k = ad + 1) (hok : mOk u.m = true) (hwf : Wf u.m) (ho : Out rs (mkk u) ρ rs') :
    Inv (T ++ [u]) (ad + 1) (if (Gm (.int .i64 (ad + 1))).isSome then nm else nm + 1) (updL Gm (.int .i64 (ad + 1)) (some (mv u.m))) (placeR rs' (addRo ρ u.m ⟨u.r, ad + 1⟩ v)) := by
  obtain ⟨hm, ho⟩ := ho
  have hmask : eqR 11 ρ.mask (mkk u) = true := eqR_iff.2 hm
  -- what is known of the row that is out, and of the others
  have hsub : ∀ σ ∈ rs', σ ∈ rs := fun σ hσ => by
    rcases ho with ⟨i, hi, h1, h2⟩ | ⟨h1, h2, h3⟩
    · rw [h2] at hσ; exact List.mem_of_mem_eraseIdx hσ
    · rw [h1] at hσ; exact hσ
  have hoth : ∀ σ ∈ rs', eqR 11 σ.mask ρ.mask = false := fun σ hσ => by
    rcases ho with ⟨i, hi, h1, h2⟩ | ⟨h1, h2, h3⟩
    · rw [h2] at hσ
      obtain ⟨j, hj, rfl⟩ := List.getElem_of_mem hσ
      rw [List.length_eraseIdx_of_lt hi] at hj
      rw [List.getElem_eraseIdx]
      have hp := List.pairwise_iff_getElem.1 h.apart
      split
      · rename_i hji
        rw [← h1]
        exact hp j i (by omega) hi hji
      · rename_i hji
        rw [← h1, eqR_symm]
        exact hp i (j + 1) hi (by omega) (by omega)
    · rw [h1] at hσ
      rw [eqR_symm, eqR_congr hmask, eqR_symm]
      exact h2 σ hσ
  have hrs : ∀ σ ∈ rs, σ = ρ ∨ σ ∈ rs' := fun σ hσ => by
    rcases ho with ⟨i, hi, h1, h2⟩ | ⟨h1, h2, h3⟩
    · obtain ⟨j, hj, rfl⟩ := List.getElem_of_mem hσ
      by_cases hji : j = i
      · subst hji; exact Or.inl h1
      · right
        rw [h2, List.mem_eraseIdx_iff_getElem]
        exact ⟨j, hj, hji, rfl⟩
    · rw [h1]; exact Or.inr hσ
  have hρm : ∀ l e, e ∈ ρ.E l ↔ ∃ w ∈ T, eqR 11 ρ.mask (mkk w) = true ∧ l = kl w.m ∧ e = ⟨w.r, w.k⟩ := fun l e => by
    rcases ho with ⟨i, hi, h1, h2⟩ | ⟨h1, h2, h3⟩
    · exact h.mem ρ (h1 ▸ List.getElem_mem hi) l e
    · constructor
      · intro he; rw [h3] at he; cases he
      · rintro ⟨w, hw, h4, -, -⟩
        obtain ⟨σ, hσ, h5⟩ := h.has w hw
        have h6 := h2 σ hσ
        have h7 : eqR 11 σ.mask (mkk u) = true := eqR_trans h5 (eqR_trans (eqR_symm ▸ h4) hmask)
        rw [h7] at h6; cases h6
  have hρt : ∀ l e, e ∈ ρ.E l → e.r ≤ ρ.top := fun l e he => by
    rcases ho with ⟨i, hi, h1, h2⟩ | ⟨h1, h2, h3⟩
    · exact h.top ρ (h1 ▸ List.getElem_mem hi) l e he
    · rw [h3] at he; cases he
  have hρo : ∀ l, (ρ.E l).Pairwise fun a b => ahd a b = true := fun l => by
    rcases ho with ⟨i, hi, h1, h2⟩ | ⟨h1, h2, h3⟩
    · exact h.ord ρ (h1 ▸ List.getElem_mem hi) l
    · rw [h3]; exact List.Pairwise.nil
  have hρl : (ρ.n : Int) ≤ ad ∧ ∀ l, ((ρ.E l).length : Int) ≤ ad := by
    rcases ho with ⟨i, hi, h1, h2⟩ | ⟨h1, h2, h3⟩
    · exact h.len.2 ρ (h1 ▸ List.getElem_mem hi)
    · rw [h3]; exact ⟨h.ad0, fun l => by simpa [emRo] using h.ad0⟩
  have hlen' : ((rs'.length : Nat) : Int) ≤ ad := by
    rcases ho with ⟨i, hi, h1, h2⟩ | ⟨h1, h2, h3⟩
    · rw [h2, List.length_eraseIdx_of_lt hi]; have := h.len.1; omega
    · rw [h1]; exact h.len.1
  have hsort' : rs'.Pairwise fun a b => b.top ≤ a.top := by
    rcases ho with ⟨i, hi, h1, h2⟩ | ⟨h1, h2, h3⟩
    · rw [h2]; exact h.sort.eraseIdx i
    · rw [h1]; exact h.sort
  have hap' : rs'.Pairwise fun a b => eqR 11 a.mask b.mask = false := by
    rcases ho with ⟨i, hi, h1, h2⟩ | ⟨h1, h2, h3⟩
    · rw [h2]; exact h.apart.eraseIdx i
    · rw [h1]; exact h.apart
  have hnew : ∀ w ∈ T, w.k ≠ ad + 1 := fun w hw => by have := (h.bd w hw).2; omega
  have hE : ∀ l, (addRo ρ u.m ⟨u.r, ad + 1⟩ v).E l = if l = kl u.m then place (ρ.E (kl u.m)) ⟨u.r, ad + 1⟩ else ρ.E l := fun l => by
    by_cases hl : l = kl u.m
    · subst hl; rw [if_pos rfl]; exact updE_same _ _ _
    · rw [if_neg hl]; exact updE_other _ _ hl
  have hnone : Gm (.int .i64 (ad + 1)) = none := (h.mat (ad + 1)).2 hnew
  refine ⟨?_, ?_, ?_, ?_, placeR_sort hsort', ?_, ?_, ?_, ?_, by have := h.ad0; omega, ?_, ?_, ?_, ?_⟩
  · intro σ hσ l e
    rcases mem_placeR.1 hσ with rfl | hσ
    · rw [hE]
      show _ ↔ ∃ w ∈ T ++ [u], eqR 11 ρ.mask (mkk w) = true ∧ _
      by_cases hl : l = kl u.m
      · rw [if_pos hl, mem_place, ← hl, hρm]
        constructor
        · rintro (rfl | ⟨w, hw, h1⟩)
          · exact ⟨u, by simp, hmask, hl, by rw [hk]⟩
          · exact ⟨w, by simp [hw], h1⟩
        · rintro ⟨w, hw, h1, h2, h3⟩
          rcases List.mem_append.1 hw with hw | hw
          · exact Or.inr ⟨w, hw, h1, h2, h3⟩
          · rw [List.mem_singleton.1 hw, hk] at h3
            exact Or.inl h3
      · rw [if_neg hl, hρm]
        constructor
        · rintro ⟨w, hw, h1⟩
          exact ⟨w, by simp [hw], h1⟩
        · rintro ⟨w, hw, h1, h2, h3⟩
          rcases List.mem_append.1 hw with hw | hw
          · exact ⟨w, hw, h1, h2, h3⟩
          · rw [List.mem_singleton.1 hw] at h2
            exact absurd h2 hl
    · rw [h.mem σ (hsub σ hσ)]
      constructor
      · rintro ⟨w, hw, h1⟩
        exact ⟨w, by simp [hw], h1⟩
      · rintro ⟨w, hw, h1, h2, h3⟩
        rcases List.mem_append.1 hw with hw | hw
        · exact ⟨w, hw, h1, h2, h3⟩
        · rw [List.mem_singleton.1 hw] at h1
          have h4 := hoth σ hσ
          rw [eqR_trans h1 (eqR_symm ▸ hmask)] at h4; cases h4
  · intro w hw
    rcases List.mem_append.1 hw with hw | hw
    · obtain ⟨σ, hσ, h1⟩ := h.has w hw
      rcases hrs σ hσ with rfl | hσ
      · exact ⟨_, mem_placeR.2 (Or.inl rfl), h1⟩
      · exact ⟨σ, mem_placeR.2 (Or.inr hσ), h1⟩
    · rw [List.mem_singleton.1 hw]
      exact ⟨_, mem_placeR.2 (Or.inl rfl), hmask⟩
  · refine pair_put hap' (fun y hy => hoth y (List.mem_of_mem_take hy)) fun y hy => ?_
    show eqR 11 ρ.mask y.mask = false
    rw [eqR_symm]
    exact hoth y (List.mem_of_mem_drop hy)
  · intro σ hσ
    rcases mem_placeR.1 hσ with rfl | hσ
    · exact ⟨u, by simp, hmask⟩
    · obtain ⟨w, hw, h1⟩ := h.som σ (hsub σ hσ)
      exact ⟨w, by simp [hw], h1⟩
  · intro σ hσ l e he
    rcases mem_placeR.1 hσ with rfl | hσ
    · rw [hE] at he
      show e.r ≤ max ρ.top u.r
      by_cases hl : l = kl u.m
      · rw [if_pos hl, mem_place] at he
        rcases he with rfl | he
        · show u.r ≤ _; omega
        · have := hρt _ e he; omega
      · rw [if_neg hl] at he
        have := hρt _ e he; omega
    · exact h.top σ (hsub σ hσ) l e he
  · intro σ hσ l
    rcases mem_placeR.1 hσ with rfl | hσ
    · rw [hE]
      by_cases hl : l = kl u.m
      · rw [if_pos hl]
        refine place_ord (hρo _) fun x hx e => ?_
        obtain ⟨w, hw, -, -, h3⟩ := (hρm _ _).1 hx
        have h4 : w.k = ad + 1 := by rw [h3] at e; exact (En.mk.inj e).2
        exact hnew w hw h4
      · rw [if_neg hl]; exact hρo l
    · exact h.ord σ (hsub σ hσ) l
  · rw [List.pairwise_append]
    refine ⟨h.num, by simp, fun a ha b hb => ?_⟩
    rw [List.mem_singleton.1 hb, hk]
    have := (h.bd a ha).2; omega
  · intro w hw
    rcases List.mem_append.1 hw with hw | hw
    · have := h.bd w hw; omega
    · rw [List.mem_singleton.1 hw, hk]; have := h.ad0; omega
  · intro w hw
    rcases List.mem_append.1 hw with hw | hw
    · exact h.ok w hw
    · rw [List.mem_singleton.1 hw]; exact ⟨hok, hwf⟩
  · rw [hnone, h.cnt]; simp
  · intro k
    by_cases hkk : k = ad + 1
    · subst hkk
      rw [updL_same]
      refine ⟨fun w hw e => ?_, fun hno => absurd hk (hno u (by simp))⟩
      rcases List.mem_append.1 hw with hw | hw
      · exact absurd e (hnew w hw)
      · rw [List.mem_singleton.1 hw]
    · have hne : (Lit.int .i64 k : Lit) ≠ .int .i64 (ad + 1) := fun e => hkk (by simpa using e)
      rw [updL_other _ _ hne]
      refine ⟨fun w hw e => ?_, fun hno => (h.mat k).2 fun w hw => hno w (by simp [hw])⟩
      rcases List.mem_append.1 hw with hw | hw
      · exact (h.mat k).1 w hw e
      · rw [List.mem_singleton.1 hw, hk] at e
        exact absurd e.symm hkk
  · refine ⟨by rw [placeR_len]; omega, fun σ hσ => ?_⟩
    rcases mem_placeR.1 hσ with rfl | hσ
    · refine ⟨?_, fun l => ?_⟩
      · show ((if (ρ.G (kl u.m)).isSome then ρ.n else ρ.n + 1 : Nat) : Int) ≤ ad + 1
        have := hρl.1
        split <;> omega
      · rw [hE]
        by_cases hl : l = kl u.m
        · rw [if_pos hl, place_len]; have := hρl.2 (kl u.m); omega
        · rw [if_neg hl]; have := hρl.2 l; omega
    · have := h.len.2 σ (hsub σ hσ)
      exact ⟨by omega, fun l => by have := this.2 l; omega⟩
end Go.Proofs.YtdehlnaoehjehaaGreatDoor
