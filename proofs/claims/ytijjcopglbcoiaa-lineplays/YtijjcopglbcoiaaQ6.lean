/-
  Proved here: Take of package line answers and makes what 'taE', 'taS' say. Conditions: all blocks to come are the end's; its numbers are below 2 to 31.
-/
import Derived.Test.YtijjcopglbcoiaaQ5
import Derived.Test.YtijjcopglbcoiaaS5
import Derived.Test.YtijjcopglbcoiaaEX
namespace Go.Proofs.Ytijjcopglbcoiaa
open Go.RowKit Seal

/-- What was read in Take, ahead of take. -/
theorem take_sets {S : Nat → Prop} {w w1 w2 w3 : World} {v vl : Value} {e : E} {l : List (List Int)} (h : QE S w v e) (hf : Fresh S w) (hb1 : Below w.heap.size w w1) (hb2 : Below w1.heap.size w1 w2) (hb3 : Below w2.heap.size w2 w3) (hl : Sp (fun k => w1.heap.size ≤ k) (fun k => w.heap.size ≤ k ∧ k < w1.heap.size) w2 vl l) (hll : l.length ≤ 32) :
    Below w.heap.size w w3 ∧ ∃ S2 T : Nat → Prop, (∀ k, S2 k → S k) ∧ QE S2 w3 v e ∧ Fresh S2 w3 ∧ Ls T w3 vl l ∧ ∀ k, T k → ¬ S2 k := by
  have hb12 : Below w.heap.size w w2 := hb1.trans (hb2.mono hb1.size)
  have hb : Below w.heap.size w w3 := hb12.trans (hb3.mono hb12.size)
  refine ⟨hb, fun k => S k ∧ (k < w.heap.size ∨ w3.heap.size ≤ k), fun k => w.heap.size ≤ k ∧ k < w3.heap.size, fun k hk => hk.1, h.carry fun k hk hS => ⟨⟨hS, Or.inl hk⟩, hb.block k hk⟩, fun k hk => ⟨hf k (Nat.le_trans hb.size hk), Or.inr hk⟩, ?_, fun k hk hS => by omega⟩
  have hls : Ls (fun k => w.heap.size ≤ k) w2 vl l := hl.ls (by omega) (fun k hk => Nat.le_trans hb1.size hk) (fun k hk => hk.1)
  exact hls.carry fun k hk h1 => ⟨⟨h1, Nat.lt_of_lt_of_le hk hb3.size⟩, hb3.block k hk⟩

set_option maxRecDepth 100000 in
set_option maxHeartbeats 3200000 in
theorem qtake_any (S : Nat → Prop) (v : Value) (e : E) (B : Nat) (u : Value) (bs : List Int) (w : World) (h : QE S w v e) (hf : Fresh S w) (hs : Sl B w u bs) (hB : B ≤ w.heap.size) (hfit : Fit e) :
    Calls Try.prog 19 #[v, u] w fun r w' => r = .returned (.int .i64 (taE bs)) ∧ Only S w w' ∧ QE S w' v (taS e bs) := by
  have hlen := hs.len
  have hI := hs.isB
  have HO : Hid (Calls Try.prog 33 #[u] w fun e w' => ∃ v', e = .returned (.tuple #[v', .int .i64 (opE bs)]) ∧ Below w.heap.size w w' ∧ Owns w.heap.size w' v' (opL bs)) := open_any B u bs w hs hB
  have HR : Hid (QE S w v e) := h
  have hdl : (opL bs).length ≤ 140737488355328 := by
    have : (opL bs).length ≤ bs.length := by
      unfold opL; split
      · rw [List.length_take]; omega
      · simp
    omega
  have hdI : IsB (opL bs) := by
    unfold opL; split
    · exact hI.take _
    · exact IsB.nil
  obtain ⟨ao, cap, rfl, -⟩ := hs
  obtain ⟨g0, _, _, _, hv, -⟩ := h
  subst hv
  obtain ⟨d, hd⟩ : ∃ d, d = opL bs := ⟨_, rfl⟩
  rw [← hd] at HO hdl hdI
  have HD : Hid (d = opL bs) := hd
  clear hd hI
  by_cases h1 : opE bs = 0
  · rw [h1] at HO
    have HO' : Hid (Calls Try.prog 33 #[.slice ao bs.length cap] w fun e w' => ∃ a1 c1, e = .returned (.tuple #[.slice a1 d.length c1, .int .i64 0]) ∧ Below w.heap.size w w' ∧ SlC (fun k => w.heap.size ≤ k ∧ k < w'.heap.size) w' (.slice a1 d.length c1) d) := by
      refine HO.out.mono ?_
      rintro r w' ⟨v', rfl, hb, ho⟩
      have hsl : SlC (fun k => w.heap.size ≤ k ∧ k < w'.heap.size) w' v' d := SlC.own ho hdl hdI fun k h1 h2 => ⟨h1, h2⟩
      obtain ⟨a1, c1, e1, _⟩ := id hsl
      subst e1
      exact ⟨a1, c1, rfl, hb, hsl⟩
    have hT : taE bs = if d.length < 14 then 51 else if spl d = none then 70 else 0 := by unfold taE; rw [if_pos h1, HD.out]
    have hTS : taE bs = 0 → taS e bs = hear e (fld d 0 4).toNat (fld d 4 4).toNat (fld d 8 4).toNat ((spl d).getD []) := fun h0 => by unfold taS; rw [if_pos h0, HD.out]
    have hTN : taE bs ≠ 0 → taS e bs = e := fun h0 => by unfold taS; rw [if_neg h0]
    clear HO h1 hlen HD
    by_cases h14 : d.length < 14
    · have e1 : taE bs = 51 := by rw [hT, if_pos h14]
      have HE : Hid (taE bs = 51 ∧ taS e bs = e) := ⟨e1, hTN (by rw [e1]; decide)⟩
      clear hT hTS hTN e1
      go_enter Try.func19, Try.ntmps19
      go_wp2_with (first
        | (go_at_call 34; refine (read_short w1.heap.size _ d w1 hs1.sl h14).mono ?_; rintro r w2 ⟨rfl, hb2⟩)
        | (go_at_call 33; refine (HO'.out).mono ?_; rintro r w1 ⟨a1, c1, rfl, hb1, hs1⟩))
      go_ret
      have hb12 : Below w.heap.size w w2 := hb1.trans (hb2.mono hb1.size)
      have hb : Below w.heap.size w (w2.alloc (.cells z62 62)) := hb12.trans (((Below.refl _ _).alloc (Nat.le_refl _) _).mono hb12.size)
      exact ⟨by rw [HE.out.1]; rfl, Only.of hb hf, by rw [HE.out.2]; exact HR.out.carry fun k hk hS => ⟨hS, hb.block k hk⟩⟩
    · obtain ⟨p, hp, hp32⟩ := fld_nat hdI 0
      obtain ⟨c, hc, hc32⟩ := fld_nat hdI 4
      obtain ⟨q, hq, hq32⟩ := fld_nat hdI 8
      have HRd : Hid (∀ (w1 : World) (v1 : Value), SlC (fun k => w.heap.size ≤ k ∧ k < w1.heap.size) w1 v1 d → Calls Try.prog 34 #[v1] w1 fun e w' => Below w1.heap.size w1 w' ∧ ((spl d = none ∧ e = .returned (.tuple #[.agg z62, .int .i64 70])) ∨ ∃ l vl, spl d = some l ∧ l.length ≤ 32 ∧ e = .returned (.tuple #[.agg (dgc p c q vl), .int .i64 0]) ∧ Sp (fun k => w1.heap.size ≤ k) (fun k => w.heap.size ≤ k ∧ k < w1.heap.size) w' vl l)) := fun w1 v1 hs1 => read_long v1 d w1 hs1 (fun k hk => hk.2) (by omega) p c q hp hc hq
      rw [if_neg h14] at hT
      rw [hp, hc, hq] at hTS
      simp only [Int.toNat_natCast] at hTS
      cases hspl : spl d with
      | none =>
        have e1 : taE bs = 70 := by rw [hT, hspl]; rfl
        have HE : Hid (taE bs = 70 ∧ taS e bs = e) := ⟨e1, hTN (by rw [e1]; decide)⟩
        have HRd' : Hid (∀ (w1 : World) (v1 : Value), SlC (fun k => w.heap.size ≤ k ∧ k < w1.heap.size) w1 v1 d → Calls Try.prog 34 #[v1] w1 fun e w' => e = .returned (.tuple #[.agg z62, .int .i64 70]) ∧ Below w1.heap.size w1 w') := fun w1 v1 hs1 => by
          refine (HRd.out w1 v1 hs1).mono ?_
          rintro r w' ⟨hb, ⟨_, rfl⟩ | ⟨_, _, h9, _⟩⟩
          · exact ⟨rfl, hb⟩
          · rw [hspl] at h9; cases h9
        clear hT hTS hTN e1 hspl HRd hp hc hq
        go_enter Try.func19, Try.ntmps19
        go_wp2_with (first
          | (go_at_call 34; refine (HRd'.out w1 _ hs1).mono ?_; rintro r w2 ⟨rfl, hb2⟩)
          | (go_at_call 33; refine (HO'.out).mono ?_; rintro r w1 ⟨a1, c1, rfl, hb1, hs1⟩))
        go_ret
        have hb12 : Below w.heap.size w w2 := hb1.trans (hb2.mono hb1.size)
        have hb : Below w.heap.size w (w2.alloc (.cells z62 62)) := hb12.trans (((Below.refl _ _).alloc (Nat.le_refl _) _).mono hb12.size)
        exact ⟨by rw [HE.out.1]; rfl, Only.of hb hf, by rw [HE.out.2]; exact HR.out.carry fun k hk hS => ⟨hS, hb.block k hk⟩⟩
      | some l =>
        have e1 : taE bs = 0 := by rw [hT, hspl]; simp
        have HE : Hid (taE bs = 0 ∧ taS e bs = hear e p c q l) := ⟨e1, by rw [hTS e1, hspl]; rfl⟩
        have HRd' : Hid (∀ (w1 : World) (v1 : Value), SlC (fun k => w.heap.size ≤ k ∧ k < w1.heap.size) w1 v1 d → Calls Try.prog 34 #[v1] w1 fun e w' => ∃ la lc, e = .returned (.tuple #[.agg (dgc p c q (.slice la l.length lc)), .int .i64 0]) ∧ l.length ≤ 32 ∧ Below w1.heap.size w1 w' ∧ Sp (fun k => w1.heap.size ≤ k) (fun k => w.heap.size ≤ k ∧ k < w1.heap.size) w' (.slice la l.length lc) l) := fun w1 v1 hs1 => by
          refine (HRd.out w1 v1 hs1).mono ?_
          rintro r w' ⟨hb, ⟨h9, _⟩ | ⟨l', vl, h9, h32, rfl, hsp⟩⟩
          · rw [hspl] at h9; cases h9
          · rw [hspl] at h9; cases h9
            obtain ⟨la, lc, rfl, -⟩ := hsp.form
            exact ⟨la, lc, rfl, h32, hb, hsp⟩
        clear hT hTS hTN e1 hspl HRd hp hc hq
        go_enter Try.func19, Try.ntmps19
        go_upto_region 9 with (first
          | (go_at_call 34; refine (HRd'.out w1 _ hs1).mono ?_; rintro r w2 ⟨la, lc, rfl, h32, hb2, hsp2⟩)
          | (go_at_call 33; refine (HO'.out).mono ?_; rintro r w1 ⟨a1, c1, rfl, hb1, hs1⟩))
        obtain ⟨hbb, S2, T, k1, k2, k3, k4, k5⟩ := take_sets (w3 := w2.alloc (.cells (dgc p c q (.slice la l.length lc)) 62)) HR.out hf hb1 hb2 ((Below.refl _ _).alloc (Nat.le_refl _) _) hsp2 h32
        have HTk : Hid (Calls Try.prog 35 #[.pointer (some ⟨g0, 0, none⟩), .agg (dgc p c q (.slice la l.length lc))] (w2.alloc (.cells (dgc p c q (.slice la l.length lc)) 62)) fun r w' => r = .returned (.tuple #[]) ∧ Only S2 (w2.alloc (.cells (dgc p c q (.slice la l.length lc)) 62)) w' ∧ QE S2 w' (.pointer (some ⟨g0, 0, none⟩)) (hear e p c q l)) := take_any S2 T _ _ e p c q l _ k2 k3 hfit hc32 hq32 h32 k4 k5
        have HBB : Hid (Below w.heap.size w (w2.alloc (.cells (dgc p c q (.slice la l.length lc)) 62))) := hbb
        clear k2 k3 k4 k5 hbb hsp2 hb2 hs1 hb1
        go_wp2_with (go_at_call 35; refine (HTk.out).mono ?_; rintro r w4 ⟨rfl, ho4, h4⟩)
        go_ret
        exact ⟨by rw [HE.out.1]; rfl, (Only.of HBB.out hf).trans (ho4.mono k1), by rw [HE.out.2]; exact h4.carry fun k _ hk => ⟨k1 k hk, rfl⟩⟩
  · have HE : Hid (taE bs = opE bs ∧ taS e bs = e) := by
      have e1 : taE bs = opE bs := by unfold taE; rw [if_neg h1]
      exact ⟨e1, by unfold taS; rw [e1, if_neg h1]⟩
    obtain ⟨x, hx⟩ : ∃ x, x = opE bs := ⟨_, rfl⟩
    rw [← hx] at HO HE h1
    have hne : (x != 0) = true := by simp [h1]
    clear hx h1
    go_enter Try.func19, Try.ntmps19
    go_wp2_with (go_at_call 33; refine (HO.out).mono ?_; rintro r w1 ⟨v1, rfl, hb1, hO1⟩)
    go_ret
    exact ⟨by rw [HE.out.1]; rfl, Only.of hb1 hf, by rw [HE.out.2]; exact HR.out.carry fun k hk hS => ⟨hS, hb1.block k hk⟩⟩
end Go.Proofs.Ytijjcopglbcoiaa
