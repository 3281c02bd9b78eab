/-
  Proved here: goRound of package cache: where the hand stops, and what it leaves. Conditions: the hand is at one of the places, all of which are taken; fewer than 2 to 31 places.
-/
import Derived.Test.YtpmdgockiblkaaaCE
import Derived.Deep.LoopGhost
namespace Go.Proofs.Ytpmdgockiblkaaa
open Go.RowKit Go.Maps

/-- The hand on its way. -/
structure Rd (S : Nat → Prop) (w : World) (g : Nat) (c c1 : Cs) (wr : World) : Prop where
  only : Only S w wr
  ca : Ca S wr (pv g) c1
  now : c1.now = c.now
  len : c1.es.length = c.es.length
  hand : c1.hand ≤ c.es.length
  full : ∀ i, i < c.es.length → ∃ e, c1.es[i]? = some (some e)
  eq : rn c.now c1.es (c1.hand % c.es.length) = rn c.now c.es c.hand
/-- Where it ends. -/
noncomputable def rdC (c : Cs) : Cs := { c with es := (rn c.now c.es c.hand).1, hand := ((rn c.now c.es c.hand).2 + 1) % c.es.length }
def RdP (S : Nat → Prop) (w : World) (g : Nat) (c : Cs) (r : Ending) (w' : World) : Prop := r = .returned (.int .i64 ((rn c.now c.es c.hand).2 : Nat)) ∧ Only S w w' ∧ Ca S w' (pv g) (rdC c)
theorem RdP.drew2 {S : Nat → Prop} {w : World} {g : Nat} {c : Cs} {r : Ending} {w' : World} (h : RdP S w g c r w') : RdP S w g c r w'.drew.drew := ⟨h.1, h.2.1.drew.drew, h.2.2.carry fun _b _ hS => ⟨hS, rfl⟩⟩
theorem Rd.fin {S : Nat → Prop} {w : World} {g : Nat} {c c1 : Cs} {wr : World} (h : Rd S w g c c1 wr) (hl : c1.hand < c.es.length) (hs : fr c.now c1.es c1.hand = false) {w' : World} (hb : Below wr.heap.size wr w') (hf : Fresh S w) :
    c1.hand = (rn c.now c.es c.hand).2 ∧ Only S w (w'.setCell ⟨g, 1, none⟩ (.int .i64 (((c1.hand + 1) % c.es.length : Nat) : Int))) ∧ Ca S (w'.setCell ⟨g, 1, none⟩ (.int .i64 (((c1.hand + 1) % c.es.length : Nat) : Int))) (pv g) (rdC c) := by
  have he := h.eq
  rw [Nat.mod_eq_of_lt hl, rn_stop hs] at he
  have hc : Ca S w' (pv g) c1 := h.ca.carry fun b hb' hS => ⟨hS, hb.block b hb'⟩
  obtain ⟨g', bm, n, G, bp, cur, q, hg, hM⟩ := hc
  obtain rfl : g = g' := by simpa using hg
  have hO : Only S wr w' := Only.of hb (hf.on h.only.size)
  refine ⟨by rw [← he], (h.only.trans hO).setCell hM.sg _, g, bm, n, G, bp, cur, q, rfl, hM.setOwn (rdC c) ?_ 1 _ ?_⟩
  · show (rn c.now c.es c.hand).1 = c1.es
    rw [← he]
  · unfold ccs rdC
    rw [← he, h.now]; rfl
/-- A step of the hand, in memory. -/
theorem Rd.go {S : Nat → Prop} {w : World} {g : Nat} {c c1 : Cs} {wr : World} (h : Rd S w g c c1 wr) (hl : c1.hand < c.es.length) (hs : fr c.now c1.es c1.hand = true) (hf : Fresh S w) (bm n : Nat) (G : Lit → Option Value) (bp : Nat) (cur : Array Value) (q : Nat → Nat) (hM : CaM S wr g c1 bm n G bp cur q) {w' : World} (hb : Below wr.heap.size wr w') :
    Rd S w g c { c1 with es := unm c1.es c1.hand, hand := c1.hand + 1 } ((w'.setCell ⟨q c1.hand, 13, none⟩ (.bool false)).setCell ⟨g, 1, none⟩ (.int .i64 ((c1.hand + 1 : Nat) : Int))) := by
  obtain ⟨e, he, hm, hg⟩ := fr_some hs
  have hM' : CaM S w' g c1 bm n G bp cur q := hM.carry fun b hb' hS => ⟨hS, hb.block b hb'⟩
  have h1 := hM'.setEnt he { e with mark := false } rfl 13 (.bool false) (set_mark e false)
  have h2 := h1.setOwn { c1 with es := unm c1.es c1.hand, hand := c1.hand + 1 } (by show unm c1.es c1.hand = _; rw [unm_at he]) 1 (.int .i64 ((c1.hand + 1 : Nat) : Int)) (by unfold ccs; simp [unm_len])
  refine ⟨(((h.only.trans (Only.of hb (hf.on h.only.size))).setCell (hM'.en _ e he).1 _).setCell hM'.sg _), ⟨g, bm, n, G, bp, cur, q, rfl, h2⟩, h.now, by show (unm c1.es c1.hand).length = _; rw [unm_len]; exact h.len, by show c1.hand + 1 ≤ _; omega, fun i hi => ?_, ?_⟩
  · show ∃ e, (unm c1.es c1.hand)[i]? = some (some e)
    rw [unm_at he, List.getElem?_set]
    split
    · rw [if_pos (by rw [h.len]; exact hl)]; exact ⟨_, rfl⟩
    · exact h.full i hi
  · show rn c.now (unm c1.es c1.hand) ((c1.hand + 1) % c.es.length) = _
    rw [← h.eq, Nat.mod_eq_of_lt hl, rn_go hs, h.len]
theorem frz_same {w w' : World} {b o : Nat} (h : w'.heap[b]? = w.heap[b]?) : w'.frozen? ⟨b, o, none⟩ = w.frozen? ⟨b, o, none⟩ := by
  unfold World.frozen?; rw [h]
theorem bel_drew0 {n : Nat} {w w' : World} (h : Below n w.drew.drew w') : Below n w w' := ⟨h.os, h.tape, h.output, h.size, h.block⟩
/-- Behind the last place comes the first. -/
theorem Rd.wrap {S : Nat → Prop} {w : World} {g : Nat} {c c1 : Cs} {wr : World} (h : Rd S w g c c1 wr) (hl : c1.hand = c.es.length) : Rd S w g c { c1 with hand := 0 } (wr.setCell ⟨g, 1, none⟩ (.int .i64 0)).drew := by
  obtain ⟨g', bm, n, G, bp, cur, q, hg, hM⟩ := h.ca
  obtain rfl : g = g' := by simpa using hg
  have h2 := hM.setOwn { c1 with hand := 0 } rfl 1 (.int .i64 0) (by unfold ccs; simp)
  refine ⟨(h.only.setCell hM.sg _).drew, ⟨g, bm, n, G, bp, cur, q, rfl, h2.carry fun b _ hS => ⟨hS, rfl⟩⟩, h.now, h.len, Nat.zero_le _, h.full, ?_⟩
  show rn c.now c1.es (0 % c.es.length) = _
  rw [← h.eq, hl, Nat.mod_self, Nat.zero_mod]
theorem fr_at {now : Int} {es : List (Option Et)} {k : Nat} {e : Et} (he : es[k]? = some (some e)) : fr now es k = (e.mark && decide (e.gen = now)) := by simp [fr, he]
set_option maxHeartbeats 3200000 in
set_option maxRecDepth 100000 in
theorem goRound_any {S : Nat → Prop} (w : World) (g : Nat) (c : Cs) (h : Ca S w (pv g) c) (hf : Fresh S w) (hn : c.es.length < 2147483640) (hh : c.hand < c.es.length) (hfull : ∀ i, i < c.es.length → ∃ e, c.es[i]? = some (some e)) :
    Calls Try.prog 25 #[pv g] w (RdP S w g c) := by
  have h0 : Rd S w g c c w := ⟨Only.refl _ _, h, rfl, rfl, Nat.le_of_lt hh, hfull, by rw [Nat.mod_eq_of_lt hh]⟩
  have H0 := hid h0
  have HF := hid hf
  obtain ⟨L, hL⟩ : ∃ z, z = c.es.length := ⟨_, rfl⟩
  have HL := hid hL
  have hnL : L < 2147483640 := by rw [hL]; exact hn
  have hhL : c.hand < L := by rw [hL]; exact hh
  have HH := hid hhL
  clear h h0 hf hfull hL hn hh hhL
  go_enter Try.func25, Try.ntmps25
  go_wp2
  go_step3
  go_wp2
  go_step3
  go_wp2
  go_loopg [] (marks c.es) (fun k wr => ∃ c1, Rd S w g c c1 wr ∧ c1.hand < L ∧ k = marks c1.es)
  case atStart => exact ⟨c, H0.out, HH.out, rfl⟩
  case round =>
    obtain ⟨c0, hR0, hh0, hk0⟩ := hrel
    have HR0 := hid hR0
    have HH0 := hid (And.intro hh0 hk0)
    clear hR0 hh0 hk0
    generalize wr = wx at *
    generalize gk = gm at *
    go_wp2
    go_loopg [] (L - c0.hand) (fun k wr => ∃ c1, Rd S w g c c1 wr ∧ k = L - c1.hand ∧ (marks c1.es < gm ∨ (c1.hand < L ∧ marks c1.es = gm)))
    case atStart => exact ⟨c0, HR0.out, rfl, Or.inr ⟨HH0.out.1, HH0.out.2.symm⟩⟩
    case round =>
      obtain ⟨c1, hR, hk1, hm1⟩ := hrel
      obtain ⟨g', bm, n, G, bp, cur, q, hg', hM⟩ := hR.ca
      obtain rfl : g = g' := by simpa using hg'
      obtain ⟨-, y1, -, y3⟩ := hM.cells
      rw [hR.len, ← HL.out] at y3
      obtain ⟨k, hk⟩ : ∃ z, z = c1.hand := ⟨_, rfl⟩
      rw [← hk] at y1
      have hz1 := (hM.frz 1).1
      clear hg'
      generalize wr = wy at *
      by_cases hlt : k < L
      · have hd : decide ((k : Int) < (L : Int)) = true := decide_eq_true (by omega)
        obtain ⟨e, he⟩ := hR.full k (by rw [← HL.out]; exact hlt)
        obtain ⟨p, hp⟩ : ∃ z, z = q k := ⟨_, rfl⟩
        obtain ⟨em, hem⟩ : ∃ z, z = e.mark := ⟨_, rfl⟩
        obtain ⟨eg, heg⟩ : ∃ z, z = e.gen := ⟨_, rfl⟩
        have hpl : wy.cell? ⟨bp, k, none⟩ = some (pv p) := by rw [hp]; exact hM.place he
        obtain ⟨-, eg1, em1, -⟩ := hM.ent he
        rw [← hp, ← heg] at eg1
        rw [← hp, ← hem] at em1
        have hpg : p ≠ g := by rw [hp]; exact (hM.apart.2.2.2.1 k e he).1
        have hgp : g ≠ p := hpg.symm
        have hfz : wy.frozen? ⟨p, 13, none⟩ = false := by rw [hp]; exact (hM.frz 13).2.2 k e he
        have hpl' : p < wy.heap.size := cell_lt em1
        have hgl : g < wy.heap.size := cell_lt y1
        have hz13 := hM.cells.1
        rw [hR.now] at hz13
        obtain ⟨b, hb⟩ : ∃ b, b = (eg != c.now) := ⟨_, rfl⟩
        have HC : Hid (Calls Try.prog 20 #[pv g, pv p] wy.drew.drew fun r w' => r = .returned (.bool b) ∧ Below wy.heap.size wy w') := (old_any wy.drew.drew g p c.now eg hz13 eg1).mono fun r w' ⟨h1, h2⟩ => ⟨by rw [hb]; exact h1, bel_drew0 h2⟩
        have HFr : Hid (fr c.now c1.es c1.hand = (em && !b)) := by
          show _ = _
          rw [← hk, fr_at he, ← hem, ← heg, hb]
          by_cases e1 : eg = c.now <;> simp [e1, bne]
        have hw1 : IntKind.i64.wrap ((k : Int) + 1) = (k : Int) + 1 := by rw [IntKind.wrap_i64]; omega
        have hrm : IntKind.i64.wrap (((k : Int) + 1).tmod (L : Int)) = (((k + 1) % L : Nat) : Int) := by
          have h1 : ((k : Int) + 1).tmod (L : Int) = (((k + 1) % L : Nat) : Int) := by
            rw [show ((k : Int) + 1) = ((k + 1 : Nat) : Int) by omega]; rfl
          rw [h1, IntKind.wrap_i64]
          have : (k + 1) % L < L := Nat.mod_lt _ (by omega)
          omega
        have HCm : Hid ((((k + 1) % L : Nat) : Int) = ((k : Int) + 1) % (L : Int)) := by show _ = _; rw [Int.natCast_emod]; rfl
        have HFin : Hid (fr c.now c1.es c1.hand = false → ∀ w', Below wy.heap.size wy w' → RdP S w g c (.returned (.int .i64 (k : Nat))) (w'.setCell ⟨g, 1, none⟩ (.int .i64 (((k + 1) % L : Nat) : Int)))) := fun hs w' hb => by
          obtain ⟨h1, h2, h3⟩ := hR.fin (by rw [← hk, ← HL.out]; exact hlt) hs hb HF.out
          rw [← hk, ← HL.out] at h2 h3
          exact ⟨by rw [hk, h1], h2, h3⟩
        have HGo : Hid (fr c.now c1.es c1.hand = true → ∀ w', Below wy.heap.size wy w' → Rd S w g c { c1 with es := unm c1.es c1.hand, hand := c1.hand + 1 } ((w'.setCell ⟨p, 13, none⟩ (.bool false)).setCell ⟨g, 1, none⟩ (.int .i64 ((k + 1 : Nat) : Int)))) := fun hs w' hb => by
          have := hR.go (by rw [← hk, ← HL.out]; exact hlt) hs HF.out bm n G bp cur q hM hb
          rw [← hk, ← hp] at this
          rw [← hk]
          exact this
        have HK5 : Hid (∀ w5, Below wy.heap.size wy w5 → w5.cell? ⟨p, 13, none⟩ = some (.bool em) ∧ w5.frozen? ⟨p, 13, none⟩ = false ∧ w5.cell? ⟨g, 1, none⟩ = some (.int .i64 (k : Int)) ∧ w5.frozen? ⟨g, 1, none⟩ = false ∧ w5.cell? ⟨g, 3, none⟩ = some (.slice (some ⟨bp, 0, none⟩) L L)) := fun w5 hb5 => ⟨(cell_same (hb5.block _ hpl')).trans em1, (frz_same (hb5.block _ hpl')).trans hfz, (cell_same (hb5.block _ hgl)).trans y1, (frz_same (hb5.block _ hgl)).trans hz1, (cell_same (hb5.block _ hgl)).trans y3⟩
        have HKk := hid (And.intro hk (And.intro hk1 hm1))
        have HMk : Hid (fr c.now c1.es c1.hand = true → marks c1.es = marks (unm c1.es c1.hand) + 1) := fun hs => marks_unm hs
        clear hR hM he hp hem heg eg1 hfz hpl' hgl hz13 hb hk hk1 hm1
        cases em with
        | false =>
          clear HC HGo
          go_wp2
          go_region
          go_wp2
          go_region
          go_wp2
          rw [Exit.noGoto_ret]
          go_ret
          exact RdP.drew2 (HCm.out ▸ HFin.out HFr.out wy (Below.refl _ _))
        | true =>
          cases b with
          | true =>
            go_wp2
            go_region
            go_wp2
            go_region
            go_wp2_with (go_at_call 20; refine (HC.out).mono ?_; rintro r w5 ⟨rfl, hb5⟩; obtain ⟨z1, z2, z3, z4, z5⟩ := HK5.out w5 hb5; have HB5 := hid hb5; clear hb5 HC HK5)
            rw [Exit.noGoto_ret]
            go_ret
            exact HCm.out ▸ HFin.out HFr.out w5 HB5.out
          | false =>
            go_wp2
            go_region
            go_wp2
            go_region
            go_wp2_with (go_at_call 20; refine (HC.out).mono ?_; rintro r w5 ⟨rfl, hb5⟩; obtain ⟨z1, z2, z3, z4, z5⟩ := HK5.out w5 hb5; have HB5 := hid hb5; clear hb5 HC HK5)
            go_roundg (L - (c1.hand + 1))
            case measure =>
              have h1 := HKk.out.2.1
              have h2 := HKk.out.1
              omega
            case rel =>
              refine ⟨_, by have := HGo.out HFr.out w5 HB5.out; rw [Int.natCast_add] at this; exact this, rfl, ?_⟩
              have h1 := HMk.out HFr.out
              rcases HKk.out.2.2 with h2 | ⟨_, h2⟩
              · exact Or.inl (by show marks (unm c1.es c1.hand) < _; omega)
              · exact Or.inl (by show marks (unm c1.es c1.hand) < _; omega)
      · have hd : decide ((k : Int) < (L : Int)) = false := decide_eq_false (by omega)
        have HR := hid hR
        have HM := hid hM
        have HK := hid hk
        have HK1 := hid hk1
        have HM1 := hid hm1
        clear hR hM hk hk1 hm1
        have HHm : Hid (c1.hand = c.es.length ∧ 0 < L) := by
          have := HR.out.hand
          have := HH.out
          rw [← HL.out] at *
          exact ⟨by have := HK.out; omega, by omega⟩
        go_wp2
        go_region
        go_wp2
        go_roundg (marks c1.es)
        case measure =>
          have h1 := HM1.out
          have h2 := HHm.out
          rw [← HL.out] at h2
          omega
        case rel => exact ⟨{ c1 with hand := 0 }, HR.out.wrap HHm.out.1, HHm.out.2, rfl⟩
end Go.Proofs.Ytpmdgockiblkaaa
