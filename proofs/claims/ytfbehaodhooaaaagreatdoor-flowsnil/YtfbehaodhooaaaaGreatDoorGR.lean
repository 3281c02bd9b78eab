/-
  Proved here: row.greatest gives a rank that no first entry of the row's lists is above. No condition.
-/
import Derived.Test.YtfbehaodhooaaaaGreatDoorRA
namespace Go.Proofs.YtfbehaodhooaaaaGreatDoor
set_option maxRecDepth 100000
open Go.RowKit Go.Maps

/-- What a round of greatest keeps. -/
structure Gt (w : World) (ρ : Ro) (D : DataW Value) (t : Int) (left : Lit → Bool) (cnt : Nat) (wr : World) : Prop where
  rg : wr.ranges Tryz.prog 30 tok ρ.bc w.heap.size ρ.n D left cnt
  low : Below w.heap.size w wr
  sub : ∀ l, left l = true → Maps.has D l = true
  top : ∀ l e es, ρ.E l = e :: es → left l = false → e.r ≤ t
def GrE (w : World) (ρ : Ro) (r : Ending) (w' : World) : Prop := ∃ t, r = .returned (.int .i64 t) ∧ Below w.heap.size w w' ∧ ∀ l e es, ρ.E l = e :: es → e.r ≤ t
theorem Gt.next {S : Nat → Prop} {o : Nat → Tag} {w : World} {ρ : Ro} {D : DataW Value} {t : Int} {left : Lit → Bool} {cnt : Nat} {wr : World} (h : Gt w ρ D t left cnt wr) (hρ : RowM S o w ρ)
    (hD : ∀ l, (ρ.G l = none → Maps.has D l = false) ∧ ∀ v, ρ.G l = some v → Maps.has D l = true ∧ ∀ z, D.atKey l z = .held v)
    {c : Value} {kl' : Lit} {y : DataW Value × List MemPlace} {w1 : World} {cnt1 : Nat} (hlk : left kl' = true) (hv : tok c = some y) (hat : ∀ zd, D.atKey kl' zd = y.1) (hrg : w1.ranges Tryz.prog 30 tok ρ.bc w.heap.size ρ.n D (fun z => left z && !z.sameKey kl') cnt1) (hg : wr.grownBy w1 (some w.heap.size)) (hs : w1.heap.size = wr.heap.size) :
    ∃ (g o' cap n : Nat) (er : Int), c = .slice (some ⟨g, o', none⟩) (n + 1) cap ∧ w1.cell? ⟨g, o', none⟩ = some (.int .i64 er) ∧ ∀ t', t ≤ t' → er ≤ t' → Gt w ρ D t' (fun z => left z && !z.sameKey kl') cnt1 w1 := by
  have hb1 : Below w.heap.size w w1 := ⟨hg.os.trans h.low.os, hg.tape.trans h.low.tape, hg.output.trans h.low.output, by rw [hs]; exact h.low.size, fun k hk => (hg.block k (Nat.lt_of_lt_of_le hk h.low.size) (by simp; omega)).trans (h.low.block k hk)⟩
  have hhas := h.sub _ hlk
  rcases hρ.hit kl' with ⟨h1, _⟩ | ⟨v, h1, h2, h3⟩
  · rw [(hD kl').1 h1] at hhas; cases hhas
  have hc : c = v := by
    have e := ((hD kl').2 v h1).2 (.held c)
    rw [hat] at e
    simp only [tok, Option.some.injEq] at hv
    rw [← hv] at e
    simpa using e
  subst hc
  obtain ⟨e0, es0, he0⟩ := List.exists_cons_of_ne_nil h2
  rcases h3 with ⟨hx, ⟨_, hz⟩ | ⟨g, o', cap, cur, rfl, hb, hb2, hb3, hb4, hb5⟩⟩
  · rw [he0] at hz; simp at hz
  have hgl := (Array.getElem?_eq_some_iff.1 hb2).1
  refine ⟨g, o', cap, es0.length, e0.r, by rw [he0]; rfl, ?_, fun t' h4 h5 => ⟨hrg, hb1, fun l hl => h.sub l (by simp at hl; exact hl.1), fun l e es hE hl => ?_⟩⟩
  · rw [cell_of_row _ _ _ _ _ _ ((hb1.block g hgl).trans hb2)]
    have := cells_at hb5 (j := 0) (by rw [he0]; simp)
    rw [he0] at this
    exact this
  · cases hll : left l with
    | false => exact Int.le_trans (h.top l e es hE hll) h4
    | true =>
      rw [hll] at hl
      simp at hl
      have hlk' : l = kl' := WideAt.sameKey_eq hl
      subst hlk'
      rw [he0] at hE
      cases hE
      exact h5
set_option maxHeartbeats 1600000 in
set_option maxRecDepth 100000 in
theorem greatest_any {S : Nat → Prop} {o : Nat → Tag} (w : World) (ρ : Ro) (hρ : RowM S o w ρ) : Calls Tryz.prog 107 #[pv ρ.p] w (GrE w ρ) := by
  obtain ⟨D, hown, hsz, hD⟩ := hρ.mp
  obtain ⟨-, q12, -, -⟩ := hρ.cells
  have HRo := hid hρ
  have HD := hid hD
  have HO := hid hown
  clear hρ hown hD hsz
  go_enter Tryz.func107, Tryz.ntmps107
  go_upto_region 3 with (at_range; refine wpList_range_own _ rfl _ 134 rfl 30 149 lawH Tryz.underlying134 tok ρ.bc ρ.n D rfl HO.out ?_; intro w0 hrg0 hg0 hs0
                         have HG0 : Hid (Gt w ρ D (-9223372036854775808) (Maps.has D) (Maps.size D) w0) := ⟨hrg0, ⟨hg0.os, hg0.tape, hg0.output, hg0.size, fun k hk => hg0.block k hk (by simp)⟩, fun l h => h, fun l e es hE hl => by
                           rcases HRo.out.hit l with ⟨_, h2⟩ | ⟨v, h1, _⟩
                           · rw [h2] at hE; cases hE
                           · rw [((HD.out l).2 v h1).1] at hl; cases hl⟩
                         clear hrg0 hg0 hs0)
  go_frame
  go_loopw [3] (fun v wr => ∃ t left cnt, v = .int .i64 t ∧ Gt w ρ D t left cnt wr) (fun _ wr => wr.rangeLeft ρ.bc w.heap.size)
  case atStart => exact ⟨_, _, _, rfl, HG0.out⟩
  case round =>
    obtain ⟨t, left, cnt, rfl, hG⟩ := hrel
    generalize wr = wx at *
    have HG := hid hG
    have HRg := hid hG.rg
    clear hG HG0
    go_wp2_with (at_next; refine wpList_next_ranges _ rfl _ rfl 30 lawH tok (fun x : Value => x) (fun x : Value => x) (fun key _ _ => ⟨key, rfl⟩) (fun v _ _ => ⟨v, rfl⟩) ρ.bc w.heap.size ρ.n D left cnt rfl HRg.out ?_ ?_
                 all_goals (first
                   | (intro x c kl' y w1 cnt1 hkey hlk hv hat hrg1 hlt hg1 hs1 hen
                      obtain ⟨g, o', cap, n, er, rfl, hce, hN⟩ := HG.out.next HRo.out HD.out hlk hv hat hrg1 hg1 hs1
                      have HN := hid (And.intro hN hlt)
                      clear hkey hlk hv hat hrg1 hlt hg1 hs1 hN)
                   | (intro hc0 hl0
                      have HL0 := hid hl0
                      clear hc0 hl0)))
    · go_ret
      exact ⟨t, rfl, HG.out.low, fun l e es hE => HG.out.top l e es hE (HL0.out l)⟩
    · obtain ⟨hN, hlt⟩ := HN.out
      have hX : Gt w ρ D (if t < er then er else t) (fun z => left z && !z.sameKey kl') cnt1 w1 := by
        refine hN _ ?_ ?_
        · split <;> omega
        · split <;> omega
      refine ⟨⟨_, _, _, rfl, hX⟩, ?_⟩
      rw [hX.rg.left_eq, HRg.out.left_eq]
      exact hlt
end Go.Proofs.YtfbehaodhooaaaaGreatDoor
