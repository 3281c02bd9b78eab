/-
  Proved here: a list of terms under way (TlS); termsOf of package policy. Condition: the policy lies in old memory.
-/
import Derived.Test.YtjallmncajhamaaDoorT7
namespace Go.Proofs.YtjallmncajhamaaDoor
open Go.RowKit
set_option maxRecDepth 100000

/-- A list of terms under way, in new memory; what its terms have lies in S0, beside it. -/
structure TlS (S0 : Nat → Prop) (w : World) (ts : List Ti) (v : Value) (wr : World) : Prop where
  low : Below w.heap.size w wr
  ks : ∃ xs, Rw (fun b => w.heap.size ≤ b) 4 26 wr v ts.length xs ∧ TiL (fun b => (S0 b ∧ v.ownBlock ≠ some b) ∧ b < wr.heap.size) wr ts xs
theorem TlS.nil (S0 : Nat → Prop) {w wr : World} (h : Below w.heap.size w wr) : TlS S0 w [] nilS wr := ⟨h, [], Rw.nil _ _ _ _, by rw [TiL]⟩
theorem TlS.on {S0 : Nat → Prop} {w : World} {ts : List Ti} {v : Value} {wr w' : World} (h : TlS S0 w ts v wr) (hb : Below wr.heap.size wr w') : TlS S0 w ts v w' := by
  obtain ⟨xs, g1, g2⟩ := h.ks
  have hz := h.low.size
  have hz2 := hb.size
  exact ⟨h.low.trans (hb.mono hz), xs, g1.carry fun b hl hS => ⟨hS, hb.block b hl⟩, TiL.carry (fun b hl hS => ⟨⟨hS.1, by omega⟩, hb.block b hl⟩) _ _ g2⟩
theorem TlS.form {S0 : Nat → Prop} {w : World} {ts : List Ti} {v : Value} {wr : World} (h : TlS S0 w ts v wr) : ∃ ao cap, v = .slice ao ts.length cap := by
  obtain ⟨xs, g1, -⟩ := h.ks
  exact g1.form
theorem TlS.own {S0 : Nat → Prop} {w : World} {ts : List Ti} {v : Value} {wr : World} (h : TlS S0 w ts v wr) (b : Nat) (hb : v.ownBlock = some b) : w.heap.size ≤ b ∧ b < wr.heap.size := by
  obtain ⟨xs, g1, -⟩ := h.ks
  exact ⟨g1.own b hb, g1.ownLt b hb⟩
theorem TiL.snoc {S : Nat → Prop} {w : World} {t : Ti} {cs : Array Value} (ht : TiV S w t cs) : ∀ (ts : List Ti) (xs : List Value), TiL S w ts xs → TiL S w (ts ++ [t]) (xs ++ cs.toList)
  | [], xs, h => by
    rw [TiL] at h; subst h
    rw [List.nil_append, List.nil_append, TiL]
    exact ⟨cs, [], by simp, ht, by rw [TiL]⟩
  | a :: ts, xs, h => by
    rw [TiL] at h
    obtain ⟨ds, ys, rfl, h2, h3⟩ := h
    rw [List.cons_append, TiL]
    exact ⟨ds, ys ++ cs.toList, by simp, h2, TiL.snoc ht ts ys h3⟩
theorem TiL.app {S : Nat → Prop} {w : World} : ∀ (us : List Ti) (zs : List Value), TiL S w us zs → ∀ (ts : List Ti) (xs : List Value), TiL S w ts xs → TiL S w (ts ++ us) (xs ++ zs)
  | us, zs, h, [], xs, h2 => by rw [TiL] at h2; subst h2; exact h
  | us, zs, h, a :: ts, xs, h2 => by
    rw [TiL] at h2
    obtain ⟨ds, ys, rfl, h3, h4⟩ := h2
    rw [List.cons_append, TiL]
    exact ⟨ds, ys ++ zs, by simp, h3, TiL.app us zs h ts ys h4⟩
theorem TiL.len {S : Nat → Prop} {w : World} : ∀ (ts : List Ti) (xs : List Value), TiL S w ts xs → xs.length = ts.length * 4
  | [], xs, h => by rw [TiL] at h; subst h; rfl
  | t :: ts, xs, h => by
    rw [TiL] at h
    obtain ⟨cs, ys, rfl, h2, h3⟩ := h
    have := TiL.len ts ys h3
    have := h2.size
    simp; omega
theorem TiL.one {S : Nat → Prop} {w : World} : ∀ (ts : List Ti) (xs : List Value), TiL S w ts xs → ∀ x ∈ xs, x.oneCell' = true
  | [], xs, h, x, hx => by rw [TiL] at h; subst h; cases hx
  | t :: ts, xs, h, x, hx => by
    rw [TiL] at h
    obtain ⟨cs, ys, rfl, h2, h3⟩ := h
    rcases List.mem_append.1 hx with h4 | h4
    · have := h2.one
      rw [Array.all_eq_true_iff_forall_mem] at this
      exact this x (by simpa using h4)
    · exact TiL.one ts ys h3 x h4
/-- some more terms, appended -/
theorem TlS.app {S0 : Nat → Prop} {w : World} {ts us : List Ti} {v v' : Value} {wr w2 w3 : World} {xs zs : List Value} (h : TlS S0 w ts v wr) (hb : Below wr.heap.size wr w2) (g1 : Rw (fun b => w.heap.size ≤ b) 4 26 w2 v ts.length xs) (g2 : TiL (fun b => (S0 b ∧ v.ownBlock ≠ some b) ∧ b < w2.heap.size) w2 ts xs) (ht : TiL (fun b => (S0 b ∧ v.ownBlock ≠ some b) ∧ b < w2.heap.size) w2 us zs) (hA : Apd w2 v w3)
    (hw : ∀ S, Rw S 4 26 w2 v ts.length xs → Rw (fun b => S b ∨ w2.heap.size ≤ b) 4 26 w3 v' (ts.length + us.length) (xs ++ zs)) : TlS S0 w (ts ++ us) v' w3 := by
  have hJ := h.on hb
  have hz := h.low.size
  have hz2 := hb.size
  have hself := hw (fun b => v.ownBlock = some b) (g1.self.carry fun b _ hS => ⟨hS.2, rfl⟩)
  have hv' : ∀ b, v'.ownBlock = some b → v.ownBlock = some b ∨ w2.heap.size ≤ b := fun b hb => hself.own b hb
  have hlow : Below w.heap.size w w3 := hJ.low.trans (hA.only (S := fun b => w.heap.size ≤ b) (fun b hb => by omega) (fun b hb => (h.own b hb).1) |>.below fun _ h => h)
  have hz3 := hA.size
  refine ⟨hlow, xs ++ zs, ?_, ?_⟩
  · rw [List.length_append]
    exact (hw _ g1).carry fun b _ hS => ⟨by rcases hS with q | q <;> omega, rfl⟩
  · have hc : ∀ b, b < w2.heap.size → ((S0 b ∧ v.ownBlock ≠ some b) ∧ b < w2.heap.size) → ((S0 b ∧ v'.ownBlock ≠ some b) ∧ b < w3.heap.size) ∧ w3.heap[b]? = w2.heap[b]? := fun b hl hS => ⟨⟨⟨hS.1.1, fun e => by rcases hv' b e with q | q; exact hS.1.2 q; omega⟩, by omega⟩, hA.block b hl hS.1.2⟩
    exact TiL.app us zs (TiL.carry hc _ _ ht) ts xs (TiL.carry hc _ _ g2)
theorem TlS.rx {S0 : Nat → Prop} {w : World} {ts : List Ti} {v : Value} {wr : World} (h : TlS S0 w ts v wr) : ∃ xs, Rx (fun b => b < wr.heap.size) 4 wr v ts.length xs ∧ TiL (fun b => b < wr.heap.size) wr ts xs := by
  obtain ⟨xs, g1, g2⟩ := h.ks
  exact ⟨xs, g1.rx.carry fun b hl _ => ⟨hl, rfl⟩, TiL.carry (fun b _ hS => ⟨hS.2, rfl⟩) _ _ g2⟩
/-- one more, of a slice just made -/
theorem TlS.app1 {S0 : Nat → Prop} {w : World} {ts : List Ti} {t : Ti} {v v' : Value} {wr w1 w3 : World} {cs : Array Value} {xs : List Value} (h : TlS S0 w ts v wr) (hb : Below wr.heap.size wr w1) (g1 : Rw (fun b => w.heap.size ≤ b) 4 26 (w1.alloc (.cells cs 26)) v ts.length xs) (g2 : TiL (fun b => (S0 b ∧ v.ownBlock ≠ some b) ∧ b < (w1.alloc (.cells cs 26)).heap.size) (w1.alloc (.cells cs 26)) ts xs) (ht : TiV (fun b => (S0 b ∧ v.ownBlock ≠ some b) ∧ b < w1.heap.size) w1 t cs) (hA : Apd (w1.alloc (.cells cs 26)) v w3)
    (hw : ∀ S, Rw S 4 26 (w1.alloc (.cells cs 26)) v ts.length xs → Rw (fun b => S b ∨ (w1.alloc (.cells cs 26)).heap.size ≤ b) 4 26 w3 v' (ts.length + 1) (xs ++ cs.toList)) : TlS S0 w (ts ++ [t]) v' w3 := by
  have hb2 : Below w1.heap.size w1 (w1.alloc (.cells cs 26)) := (Below.refl _ _).alloc (Nat.le_refl _) _
  have hz := hb2.size
  refine h.app (hb.trans (hb2.mono hb.size)) g1 g2 ?_ hA hw
  have := TiL.snoc (ti_on ht fun b hl hS => (⟨⟨hS.1, by omega⟩, hb2.block b hl⟩ : ((S0 b ∧ v.ownBlock ≠ some b) ∧ b < (w1.alloc (.cells cs 26)).heap.size) ∧ _)) [] [] (by rw [TiL])
  simpa using this
theorem five_rng {w : World} {b t : Nat} {x0 x1 x2 x3 x4 : Value} (h : w.heap[b]? = some (.cells #[x0, x1, x2, x3, x4] t (0, 0))) : w.rangeAt b 0 (#[x0, x1, x2, x3] : Array Value).toList := fun i v hi => by
  rw [cell_of_row _ _ _ _ _ _ h, Nat.zero_add, ← hi]
  have hi4 : i < 4 := by simpa using (List.getElem?_eq_some_iff.1 hi).1
  have : i = 0 ∨ i = 1 ∨ i = 2 ∨ i = 3 := by omega
  rcases this with rfl | rfl | rfl | rfl <;> rfl
theorem five_rng1 {w : World} {b t : Nat} {x0 x1 x2 x3 x4 : Value} (h : w.heap[b]? = some (.cells #[x0, x1, x2, x3, x4] t (0, 0))) : w.rangeAt b 1 (#[x1, x2, x3, x4] : Array Value).toList := fun i v hi => by
  rw [cell_of_row _ _ _ _ _ _ h, Nat.add_comm, ← hi]
  have hi4 : i < 4 := by simpa using (List.getElem?_eq_some_iff.1 hi).1
  have : i = 0 ∨ i = 1 ∨ i = 2 ∨ i = 3 := by omega
  rcases this with rfl | rfl | rfl | rfl <;> rfl
theorem one_of4 {x0 x1 x2 x3 : Value} (h : (#[x0, x1, x2, x3] : Array Value).all (·.oneCell') = true) (s : ByteArray) : (#[.string s, x0, x1, x2, x3] : Array Value).all (·.oneCell') = true := by
  simp only [List.all_toArray, List.all_cons, List.all_nil, Bool.and_true] at h ⊢
  simpa [Value.oneCell'] using h
/-- a policy's cells -/
theorem PiV.five {S : Nat → Prop} {w : World} {p : Pi} {cs : Array Value} (h : PiV S w p cs) : ∃ x0 x1 x2 x3 ao cap xs, cs = #[x0, x1, x2, x3, .slice ao p.qs.length cap] ∧ TiV S w p.main #[x0, x1, x2, x3] ∧ Rx S 5 w (.slice ao p.qs.length cap) p.qs.length xs ∧ QiL S w p.qs xs := by
  obtain ⟨ms, qv, xs, rfl, h1, h2, h3⟩ := h
  obtain ⟨ao, cap, rfl⟩ := h2.form
  obtain ⟨x0, x1, x2, x3, rfl⟩ := arr4 h1.size
  exact ⟨x0, x1, x2, x3, ao, cap, xs, rfl, h1, h2, h3⟩
theorem AqS.keep {w : World} {qs : List Qi} {v : Value} {wr w' : World} (h : AqS w qs v wr) (hb : Below w.heap.size w w') : AqS w qs v w' := by
  obtain ⟨xs, g1, g2⟩ := h.ks
  have hc : ∀ b, b < wr.heap.size → b < w.heap.size → b < w.heap.size ∧ w'.heap[b]? = wr.heap[b]? := fun b _ hS => ⟨hS, (hb.block b hS).trans (h.low.block b hS).symm⟩
  exact ⟨hb, xs, g1.carry hc, QiL.carry hc _ _ g2⟩
def tmsI (p : Pi) : List Ti := p.main :: p.qs.map (·.pd)
/-- where termsOf's loop is -/
structure TfS (w : World) (p : Pi) (qv : Value) (j : Nat) (v : Value) (wr : World) : Prop where
  l : TlS (fun _ => True) w (p.main :: (p.qs.take j).map (·.pd)) v wr
  q : AqS w p.qs qv wr
theorem TfS.on {w : World} {p : Pi} {qv : Value} {j : Nat} {v : Value} {wr w' : World} (h : TfS w p qv j v wr) (hb : Below wr.heap.size wr w') : TfS w p qv j v w' := ⟨h.l.on hb, h.q.on hb⟩
set_option maxHeartbeats 12800000 in
theorem terms8_any (p : Pi) (cs : Array Value) (w : World) (hp : PiV (fun b => b < w.heap.size) w p cs) (hl : p.qs.length ≤ 32) : Calls Tryd.prog 37 #[.agg cs] w fun e w' => ∃ v, e = .returned v ∧ TlS (fun _ => True) w (tmsI p) v w' := by
  obtain ⟨x0, x1, x2, x3, ao, cap, xs, rfl, h1, h2, h3⟩ := hp.five
  clear hp
  have hB1 : Below w.heap.size w (w.alloc (.cells #[x0, x1, x2, x3, .slice ao p.qs.length cap] 29)) := (Below.refl _ _).alloc (Nat.le_refl _) _
  have hN1 : (w.alloc (.cells #[x0, x1, x2, x3, .slice ao p.qs.length cap] 29)).heap[w.heap.size]? = some (.cells #[x0, x1, x2, x3, .slice ao p.qs.length cap] 29 (0, 0)) := heap_alloc_new _ _
  have hR1 := five_rng hN1
  have c4 : (w.alloc (.cells #[x0, x1, x2, x3, .slice ao p.qs.length cap] 29)).cell? ⟨w.heap.size, 4, none⟩ = some (.slice ao p.qs.length cap) := (cell_of_row _ _ _ _ _ _ hN1).trans rfl
  go_enter Tryd.func37, Tryd.ntmps37
  go_upto_region 1 with fail
  generalize w.alloc (.cells #[x0, x1, x2, x3, .slice ao p.qs.length cap] 29) = W1 at hB1 hN1 hR1 c4 ⊢
  have hz1 := hB1.size
  have h1' : TiV (fun b => b < W1.heap.size) W1 p.main #[x0, x1, x2, x3] := ti_on h1 fun b hb hS => ⟨by omega, hB1.block b hb⟩
  have hb2 : Below W1.heap.size W1 (W1.alloc (.cells #[x0, x1, x2, x3] 26)) := (Below.refl _ _).alloc (Nat.le_refl _) _
  have hz2 : (W1.alloc (.cells #[x0, x1, x2, x3] 26)).heap.size = W1.heap.size + 1 := by simp
  have hT0 : TlS (fun _ => True) w [p.main] (.slice (some ⟨W1.heap.size, 0, none⟩) 1 1) (W1.alloc (.cells #[x0, x1, x2, x3] 26)) := by
    refine ⟨hB1.trans (hb2.mono hz1), [x0, x1, x2, x3], ⟨rfl, Or.inr ⟨W1.heap.size, 0, 1, #[x0, x1, x2, x3], rfl, hz1, heap_alloc_new _ _, Nat.le_refl _, by simp, by simp⟩⟩, ?_⟩
    have := TiL.snoc (ti_on h1' fun b hl hS => (⟨⟨⟨trivial, by simp [Value.ownBlock]; omega⟩, by omega⟩, hb2.block b hl⟩ : ((True ∧ (Value.slice (some ⟨W1.heap.size, 0, none⟩) 1 1).ownBlock ≠ some b) ∧ b < (W1.alloc (.cells #[x0, x1, x2, x3] 26)).heap.size) ∧ _)) [] [] (by rw [TiL])
    simpa using this
  have hQ0 : AqS w p.qs (.slice ao p.qs.length cap) W1 := ⟨hB1, xs, h2.carry fun b hb hS => ⟨hS, hB1.block b hb⟩, QiL.carry (fun b hb hS => ⟨hS, hB1.block b hb⟩) _ _ h3⟩
  have HS0 : Hid (TfS w p (.slice ao p.qs.length cap) 0 (.slice (some ⟨W1.heap.size, 0, none⟩) 1 1) (W1.alloc (.cells #[x0, x1, x2, x3] 26))) := ⟨hT0, hQ0.on hb2⟩
  have HR1 := hid hR1
  have d4 : (W1.alloc (.cells #[x0, x1, x2, x3] 26)).cell? ⟨w.heap.size, 4, none⟩ = some (.slice ao p.qs.length cap) := (cell_same (hb2.block _ (Array.getElem?_eq_some_iff.1 hN1).1)).trans c4
  clear h1 h2 h3 hB1 hN1 hR1 c4 h1' hb2 hT0 hQ0 hz1 hz2
  go_upto_region 2 with (first
    | (refine ldMid 26 (.tmp 6) rfl rfl w.heap.size 0 rfl #[x0, x1, x2, x3] _ Tryd.underlying26 rfl sizeTM HR1.out ?_)
    | (refine bldSl 24 26 (.tmp 7) rfl rfl #[x0, x1, x2, x3] rfl Tryd.underlying24 _ _ _ rfl rfl rfl rfl (by decide) (by decide) ?_))
  generalize W1.alloc (.cells #[x0, x1, x2, x3] 26) = W2 at HS0 d4 ⊢
  go_upto_region 3 with fail
  clear d4 HR1
  go_loopw [3, 12] (fun lv v wr => ∃ (j : Nat) (vo : Option Addr) (vc : Nat), v = .int .i64 ((j : Nat) : Int) ∧ lv = .slice vo (j + 1) vc ∧ j ≤ p.qs.length ∧ Hid (TfS w p (.slice ao p.qs.length cap) j lv wr)) (fun _ v _ => p.qs.length - (intOf v).toNat)
  case atStart => exact ⟨0, some ⟨W1.heap.size, 0, none⟩, 1, rfl, rfl, Nat.zero_le _, HS0⟩
  case round =>
    clear HS0
    obtain ⟨j, vo, vc, rfl, rfl, hj1, HS⟩ := hrel
    by_cases hj : j < p.qs.length
    · obtain ⟨g, o, rfl, hcap, y0, y1, y2, y3, ht, hra, hone⟩ := HS.out.q.qry hj
      have hs3 : decide ((j : Int) < (p.qs.length : Int)) = true := by simp; omega
      have hjc : j < cap := by omega
      have hw3 : IntKind.i64.wrap ((j : Int) + 1) = (j : Int) + 1 := by rw [IntKind.wrap_i64]; omega
      obtain ⟨nm, hnm⟩ : ∃ nm, nm = (p.qs[j]).nm := ⟨_, rfl⟩
      rw [← hnm] at hra
      have hb3 : Below wr.heap.size wr (wr.alloc (.cells #[.string nm, y0, y1, y2, y3] 40)) := (Below.refl _ _).alloc (Nat.le_refl _) _
      have hN3 : (wr.alloc (.cells #[.string nm, y0, y1, y2, y3] 40)).heap[wr.heap.size]? = some (.cells #[.string nm, y0, y1, y2, y3] 40 (0, 0)) := heap_alloc_new _ _
      have HS3 := hid (HS.out.on hb3)
      have HR1 := hid (five_rng1 hN3)
      have hww : w.heap.size ≤ wr.heap.size := HS.out.l.low.size
      have HTi : Hid (TiV (fun b => b < w.heap.size) (wr.alloc (.cells #[.string nm, y0, y1, y2, y3] 40)) (p.qs[j]).pd #[y0, y1, y2, y3]) := ti_on ht fun b hb hS => ⟨hS, hb3.block b hb⟩
      have HO5 := hid (one_of4 hone nm)
      have HO4 := hid hone
      have HRA := hid hra
      have HOw := hid (HS.out.l.own)
      clear hb3 hN3 ht hone hnm hra HS
      go_upto_region 5 with (first
        | (refine ldMid 40 (.tmp 14) rfl rfl g (o + j * 5) rfl #[.string nm, y0, y1, y2, y3] _ Tryd.underlying40 rfl infoQ5 HRA.out ?_)
        | (refine stNew 40 (.tmp 5) (.tmp 15) rfl rfl wr 40 #[.string ⟨#[]⟩, .int .i8 0, .int .i8 0, .int .u64 0, nilS] #[.string nm, y0, y1, y2, y3] rfl rfl rfl infoQ5 rfl HO5.out ?_))
      generalize wr.alloc (.cells #[.string nm, y0, y1, y2, y3] 40) = w3 at HS3 HR1 HTi ⊢
      have hb4 : Below w3.heap.size w3 (w3.alloc (.cells #[y0, y1, y2, y3] 26)) := (Below.refl _ _).alloc (Nat.le_refl _) _
      obtain ⟨xs', g1, g2⟩ := (HS3.out.l.on hb4).ks
      have hlen : (p.main :: (p.qs.take j).map (·.pd)).length = j + 1 := by simp; omega
      have HG1 := hid g1
      have HG2 := hid g2
      rw [hlen] at HG1
      have HTi2 : Hid (TiV (fun b => (True ∧ (Value.slice vo (j + 1) vc).ownBlock ≠ some b) ∧ b < w3.heap.size) w3 (p.qs[j]).pd #[y0, y1, y2, y3]) := ti_on HTi.out fun b hb hS => ⟨⟨⟨trivial, fun e => by have := (HOw.out b e).1; omega⟩, hb⟩, rfl⟩
      have HN4 : Hid ((w3.alloc (.cells #[y0, y1, y2, y3] 26)).heap[w3.heap.size]? = some (.cells #[y0, y1, y2, y3] 26 (0, 0))) := heap_alloc_new _ _
      have HLe := hid hlen
      have HX4 : Hid (∀ (jj : Nat) (x : Value), [y0, y1, y2, y3][jj]? = some x → (w3.alloc (.cells #[y0, y1, y2, y3] 26)).cell? ((⟨w3.heap.size, 0, none⟩ : Addr).add jj) = some x) := fun jj x hx => by
        rw [Addr.add_lit, Nat.zero_add, cell_of_row _ _ _ _ _ _ HN4.out, ← Array.getElem?_toList]; exact hx
      have HY4 : Hid (∀ x ∈ [y0, y1, y2, y3], x.oneCell' = true) := fun x hx => by have h1 := HO4.out; rw [Array.all_eq_true_iff_forall_mem] at h1; exact h1 x (List.mem_toArray.2 hx)
      clear g1 g2 hlen hb4 HTi HOw
      go_wp2_with (first
        | (refine ldMid 26 (.tmp 17) rfl rfl wr.heap.size 1 rfl #[y0, y1, y2, y3] _ Tryd.underlying26 rfl sizeTM HR1.out ?_)
        | (refine bldSl 24 26 (.tmp 18) rfl rfl #[y0, y1, y2, y3] rfl Tryd.underlying24 _ _ _ rfl rfl rfl rfl (by decide) (by decide) ?_)
        | (refine appRw (.tmp 16) (.tmp 19) 24 rfl rfl (k := 4) (t := 26) (n := j + 1) (m := 1) (c := 1) (us := [y0, y1, y2, y3]) (ad := ⟨w3.heap.size, 0, none⟩) rfl rfl Tryd.underlying24 infoTM rfl (by omega) (by omega) HG1.out rfl HX4.out HY4.out (by omega) (Or.inl (by omega)) ?_; intro v4 w4 hA4 hR4; obtain ⟨ao4, cap4, rfl⟩ := (hR4 _ HG1.out).form; have HS4 : Hid (TlS (fun _ => True) w ((p.main :: (p.qs.take j).map (·.pd)) ++ [(p.qs[j]).pd]) (.slice ao4 (j + 1 + 1) cap4) w4) := HS3.out.l.app1 (Below.refl _ _) (by rw [HLe.out]; exact HG1.out) HG2.out HTi2.out hA4 (by rw [HLe.out]; exact hR4); have HQ4 := hid (HS3.out.q.keep HS4.out.low); clear hA4 hR4))
      have htk : (p.main :: (p.qs.take (j + 1)).map (·.pd)) = (p.main :: (p.qs.take j).map (·.pd)) ++ [(p.qs[j]).pd] := by rw [List.take_add_one, List.getElem?_eq_getElem hj, List.map_append]; rfl
      have hX : ∃ (k : Nat) (vo : Option Addr) (vc : Nat), Value.int .i64 ((j : Int) + 1) = .int .i64 ((k : Nat) : Int) ∧ Value.slice ao4 (j + 1 + 1) cap4 = .slice vo (k + 1) vc ∧ k ≤ p.qs.length ∧ Hid (TfS w p (.slice (some ⟨g, o, none⟩) p.qs.length cap) k (.slice ao4 (j + 1 + 1) cap4) w4) := ⟨j + 1, ao4, cap4, by rw [show (((j + 1 : Nat) : Nat) : Int) = (j : Int) + 1 by omega], rfl, hj, ⟨by rw [htk]; exact HS4.out, HQ4.out⟩⟩
      refine ⟨?_, ?_⟩
      · first
          | exact hX
          | ((repeat apply Exists.intro); refine ⟨?_, rfl⟩; exact hX)
      · simp [intOf]; omega
    · have hs3 : decide ((j : Int) < (p.qs.length : Int)) = false := by simp; omega
      obtain rfl : j = p.qs.length := by omega
      have HL := hid HS.out.l
      go_wp2
      go_ret
      refine ⟨_, rfl, ?_⟩
      have := HL.out
      rw [List.take_length] at this
      exact this
end Go.Proofs.YtjallmncajhamaaDoor
