/-
  Proved here: the document's cache in memory (RcM, Rc), and how it changes; its find, Turn. Condition where it is named: fewer than 2 to 31 places.
-/
import Derived.Test.YtpmdgockiblkaaaWS
namespace Go.Proofs.Ytpmdgockiblkaaa
open Go.RowKit

/-- What stands at a place of the document's cache. -/
def rco (o : Option Et) : Array Value := match o with
  | some e => #[.bool true] ++ row 11 e.h.f ++ #[.int .i64 e.id, .int .i64 e.gen, .bool e.mark]
  | none => #[.bool false] ++ row 11 zf ++ #[.int .i64 0, .int .i64 0, .bool false]
theorem rco_size (o : Option Et) : (rco o).size = 15 := by cases o <;> simp [rco, row_size]
def oh (o : Option Et) : Nat → Int := match o with | some e => e.h.f | none => zf
def oi (o : Option Et) : Int := match o with | some e => e.id | none => 0
def og (o : Option Et) : Int := match o with | some e => e.gen | none => 0
def om (o : Option Et) : Bool := match o with | some e => e.mark | none => false
theorem rco_eq (o : Option Et) : rco o = #[.bool o.isSome] ++ row 11 (oh o) ++ #[.int .i64 (oi o), .int .i64 (og o), .bool (om o)] := by cases o <;> rfl
theorem rco_0 (o : Option Et) : (rco o)[0]? = some (.bool o.isSome) := by
  rw [rco_eq, Array.append_assoc, Array.getElem?_append_left (by simp)]; rfl
theorem rco_h (o : Option Et) (k : Nat) (hk : k < 11) : (rco o)[1 + k]? = some (.int .u64 (oh o k)) := by
  rw [rco_eq, Array.append_assoc, Array.getElem?_append_right (by simp), Array.getElem?_append_left (by simp [row_size]; omega)]
  rw [show 1 + k - (#[Value.bool o.isSome] : Array Value).size = k by simp, row_at 11 _ k hk]
theorem rco_t (o : Option Et) (k : Nat) : (rco o)[12 + k]? = (#[.int .i64 (oi o), .int .i64 (og o), .bool (om o)] : Array Value)[k]? := by
  rw [rco_eq, Array.getElem?_append_right (by simp [row_size])]
  rw [show 12 + k - (#[Value.bool o.isSome] ++ row 11 (oh o)).size = k by simp [row_size]]
theorem rco_one (o : Option Et) : (rco o).all (·.oneCell') = true := by
  rw [rco_eq, Array.all_append, Array.all_append, row_one]; simp [Value.oneCell']
theorem rco_same (o o' : Option Et) (k : Nat) (hk : k < 15) (h0 : k = 0 → o.isSome = o'.isSome) (hh : oh o = oh o') (h1 : k = 12 → oi o = oi o') (h2 : k = 13 → og o = og o') (h3 : k = 14 → om o = om o') : (rco o)[k]? = (rco o')[k]? := by
  by_cases e0 : k = 0
  · subst e0; rw [rco_0, rco_0, h0 rfl]
  · by_cases e1 : k < 12
    · obtain ⟨j, rfl⟩ : ∃ j, k = 1 + j := ⟨k - 1, by omega⟩
      rw [rco_h _ _ (by omega), rco_h _ _ (by omega), hh]
    · rcases (by omega : k = 12 ∨ k = 13 ∨ k = 14) with rfl | rfl | rfl
      · rw [show 12 = 12 + 0 from rfl, rco_t, rco_t, h1 rfl]; rfl
      · rw [show 13 = 12 + 1 from rfl, rco_t, rco_t, h2 rfl]; rfl
      · rw [show 14 = 12 + 2 from rfl, rco_t, rco_t, h3 rfl]; rfl
def rcc (c : Cs) (bl : Nat) : Array Value := #[.slice (some ⟨bl, 0, none⟩) c.es.length c.es.length, .int .i64 c.now, .int .i64 (c.hand : Int)]
/-- The document's cache in memory. -/
structure RcM (S : Nat → Prop) (w : World) (g : Nat) (c : Cs) (bl : Nat) (cur : Array Value) : Prop where
  sg : S g
  hg : w.heap[g]? = some (.cells (rcc c bl) 50 (0, 0))
  sl : S bl
  hl : w.heap[bl]? = some (.cells cur 58 (0, 0))
  sz : cur.size = c.es.length * 15
  pl : ∀ i o, c.es[i]? = some o → ∀ k, k < 15 → cur[i * 15 + k]? = (rco o)[k]?
theorem RcM.carry {S T : Nat → Prop} {w w' : World} {g : Nat} {c : Cs} {bl : Nat} {cur : Array Value} (h : RcM S w g c bl cur) (hc : ∀ b, b < w.heap.size → S b → T b ∧ w'.heap[b]? = w.heap[b]?) : RcM T w' g c bl cur := by
  have h1 := hc g (Array.getElem?_eq_some_iff.1 h.hg).1 h.sg
  have h3 := hc bl (Array.getElem?_eq_some_iff.1 h.hl).1 h.sl
  exact ⟨h1.1, h1.2.trans h.hg, h3.1, h3.2.trans h.hl, h.sz, h.pl⟩
theorem RcM.ne {S : Nat → Prop} {w : World} {g : Nat} {c : Cs} {bl : Nat} {cur : Array Value} (h : RcM S w g c bl cur) : g ≠ bl := fun e => by
  have := h.hg; rw [e, h.hl] at this; simp at this
theorem RcM.cells {S : Nat → Prop} {w : World} {g : Nat} {c : Cs} {bl : Nat} {cur : Array Value} (h : RcM S w g c bl cur) :
    w.cell? ⟨g, 0, none⟩ = some (.slice (some ⟨bl, 0, none⟩) c.es.length c.es.length) ∧ w.cell? ⟨g, 1, none⟩ = some (.int .i64 c.now) ∧ w.cell? ⟨g, 2, none⟩ = some (.int .i64 (c.hand : Int)) := by
  refine ⟨?_, ?_, ?_⟩ <;> rw [cell_of_row _ _ _ _ _ _ h.hg] <;> rfl
theorem RcM.frz {S : Nat → Prop} {w : World} {g : Nat} {c : Cs} {bl : Nat} {cur : Array Value} (h : RcM S w g c bl cur) (k : Nat) : w.frozen? ⟨g, k, none⟩ = false ∧ w.frozen? ⟨bl, k, none⟩ = false := ⟨by simp [World.frozen?, h.hg], by simp [World.frozen?, h.hl]⟩
theorem RcM.at {S : Nat → Prop} {w : World} {g : Nat} {c : Cs} {bl : Nat} {cur : Array Value} (h : RcM S w g c bl cur) {i : Nat} {o : Option Et} (ho : c.es[i]? = some o) :
    w.cell? ⟨bl, i * 15, none⟩ = some (.bool o.isSome) ∧ w.rangeAt bl (i * 15 + 1) (row 11 (oh o)).toList ∧ w.cell? ⟨bl, i * 15 + 12, none⟩ = some (.int .i64 (oi o)) ∧ w.cell? ⟨bl, i * 15 + 13, none⟩ = some (.int .i64 (og o)) ∧ w.cell? ⟨bl, i * 15 + 14, none⟩ = some (.bool (om o)) := by
  have hc : ∀ k, k < 15 → w.cell? ⟨bl, i * 15 + k, none⟩ = (rco o)[k]? := fun k hk => by rw [cell_of_row _ _ _ _ _ _ h.hl]; exact h.pl i o ho k hk
  refine ⟨by have := hc 0 (by omega); rw [rco_0] at this; exact this, range_of fun j hj => ?_, by have := hc 12 (by omega); rw [show 12 = 12 + 0 from rfl, rco_t] at this; exact this, by have := hc 13 (by omega); rw [show 13 = 12 + 1 from rfl, rco_t] at this; exact this, by have := hc 14 (by omega); rw [show 14 = 12 + 2 from rfl, rco_t] at this; exact this⟩
  rw [row_size] at hj
  rw [Nat.add_assoc, hc (1 + j) (by omega), rco_h _ _ hj, row_at 11 _ _ hj]
theorem RcM.setOwn {S : Nat → Prop} {w : World} {g : Nat} {c : Cs} {bl : Nat} {cur : Array Value} (h : RcM S w g c bl cur) (c' : Cs) (hes : c'.es = c.es) (j : Nat) (v : Value) (hset : (rcc c bl).setIfInBounds j v = rcc c' bl) : RcM S (w.setCell ⟨g, j, none⟩ v) g c' bl cur := by
  have oth : ∀ b, b ≠ g → (w.setCell ⟨g, j, none⟩ v).heap[b]? = w.heap[b]? := fun b hb => heap_setCell_other w ⟨g, j, none⟩ b v hb
  exact ⟨h.sg, by rw [heap_setCell_same w g j _ _ v h.hg, hset], h.sl, (oth _ h.ne.symm).trans h.hl, by rw [hes]; exact h.sz, by rw [hes]; exact h.pl⟩
/-- One cell of a place changes. -/
theorem RcM.setAt {S : Nat → Prop} {w : World} {g : Nat} {c : Cs} {bl : Nat} {cur : Array Value} (h : RcM S w g c bl cur) {i : Nat} {o : Option Et} (ho : c.es[i]? = some o) (o' : Option Et) (j : Nat) (hj : j < 15) (v : Value) (hv : (rco o')[j]? = some v) (hoth : ∀ k, k < 15 → k ≠ j → (rco o)[k]? = (rco o')[k]?) :
    RcM S (w.setCell ⟨bl, i * 15 + j, none⟩ v) g { c with es := c.es.set i o' } bl (cur.setIfInBounds (i * 15 + j) v) := by
  have oth : ∀ b, b ≠ bl → (w.setCell ⟨bl, i * 15 + j, none⟩ v).heap[b]? = w.heap[b]? := fun b hb => heap_setCell_other w ⟨bl, i * 15 + j, none⟩ b v hb
  have hil : i < c.es.length := (List.getElem?_eq_some_iff.1 ho).1
  refine ⟨h.sg, by rw [oth _ h.ne, h.hg]; simp [rcc], h.sl, by rw [heap_setCell_same w bl _ _ _ v h.hl], by simpa using h.sz, fun i' o'' ho' k hk => ?_⟩
  rw [Array.getElem?_setIfInBounds, h.sz]
  rcases set_at ho' with ⟨rfl, _, rfl⟩ | ⟨hne, ho'⟩
  · by_cases e : j = k
    · subst e
      rw [if_pos rfl, if_pos (by omega), hv]
    · rw [if_neg (by omega), h.pl _ _ ho k hk]
      exact hoth k hk fun e' => e e'.symm
  · rw [if_neg (by omega)]
    exact h.pl i' o'' ho' k hk
/-- A whole place changes. -/
theorem RcM.setAll {S : Nat → Prop} {w : World} {g : Nat} {c : Cs} {bl : Nat} {cur : Array Value} (h : RcM S w g c bl cur) {i : Nat} (hi : i < c.es.length) (o' : Option Et) :
    ∃ cur', RcM S (w.setCells bl (i * 15) (rco o').toList) g { c with es := c.es.set i o' } bl cur' ∧ Only S w (w.setCells bl (i * 15) (rco o').toList) := by
  obtain ⟨cur', a1, a2, a3, a4, a5, a6⟩ := setCells_all bl (rco o').toList (i * 15) w cur 58 h.hl
  have hlen : (rco o').toList.length = 15 := by simp [rco_size]
  refine ⟨cur', ⟨h.sg, by rw [a5 g h.ne, h.hg]; simp [rcc], h.sl, a1, by rw [a2]; simpa using h.sz, fun i' o'' ho' k hk => ?_⟩, ⟨a6.os, a6.tape, a6.output, a6.size, fun b hb => a5 b fun e => hb (e ▸ h.sl)⟩⟩
  rcases set_at ho' with ⟨rfl, _, rfl⟩ | ⟨hne, ho'⟩
  · rw [a4 k (by omega) (by rw [h.sz]; omega)]; simp
  · rw [a3 _ (by omega)]
    exact h.pl i' o'' ho' k hk
def Rc (S : Nat → Prop) (w : World) (v : Value) (c : Cs) : Prop := ∃ g bl cur, v = pv g ∧ RcM S w g c bl cur
theorem Rc.carry {S T : Nat → Prop} {w w' : World} {v : Value} {c : Cs} (h : Rc S w v c) (hc : ∀ b, b < w.heap.size → S b → T b ∧ w'.heap[b]? = w.heap[b]?) : Rc T w' v c := by
  obtain ⟨g, bl, cur, h1, h2⟩ := h
  exact ⟨g, bl, cur, h1, h2.carry hc⟩
theorem Rc.on {S : Nat → Prop} {w w' : World} {v : Value} {c : Cs} (h : Rc S w v c) (hb : Below w.heap.size w w') : Rc S w' v c := h.carry fun b hb' hS => ⟨hS, hb.block b hb'⟩
theorem Rc.form {S : Nat → Prop} {w : World} {v : Value} {c : Cs} (h : Rc S w v c) : ∃ g, v = pv g := by
  obtain ⟨g, bl, cur, h1, h2⟩ := h
  exact ⟨g, h1⟩
theorem rturn_any {S : Nat → Prop} (w : World) (v : Value) (c : Cs) (h : Rc S w v c) (hn : 0 ≤ c.now ∧ c.now < 2147483648) :
    Calls Try.prog 16 #[v] w fun r w' => r = .returned (.tuple #[]) ∧ Only S w w' ∧ Rc S w' v (turnS c) := by
  obtain ⟨g, bl, cur, rfl, hM⟩ := h
  obtain ⟨-, c1, -⟩ := hM.cells
  have hz := (hM.frz 1).1
  have hw1 : IntKind.i64.wrap (c.now + 1) = c.now + 1 := by rw [IntKind.wrap_i64]; omega
  have HM := hid hM
  clear hM
  go_enter Try.func16, Try.ntmps16
  go_wp2
  first | go_end0 | refine bodyPost_ret (results_none rfl _ _ _) rfl ?_
  exact ⟨rfl, (Only.refl S w).setCell HM.out.sg _, g, bl, cur, rfl, HM.out.setOwn (turnS c) rfl 1 _ rfl⟩
/-- What find reads. -/
structure Hr (g bl L i : Nat) (t : Bool) (u : Nat → Int) (bx : Nat) (x : Nat → Int) (w : World) : Prop where
  c0 : w.cell? ⟨g, 0, none⟩ = some (.slice (some ⟨bl, 0, none⟩) L L)
  ct : w.cell? ⟨bl, i * 15, none⟩ = some (.bool t)
  ru : w.rangeAt bl (i * 15 + 1) (row 11 u).toList
  rx : w.rangeAt bx 0 (row 11 x).toList
noncomputable def fdI (es : List (Option Et)) (h : Hdr) : Int := match fnd es h with | some i => (i : Int) | none => -1
theorem isH_at (h : Hdr) (o : Option Et) : isH h o = (o.isSome && eqR 11 (oh o) h.f) := by
  cases o with
  | none => rfl
  | some e => show decide (e.h = h) = (true && eqR 11 e.h.f h.f); rw [eqR_hdr]; simp
theorem fnd_at {es : List (Option Et)} {h : Hdr} {q : Nat} {o : Option Et} (ho : es[q]? = some o) (hp : ∀ j, j < q → ∀ o', es[j]? = some o' → isH h o' = false) (hi : isH h o = true) : fnd es h = some q := by
  unfold fnd
  rw [List.findIdx?_eq_some_iff_getElem]
  have hq : q < es.length := (List.getElem?_eq_some_iff.1 ho).1
  refine ⟨hq, ?_, fun j hj => ?_⟩
  · rw [List.getElem?_eq_getElem hq] at ho
    rw [Option.some.inj ho]; exact hi
  · have := hp j hj es[j] (List.getElem?_eq_getElem (by omega))
    simp [this]
theorem fnd_out {es : List (Option Et)} {h : Hdr} (hp : ∀ j, j < es.length → ∀ o', es[j]? = some o' → isH h o' = false) : fnd es h = none := by
  unfold fnd
  rw [List.findIdx?_eq_none_iff]
  intro o ho
  obtain ⟨j, hj, rfl⟩ := List.getElem_of_mem ho
  exact hp j hj _ (List.getElem?_eq_getElem hj)
set_option maxHeartbeats 3200000 in
set_option maxRecDepth 100000 in
theorem rfind_any {S : Nat → Prop} (w : World) (v : Value) (c : Cs) (h : Hdr) (hC : Rc S w v c) (hn : c.es.length < 2147483640) : Calls Try.prog 22 #[v, hv h.f] w fun r w' => r = .returned (.int .i64 (fdI c.es h)) ∧ Below w.heap.size w w' := by
  obtain ⟨g, bl, cur, rfl, hM⟩ := hC
  obtain ⟨x, hx⟩ : ∃ z, z = h.f := ⟨_, rfl⟩
  obtain ⟨W0, hW0⟩ : ∃ W0, W0 = w.alloc (.cells (row 11 h.f) 30) := ⟨_, rfl⟩
  have hB0 : Below w.heap.size w W0 := by rw [hW0]; exact (Below.refl _ _).alloc (Nat.le_refl _) _
  have hG0 : Blk W0 w.heap.size 11 30 h.f := by rw [hW0]; exact Blk.new w 11 30 h.f
  have hM0 : RcM S W0 g c bl cur := hM.carry fun b hb hS => ⟨hS, hB0.block b hb⟩
  have HM0 := hid hM0
  obtain ⟨L, hL⟩ : ∃ z, z = c.es.length := ⟨_, rfl⟩
  have hc0 := hM0.cells.1
  have hgl := cell_lt hc0
  have hbl := (Array.getElem?_eq_some_iff.1 hM0.hl).1
  rw [← hL] at hc0
  have HW0 := hid hW0
  rw [← hx] at HW0
  rw [← hx]
  have hnL : L < 2147483640 := by rw [hL]; exact hn
  have HX := hid (And.intro hx (And.intro hL hG0))
  have HB0 := hid hB0
  clear hM hM0 hW0 hx hL hn hG0 hB0
  go_enter Try.func22, Try.ntmps22
  go_upto_region 1 with fail
  rw [← HW0.out]
  clear HW0
  go_upto_region 2 with fail
  go_loopw [5] (fun j wr => ∃ q : Nat, q ≤ L ∧ j = .int .i64 q ∧ Below W0.heap.size W0 wr ∧ ∀ j, j < q → ∀ o', c.es[j]? = some o' → isH h o' = false) (fun j _ => L - (intOf j).toNat)
  case atStart => exact ⟨0, by omega, rfl, Below.refl _ _, fun j hj => by omega⟩
  case round =>
    obtain ⟨q, hq, rfl, hlow, hno⟩ := hrel
    generalize wr = wx at *
    have HLo := hid hlow
    have HNo := hid hno
    have k0 : wx.cell? ⟨g, 0, none⟩ = some (.slice (some ⟨bl, 0, none⟩) L L) := by rw [hlow.cell (p := ⟨g, 0, none⟩) hgl]; exact hc0
    clear hlow hno
    by_cases hlt : q < L
    · have hd : decide ((q : Int) < (L : Int)) = true := decide_eq_true (by omega)
      obtain ⟨o, ho⟩ : ∃ o, c.es[q]? = some o := ⟨_, List.getElem?_eq_getElem (by rw [← HX.out.2.1]; exact hlt)⟩
      obtain ⟨d1, d2, -, -, -⟩ := HM0.out.at ho
      obtain ⟨t, ht⟩ : ∃ z, z = o.isSome := ⟨_, rfl⟩
      obtain ⟨u, hu⟩ : ∃ z, z = oh o := ⟨_, rfl⟩
      rw [← ht] at d1
      rw [← hu] at d2
      have HU : Hid (Hr g bl L q t u w.heap.size x wx.drew) := ⟨k0, (cell_same (w' := wx.drew) (HLo.out.block _ hbl)).trans d1, range_on (w' := wx.drew) d2 (HLo.out.block _ hbl), by rw [HX.out.1]; exact range_on (w' := wx.drew) (range_blk HX.out.2.2) (HLo.out.block _ HX.out.2.2.lt)⟩
      obtain ⟨be, hbe⟩ : ∃ be, be = eqR 11 u x := ⟨_, rfl⟩
      have HI : Hid (isH h o = (t && be)) := by show _ = _; rw [isH_at, hbe, ht, hu, HX.out.1]
      have HO := hid ho
      have hw1 : IntKind.i64.wrap ((q : Int) + 1) = (q : Int) + 1 := by rw [IntKind.wrap_i64]; omega
      have HN2 : Hid (isH h o = false → ∀ j, j < q + 1 → ∀ o', c.es[j]? = some o' → isH h o' = false) := fun hf j hj o' ho' => by
        by_cases e : j = q
        · subst e; rw [ho] at ho'; cases ho'; exact hf
        · exact HNo.out j (by omega) o' ho'
      clear d1 d2 ho ht hu
      cases t with
      | false =>
        clear hbe
        go_upto_region 4 with fail
        refine wp_region_held_drew (S := Hr g bl L q false u w.heap.size x) (by kernel_rfl) HU.out (fun hHeld => ?_)
        refine wpAnyH_take (i := 0) (v := ?_) rfl (by kernel_rfl) (by kernel_rfl) (by kernel_rfl) (fun _ _ _ h => h) (Or.inl ⟨by rfl, ?_⟩) hHeld ?_
        rotate_left
        · intro w' hSw
          clear hSw
          go_simp
          first | done | with_reducible rfl
        simp only [Act.put, List.getElem_toArray, List.getElem_cons_zero, List.setIfInBounds_toArray, List.set_cons_zero, List.set_cons_succ]
        refine wpAnyH_take (i := 1) (v := ?_) rfl (by kernel_rfl) (by kernel_rfl) (by kernel_rfl) (fun _ _ _ h => h) (Or.inl ⟨by rfl, ?_⟩) hHeld ?_
        rotate_left
        · intro w' hSw
          clear hSw
          go_simp
          first | done | with_reducible rfl
        simp only [Act.put, List.getElem_toArray, List.getElem_cons_succ, List.getElem_cons_zero, List.setIfInBounds_toArray, List.set_cons_zero, List.set_cons_succ]
        refine wpAnyH_take (i := 2) (v := ?_) rfl (by kernel_rfl) (by kernel_rfl) (by kernel_rfl) (fun _ _ _ h => h) (Or.inl ⟨by rfl, ?_⟩) hHeld ?_
        rotate_left
        · intro w' hSw
          clear hSw
          go_simp
          first | done | with_reducible rfl
        simp only [Act.put, List.getElem_toArray, List.getElem_cons_succ, List.getElem_cons_zero, List.setIfInBounds_toArray, List.set_cons_zero, List.set_cons_succ]
        refine wpAnyH_take (i := 3) (v := ?_) rfl (by kernel_rfl) (by kernel_rfl) (by kernel_rfl) (fun _ _ _ h => h) (Or.inl ⟨by rfl, ?_⟩) hHeld ?_
        rotate_left
        · intro w' hSw
          have c0 := hSw.c0
          clear hSw
          go_simp
          first | done | with_reducible rfl
        simp only [Act.put, List.getElem_toArray, List.getElem_cons_succ, List.getElem_cons_zero, List.setIfInBounds_toArray, List.set_cons_zero, List.set_cons_succ]
        refine wpAnyH_take (i := 4) (v := ?_) rfl (by kernel_rfl) (by kernel_rfl) (by kernel_rfl) (fun _ _ _ h => h) (Or.inl ⟨by rfl, ?_⟩) hHeld ?_
        rotate_left
        · intro w' hSw
          clear hSw
          go_simp
          first | done | with_reducible rfl
        simp only [Act.put, List.getElem_toArray, List.getElem_cons_succ, List.getElem_cons_zero, List.setIfInBounds_toArray, List.set_cons_zero, List.set_cons_succ]
        refine wpAnyH_take (i := 5) (v := ?_) rfl (by kernel_rfl) (by kernel_rfl) (by kernel_rfl) (fun _ _ _ h => h) (Or.inl ⟨by rfl, ?_⟩) hHeld ?_
        rotate_left
        · intro w' hSw
          clear hSw
          go_simp
          first | done | with_reducible rfl
        simp only [Act.put, List.getElem_toArray, List.getElem_cons_succ, List.getElem_cons_zero, List.setIfInBounds_toArray, List.set_cons_zero, List.set_cons_succ]
        refine wpAnyH_take (i := 6) (v := ?_) rfl (by kernel_rfl) (by kernel_rfl) (by kernel_rfl) (fun _ _ _ h => h) (Or.inl ⟨by rfl, ?_⟩) hHeld ?_
        rotate_left
        · intro w' hSw
          clear hSw
          go_simp
          first | done | with_reducible rfl
        simp only [Act.put, List.getElem_toArray, List.getElem_cons_succ, List.getElem_cons_zero, List.setIfInBounds_toArray, List.set_cons_zero, List.set_cons_succ]
        refine wpAnyH_take (i := 7) (v := (.bool false)) rfl (by kernel_rfl) (by kernel_rfl) (by kernel_rfl) (fun _ _ _ h => h) (Or.inl ⟨by rfl, ?_⟩) hHeld ?_
        · intro w' hSw
          have ct := hSw.ct
          clear hSw
          go_simp
          first | done | with_reducible rfl
        simp only [Act.put, List.getElem_toArray, List.getElem_cons_succ, List.getElem_cons_zero, List.setIfInBounds_toArray, List.set_cons_zero, List.set_cons_succ]
        refine wpAnyH_take (i := 8) (v := (.bool false)) rfl (by kernel_rfl) (by kernel_rfl) (by kernel_rfl) (fun _ _ _ h => h) (Or.inl ⟨by rfl, ?_⟩) hHeld ?_
        · intro w' hSw
          clear hSw
          go_simp
          first | done | with_reducible rfl
        simp only [Act.put, List.getElem_toArray, List.getElem_cons_succ, List.getElem_cons_zero, List.setIfInBounds_toArray, List.set_cons_zero, List.set_cons_succ]
        refine wpAnyH_take (i := 9) (v := undef) rfl (by kernel_rfl) (by kernel_rfl) (by kernel_rfl) (fun _ _ _ h => h) (Or.inr ⟨by rfl, rfl⟩) hHeld ?_
        simp only [Act.put, List.getElem_toArray, List.getElem_cons_succ, List.getElem_cons_zero, List.setIfInBounds_toArray, List.set_cons_zero, List.set_cons_succ]
        refine wpAnyH_take (i := 10) (v := undef) rfl (by kernel_rfl) (by kernel_rfl) (by kernel_rfl) (fun _ _ _ h => h) (Or.inr ⟨by rfl, rfl⟩) hHeld ?_
        simp only [Act.put, List.getElem_toArray, List.getElem_cons_succ, List.getElem_cons_zero, List.setIfInBounds_toArray, List.set_cons_zero, List.set_cons_succ]
        refine wpAnyH_take (i := 11) (v := undef) rfl (by kernel_rfl) (by kernel_rfl) (by kernel_rfl) (fun _ _ _ h => h) (Or.inr ⟨by rfl, rfl⟩) hHeld ?_
        simp only [Act.put, List.getElem_toArray, List.getElem_cons_succ, List.getElem_cons_zero, List.setIfInBounds_toArray, List.set_cons_zero, List.set_cons_succ]
        refine wpAnyH_take (i := 12) (v := undef) rfl (by kernel_rfl) (by kernel_rfl) (by kernel_rfl) (fun _ _ _ h => h) (Or.inr ⟨by rfl, rfl⟩) hHeld ?_
        simp only [Act.put, List.getElem_toArray, List.getElem_cons_succ, List.getElem_cons_zero, List.setIfInBounds_toArray, List.set_cons_zero, List.set_cons_succ]
        refine wpAnyH_take (i := 13) (v := undef) rfl (by kernel_rfl) (by kernel_rfl) (by kernel_rfl) (fun _ _ _ h => h) (Or.inr ⟨by rfl, rfl⟩) hHeld ?_
        simp only [Act.put, List.getElem_toArray, List.getElem_cons_succ, List.getElem_cons_zero, List.setIfInBounds_toArray, List.set_cons_zero, List.set_cons_succ]
        refine wpAnyH_take (i := 14) (v := undef) rfl (by kernel_rfl) (by kernel_rfl) (by kernel_rfl) (fun _ _ _ h => h) (Or.inr ⟨by rfl, rfl⟩) hHeld ?_
        simp only [Act.put, List.getElem_toArray, List.getElem_cons_succ, List.getElem_cons_zero, List.setIfInBounds_toArray, List.set_cons_zero, List.set_cons_succ]
        refine wpAnyH_take (i := 15) (v := undef) rfl (by kernel_rfl) (by kernel_rfl) (by kernel_rfl) (fun _ _ _ h => h) (Or.inr ⟨by rfl, rfl⟩) hHeld ?_
        simp only [Act.put, List.getElem_toArray, List.getElem_cons_succ, List.getElem_cons_zero, List.setIfInBounds_toArray, List.set_cons_zero, List.set_cons_succ]
        refine wpAnyH_take (i := 16) (v := undef) rfl (by kernel_rfl) (by kernel_rfl) (by kernel_rfl) (fun _ _ _ h => h) (Or.inr ⟨by rfl, rfl⟩) hHeld ?_
        simp only [Act.put, List.getElem_toArray, List.getElem_cons_succ, List.getElem_cons_zero, List.setIfInBounds_toArray, List.set_cons_zero, List.set_cons_succ]
        refine wpAnyH_take (i := 17) (v := undef) rfl (by kernel_rfl) (by kernel_rfl) (by kernel_rfl) (fun _ _ _ h => h) (Or.inr ⟨by rfl, rfl⟩) hHeld ?_
        simp only [Act.put, List.getElem_toArray, List.getElem_cons_succ, List.getElem_cons_zero, List.setIfInBounds_toArray, List.set_cons_zero, List.set_cons_succ]
        refine wpAnyH_take (i := 18) (v := undef) rfl (by kernel_rfl) (by kernel_rfl) (by kernel_rfl) (fun _ _ _ h => h) (Or.inr ⟨by rfl, rfl⟩) hHeld ?_
        simp only [Act.put, List.getElem_toArray, List.getElem_cons_succ, List.getElem_cons_zero, List.setIfInBounds_toArray, List.set_cons_zero, List.set_cons_succ]
        refine wpAnyH_take (i := 19) (v := (.bool false)) rfl (by kernel_rfl) (by kernel_rfl) (by kernel_rfl) (fun _ _ _ h => h) (Or.inl ⟨by rfl, ?_⟩) hHeld ?_
        · intro w' hSw
          clear hSw
          go_simp
          first | done | with_reducible rfl
        simp only [Act.put, List.getElem_toArray, List.getElem_cons_succ, List.getElem_cons_zero, List.setIfInBounds_toArray, List.set_cons_zero, List.set_cons_succ]
        refine wpAnyH_done (by kernel_rfl) ?_ _
        go_wp2
        go_roundw
        case rel => exact ⟨q + 1, by omega, by go_num, HLo.out.drew, HN2.out (by rw [HI.out]; rfl)⟩
        case measure => simp [intOf]; omega
      | true =>
        go_upto_region 4 with fail
        refine wp_region_held_drew (S := Hr g bl L q true u w.heap.size x) (by kernel_rfl) HU.out (fun hHeld => ?_)
        refine wpAnyH_take (i := 0) (v := ?_) rfl (by kernel_rfl) (by kernel_rfl) (by kernel_rfl) (fun _ _ _ h => h) (Or.inl ⟨by rfl, ?_⟩) hHeld ?_
        rotate_left
        · intro w' hSw
          clear hSw
          go_simp
          first | done | with_reducible rfl
        simp only [Act.put, List.getElem_toArray, List.getElem_cons_zero, List.setIfInBounds_toArray, List.set_cons_zero, List.set_cons_succ]
        refine wpAnyH_take (i := 1) (v := ?_) rfl (by kernel_rfl) (by kernel_rfl) (by kernel_rfl) (fun _ _ _ h => h) (Or.inl ⟨by rfl, ?_⟩) hHeld ?_
        rotate_left
        · intro w' hSw
          clear hSw
          go_simp
          first | done | with_reducible rfl
        simp only [Act.put, List.getElem_toArray, List.getElem_cons_succ, List.getElem_cons_zero, List.setIfInBounds_toArray, List.set_cons_zero, List.set_cons_succ]
        refine wpAnyH_take (i := 2) (v := ?_) rfl (by kernel_rfl) (by kernel_rfl) (by kernel_rfl) (fun _ _ _ h => h) (Or.inl ⟨by rfl, ?_⟩) hHeld ?_
        rotate_left
        · intro w' hSw
          clear hSw
          go_simp
          first | done | with_reducible rfl
        simp only [Act.put, List.getElem_toArray, List.getElem_cons_succ, List.getElem_cons_zero, List.setIfInBounds_toArray, List.set_cons_zero, List.set_cons_succ]
        refine wpAnyH_take (i := 3) (v := ?_) rfl (by kernel_rfl) (by kernel_rfl) (by kernel_rfl) (fun _ _ _ h => h) (Or.inl ⟨by rfl, ?_⟩) hHeld ?_
        rotate_left
        · intro w' hSw
          have c0 := hSw.c0
          clear hSw
          go_simp
          first | done | with_reducible rfl
        simp only [Act.put, List.getElem_toArray, List.getElem_cons_succ, List.getElem_cons_zero, List.setIfInBounds_toArray, List.set_cons_zero, List.set_cons_succ]
        refine wpAnyH_take (i := 4) (v := ?_) rfl (by kernel_rfl) (by kernel_rfl) (by kernel_rfl) (fun _ _ _ h => h) (Or.inl ⟨by rfl, ?_⟩) hHeld ?_
        rotate_left
        · intro w' hSw
          clear hSw
          go_simp
          first | done | with_reducible rfl
        simp only [Act.put, List.getElem_toArray, List.getElem_cons_succ, List.getElem_cons_zero, List.setIfInBounds_toArray, List.set_cons_zero, List.set_cons_succ]
        refine wpAnyH_take (i := 5) (v := ?_) rfl (by kernel_rfl) (by kernel_rfl) (by kernel_rfl) (fun _ _ _ h => h) (Or.inl ⟨by rfl, ?_⟩) hHeld ?_
        rotate_left
        · intro w' hSw
          clear hSw
          go_simp
          first | done | with_reducible rfl
        simp only [Act.put, List.getElem_toArray, List.getElem_cons_succ, List.getElem_cons_zero, List.setIfInBounds_toArray, List.set_cons_zero, List.set_cons_succ]
        refine wpAnyH_take (i := 6) (v := ?_) rfl (by kernel_rfl) (by kernel_rfl) (by kernel_rfl) (fun _ _ _ h => h) (Or.inl ⟨by rfl, ?_⟩) hHeld ?_
        rotate_left
        · intro w' hSw
          clear hSw
          go_simp
          first | done | with_reducible rfl
        simp only [Act.put, List.getElem_toArray, List.getElem_cons_succ, List.getElem_cons_zero, List.setIfInBounds_toArray, List.set_cons_zero, List.set_cons_succ]
        refine wpAnyH_take (i := 7) (v := (.bool true)) rfl (by kernel_rfl) (by kernel_rfl) (by kernel_rfl) (fun _ _ _ h => h) (Or.inl ⟨by rfl, ?_⟩) hHeld ?_
        · intro w' hSw
          have ct := hSw.ct
          clear hSw
          go_simp
          first | done | with_reducible rfl
        simp only [Act.put, List.getElem_toArray, List.getElem_cons_succ, List.getElem_cons_zero, List.setIfInBounds_toArray, List.set_cons_zero, List.set_cons_succ]
        refine wpAnyH_take (i := 8) (v := (.bool true)) rfl (by kernel_rfl) (by kernel_rfl) (by kernel_rfl) (fun _ _ _ h => h) (Or.inl ⟨by rfl, ?_⟩) hHeld ?_
        · intro w' hSw
          clear hSw
          go_simp
          first | done | with_reducible rfl
        simp only [Act.put, List.getElem_toArray, List.getElem_cons_succ, List.getElem_cons_zero, List.setIfInBounds_toArray, List.set_cons_zero, List.set_cons_succ]
        refine wpAnyH_take (i := 9) (v := ?_) rfl (by kernel_rfl) (by kernel_rfl) (by kernel_rfl) (fun _ _ _ h => h) (Or.inl ⟨by rfl, ?_⟩) hHeld ?_
        rotate_left
        · intro w' hSw
          clear hSw
          go_simp
          first | done | with_reducible rfl
        simp only [Act.put, List.getElem_toArray, List.getElem_cons_succ, List.getElem_cons_zero, List.setIfInBounds_toArray, List.set_cons_zero, List.set_cons_succ]
        refine wpAnyH_take (i := 10) (v := ?_) rfl (by kernel_rfl) (by kernel_rfl) (by kernel_rfl) (fun _ _ _ h => h) (Or.inl ⟨by rfl, ?_⟩) hHeld ?_
        rotate_left
        · intro w' hSw
          clear hSw
          go_simp
          first | done | with_reducible rfl
        simp only [Act.put, List.getElem_toArray, List.getElem_cons_succ, List.getElem_cons_zero, List.setIfInBounds_toArray, List.set_cons_zero, List.set_cons_succ]
        refine wpAnyH_take (i := 11) (v := ?_) rfl (by kernel_rfl) (by kernel_rfl) (by kernel_rfl) (fun _ _ _ h => h) (Or.inl ⟨by rfl, ?_⟩) hHeld ?_
        rotate_left
        · intro w' hSw
          clear hSw
          go_simp
          first | done | with_reducible rfl
        simp only [Act.put, List.getElem_toArray, List.getElem_cons_succ, List.getElem_cons_zero, List.setIfInBounds_toArray, List.set_cons_zero, List.set_cons_succ]
        refine wpAnyH_take (i := 12) (v := ?_) rfl (by kernel_rfl) (by kernel_rfl) (by kernel_rfl) (fun _ _ _ h => h) (Or.inl ⟨by rfl, ?_⟩) hHeld ?_
        rotate_left
        · intro w' hSw
          have c0 := hSw.c0
          clear hSw
          go_simp
          first | done | with_reducible rfl
        simp only [Act.put, List.getElem_toArray, List.getElem_cons_succ, List.getElem_cons_zero, List.setIfInBounds_toArray, List.set_cons_zero, List.set_cons_succ]
        refine wpAnyH_take (i := 13) (v := ?_) rfl (by kernel_rfl) (by kernel_rfl) (by kernel_rfl) (fun _ _ _ h => h) (Or.inl ⟨by rfl, ?_⟩) hHeld ?_
        rotate_left
        · intro w' hSw
          clear hSw
          go_simp
          first | done | with_reducible rfl
        simp only [Act.put, List.getElem_toArray, List.getElem_cons_succ, List.getElem_cons_zero, List.setIfInBounds_toArray, List.set_cons_zero, List.set_cons_succ]
        refine wpAnyH_take (i := 14) (v := ?_) rfl (by kernel_rfl) (by kernel_rfl) (by kernel_rfl) (fun _ _ _ h => h) (Or.inl ⟨by rfl, ?_⟩) hHeld ?_
        rotate_left
        · intro w' hSw
          clear hSw
          go_simp
          first | done | with_reducible rfl
        simp only [Act.put, List.getElem_toArray, List.getElem_cons_succ, List.getElem_cons_zero, List.setIfInBounds_toArray, List.set_cons_zero, List.set_cons_succ]
        refine wpAnyH_take (i := 15) (v := ?_) rfl (by kernel_rfl) (by kernel_rfl) (by kernel_rfl) (fun _ _ _ h => h) (Or.inl ⟨by rfl, ?_⟩) hHeld ?_
        rotate_left
        · intro w' hSw
          clear hSw
          go_simp
          first | done | with_reducible rfl
        simp only [Act.put, List.getElem_toArray, List.getElem_cons_succ, List.getElem_cons_zero, List.setIfInBounds_toArray, List.set_cons_zero, List.set_cons_succ]
        refine wpAnyH_take (i := 16) (v := (hv u)) rfl (by kernel_rfl) (by kernel_rfl) (by kernel_rfl) (fun _ _ _ h => h) (Or.inl ⟨by rfl, ?_⟩) hHeld ?_
        · intro w' hSw
          exact runLd 30 (.tmp 30) rfl bl (q * 15 + 1) (by simp [Act.eval]) (row 11 u) _ hSw.ru Try.underlying30 rfl (sizeH u)
        simp only [Act.put, List.getElem_toArray, List.getElem_cons_succ, List.getElem_cons_zero, List.setIfInBounds_toArray, List.set_cons_zero, List.set_cons_succ]
        refine wpAnyH_take (i := 17) (v := (hv x)) rfl (by kernel_rfl) (by kernel_rfl) (by kernel_rfl) (fun _ _ _ h => h) (Or.inl ⟨by rfl, ?_⟩) hHeld ?_
        · intro w' hSw
          exact runLd 30 (.tmp 3) rfl w.heap.size 0 rfl (row 11 x) _ hSw.rx Try.underlying30 rfl (sizeH x)
        simp only [Act.put, List.getElem_toArray, List.getElem_cons_succ, List.getElem_cons_zero, List.setIfInBounds_toArray, List.set_cons_zero, List.set_cons_succ]
        refine wpAnyH_take (i := 18) (v := (.bool (eqR 11 u x))) rfl (by kernel_rfl) (by kernel_rfl) (by kernel_rfl) (fun _ _ _ h => h) (Or.inl ⟨by rfl, ?_⟩) hHeld ?_
        · intro w' hSw
          exact runEqH (.tmp 31) (.tmp 32) rfl u x rfl rfl
        simp only [Act.put, List.getElem_toArray, List.getElem_cons_succ, List.getElem_cons_zero, List.setIfInBounds_toArray, List.set_cons_zero, List.set_cons_succ]
        refine wpAnyH_take (i := 19) (v := (.bool (eqR 11 u x))) rfl (by kernel_rfl) (by kernel_rfl) (by kernel_rfl) (fun _ _ _ h => h) (Or.inl ⟨by rfl, ?_⟩) hHeld ?_
        · intro w' hSw
          clear hSw
          go_simp
          first | done | with_reducible rfl
        simp only [Act.put, List.getElem_toArray, List.getElem_cons_succ, List.getElem_cons_zero, List.setIfInBounds_toArray, List.set_cons_zero, List.set_cons_succ]
        refine wpAnyH_done (by kernel_rfl) ?_ _
        rw [← hbe]
        clear hbe
        cases be with
        | true =>
          go_wp2
          go_ret
          refine ⟨?_, HB0.out.trans ((HLo.out.mono HB0.out.size).drew)⟩
          unfold fdI
          rw [fnd_at HO.out HNo.out (by rw [HI.out]; rfl)]
          try rfl
        | false =>
          go_wp2
          go_roundw
          case rel => exact ⟨q + 1, by omega, by go_num, HLo.out.drew, HN2.out (by rw [HI.out]; rfl)⟩
          case measure => simp [intOf]; omega
    · obtain rfl : q = L := by omega
      have hd : decide ((q : Int) < (q : Int)) = false := by simp
      go_wp2
      go_ret
      refine ⟨?_, HB0.out.trans (HLo.out.mono HB0.out.size)⟩
      unfold fdI
      rw [fnd_out (by rw [← HX.out.2.1]; exact HNo.out)]
      try rfl
end Go.Proofs.Ytpmdgockiblkaaa
