/-
  Proved here: modify of package flows: the rules under a match have other copies and another Cookie. Conditions: the widths' table holds its numbers; numbers are of their width; fewer than 2 to 31 Cookies gone.
-/
import Derived.Test.YtfbehaodhooaaaaGreatDoorKH
namespace Go.Proofs.YtfbehaodhooaaaaGreatDoor
set_option maxRecDepth 100000
open Go.RowKit Go.Maps

/-- A rule takes the place of the one of its number. -/
def upd1 (es : List Fe) (z : Fe) : List Fe := es.map fun y => if y.k = z.k then z else y
theorem upd1_len (es : List Fe) (z : Fe) : (upd1 es z).length = es.length := by simp [upd1]
theorem upd1_mem {es : List Fe} {z y : Fe} (h : y ∈ upd1 es z) : (y = z ∧ ∃ x ∈ es, x.k = z.k) ∨ (y ∈ es ∧ y.k ≠ z.k) := by
  obtain ⟨x, hx, rfl⟩ := List.mem_map.1 h
  by_cases e : x.k = z.k
  · rw [if_pos e]; exact Or.inl ⟨rfl, x, hx, e⟩
  · rw [if_neg e]; exact Or.inr ⟨hx, e⟩
theorem upd1_pair {es : List Fe} {z x : Fe} (hx : x ∈ es) (hn : es.Pairwise fun a b => a.k < b.k) (hk : z.k = x.k) {R : Fe → Fe → Prop} (h : es.Pairwise R) (h1 : ∀ b, R x b → R z b) (h2 : ∀ a, R a x → R a z) (h3 : R x x → R z z) : (upd1 es z).Pairwise R := by
  unfold upd1
  rw [List.pairwise_map]
  refine List.Pairwise.imp_of_mem ?_ h
  intro a b ha hb hab
  have ua : a.k = z.k → a = x := fun e => uniq_k hn ha hx (e.trans hk)
  have ub : b.k = z.k → b = x := fun e => uniq_k hn hb hx (e.trans hk)
  by_cases e1 : a.k = z.k
  · rw [if_pos e1]
    by_cases e2 : b.k = z.k
    · rw [if_pos e2]
      refine h3 ?_
      rw [ua e1, ub e2] at hab; exact hab
    · rw [if_neg e2]
      rw [ua e1] at hab; exact h1 b hab
  · rw [if_neg e1]
    by_cases e2 : b.k = z.k
    · rw [if_pos e2]
      rw [ub e2] at hab; exact h2 a hab
    · rw [if_neg e2]; exact hab
theorem FlO.upd {S : Nat → Prop} {o : Nat → Fg} {w w' : World} {g : Nat} {room ad : Int} {es : List Fe} {gs : List Ge} (h : FlO S o w g room ad es gs) {x z : Fe} (hx : x ∈ es) (ep : z.p = x.p) (ek : z.k = x.k) (er : z.r.rk = x.r.rk) (em : z.r.mt = x.r.mt) (hz : z.r.Fit ∧ InB z.pk ∧ InB z.bt) (hT : Tch w x.p w') (hc : w'.heap[x.p]? = some (.cells (fec z) 74 (0, 0))) (hcp : Cps (fun b => S b ∧ o b = .cop) w' z.u z.r.cp) : FlO S o w' g room ad (upd1 es z) gs := by
  obtain ⟨vm, br, bp, bg, Gr, Gp, Gg, h1, h2⟩ := h
  have hxe := h1.ent x hx
  have nep : ∀ y ∈ es, y.k ≠ x.k → y.p ≠ x.p := fun y hy e e2 => by
    obtain ⟨i, hi, rfl⟩ := List.getElem_of_mem hx
    obtain ⟨j, hj, rfl⟩ := List.getElem_of_mem hy
    rcases Nat.lt_trichotomy i j with h | h | h
    · exact List.pairwise_iff_getElem.1 h1.ne i j hi hj h e2.symm
    · subst h; exact e rfl
    · exact List.pairwise_iff_getElem.1 h1.ne j i hj hi h e2
  have cop : ∀ b, b < w.heap.size → o b = .cop → w'.heap[b]? = w.heap[b]? := fun b hb' h5 => hT.block b hb' fun e => by rw [e, hxe.t] at h5; cases h5
  have hru : (upd1 es z).map Fe.ru = es.map Fe.ru := by
    unfold upd1
    rw [List.map_map]
    refine List.map_congr_left fun y hy => ?_
    show Fe.ru (if y.k = z.k then z else y) = _
    split
    · rename_i e
      rw [uniq_k h2.num hy hx (e.trans ek)]
      simp [Fe.ru, ek, er, em]
    · rfl
  have eqz : ∀ b : Rl, eqP z.r b = eqP x.r b := fun b => by unfold eqP; rw [er, em]
  have eqz' : ∀ a : Rl, eqP a z.r = eqP a x.r := fun b => by unfold eqP; rw [er, em]
  refine ⟨vm, br, bp, bg, Gr, Gp, Gg, h1.setEnt (fun b hb' hS h5 => ⟨hS, rfl, hT.block b hb' fun e => h5 (e ▸ hxe.t)⟩) hru (fun y hy => ?_) ?_, ⟨fun l v => ?_, fun l v => ?_, h2.gg, fun y hy => ?_, h2.fig, ?_, fun y hy => ?_, ?_, h2.once, h2.ad0, h2.rm, by rw [upd1_len]; exact h2.len⟩⟩
  · rcases upd1_mem hy with ⟨rfl, -⟩ | ⟨hy', e1⟩
    · exact ⟨by rw [ep]; exact hxe.s, by rw [ep]; exact hxe.t, by rw [ep]; exact hc, hcp⟩
    · have h5 := h1.ent y hy'
      exact h5.carry fun b hb' hS h6 => ⟨hS, rfl, by
        rcases h6 with rfl | h6
        · exact hT.block _ hb' (nep y hy' (ek ▸ e1))
        · exact cop b hb' h6⟩
  · exact upd1_pair hx h2.num ek h1.ne (fun b h => by rw [ep]; exact h) (fun a h => by rw [ep]; exact h) (fun h => by rw [ep]; exact h)
  · rw [h2.gr]
    constructor
    · rintro ⟨y, hy, e1, e2⟩
      by_cases e : y.k = z.k
      · have := uniq_k h2.num hy hx (e.trans ek)
        exact ⟨z, List.mem_map.2 ⟨y, hy, if_pos e⟩, by rw [ek, ← this]; exact e1, by rw [ep, ← this]; exact e2⟩
      · exact ⟨y, List.mem_map.2 ⟨y, hy, if_neg e⟩, e1, e2⟩
    · rintro ⟨y, hy, e1, e2⟩
      rcases upd1_mem hy with ⟨rfl, -⟩ | ⟨hy', -⟩
      · exact ⟨x, hx, ek ▸ e1, ep ▸ e2⟩
      · exact ⟨y, hy', e1, e2⟩
  · rw [h2.gp]
    constructor
    · rintro ⟨y, hy, e1, e2⟩
      by_cases e : y.k = z.k
      · have := uniq_k h2.num hy hx (e.trans ek)
        exact ⟨z, List.mem_map.2 ⟨y, hy, if_pos e⟩, by rw [er, em, ← this]; exact e1, by rw [ep, ← this]; exact e2⟩
      · exact ⟨y, List.mem_map.2 ⟨y, hy, if_neg e⟩, e1, e2⟩
    · rintro ⟨y, hy, e1, e2⟩
      rcases upd1_mem hy with ⟨rfl, -⟩ | ⟨hy', -⟩
      · exact ⟨x, hx, by rw [← er, ← em]; exact e1, ep ▸ e2⟩
      · exact ⟨y, hy', e1, e2⟩
  · rcases upd1_mem hy with ⟨rfl, -⟩ | ⟨hy', -⟩
    · exact ⟨hz.1, by rw [em]; exact (h2.fit x hx).2.1, hz.2.1, hz.2.2⟩
    · exact h2.fit y hy'
  · exact upd1_pair hx h2.num ek h2.num (fun b h => by rw [ek]; exact h) (fun a h => by rw [ek]; exact h) (fun h => by rw [ek]; exact h)
  · rcases upd1_mem hy with ⟨rfl, -⟩ | ⟨hy', -⟩
    · rw [ek]; exact h2.bd x hx
    · exact h2.bd y hy'
  · exact upd1_pair hx h2.num ek h2.apart (fun b h => by rw [eqz]; exact h) (fun a h => by rw [eqz']; exact h) (fun h => by rw [eqz, eqz']; exact h)
/-- A rule with other copies and another Cookie. -/
def mdE (r : Rl) (u : Value) (x : Fe) : Fe := ⟨x.p, x.k, ⟨x.r.rk, x.r.mt, r.cp, r.ck⟩, u, if x.r.ck = r.ck then x.pk else 0, if x.r.ck = r.ck then x.bt else 0⟩
def mdL (es l : List Fe) (r : Rl) (u : Value) : List Fe := l.foldl (fun es x => upd1 es (mdE r u x)) es
def mdG (r : Rl) (G : Int → Option (Int × Int)) (x : Fe) : Int → Option (Int × Int) := if x.r.ck = r.ck then G else adG G x.r.ck x.pk x.bt
def mgL (r : Rl) (G : Int → Option (Int × Int)) (l : List Fe) : Int → Option (Int × Int) := l.foldl (mdG r) G
theorem mdL_mem {r : Rl} {u : Value} : ∀ {l es : List Fe} {x : Fe}, x ∈ es → (∀ y ∈ l, y.k ≠ x.k) → x ∈ mdL es l r u
  | [], _, _, hx, _ => hx
  | a :: l, es, x, hx, h => by
    refine mdL_mem (l := l) (es := upd1 es (mdE r u a)) (List.mem_map.2 ⟨x, hx, if_neg fun e => h a (by simp) e.symm⟩) fun y hy => h y (by simp [hy])
theorem mdL_snoc (es l : List Fe) (r : Rl) (u : Value) (x : Fe) : mdL es (l ++ [x]) r u = upd1 (mdL es l r u) (mdE r u x) := by simp [mdL, List.foldl_append]
theorem mgL_snoc (r : Rl) (G : Int → Option (Int × Int)) (l : List Fe) (x : Fe) : mgL r G (l ++ [x]) = mdG r (mgL r G l) x := by simp [mgL, List.foldl_append]
theorem fec_cell (x : Fe) (i : Nat) (hi : i < 28) : ∃ v, (fec x)[i]? = some v := ⟨_, Array.getElem?_eq_getElem (by rw [fec_size]; exact hi)⟩
theorem fec_md (x : Fe) (u : Value) (cp : List (List Ac)) (ck : Int) : ((fec x).setIfInBounds 26 u).setIfInBounds 27 (.int .u64 ck) = fec ⟨x.p, x.k, ⟨x.r.rk, x.r.mt, cp, ck⟩, u, x.pk, x.bt⟩ := by
  apply Array.ext_getElem?
  intro i
  rw [Array.getElem?_setIfInBounds, Array.size_setIfInBounds, Array.getElem?_setIfInBounds, fec_size]
  by_cases h1 : 27 = i
  · subst h1
    rw [if_pos rfl, if_pos (by omega)]
    exact (fec_ck ⟨x.p, x.k, ⟨x.r.rk, x.r.mt, cp, ck⟩, u, x.pk, x.bt⟩).symm
  · rw [if_neg h1]
    by_cases h0 : 26 = i
    · subst h0
      rw [if_pos rfl, if_pos (by omega), show 26 = 3 + 23 from rfl, fec_rl _ 23 (by omega)]
      exact (rc_cp _ _ _ _).1.symm
    · rw [if_neg h0]
      by_cases h3 : i < 3
      · have : i = 0 ∨ i = 1 ∨ i = 2 := by omega
        rcases this with rfl | rfl | rfl
        · rw [(fec_at x).1]; exact (fec_at ⟨x.p, x.k, ⟨x.r.rk, x.r.mt, cp, ck⟩, u, x.pk, x.bt⟩).1.symm
        · rw [(fec_at x).2.1]; exact (fec_at ⟨x.p, x.k, ⟨x.r.rk, x.r.mt, cp, ck⟩, u, x.pk, x.bt⟩).2.1.symm
        · rw [(fec_at x).2.2]; exact (fec_at ⟨x.p, x.k, ⟨x.r.rk, x.r.mt, cp, ck⟩, u, x.pk, x.bt⟩).2.2.symm
      · by_cases h4 : i < 28
        · obtain ⟨j, rfl⟩ : ∃ j, i = 3 + j := ⟨i - 3, by omega⟩
          rw [fec_rl _ j (by omega), fec_rl _ j (by omega)]
          show (rc x.r.rk x.r.mt x.u x.r.ck)[j]? = (rc x.r.rk x.r.mt u ck)[j]?
          unfold rc
          rw [Array.getElem?_append_left (by simp [row_size]; omega)]
          rw [show (#[Value.int .i64 x.r.rk] ++ row 22 x.r.mt ++ #[u, Value.int .u64 ck])[j]? = (#[Value.int .i64 x.r.rk] ++ row 22 x.r.mt)[j]? from Array.getElem?_append_left (by simp [row_size]; omega)]
        · rw [Array.getElem?_eq_none (by rw [fec_size]; omega), Array.getElem?_eq_none (by rw [fec_size]; omega)]
end Go.Proofs.YtfbehaodhooaaaaGreatDoor
