/-
  Proved here: the memory of a cache of package cache (CaM, Ca), and how it changes; old, Turn. Condition where it is named: the generation is below 2 to 31.
-/
import Derived.Test.YtpmdgockiblkaaaPL
namespace Go.Proofs.Ytpmdgockiblkaaa
open Go.RowKit Go.Maps

abbrev pv (g : Nat) : Value := .pointer (some ⟨g, 0, none⟩)
/-- An entry's cells. -/
def ecs (e : Et) : Array Value := row 11 e.h.f ++ #[.int .i64 e.id, .int .i64 e.gen, .bool e.mark]
theorem ecs_size (e : Et) : (ecs e).size = 14 := by simp [ecs, row_size]
theorem ecs_h (e : Et) (k : Nat) (hk : k < 11) : (ecs e)[k]? = some (.int .u64 (e.h.f k)) := by
  unfold ecs
  rw [Array.getElem?_append_left (by rw [row_size]; exact hk), row_at 11 _ k hk]
theorem ecs_id (e : Et) : (ecs e)[11]? = some (.int .i64 e.id) := by
  unfold ecs
  rw [Array.getElem?_append_right (by rw [row_size]; omega), row_size]; rfl
theorem ecs_gen (e : Et) : (ecs e)[12]? = some (.int .i64 e.gen) := by
  unfold ecs
  rw [Array.getElem?_append_right (by rw [row_size]; omega), row_size]; rfl
theorem ecs_mark (e : Et) : (ecs e)[13]? = some (.bool e.mark) := by
  unfold ecs
  rw [Array.getElem?_append_right (by rw [row_size]; omega), row_size]; rfl
theorem ecs_set (e x : Et) (j : Nat) (v : Value) (hj : (ecs x)[j]? = some v) (h : ∀ k, k < 14 → k ≠ j → (ecs e)[k]? = (ecs x)[k]?) : (ecs e).setIfInBounds j v = ecs x := by
  have hj14 : j < 14 := by rw [← ecs_size x]; exact (Array.getElem?_eq_some_iff.1 hj).1
  apply Array.ext_getElem?
  intro k
  rw [Array.getElem?_setIfInBounds, ecs_size]
  by_cases hk : k < 14
  · by_cases e : j = k
    · subst e; rw [if_pos rfl, if_pos hk, hj]
    · rw [if_neg e]; exact h k hk fun e' => e e'.symm
  · rw [if_neg (by omega), Array.getElem?_eq_none (by rw [ecs_size]; omega), Array.getElem?_eq_none (by rw [ecs_size]; omega)]
theorem ecs_cells (e x : Et) (hh : e.h = x.h) (k : Nat) (hk : k < 14) (h1 : k = 11 → e.id = x.id) (h2 : k = 12 → e.gen = x.gen) (h3 : k = 13 → e.mark = x.mark) : (ecs e)[k]? = (ecs x)[k]? := by
  by_cases hk' : k < 11
  · rw [ecs_h _ _ hk', ecs_h _ _ hk', hh]
  · rcases (by omega : k = 11 ∨ k = 12 ∨ k = 13) with rfl | rfl | rfl
    · rw [ecs_id, ecs_id, h1 rfl]
    · rw [ecs_gen, ecs_gen, h2 rfl]
    · rw [ecs_mark, ecs_mark, h3 rfl]
theorem set_mark (e : Et) (b : Bool) : (ecs e).setIfInBounds 13 (.bool b) = ecs { e with mark := b } := ecs_set e { e with mark := b } 13 _ (ecs_mark { e with mark := b }) fun k hk hne => ecs_cells e { e with mark := b } rfl k hk (fun _ => rfl) (fun _ => rfl) (fun h => absurd h hne)
theorem set_id (e : Et) (i : Int) : (ecs e).setIfInBounds 11 (.int .i64 i) = ecs { e with id := i } := ecs_set e { e with id := i } 11 _ (ecs_id { e with id := i }) fun k hk hne => ecs_cells e { e with id := i } rfl k hk (fun h => absurd h hne) (fun _ => rfl) (fun _ => rfl)
theorem set_gen (e : Et) (i : Int) : (ecs e).setIfInBounds 12 (.int .i64 i) = ecs { e with gen := i } := ecs_set e { e with gen := i } 12 _ (ecs_gen { e with gen := i }) fun k hk hne => ecs_cells e { e with gen := i } rfl k hk (fun _ => rfl) (fun h => absurd h hne) (fun _ => rfl)
theorem ecs_inj {e x : Et} (h : ecs e = ecs x) : e.h = x.h := Hdr.eq fun k hk => by
  have h1 := ecs_h e k hk
  rw [h, ecs_h x k hk] at h1
  simpa using h1.symm
/-- What stands in the list of places. -/
def ptr (q : Nat → Nat) (i : Nat) (o : Option Et) : Value := match o with | some _ => pv (q i) | none => .pointer none
/-- The cache's own cells. -/
def ccs (c : Cs) (bm bp : Nat) : Array Value := #[.int .i64 c.now, .int .i64 (c.hand : Int), .map (some bm), .slice (some ⟨bp, 0, none⟩) c.es.length c.es.length]
/-- A cache of package cache in memory: its block, its map, its list of places, its entries. -/
structure CaM (S : Nat → Prop) (w : World) (g : Nat) (c : Cs) (bm n : Nat) (G : Lit → Option Value) (bp : Nat) (cur : Array Value) (q : Nat → Nat) : Prop where
  sg : S g
  hg : w.heap[g]? = some (.cells (ccs c bm bp) 47 (0, 0))
  sm : S bm
  mp : Mp w 30 bm n G
  sp : S bp
  hp : w.heap[bp]? = some (.cells cur 51 (0, 0))
  sz : cur.size = c.es.length
  pl : ∀ i o, c.es[i]? = some o → cur[i]? = some (ptr q i o)
  en : ∀ (i : Nat) (e : Et), c.es[i]? = some (some e) → S (q i) ∧ w.heap[q i]? = some (.cells (ecs e) 55 (0, 0))
  m1 : ∀ (i : Nat) (e : Et), c.es[i]? = some (some e) → G (kl e.h.f) = some (.int .i64 (i : Int))
  m2 : ∀ h : Hdr, (∀ (i : Nat) (e : Et), c.es[i]? = some (some e) → e.h ≠ h) → G (kl h.f) = none
  cn : n = cnt c.es
theorem CaM.dis {S : Nat → Prop} {w : World} {g : Nat} {c : Cs} {bm n : Nat} {G : Lit → Option Value} {bp : Nat} {cur : Array Value} {q : Nat → Nat} (h : CaM S w g c bm n G bp cur q) : Dis c.es := by
  intro i j e e' hi hj he
  have h1 := h.m1 i e hi
  rw [he, h.m1 j e' hj] at h1
  simp at h1; omega
theorem CaM.carry {S T : Nat → Prop} {w w' : World} {g : Nat} {c : Cs} {bm n : Nat} {G : Lit → Option Value} {bp : Nat} {cur : Array Value} {q : Nat → Nat} (h : CaM S w g c bm n G bp cur q) (hc : ∀ b, b < w.heap.size → S b → T b ∧ w'.heap[b]? = w.heap[b]?) : CaM T w' g c bm n G bp cur q := by
  have h1 := hc g (Array.getElem?_eq_some_iff.1 h.hg).1 h.sg
  have h2 := hc bm h.mp.lt h.sm
  have h3 := hc bp (Array.getElem?_eq_some_iff.1 h.hp).1 h.sp
  exact ⟨h1.1, h1.2.trans h.hg, h2.1, h.mp.carry h2.2, h3.1, h3.2.trans h.hp, h.sz, h.pl, fun i e he => by
    have h4 := h.en i e he
    have h5 := hc (q i) (Array.getElem?_eq_some_iff.1 h4.2).1 h4.1
    exact ⟨h5.1, h5.2.trans h4.2⟩, h.m1, h.m2, h.cn⟩
theorem mp_obj {w : World} {K : TypeId} {b n : Nat} {G : Lit → Option Value} (h : Mp w K b n G) : ∃ es cl, w.heap[b]? = some (.map es cl) := by
  obtain ⟨D, ⟨es, cl, h1, _⟩, _⟩ := h
  exact ⟨es, cl, h1⟩
/-- The blocks are apart. -/
theorem CaM.apart {S : Nat → Prop} {w : World} {g : Nat} {c : Cs} {bm n : Nat} {G : Lit → Option Value} {bp : Nat} {cur : Array Value} {q : Nat → Nat} (h : CaM S w g c bm n G bp cur q) :
    g ≠ bm ∧ g ≠ bp ∧ bm ≠ bp ∧ (∀ (i : Nat) (e : Et), c.es[i]? = some (some e) → q i ≠ g ∧ q i ≠ bm ∧ q i ≠ bp) ∧ ∀ (i j : Nat) (e e' : Et), c.es[i]? = some (some e) → c.es[j]? = some (some e') → q i = q j → i = j := by
  obtain ⟨es, cl, hm⟩ := mp_obj h.mp
  refine ⟨fun e => ?_, fun e => ?_, fun e => ?_, fun i x hx => ⟨fun e => ?_, fun e => ?_, fun e => ?_⟩, fun i j x y hx hy e => ?_⟩
  · have := h.hg; rw [e, hm] at this; cases this
  · have := h.hg; rw [e, h.hp] at this; simp at this
  · have := h.hp; rw [← e, hm] at this; cases this
  · have := (h.en i x hx).2; rw [e, h.hg] at this; simp at this
  · have := (h.en i x hx).2; rw [e, hm] at this; cases this
  · have := (h.en i x hx).2; rw [e, h.hp] at this; simp at this
  · have h1 := (h.en i x hx).2
    rw [e, (h.en j y hy).2] at h1
    simp only [Option.some.injEq, Obj.cells.injEq, and_true] at h1
    exact h.dis i j x y hx hy (ecs_inj h1.symm)
theorem CaM.cells {S : Nat → Prop} {w : World} {g : Nat} {c : Cs} {bm n : Nat} {G : Lit → Option Value} {bp : Nat} {cur : Array Value} {q : Nat → Nat} (h : CaM S w g c bm n G bp cur q) :
    w.cell? ⟨g, 0, none⟩ = some (.int .i64 c.now) ∧ w.cell? ⟨g, 1, none⟩ = some (.int .i64 (c.hand : Int)) ∧ w.cell? ⟨g, 2, none⟩ = some (.map (some bm)) ∧ w.cell? ⟨g, 3, none⟩ = some (.slice (some ⟨bp, 0, none⟩) c.es.length c.es.length) := by
  refine ⟨?_, ?_, ?_, ?_⟩ <;> rw [cell_of_row _ _ _ _ _ _ h.hg] <;> rfl
theorem CaM.frz {S : Nat → Prop} {w : World} {g : Nat} {c : Cs} {bm n : Nat} {G : Lit → Option Value} {bp : Nat} {cur : Array Value} {q : Nat → Nat} (h : CaM S w g c bm n G bp cur q) (k : Nat) :
    w.frozen? ⟨g, k, none⟩ = false ∧ w.frozen? ⟨bp, k, none⟩ = false ∧ ∀ (i : Nat) (e : Et), c.es[i]? = some (some e) → w.frozen? ⟨q i, k, none⟩ = false := by
  refine ⟨by simp [World.frozen?, h.hg], by simp [World.frozen?, h.hp], fun i e he => by simp [World.frozen?, (h.en i e he).2]⟩
theorem CaM.place {S : Nat → Prop} {w : World} {g : Nat} {c : Cs} {bm n : Nat} {G : Lit → Option Value} {bp : Nat} {cur : Array Value} {q : Nat → Nat} (h : CaM S w g c bm n G bp cur q) {i : Nat} {o : Option Et} (ho : c.es[i]? = some o) : w.cell? ⟨bp, i, none⟩ = some (ptr q i o) := by
  rw [cell_of_row _ _ _ _ _ _ h.hp]; exact h.pl i o ho
theorem CaM.ent {S : Nat → Prop} {w : World} {g : Nat} {c : Cs} {bm n : Nat} {G : Lit → Option Value} {bp : Nat} {cur : Array Value} {q : Nat → Nat} (h : CaM S w g c bm n G bp cur q) {i : Nat} {e : Et} (he : c.es[i]? = some (some e)) :
    w.cell? ⟨q i, 11, none⟩ = some (.int .i64 e.id) ∧ w.cell? ⟨q i, 12, none⟩ = some (.int .i64 e.gen) ∧ w.cell? ⟨q i, 13, none⟩ = some (.bool e.mark) ∧ w.rangeAt (q i) 0 (row 11 e.h.f).toList := by
  have h1 := (h.en i e he).2
  refine ⟨by rw [cell_of_row _ _ _ _ _ _ h1, ecs_id], by rw [cell_of_row _ _ _ _ _ _ h1, ecs_gen], by rw [cell_of_row _ _ _ _ _ _ h1, ecs_mark], range_of fun j hj => ?_⟩
  rw [row_size] at hj
  rw [Nat.zero_add, cell_of_row _ _ _ _ _ _ h1, ecs_h _ _ hj, row_at 11 _ _ hj]
/-- The cache's own cells change. -/
theorem CaM.setOwn {S : Nat → Prop} {w : World} {g : Nat} {c : Cs} {bm n : Nat} {G : Lit → Option Value} {bp : Nat} {cur : Array Value} {q : Nat → Nat} (h : CaM S w g c bm n G bp cur q) (c' : Cs) (hes : c'.es = c.es) (j : Nat) (v : Value) (hset : (ccs c bm bp).setIfInBounds j v = ccs c' bm bp) : CaM S (w.setCell ⟨g, j, none⟩ v) g c' bm n G bp cur q := by
  obtain ⟨a1, a2, a3, a4, _⟩ := h.apart
  have oth : ∀ b, b ≠ g → (w.setCell ⟨g, j, none⟩ v).heap[b]? = w.heap[b]? := fun b hb => heap_setCell_other w ⟨g, j, none⟩ b v hb
  refine ⟨h.sg, by rw [heap_setCell_same w g j _ _ v h.hg, hset], h.sm, h.mp.carry (oth _ a1.symm), h.sp, (oth _ a2.symm).trans h.hp, by rw [hes]; exact h.sz, by rw [hes]; exact h.pl, fun i e he => ?_, by rw [hes]; exact h.m1, by rw [hes]; exact h.m2, by rw [hes]; exact h.cn⟩
  rw [hes] at he
  exact ⟨(h.en i e he).1, (oth _ (a4 i e he).1).trans (h.en i e he).2⟩
/-- An entry changes where it stands. -/
theorem CaM.setEnt {S : Nat → Prop} {w : World} {g : Nat} {c : Cs} {bm n : Nat} {G : Lit → Option Value} {bp : Nat} {cur : Array Value} {q : Nat → Nat} (h : CaM S w g c bm n G bp cur q) {i : Nat} {e : Et} (he : c.es[i]? = some (some e)) (x : Et) (hx : x.h = e.h) (j : Nat) (v : Value) (hset : (ecs e).setIfInBounds j v = ecs x) : CaM S (w.setCell ⟨q i, j, none⟩ v) g { c with es := c.es.set i (some x) } bm n G bp cur q := by
  obtain ⟨a1, a2, a3, a4, a5⟩ := h.apart
  have oth : ∀ b, b ≠ q i → (w.setCell ⟨q i, j, none⟩ v).heap[b]? = w.heap[b]? := fun b hb => heap_setCell_other w ⟨q i, j, none⟩ b v hb
  obtain ⟨b1, b2, b3⟩ := a4 i e he
  have hE := h.en i e he
  refine ⟨h.sg, ?_, h.sm, h.mp.carry (oth _ b2.symm), h.sp, (oth _ b3.symm).trans h.hp, by simpa using h.sz, fun k o hk => ?_, fun k y hk => ?_, fun k y hk => ?_, fun hh hn => ?_, ?_⟩
  · rw [oth _ b1.symm, h.hg]; simp [ccs]
  · rcases set_at hk with ⟨rfl, _, rfl⟩ | ⟨_, hk⟩
    · have := h.pl _ (some e) he
      exact this
    · exact h.pl _ _ hk
  · rcases set_at hk with ⟨rfl, _, hy⟩ | ⟨hne, hk⟩
    · cases hy
      exact ⟨hE.1, by rw [heap_setCell_same w _ j _ _ v hE.2, hset]⟩
    · have := h.en k y hk
      exact ⟨this.1, (oth _ fun e' => hne (a5 k i y e hk he e')).trans this.2⟩
  · rcases set_at hk with ⟨rfl, _, hy⟩ | ⟨_, hk⟩
    · cases hy; rw [hx]; exact h.m1 _ _ he
    · exact h.m1 _ _ hk
  · refine h.m2 hh fun k y hk => ?_
    by_cases e' : k = i
    · subst e'
      rw [he] at hk; cases hk
      rw [← hx]
      have hl : k < c.es.length := (List.getElem?_eq_some_iff.1 he).1
      exact hn k x (by rw [List.getElem?_set_self hl])
    · exact hn k y (by rw [List.getElem?_set_ne (fun e'' => e' e''.symm)]; exact hk)
  · rw [h.cn]
    have := countP_set Option.isSome c.es i (some e) (some x) he
    simp at this
    exact this.symm
/-- A cache, wherever it lies. -/
def Ca (S : Nat → Prop) (w : World) (v : Value) (c : Cs) : Prop := ∃ g bm n G bp cur q, v = pv g ∧ CaM S w g c bm n G bp cur q
theorem Ca.carry {S T : Nat → Prop} {w w' : World} {v : Value} {c : Cs} (h : Ca S w v c) (hc : ∀ b, b < w.heap.size → S b → T b ∧ w'.heap[b]? = w.heap[b]?) : Ca T w' v c := by
  obtain ⟨g, bm, n, G, bp, cur, q, h1, h2⟩ := h
  exact ⟨g, bm, n, G, bp, cur, q, h1, h2.carry hc⟩
theorem Ca.dis {S : Nat → Prop} {w : World} {v : Value} {c : Cs} (h : Ca S w v c) : Dis c.es := by
  obtain ⟨g, bm, n, G, bp, cur, q, h1, h2⟩ := h
  exact h2.dis
theorem Ca.form {S : Nat → Prop} {w : World} {v : Value} {c : Cs} (h : Ca S w v c) : ∃ g, v = pv g := by
  obtain ⟨g, bm, n, G, bp, cur, q, h1, h2⟩ := h
  exact ⟨g, h1⟩
/-- old. -/
theorem old_any (w : World) (g p : Nat) (now gen : Int) (h1 : w.cell? ⟨g, 0, none⟩ = some (.int .i64 now)) (h2 : w.cell? ⟨p, 12, none⟩ = some (.int .i64 gen)) :
    Calls Try.prog 20 #[pv g, pv p] w fun r w' => r = .returned (.bool (gen != now)) ∧ Below w.heap.size w w' := by
  have HB : Hid (Below w.heap.size w w.drew) := (Below.refl _ _).drew
  go_enter Try.func20, Try.ntmps20
  go_wp2
  go_region
  go_wp2
  go_ret
  exact ⟨rfl, HB.out⟩
theorem turn_any {S : Nat → Prop} (w : World) (v : Value) (c : Cs) (h : Ca S w v c) (hn : 0 ≤ c.now ∧ c.now < 2147483648) :
    Calls Try.prog 15 #[v] w fun r w' => r = .returned (.tuple #[]) ∧ Only S w w' ∧ Ca S w' v (turnS c) := by
  obtain ⟨g, bm, n, G, bp, cur, q, rfl, hM⟩ := h
  obtain ⟨c0, -, -, -⟩ := hM.cells
  have hz := (hM.frz 0).1
  have hw1 : IntKind.i64.wrap (c.now + 1) = c.now + 1 := by rw [IntKind.wrap_i64]; omega
  have HM := hid hM
  clear hM
  go_enter Try.func15, Try.ntmps15
  go_wp2
  first | go_end0 | refine bodyPost_ret (results_none rfl _ _ _) rfl ?_
  exact ⟨rfl, (Only.refl S w).setCell HM.out.sg _, g, bm, n, G, bp, cur, q, rfl, HM.out.setOwn (turnS c) rfl 0 _ rfl⟩
end Go.Proofs.Ytpmdgockiblkaaa
