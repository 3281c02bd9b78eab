/-
  Proved here: a thing of k cells is appended to a row that the call owns; lists that grow. Condition: the row has fewer than 2 to 31.
-/
/-
  Proved here: what the cursor's methods do, more, up, frame, action do: they read what the plain reading tells, or panic with ErrMessage. Conditions: the bytes lie in blocks of T, the cursor's is none of them.
-/
/-
  Proved here: the cursor's method action reads an action, or panics with ErrMessage. Conditions: the bytes lie in blocks of T, the cursor's is none of them.
-/
import Derived.Test.YtllbbbfkdgjffaaGreatDoorR1
import Derived.Test.YtllbbbfkdgjffaaGreatDoorW6
import Derived.Test.YtllbbbfkdgjffaaGreatDoorBL
namespace Go.Proofs.YtllbbbfkdgjffaaGreatDoor
open Go.RowKit

/-- One thing of size cells is appended to an owned row. -/
theorem run_appG (t ty e : TypeId) (i : TypeInfo) (z : Value) (size bytes : Nat) (ht : Tryz.prog.underlying t = some (.slice e)) (hi : Tryz.prog.info? e = some i) (hz : i.zero = some z) (hsize : i.size = size) (hby : i.bytes = bytes) (hzs : z.cells.size = size) (hsz : 0 < size)
    {base n b : Nat} {w : World} {v : Value} {xs news : List Value} (hown : w.ownsRow base e size v n xs) (hl : news.length = size) (hnews : ∀ j u, news[j]? = some u → w.cell? ⟨b, j, none⟩ = some u) (h1 : ∀ u ∈ news, u.oneCell' = true) (hbase : base ≤ w.heap.size) (hn : n < 2147483648) (hb : bytes ≤ 1000) :
    ∃ v' w', (Builtin.append_ #[t, t] ty #[v, .slice (some ⟨b, 0, none⟩) 1 1]).run Tryz.prog w = .ok v' w' ∧ w'.ownsRow base e size v' (n + 1) (xs ++ news) ∧ w.grownBy w' v.ownBlock ∧ ∀ k, v'.ownBlock = some k → k < w.heap.size → v.ownBlock = some k := by
  have hnews' : ∀ j u, news[j]? = some u → w.cell? (Addr.add ⟨b, 0, none⟩ j) = some u := fun j u h => by rw [Addr.add_lit, Nat.zero_add]; exact hnews j u h
  have hby2 : (n + 1) * bytes ≤ 140737488355328 := by
    have : (n + 1) * bytes ≤ 2147483648 * 1000 := Nat.mul_le_mul (by omega) hb
    omega
  rcases hown.2 with ⟨rfl, h0⟩ | ⟨g, cap, cur, rfl, hbg, hg, hcap, hmax, hcs, htake⟩
  · obtain ⟨v', w', hr, h2, h3, _⟩ := run_append_own (P := Tryz.prog) w w.heap.size t ty e i z size bytes ht hi hz hsize hby hzs hsz nilS 0 [] (World.ownsRow_nil _ _ _ _) ⟨b, 0, none⟩ 1 1 news (by omega) hnews' h1 (by unfold maxLen; omega) (by omega) (Nat.le_refl _)
    have hx : xs = [] := by
      have := hown.1
      rw [h0] at this
      exact List.length_eq_zero_iff.1 (by simpa using this)
    subst hx
    subst h0
    refine ⟨v', w', hr, ?_, h3, fun k hk hlt => ?_⟩
    · refine ⟨h2.1, ?_⟩
      rcases h2.2 with h | ⟨g', cap', cur', rfl, hb', r⟩
      · exact Or.inl h
      · exact Or.inr ⟨g', cap', cur', rfl, by omega, r⟩
    · exact absurd (h2.lt k hk).1 (by omega)
  · by_cases hroom : n + 1 ≤ cap
    · obtain ⟨w', hr, h2, h3⟩ := run_append_fits (P := Tryz.prog) w base t ty e i size ht hi hsize g n cap _ hown ⟨b, 0, none⟩ 1 1 news (by omega) hnews' h1 hroom
      exact ⟨_, w', hr, h2, h3, fun k hk _ => hk⟩
    · obtain ⟨v', w', hr, h2, h3⟩ := run_append_arg_grows (P := Tryz.prog) w t ty e i z size bytes ht hi hz hsize hby hzs hsz ⟨g, 0, none⟩ n cap xs hown.1 (hown.cells rfl) ⟨b, 0, none⟩ 1 1 news (by omega) hnews' (by omega) (by unfold maxLen; omega) hby2
      refine ⟨v', w', hr, ?_, ⟨h3.os, h3.tape, h3.output, h3.size, fun k hk _ => h3.block k hk (by simp)⟩, fun k hk hlt => absurd (h2.lt k hk).1 (by omega)⟩
      refine ⟨h2.1, ?_⟩
      rcases h2.2 with h' | ⟨g', cap', cur', e', hb', r⟩
      · exact Or.inl h'
      · exact Or.inr ⟨g', cap', cur', e', by omega, r⟩
/-- The same, in a walk. -/
theorem appG {ops : Array Oper} {rest : List Oper} {o : Oper} {a : Act} {w : World} {Q : Exit → Act → World → Prop} (t e : TypeId) (s x : Operand) (ho : o.op = .call { callee := .builtin .append, args := #[s, x], argTypes := #[t, t] }) (hw : Region.wanted o (yielded ops a.tmps) = true)
    (i : TypeInfo) (z : Value) (size bytes : Nat) (ht : Tryz.prog.underlying t = some (.slice e)) (hi : Tryz.prog.info? e = some i) (hz : i.zero = some z) (hsize : i.size = size) (hby : i.bytes = bytes) (hzs : z.cells.size = size) (hsz : 0 < size)
    {base n b : Nat} {v : Value} {xs news : List Value} (hs : a.eval s = v) (hx : a.eval x = .slice (some ⟨b, 0, none⟩) 1 1) (hown : w.ownsRow base e size v n xs) (hl : news.length = size) (hnews : ∀ j u, news[j]? = some u → w.cell? ⟨b, j, none⟩ = some u) (h1 : ∀ u ∈ news, u.oneCell' = true) (hbase : base ≤ w.heap.size) (hn : n < 2147483648) (hb : bytes ≤ 1000)
    (h : ∀ v' w', w'.ownsRow base e size v' (n + 1) (xs ++ news) → w.grownBy w' v.ownBlock → (∀ k, v'.ownBlock = some k → k < w.heap.size → v.ownBlock = some k) → wpList Tryz.prog ops Q rest (a.put o.dst v') w') : wpList Tryz.prog ops Q (o :: rest) a w := by
  obtain ⟨v', w', hr, g1, g2, g3⟩ := run_appG t o.type e i z size bytes ht hi hz hsize hby hzs hsz hown hl hnews h1 hbase hn hb
  unfold wpList
  rw [if_pos hw]
  refine Or.inl ?_
  unfold Oper.wp execOp
  simp only [ho, resolve, invoke, builtin, Sem.run_bind, Sem.run_pure, Result.andThen_ok, List.map_toArray, List.map_cons, List.map_nil, hs, hx, hr]
  exact h v' w' g1 g2 g3

section
variable {α : Type}
/-- A list of things of k cells that the call owns, and may append to. -/
def Apl (base : Nat) (e : TypeId) (k : Nat) (R : World → (Nat → Option Value) → α → Prop) (w : World) (v : Value) (l : List α) : Prop :=
  ∃ vs : List Value, w.ownsRow base e k v l.length vs ∧ ∀ j (hj : j < l.length), R w (fun i => vs[j * k + i]?) l[j]
/-- The own blocks' others. -/
abbrev TI (base : Nat) (w : World) (v : Value) : Nat → Prop := fun x => (base ≤ x ∧ x < w.heap.size) ∧ v.ownBlock ≠ some x
theorem Apl.nil (base : Nat) (e : TypeId) (k : Nat) (R : World → (Nat → Option Value) → α → Prop) (w : World) : Apl base e k R w nilS ([] : List α) := ⟨[], World.ownsRow_nil _ _ _ _, fun j hj => by simp at hj⟩
/-- The world goes on, the list's own block stays. -/
theorem Apl.on {base : Nat} {e : TypeId} {k : Nat} {R R' : World → (Nat → Option Value) → α → Prop} {w w' : World} {v : Value} {l : List α} (h : Apl base e k R w v l) (hk : ∀ b, v.ownBlock = some b → w'.heap[b]? = w.heap[b]?) (hR : ∀ f x, R w f x → R' w' f x) : Apl base e k R' w' v l := by
  obtain ⟨vs, h1, h2⟩ := h
  refine ⟨vs, ⟨h1.1, ?_⟩, fun j hj => hR _ _ (h2 j hj)⟩
  rcases h1.2 with h | ⟨g, cap, cur, e1, hb, hg, hr⟩
  · exact Or.inl h
  · refine Or.inr ⟨g, cap, cur, e1, hb, ?_, hr⟩
    rw [hk g (by rw [e1]; rfl)]; exact hg
/-- A thing was appended. -/
theorem Apl.push {base : Nat} {e : TypeId} {k : Nat} {R : World → (Nat → Option Value) → α → Prop} {w : World} {v : Value} {l : List α} {vs news : List Value} {x : α} (hown : w.ownsRow base e k v (l.length + 1) (vs ++ news)) (hvs : vs.length = l.length * k) (_hnl : news.length = k) (hold : ∀ j (hj : j < l.length), R w (fun i => vs[j * k + i]?) l[j]) (hnew : R w (fun i => news[i]?) x)
    (hcg : ∀ f f' y, (∀ i, i < k → f i = f' i) → R w f y → R w f' y) : Apl base e k R w v (l ++ [x]) := by
  refine ⟨vs ++ news, by rw [List.length_append]; exact hown, fun j hj => ?_⟩
  rw [List.length_append, List.length_singleton] at hj
  by_cases hlt : j < l.length
  · rw [List.getElem_append_left hlt]
    refine hcg _ _ _ (fun i hi => ?_) (hold j hlt)
    have : j * k + i < vs.length := by
      rw [hvs]
      have : (j + 1) * k ≤ l.length * k := Nat.mul_le_mul_right k hlt
      rw [Nat.add_mul] at this; omega
    rw [List.getElem?_append_left this]
  · have hjl : j = l.length := by omega
    subst hjl
    rw [List.getElem_append_right (Nat.le_refl _)]
    simp only [Nat.sub_self, List.getElem_cons_zero]
    refine hcg _ _ _ (fun i hi => ?_) hnew
    rw [List.getElem?_append_right (by rw [hvs]; omega), hvs]
    congr 1
    omega
/-- It may be read. -/
theorem Apl.lst {base : Nat} {e : TypeId} {k : Nat} {R R' : World → (Nat → Option Value) → α → Prop} {T : Nat → Prop} {w : World} {v : Value} {l : List α} (h : Apl base e k R w v l) (hl : l.length ≤ 140737488355328) (hT : ∀ b, base ≤ b → b < w.heap.size → T b) (hcg : ∀ f f' y, (∀ i, i < k → f i = f' i) → R w f y → R' w f' y) : Lst T k R' w v l := by
  obtain ⟨vs, h1, h2⟩ := h
  have hcs : ∀ g n c, v = .slice (some ⟨g, 0, none⟩) n c → ∀ j u, vs[j]? = some u → w.cell? ⟨g, j, none⟩ = some u := fun g n c hv j u hu => by
    have := h1.cells (show v.ownBlock = some g by rw [hv]; rfl) j u hu
    rw [Addr.add_lit, Nat.zero_add] at this
    exact this
  have hlen := h1.1
  rcases h1.2 with ⟨rfl, h0⟩ | ⟨g, cap, cur, rfl, hb, hg, hc, hm, hsz, ht⟩
  · have : l = [] := List.length_eq_zero_iff.1 h0
    subst this
    exact Lst.nil _ _ _ _
  · refine ⟨_, cap, rfl, hc, hl, (fun h => by cases h), fun _ => ⟨g, 0, hT g hb (Array.getElem?_eq_some_iff.1 hg).1, rfl, fun j hj => ?_⟩⟩
    refine hcg _ _ _ (fun i hi => ?_) (h2 j hj)
    have hlt : j * k + i < vs.length := by
      rw [hlen]
      have : (j + 1) * k ≤ l.length * k := Nat.mul_le_mul_right k hj
      rw [Nat.add_mul] at this; omega
    rw [Nat.zero_add, hcs g _ _ rfl (j * k + i) _ (List.getElem?_eq_getElem hlt), List.getElem?_eq_getElem hlt]
end
theorem map_app {α : Type} {o : Option (List α × List Int)} {ms : List α} {x : α} : (o.map fun q => (x :: q.1, q.2)).map (fun q => (ms ++ q.1, q.2)) = o.map fun q => ((ms ++ [x]) ++ q.1, q.2) := by
  cases o <;> simp
end Go.Proofs.YtllbbbfkdgjffaaGreatDoor
namespace Go.Proofs.YtllbbbfkdgjffaaGreatDoor
open Go.RowKit

/-- A cursor, and what is besides. -/
structure Rc (T : Nat → Prop) (w : World) (c : Nat) (bs : List Int) : Prop where
  cur : Cur T w c bs
  out : ¬ T c
  tab : Tab w
  two : 2 ≤ c
  old : ∀ x, T x → x < w.heap.size
theorem Rc.on {T : Nat → Prop} {w w' : World} {c : Nat} {bs r : List Int} (h : Rc T w c bs) (ho : Only (fun x => x = c ∨ w.heap.size ≤ x) w w') (hc : Cur T w' c r) : Rc T w' c r := by
  have hp := h.tab.pos
  have hw := h.two
  refine ⟨hc, h.out, h.tab.of (ho.block 0 (by rintro (e | e) <;> omega)) (ho.block 1 (by rintro (e | e) <;> omega)), h.two, fun x hx => Nat.lt_of_lt_of_le (h.old x hx) ho.size⟩
/-- New memory ahead of a reading. -/
theorem Rc.new {T : Nat → Prop} {w w' : World} {c : Nat} {bs : List Int} (h : Rc T w c bs) (hb : Below w.heap.size w w') : Rc T w' c bs :=
  ⟨h.cur.carry (hb.block c h.cur.lt) fun k hk hT => ⟨hT, hb.block k hk⟩, h.out, h.tab.on hb, h.two, fun x hx => Nat.lt_of_lt_of_le (h.old x hx) hb.size⟩
/-- Some blocks from a on are left alone: what a call leaves that was made in a world with more memory. -/
theorem only_new {c : Nat} {w W w' : World} (hb : Below w.heap.size w W) (ho : Only (fun x => x = c ∨ W.heap.size ≤ x) W w') : Only (fun x => x = c ∨ w.heap.size ≤ x) w w' :=
  (Only.of hb fun _ hk => Or.inr hk).trans (ho.mono fun x hx => by rcases hx with h | h; exact Or.inl h; exact Or.inr (Nat.le_trans hb.size h))

def rdDo (bs : List Int) : Option (Int × List Int) := (tk 1 bs).bind fun x => kp true (okDo (i8 x.1)) (i8 x.1, x.2)
def rdMo (bs : List Int) : Option (Int × List Int) := (tk 2 bs).bind fun x => kp true (okMo x.1) (x.1, x.2)
def rdUp (bs : List Int) : Option (Bool × List Int) := (tk 1 bs).bind fun x => if x.1 ≤ 1 then some (decide (x.1 = 1), x.2) else none
def VB : Nat → World → Value → Bool → Prop := fun _ _ v x => v = .bool x
theorem kp_no {α : Type} {x : α} : kp true false x = none := by simp [kp]

section
variable {T : Nat → Prop} {c : Nat} {bs : List Int} {w : World}
theorem cdo_any (h : Rc T w c bs) : Calls Tryz.prog 65 #[ptr c] w (RdP T c (rdDo bs) (VN .i8) w) := by
  have HN := hid (csmall_any c bs w h.cur h.out)
  have hB := h.cur.isB
  unfold rdDo
  unfold rdI8 at HN
  cases ht : tk 1 bs with
  | none =>
    rw [ht] at HN
    clear h hB ht
    go_enter Tryz.func65, Tryz.ntmps65
    go_wp2_with (go_at_call 41; refine (HN.out).mono ?_; intro e w1 h9; obtain ⟨rfl, hq⟩ := RdP.bad h9; have H1 := hid hq; clear hq h9)
    exact ⟨rfl, RdP.no H1.out rfl⟩
  | some p =>
    obtain ⟨n, r⟩ := p
    rw [ht] at HN
    have hb := tk_bd hB ht
    rw [pw1] at hb
    have hi := i8_bd hb.1 hb.2
    simp only [Option.bind_some]
    simp only [Option.map_some] at HN
    clear h hB ht hb
    generalize i8 n = x at HN hi ⊢
    obtain ⟨i0, i1, -⟩ := hi
    have HD := hid (fun w => isDo_any x w i0 i1)
    cases ho : okDo x with
    | false =>
      rw [ho] at HD
      go_enter Tryz.func65, Tryz.ntmps65
      go_wp2_with (first
        | (go_at_call 41; refine (HN.out).mono ?_; intro e w1 h9; obtain ⟨v, rfl, h1, h2, rfl⟩ := RdP.get h9; have H1 := hid (And.intro h1 h2); clear h1 h2 h9)
        | (go_at_call 98; refine (HD.out _).mono ?_; rintro e w' ⟨rfl, hw⟩; rw [hw]; clear hw w')
        | (go_at_call 30; refine (must_false _).mono ?_; rintro e w' ⟨rfl, hw⟩; rw [hw]; clear hw w'))
      exact ⟨rfl, RdP.no H1.out.1 kp_no⟩
    | true =>
      rw [ho] at HD
      go_enter Tryz.func65, Tryz.ntmps65
      go_wp2_with (first
        | (go_at_call 41; refine (HN.out).mono ?_; intro e w1 h9; obtain ⟨v, rfl, h1, h2, rfl⟩ := RdP.get h9; have H1 := hid (And.intro h1 h2); clear h1 h2 h9)
        | (go_at_call 98; refine (HD.out _).mono ?_; rintro e w' ⟨rfl, hw⟩; rw [hw]; clear hw w')
        | (go_at_call 30; refine (must_true _).mono ?_; rintro e w' ⟨rfl, hw⟩; rw [hw]; clear hw w'))
      go_ret
      exact RdP.yes H1.out.1 kp_true H1.out.2 rfl
theorem cmore_any (h : Rc T w c bs) : Calls Tryz.prog 73 #[ptr c] w (RdP T c (rdMo bs) (VN .u16) w) := by
  have HN := hid (cshort_any c bs w h.cur h.out)
  have hB := h.cur.isB
  unfold rdMo
  cases ht : tk 2 bs with
  | none =>
    rw [ht] at HN
    clear h hB ht
    go_enter Tryz.func73, Tryz.ntmps73
    go_wp2_with (go_at_call 56; refine (HN.out).mono ?_; intro e w1 h9; obtain ⟨rfl, hq⟩ := RdP.bad h9; have H1 := hid hq; clear hq h9)
    exact ⟨rfl, RdP.no H1.out rfl⟩
  | some p =>
    obtain ⟨n, r⟩ := p
    rw [ht] at HN
    have hb := tk_bd hB ht
    rw [pw2] at hb
    obtain ⟨n0, n1⟩ := hb
    simp only [Option.bind_some]
    clear h hB ht
    cases ho : okMo n with
    | false =>
      have d : decide (n ≤ 1) = false := ho
      clear ho
      go_enter Tryz.func73, Tryz.ntmps73
      go_wp2_with (first
        | (go_at_call 56; refine (HN.out).mono ?_; intro e w1 h9; obtain ⟨v, rfl, h1, h2, rfl⟩ := RdP.get h9; have H1 := hid (And.intro h1 h2); clear h1 h2 h9)
        | (go_at_call 30; refine (must_false _).mono ?_; rintro e w' ⟨rfl, hw⟩; rw [hw]; clear hw w'))
      exact ⟨rfl, RdP.no H1.out.1 kp_no⟩
    | true =>
      have d : n ≤ 1 := of_decide_eq_true ho
      clear ho
      go_enter Tryz.func73, Tryz.ntmps73
      go_wp2_with (first
        | (go_at_call 56; refine (HN.out).mono ?_; intro e w1 h9; obtain ⟨v, rfl, h1, h2, rfl⟩ := RdP.get h9; have H1 := hid (And.intro h1 h2); clear h1 h2 h9)
        | (go_at_call 30; refine (must_true _).mono ?_; rintro e w' ⟨rfl, hw⟩; rw [hw]; clear hw w'))
      go_ret
      exact RdP.yes H1.out.1 kp_true H1.out.2 rfl
theorem cup_any (h : Rc T w c bs) : Calls Tryz.prog 85 #[ptr c] w (RdP T c (rdUp bs) VB w) := by
  have HN := hid (cnumber_any c 1 bs w h.cur h.out (by omega) (by omega))
  have hB := h.cur.isB
  unfold rdUp
  cases ht : tk 1 bs with
  | none =>
    rw [ht] at HN
    clear h hB ht
    go_enter Tryz.func85, Tryz.ntmps85
    go_wp2_with (go_at_call 40; refine (HN.out).mono ?_; intro e w1 h9; obtain ⟨rfl, hq⟩ := RdP.bad h9; have H1 := hid hq; clear hq h9)
    exact ⟨rfl, RdP.no H1.out rfl⟩
  | some p =>
    obtain ⟨n, r⟩ := p
    rw [ht] at HN
    have hb := tk_bd hB ht
    obtain ⟨n0, n1⟩ := hb
    simp only [Option.bind_some]
    clear h hB ht n1
    by_cases ho : n ≤ 1
    · rw [if_pos ho]
      have HQ : Hid ((n == 1) = decide (n = 1)) := rfl
      generalize decide (n = 1) = q at HQ ⊢
      have hq := HQ.out
      clear HQ
      go_enter Tryz.func85, Tryz.ntmps85
      go_wp2_with (first
        | (go_at_call 40; refine (HN.out).mono ?_; intro e w1 h9; obtain ⟨v, rfl, h1, h2, rfl⟩ := RdP.get h9; have H1 := hid (And.intro h1 h2); clear h1 h2 h9)
        | (go_at_call 30; refine (must_true _).mono ?_; rintro e w' ⟨rfl, hw⟩; rw [hw]; clear hw w'))
      go_ret
      exact RdP.yes H1.out.1 rfl H1.out.2 rfl
    · rw [if_neg ho]
      have d : decide (n ≤ 1) = false := by simpa using ho
      clear ho
      go_enter Tryz.func85, Tryz.ntmps85
      go_wp2_with (first
        | (go_at_call 40; refine (HN.out).mono ?_; intro e w1 h9; obtain ⟨v, rfl, h1, h2, rfl⟩ := RdP.get h9; have H1 := hid (And.intro h1 h2); clear h1 h2 h9)
        | (go_at_call 30; refine (must_false _).mono ?_; rintro e w' ⟨rfl, hw⟩; rw [hw]; clear hw w'))
      exact ⟨rfl, RdP.no H1.out.1 rfl⟩
/-- Bytes in new memory. -/
def VF : Nat → World → Value → List Int → Prop := fun n w v x => SlC (fun k => n ≤ k ∧ k < w.heap.size) w v x
set_option maxHeartbeats 800000 in
theorem cframe_any (h : Rc T w c bs) : Calls Tryz.prog 77 #[ptr c] w (RdP T c (rdBy bs) VF w) := by
  have HN := hid (ccount_any c bs w h.cur h.out)
  have hB := h.cur.isB
  have HR := hid h
  unfold rdBy
  cases ht : tk 2 bs with
  | none =>
    rw [ht] at HN
    clear h hB ht
    go_enter Tryz.func77, Tryz.ntmps77
    go_wp2_with (go_at_call 39; refine (HN.out).mono ?_; intro e w1 h9; obtain ⟨rfl, hq⟩ := RdP.bad h9; have H1 := hid hq; clear hq h9)
    exact ⟨rfl, RdP.no H1.out rfl⟩
  | some p =>
    obtain ⟨n, r⟩ := p
    rw [ht] at HN
    have hb := tk_bd hB ht
    rw [pw2] at hb
    obtain ⟨n0, n1⟩ := hb
    simp only [Option.bind_some]
    clear hB ht
    obtain ⟨k, rfl⟩ := Int.eq_ofNat_of_zero_le n0
    simp only [Int.toNat_natCast]
    by_cases hk : k ≤ r.length
    · rw [if_pos hk]
      have HB : Hid (∀ w1, Cur T w1 c r → Calls Tryz.prog 51 #[ptr c, .int .i64 k] w1 fun e w' => ∃ a2 k2, e = .returned (.slice a2 k k2) ∧ Only (fun x => x = c) w1 w' ∧ SlC T w' (.slice a2 k k2) (r.take k) ∧ Cur T w' c (r.drop k)) := fun w1 hc => (cbytes_yes c k r w1 hc HR.out.out hk).mono fun e w' ⟨v, h1, h2, h3, h4⟩ => by
        obtain ⟨a2, k2, e2, -⟩ := id h3
        rw [List.length_take, Nat.min_eq_left hk] at e2
        subst e2
        exact ⟨a2, k2, h1, h2, h3, h4⟩
      clear h
      go_enter Tryz.func77, Tryz.ntmps77
      go_wp2_with (first
        | (at_builtin; refine app22 (xs := []) (zs := r.take k) (.const nilS) (.tmp 6) rfl rfl rfl rfl HOw.out H2.out.2.1.sl (Nat.le_refl _) (by rw [List.length_nil, List.length_take]; omega) ?_
           intro v3 w3 X3
           have HX := hid X3
           clear X3)
        | (go_at_call 51; refine (HB.out _ H1.out.2).mono ?_; rintro e w2 ⟨a2, k2, rfl, hq⟩; have H2 := hid hq; have HOw : Hid (Owns w2.heap.size w2 nilS []) := Owns.isNil; clear hq)
        | (go_at_call 39; refine (HN.out).mono ?_; intro e w1 h9; obtain ⟨v, rfl, h1, h2, rfl⟩ := RdP.get h9; have H1 := hid (And.intro h1 h2); clear h1 h2 h9))
      go_ret
      have hX := HX.out
      have hbl := hX.belowNil
      have hown := hX.own
      rw [List.nil_append] at hown
      have hlt := H2.out.2.2.lt
      have ho : Only (fun x => x = c ∨ w.heap.size ≤ x) w w2 := H1.out.1.trans (H2.out.1.mono fun _ h => Or.inl h)
      refine RdP.yes (ho.trans (Only.of hbl fun x hx => Or.inr (Nat.le_trans ho.size hx))) rfl (H2.out.2.2.carry (hbl.block c hlt) fun x hx hT => ⟨hT, hbl.block x hx⟩) ?_
      exact SlC.own hown (by rw [List.length_take]; omega) H2.out.2.1.isB (fun x h1 h2 => ⟨Nat.le_trans ho.size h1, h2⟩)
    · rw [if_neg hk]
      have HB : Hid (∀ w1, Cur T w1 c r → Calls Tryz.prog 51 #[ptr c, .int .i64 k] w1 fun e w' => e = .panicked PC ∧ w' = w1) := fun w1 hc => cbytes_no c k r w1 hc (by omega)
      clear h
      go_enter Tryz.func77, Tryz.ntmps77
      go_wp2_with (first
        | (go_at_call 51; refine (HB.out _ H1.out.2).mono ?_; rintro e w2 ⟨rfl, hw⟩; rw [hw]; clear hw w2)
        | (go_at_call 39; refine (HN.out).mono ?_; intro e w1 h9; obtain ⟨v, rfl, h1, h2, rfl⟩ := RdP.get h9; have H1 := hid (And.intro h1 h2); clear h1 h2 h9))
      exact ⟨rfl, RdP.no H1.out.1 rfl⟩
end
end Go.Proofs.YtllbbbfkdgjffaaGreatDoor
namespace Go.Proofs.YtllbbbfkdgjffaaGreatDoor
open Go.RowKit

def VA : Nat → World → Value → Ac → Prop := fun _ _ v x => v = av x ∧ x.Fit
abbrev z93 : Array Value := #[.int .i8 0, .int .i8 0, .int .u64 0]
theorem two_new (w : World) (x y : Obj) : ∃ W, Hid (W = (w.alloc x).alloc y) ∧ Below w.heap.size w W ∧ W.heap.size = w.heap.size + 2 ∧ W.heap[w.heap.size]? = some x ∧ W.heap[w.heap.size + 1]? = some y := by
  refine ⟨_, rfl, ((Below.refl _ _).alloc (Nat.le_refl _) _).alloc (by simp) _, by simp, ?_, ?_⟩
  · rw [heap_alloc_old _ _ (by simp)]; exact heap_alloc_new _ _
  · have := heap_alloc_new (w.alloc x) y
    simpa using this
theorem three_free {w : World} {g : Nat} {x y z : Value} {t : TypeId} (h : w.heap[g]? = some (.cells #[x, y, z] t (0, 0))) (o : Nat) : w.frozen? ⟨g, o, none⟩ = false := by simp [World.frozen?, h]
theorem three_set0 {w : World} {g : Nat} {x y z u : Value} {t : TypeId} (h : w.heap[g]? = some (.cells #[x, y, z] t (0, 0))) : (w.setCell ⟨g, 0, none⟩ u).heap[g]? = some (.cells #[u, y, z] t (0, 0)) := by
  rw [heap_setCell_same w g 0 _ t _ h]; rfl
theorem three_set1 {w : World} {g : Nat} {x y z u : Value} {t : TypeId} (h : w.heap[g]? = some (.cells #[x, y, z] t (0, 0))) : (w.setCell ⟨g, 1, none⟩ u).heap[g]? = some (.cells #[x, u, z] t (0, 0)) := by
  rw [heap_setCell_same w g 1 _ t _ h]; rfl
theorem three_set2 {w : World} {g : Nat} {x y z u : Value} {t : TypeId} (h : w.heap[g]? = some (.cells #[x, y, z] t (0, 0))) : (w.setCell ⟨g, 2, none⟩ u).heap[g]? = some (.cells #[x, y, u] t (0, 0)) := by
  rw [heap_setCell_same w g 2 _ t _ h]; rfl
/-- A cursor stays, a new block is written. -/
theorem Rc.set {T : Nat → Prop} {w : World} {c g o : Nat} {bs : List Int} {v : Value} (h : Rc T w c bs) (hg : g ≠ c) (hT : ¬ T g) (h2 : 2 ≤ g) : Rc T (w.setCell ⟨g, o, none⟩ v) c bs := by
  have hk : ∀ k, k ≠ g → (w.setCell ⟨g, o, none⟩ v).heap[k]? = w.heap[k]? := fun k hk => heap_setCell_other w ⟨g, o, none⟩ k v hk
  have hb : Below 0 w (w.setCell ⟨g, o, none⟩ v) := (Below.refl 0 w).setCell (p := ⟨g, o, none⟩) (Nat.zero_le _) v
  exact ⟨h.cur.carry (hk c (fun e => hg e.symm)) fun k _ hx => ⟨hx, hk k (fun e => hT (e ▸ hx))⟩, h.out, h.tab.of (hk 0 (by omega)) (hk 1 (by omega)), h.two, fun x hx => Nat.lt_of_lt_of_le (h.old x hx) hb.size⟩
theorem resAct (tmps : Array Value) (w : World) (g : Nat) (cs : Array Value) (hp : tmps.getD 2 undef = ptr g) (hg : w.heap[g]? = some (.cells cs 93 (0, 0))) (hs : (Tryz.prog.info? 93).map (·.size) = some cs.size) : (results Tryz.f126 tmps).run Tryz.prog w = .ok (.agg cs) w := by
  have hp' : tmps[2]?.getD undef = ptr g := by simpa using hp
  simp [results, Tryz.results126, hp', asAddr, run_loadVar_row w g 93 93 _ (0, 0) _ hg Tryz.underlying93 rfl hs]

/-- A reading, then a store into a block of one's own. -/
theorem rd_set {T : Nat → Prop} {c n g o : Nat} {v : Value} {w W w1 : World} {bs r : List Int} (h : Rc T W c bs) (hO : Only (fun x => x = c ∨ n ≤ x) w W) (hn : n ≤ W.heap.size) (hg : n ≤ g) (hT : ∀ x, T x → x < n) (hc : c < n) (h2 : 2 ≤ n) (ho : Only (fun x => x = c ∨ W.heap.size ≤ x) W w1) (hc1 : Cur T w1 c r) :
    Rc T (w1.setCell ⟨g, o, none⟩ v) c r ∧ Only (fun x => x = c ∨ n ≤ x) w (w1.setCell ⟨g, o, none⟩ v) ∧ n ≤ (w1.setCell ⟨g, o, none⟩ v).heap.size ∧ ∀ k, k < W.heap.size → k ≠ c → k ≠ g → (w1.setCell ⟨g, o, none⟩ v).heap[k]? = W.heap[k]? := by
  have h1 := h.on ho hc1
  have hO2 : Only (fun x => x = c ∨ n ≤ x) w (w1.setCell ⟨g, o, none⟩ v) := (hO.trans (ho.mono fun x hx => by rcases hx with e | e; exact Or.inl e; exact Or.inr (Nat.le_trans hn e))).setCell (p := ⟨g, o, none⟩) (Or.inr hg) v
  have hb : Below 0 w1 (w1.setCell ⟨g, o, none⟩ v) := (Below.refl 0 w1).setCell (p := ⟨g, o, none⟩) (Nat.zero_le _) v
  refine ⟨h1.set (by omega) (fun e => by have := hT g e; omega) (by omega), hO2, Nat.le_trans hn (Nat.le_trans ho.size hb.size), fun k hk hkc hkg => ?_⟩
  rw [heap_setCell_other w1 ⟨g, o, none⟩ k v hkg, ho.block k (by rintro (e | e); exact hkc e; omega)]

section
variable {T : Nat → Prop} {c : Nat} {bs : List Int} {w : World}
set_option maxHeartbeats 1600000 in
set_option maxRecDepth 100000 in
theorem caction_any (h : Rc T w c bs) : Calls Tryz.prog 126 #[ptr c] w (RdP T c (rdAc true bs) VA w) := by
  obtain ⟨W, HW, hb, hz, h0, h1⟩ := two_new w (.cells z93 93) (.cells z93 93)
  have hR := h.new hb
  have hcw := h.cur.lt
  have h2c := h.two
  have HB := hid hb
  have HR := hid hR
  have H0 := hid h0
  have H1 := hid h1
  have hTo := h.old
  have HTo : Hid (∀ x, T x → x < w.heap.size) := hTo
  have hpos : 2 ≤ w.heap.size := by have := h.tab.pos; omega
  have HO0 := hid (Only.of (S := fun x => x = c ∨ w.heap.size ≤ x) hb fun x hx => Or.inr hx)
  have HN := hid (csmall_any c bs W hR.cur hR.out)
  have hB := h.cur.isB
  unfold rdI8 at HN
  obtain ⟨sp, HSp⟩ : ∃ o, Hid (rdAc true bs = o) := ⟨_, rfl⟩
  rw [HSp.out]
  unfold rdAc at HSp
  clear hb h0 h1 hTo
  go_enter Tryz.func126, Tryz.ntmps126
  go_upto_region 2 with fail
  rw [show (w.alloc (.cells z93 93)).alloc (.cells z93 93) = W from HW.out.symm]
  cases ht : tk 1 bs with
  | none =>
    rw [ht] at HN HSp
    clear h hB ht hR
    go_wp2_with (go_at_call 41; refine (HN.out).mono ?_; intro e w1 h9; obtain ⟨rfl, hq⟩ := RdP.bad h9; have H9 := hid hq; clear hq h9)
    exact ⟨rfl, RdP.no (only_new HB.out H9.out) HSp.out.symm⟩
  | some p =>
    obtain ⟨n, r⟩ := p
    rw [ht] at HN HSp
    simp only [Option.map_some] at HN
    simp only [Option.bind_some] at HSp
    obtain ⟨-, n0, n1, hBr⟩ := tk_inv hB ht
    rw [pw1] at n1
    have hi := i8_bd n0 n1
    generalize i8 n = x at HN hi HSp
    obtain ⟨i0, i1, -⟩ := hi
    clear h hB ht hR n0 n1
    go_upto_region 3 with (go_at_call 41; refine (HN.out).mono ?_; intro e w1 h9; obtain ⟨v, rfl, h1, h2, rfl⟩ := RdP.get h9; have HX := hid (And.intro h1 h2)
                           have hb1 : w1.heap[w.heap.size + 1]? = some (.cells z93 93 (0, 0)) := by
                             rw [h1.block _ (by rintro (e | e) <;> omega)]; exact H1.out
                           have HB1 := hid hb1
                           obtain ⟨a0, a1, a2⟩ := three_cells hb1
                           have hfz := three_free hb1
                           clear h1 h2 h9 hb1)
    obtain ⟨hR2, hO2, hn2, hk2⟩ := rd_set (g := w.heap.size + 1) (o := 0) (v := .int .i8 x) HR.out HO0.out (by omega) (by omega) HTo.out hcw hpos HX.out.1 HX.out.2
    have HG2 : Hid ((w1.setCell ⟨w.heap.size + 1, 0, none⟩ (.int .i8 x)).heap[w.heap.size + 1]? = some (.cells #[.int .i8 x, .int .i8 0, .int .u64 0] 93 (0, 0))) := three_set0 HB1.out
    have HF2 : Hid ((w1.setCell ⟨w.heap.size + 1, 0, none⟩ (.int .i8 x)).heap[w.heap.size]? = some (.cells z93 93 (0, 0))) := (hk2 w.heap.size (by omega) (by omega) (by omega)).trans H0.out
    have hz2 : w.heap.size + 2 ≤ (w1.setCell ⟨w.heap.size + 1, 0, none⟩ (.int .i8 x)).heap.size := by
      have := HX.out.1.size
      have : w1.heap.size ≤ (w1.setCell ⟨w.heap.size + 1, 0, none⟩ (.int .i8 x)).heap.size := ((Below.refl 0 w1).setCell (p := ⟨w.heap.size + 1, 0, none⟩) (Nat.zero_le _) _).size
      omega
    have HR2 := hid hR2
    have HO2 := hid hO2
    clear hR2 hO2 hk2 a0 a1 a2 hfz HX HB1 H0 H1 HR HO0 HN
    generalize w1.setCell ⟨w.heap.size + 1, 0, none⟩ (.int .i8 x) = V2 at HR2 HO2 hn2 HG2 HF2 hz2 ⊢
    clear w1
    have HN := hid (csmall_any c r V2 HR2.out.cur HR2.out.out)
    unfold rdI8 at HN
    cases ht2 : tk 1 r with
    | none =>
      rw [ht2] at HN HSp
      clear ht2
      go_wp2_with (go_at_call 41; refine (HN.out).mono ?_; intro e w1 h9; obtain ⟨rfl, hq⟩ := RdP.bad h9; have H9 := hid hq; clear hq h9)
      exact ⟨rfl, RdP.no (HO2.out.trans (H9.out.mono fun x hx => by rcases hx with e | e; exact Or.inl e; exact Or.inr (by omega))) HSp.out.symm⟩
    | some p =>
      obtain ⟨n, r2⟩ := p
      rw [ht2] at HN HSp
      simp only [Option.map_some] at HN
      simp only [Option.bind_some] at HSp
      obtain ⟨-, n0, n1, hBr2⟩ := tk_inv hBr ht2
      rw [pw1] at n1
      have hi := i8_bd n0 n1
      generalize i8 n = y at HN hi HSp
      obtain ⟨j0, j1, -⟩ := hi
      clear ht2 n0 n1
      go_upto_region 4 with (go_at_call 41; refine (HN.out).mono ?_; intro e w1 h9; obtain ⟨v, rfl, h1, h2, rfl⟩ := RdP.get h9; have HX := hid (And.intro h1 h2)
                             have hb1 : w1.heap[w.heap.size + 1]? = some (.cells #[.int .i8 x, .int .i8 0, .int .u64 0] 93 (0, 0)) := by
                               rw [h1.block _ (by rintro (e | e) <;> omega)]; exact HG2.out
                             have HB1 := hid hb1
                             obtain ⟨a0, a1, a2⟩ := three_cells hb1
                             have hfz := three_free hb1
                             clear h1 h2 h9 hb1)
      obtain ⟨hR3, hO3, hn3, hk3⟩ := rd_set (g := w.heap.size + 1) (o := 1) (v := .int .i8 y) HR2.out HO2.out (by omega) (by omega) HTo.out hcw hpos HX.out.1 HX.out.2
      have HG3 : Hid ((w1.setCell ⟨w.heap.size + 1, 1, none⟩ (.int .i8 y)).heap[w.heap.size + 1]? = some (.cells #[.int .i8 x, .int .i8 y, .int .u64 0] 93 (0, 0))) := three_set1 HB1.out
      have HF3 : Hid ((w1.setCell ⟨w.heap.size + 1, 1, none⟩ (.int .i8 y)).heap[w.heap.size]? = some (.cells z93 93 (0, 0))) := (hk3 w.heap.size (by omega) (by omega) (by omega)).trans HF2.out
      have hz3 : w.heap.size + 2 ≤ (w1.setCell ⟨w.heap.size + 1, 1, none⟩ (.int .i8 y)).heap.size := by
        have := HX.out.1.size
        have : w1.heap.size ≤ (w1.setCell ⟨w.heap.size + 1, 1, none⟩ (.int .i8 y)).heap.size := ((Below.refl 0 w1).setCell (p := ⟨w.heap.size + 1, 1, none⟩) (Nat.zero_le _) _).size
        omega
      have HR3 := hid hR3
      have HO3 := hid hO3
      clear hR3 hO3 hk3 a0 a1 a2 hfz HX HB1 HG2 HF2 HR2 HO2 HN
      generalize w1.setCell ⟨w.heap.size + 1, 1, none⟩ (.int .i8 y) = V3 at HR3 HO3 hn3 HG3 HF3 hz3 ⊢
      clear w1
      have HN := hid (cnumber_any c 8 r2 V3 HR3.out.cur HR3.out.out (by omega) (by omega))
      cases ht3 : tk 8 r2 with
      | none =>
        rw [ht3] at HN HSp
        clear ht3
        go_wp2_with (go_at_call 40; refine (HN.out).mono ?_; intro e w1 h9; obtain ⟨rfl, hq⟩ := RdP.bad h9; have H9 := hid hq; clear hq h9)
        exact ⟨rfl, RdP.no (HO3.out.trans (H9.out.mono fun x hx => by rcases hx with e | e; exact Or.inl e; exact Or.inr (by omega))) HSp.out.symm⟩
      | some p =>
        obtain ⟨z, r3⟩ := p
        rw [ht3] at HN HSp
        simp only [Option.bind_some] at HSp
        obtain ⟨-, z0, z1, -⟩ := tk_inv hBr2 ht3
        rw [pw8] at z1
        clear ht3
        go_upto_region 5 with (go_at_call 40; refine (HN.out).mono ?_; intro e w1 h9; obtain ⟨v, rfl, h1, h2, rfl⟩ := RdP.get h9; have HX := hid (And.intro h1 h2)
                               have hb1 : w1.heap[w.heap.size + 1]? = some (.cells #[.int .i8 x, .int .i8 y, .int .u64 0] 93 (0, 0)) := by
                                 rw [h1.block _ (by rintro (e | e) <;> omega)]; exact HG3.out
                               have HB1 := hid hb1
                               obtain ⟨a0, a1, a2⟩ := three_cells hb1
                               have hfz := three_free hb1
                               clear h1 h2 h9 hb1)
        obtain ⟨hR4, hO4, hn4, hk4⟩ := rd_set (g := w.heap.size + 1) (o := 2) (v := .int .u64 z) HR3.out HO3.out (by omega) (by omega) HTo.out hcw hpos HX.out.1 HX.out.2
        have hG4 : (w1.setCell ⟨w.heap.size + 1, 2, none⟩ (.int .u64 z)).heap[w.heap.size + 1]? = some (.cells #[.int .i8 x, .int .i8 y, .int .u64 z] 93 (0, 0)) := three_set2 HB1.out
        have HF4 : Hid ((w1.setCell ⟨w.heap.size + 1, 2, none⟩ (.int .u64 z)).heap[w.heap.size]? = some (.cells z93 93 (0, 0))) := (hk4 w.heap.size (by omega) (by omega) (by omega)).trans HF3.out
        have hz4 : w.heap.size + 2 ≤ (w1.setCell ⟨w.heap.size + 1, 2, none⟩ (.int .u64 z)).heap.size := by
          have := HX.out.1.size
          have : w1.heap.size ≤ (w1.setCell ⟨w.heap.size + 1, 2, none⟩ (.int .u64 z)).heap.size := ((Below.refl 0 w1).setCell (p := ⟨w.heap.size + 1, 2, none⟩) (Nat.zero_le _) _).size
          omega
        have HR4 := hid hR4
        have HO4 := hid hO4
        have HG4 := hid hG4
        clear hR4 hO4 hk4 a0 a1 a2 hfz HX HB1 HG3 HF3 HR3 HO3 HN hG4
        generalize w1.setCell ⟨w.heap.size + 1, 2, none⟩ (.int .u64 z) = V4 at HR4 HO4 hn4 HG4 HF4 hz4 ⊢
        clear w1
        have HA := hid (isAction_any ⟨x, y, z⟩ V4)
        obtain ⟨a0, a1, a2⟩ := three_cells HG4.out
        cases ho : okAc ⟨x, y, z⟩ with
        | false =>
          rw [ho] at HA HSp
          clear ho
          go_wp2_with (first
            | (go_at_call 128; refine (HA.out).mono ?_; rintro e w5 ⟨rfl, hb⟩; have H5 := hid hb; clear hb)
            | (go_at_call 30; refine (must_false _).mono ?_; rintro e w' ⟨rfl, hw⟩; rw [hw]; clear hw w'))
          exact ⟨rfl, RdP.no (HO4.out.trans (Only.of H5.out fun x hx => Or.inr (by omega))) (HSp.out.symm.trans kp_no)⟩
        | true =>
          rw [ho] at HA HSp
          clear ho
          go_upto_region 6 with (first
            | (go_at_call 128; refine (HA.out).mono ?_; rintro e w5 ⟨rfl, hb⟩; have H5 := hid hb; clear hb)
            | (go_at_call 30; refine (must_true _).mono ?_; rintro e w' ⟨rfl, hw⟩; rw [hw]; clear hw w'))
          have hG5 : w5.heap[w.heap.size + 1]? = some (.cells #[.int .i8 x, .int .i8 y, .int .u64 z] 93 (0, 0)) := (H5.out.block _ (by omega)).trans HG4.out
          have hF5 : w5.heap[w.heap.size]? = some (.cells z93 93 (0, 0)) := (H5.out.block _ (by omega)).trans HF4.out
          have HF5 := hid hF5
          have hsz5 := H5.out.size
          obtain ⟨b0, b1, b2⟩ := three_cells hG5
          clear hG5 hF5 a0 a1 a2
          go_wp2_with (refine stRow 93 (.tmp 2) (.tmp 16) rfl rfl w.heap.size #[.int .i8 x, .int .i8 y, .int .u64 z] rfl rfl 93 z93 HF5.out (by kernel_rfl) rfl (by simp [oneI]) ?_)
          have hRF := setRow_heap w5 w.heap.size z93 #[.int .i8 x, .int .i8 y, .int .u64 z] 93 _ HF5.out
          refine bodyPost_ret (v := av ⟨x, y, z⟩) (resAct _ _ w.heap.size _ rfl hRF (by kernel_rfl)) rfl (RdP.yes ?_ (HSp.out.symm.trans kp_true) ?_ ⟨rfl, ⟨i0, i1⟩, ⟨j0, j1⟩, z0, z1⟩)
          · refine (HO4.out.trans (Only.of H5.out fun x hx => Or.inr (by omega))).trans ⟨rfl, rfl, rfl, by simp [World.setRow], fun k hk => setRow_other w5 w.heap.size k _ (fun e => hk (Or.inr (by omega)))⟩
          · have hR5 := HR4.out.new H5.out
            exact hR5.cur.carry (setRow_other w5 w.heap.size c _ (by omega)) fun k _ hT => ⟨hT, setRow_other w5 w.heap.size k _ (by have := HTo.out k hT; omega)⟩
end
end Go.Proofs.YtllbbbfkdgjffaaGreatDoor
