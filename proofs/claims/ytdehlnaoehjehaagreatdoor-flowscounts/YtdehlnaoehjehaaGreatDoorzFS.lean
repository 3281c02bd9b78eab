/-
  Proved here: places (a rank and a match) as keys of maps. No condition but that numbers are of their width.
-/
/-
  Proved here: how a table of package flows lies in memory (FlM), and that it stays as long as its blocks do. No condition.
-/
/-
  Proved here: slices.Clone at actions and at lists of actions: new memory, the same contents. Condition: the slice is no greater than a slice may be.
-/
/-
  Laws of our own: stores of one cell as steps of a region that draws its order; the one operation that is ready. No condition beyond what each names.
-/
import Derived.Test.YtdehlnaoehjehaaGreatDoorzFA
namespace Go.Proofs.YtdehlnaoehjehaaGreatDoor
set_option maxRecDepth 100000
open Go.ChangeShapes Go.WideShapes Go.ChangeAt Go.RowKit Go.Maps

def pc (r : Int) (m : Nat → Int) : Array Value := #[.int .i64 r] ++ row 22 m
theorem pc_size (r : Int) (m : Nat → Int) : (pc r m).size = 23 := by simp [pc, row_size]
theorem pc_rank (r : Int) (m : Nat → Int) : (pc r m)[0]? = some (.int .i64 r) := by simp [pc, row_size]
theorem pc_mat (r : Int) (m : Nat → Int) (k : Nat) (hk : k < 22) : (pc r m)[1 + k]? = some (.int .u64 (m k)) := by
  unfold pc
  rw [Array.getElem?_append_right (by simp)]
  rw [show 1 + k - (#[Value.int .i64 r] : Array Value).size = k by simp, row_at 22 m k hk]
theorem pc_congr {r : Int} {a b : Nat → Int} (h : ∀ k, k < 22 → a k = b k) : pc r a = pc r b := by
  unfold pc; rw [row_congr h]
theorem cellsPl : Tryz.prog.cellsOf 174 = 23 := by kernel_rfl
theorem cellsI : Tryz.prog.cellsOf 3 = 1 := by kernel_rfl
theorem lawP : Keyed Tryz.prog 174 := Keyed.of_law (deep_law_laid (m := 6) (by kernel_rfl) (by decide) (of_decide_eq_true (by kernel_rfl)) (by kernel_rfl) (by kernel_rfl))
theorem lawU : Keyed Tryz.prog 28 := int_keyed Tryz.underlying28
theorem wf64 {x : Int} (h : I64 x) : (Lit.int .i64 x).wf = true := by
  obtain ⟨h1, h2⟩ := h
  simp [Lit.wf, IntKind.min, IntKind.max, IntKind.signed, IntKind.bits]; omega
theorem wfU {x : Int} (h : InB x) : (Lit.int .u64 x).wf = true := by
  obtain ⟨h1, h2⟩ := h
  simp [Lit.wf, IntKind.min, IntKind.max, IntKind.signed, IntKind.bits]; omega
theorem key_u {n : Int} (h : InB n) : keyOf Tryz.prog 28 (.int .u64 n) = some (.int .u64 n) := keyOf_int_mk Tryz.underlying28 (wfU h)
section
variable {H : Type} {enc : TypeId × Value → H} {W : World} {base : Nat} {sp : Nat → Bool} {held : Bool}
theorem shut_place (r : Int) (m : Nat → Int) (hr : I64 r) (hwf : Wf m) : ∃ d, DataW.Trod enc Tryz.prog W base sp held 174 (.agg (pc r m)) d [] := by
  obtain ⟨n, hn⟩ := shut_match (enc := enc) (W := W) (base := base) (sp := sp) (held := held) m hwf
  have t1 : ((pc r m).toList.drop 0).take 1 = [.int .i64 r] := by simp [pc]
  have t2 : ((pc r m).toList.drop 1).take 22 = (row 22 m).toList := by
    simp [pc]
    exact List.take_of_length_le (by simp [row_size])
  obtain ⟨n', rfl⟩ : ∃ n', n = n' + 1 := by
    cases n with
    | zero => simp [DataW.trod] at hn
    | succ n => exact ⟨n, rfl⟩
  have q1 : DataW.trod enc Tryz.prog W base sp held (n' + 1) 3 (((pc r m).toList.drop 0).take (Tryz.prog.cellsOf 3)) = some (.lit (.int .i64 r), []) := by
    rw [cellsI, t1]; exact trod_int_mk n' Tryz.underlying3 (wf64 hr)
  have q2 : DataW.trod enc Tryz.prog W base sp held (n' + 1) 32 (((pc r m).toList.drop 1).take (Tryz.prog.cellsOf 32)) = some (md m, []) := by
    rw [cellsM, t2]; simpa [Value.cells] using hn
  have := trod_struct2_mk (enc := enc) (w := W) (base := base) (spare := sp) (held := held) (n := n' + 1) (cs := (pc r m).toList) (y0 := (.lit (.int .i64 r), [])) (y1 := (md m, [])) Tryz.underlying174 (by rw [cellsPl]; simp [pc_size]) q1 q2
  exact ⟨_, n' + 1 + 1, by simpa [Value.cells] using this⟩
end
/-- A place's key. -/
noncomputable def kp (r : Int) (m : Nat → Int) : Lit := (keyOf Tryz.prog 174 (.agg (pc r m))).getD (.bool false)
set_option maxRecDepth 100000 in
theorem key_p {r : Int} {m : Nat → Int} (hr : I64 r) (hw : Wf m) : keyOf Tryz.prog 174 (.agg (pc r m)) = some (kp r m) := by
  have hf : (Value.agg (pc r m)).formed Tryz.prog 174 = true := by
    simp [Value.formed, Tryz.underlying174, cellsPl, pc_size]
  obtain ⟨d, hd⟩ := shut_place (enc := fun _ => ()) (W := default) (base := 0) (sp := fun _ => true) (held := true) r m hr hw
  have := (keyOf_asKey (enc := fun _ => ()) (w := default) (base := 0) (sp := fun _ => true) (held := true) (by kernel_rfl) (by rw [Tryz.underlying174]) hf hd).1
  unfold kp
  rw [this]; rfl
theorem kp_congr {r : Int} {a b : Nat → Int} (h : ∀ k, k < 22 → a k = b k) : kp r a = kp r b := by
  unfold kp; rw [pc_congr h]
set_option maxRecDepth 100000 in
theorem kp_inj {r s : Int} {a b : Nat → Int} (hr : I64 r) (hs : I64 s) (ha : Wf a) (hb : Wf b) (h : kp r a = kp s b) : r = s ∧ ∀ k, k < 22 → a k = b k := by
  have k2 := key_p hs hb
  rw [← h] at k2
  have e := lawP.inj (key_p hr ha) k2
  have e' : pc r a = pc s b := by injection e
  refine ⟨?_, fun k hk => ?_⟩
  · have h1 := pc_rank r a
    rw [e', pc_rank] at h1
    simpa using h1.symm
  · have h1 := pc_mat r a k hk
    rw [e', pc_mat s b k hk] at h1
    simpa using h1.symm
/-- Are two rules of one place? -/
def eqP (a b : Rl) : Bool := decide (a.rk = b.rk) && allU (fun k => a.mt k == b.mt k) 22
theorem eqP_iff {a b : Rl} : eqP a b = true ↔ a.rk = b.rk ∧ ∀ k, k < 22 → a.mt k = b.mt k := by
  unfold eqP
  rw [Bool.and_eq_true, allU_iff]
  simp
theorem eqP_kp {a b : Rl} (ha : a.Fit) (hb : b.Fit) : eqP a b = true ↔ kp a.rk a.mt = kp b.rk b.mt := by
  rw [eqP_iff]
  constructor
  · rintro ⟨h1, h2⟩; rw [h1]; exact kp_congr h2
  · exact kp_inj ha.rk hb.rk ha.mt hb.mt
end Go.Proofs.YtdehlnaoehjehaaGreatDoor
namespace Go.Proofs.YtdehlnaoehjehaaGreatDoor
set_option maxRecDepth 100000
open Go.RowKit Go.Maps

/-- Whose a block is. -/
inductive Fg where
  | tup | cop | tab | rul | pla | gon | ent | tal
/-- A rule that is there: its block, its number, the rule, its copies' slice, its counts. -/
structure Fe where
  p : Nat
  k : Int
  r : Rl
  u : Value
  pk : Int
  bt : Int
/-- Counts that are gone: their block, the Cookie, the counts. -/
structure Ge where
  p : Nat
  ck : Int
  pk : Int
  bt : Int
def fec (e : Fe) : Array Value := #[.int .u64 e.pk, .int .u64 e.bt, .int .i64 e.k] ++ rlc e.r e.u
theorem fec_size (e : Fe) : (fec e).size = 28 := by simp [fec, rlc, rc_size]
theorem fec_at (e : Fe) : (fec e)[0]? = some (.int .u64 e.pk) ∧ (fec e)[1]? = some (.int .u64 e.bt) ∧ (fec e)[2]? = some (.int .i64 e.k) := by
  refine ⟨?_, ?_, ?_⟩ <;> simp [fec, rlc, rc_size]
theorem fec_rl (e : Fe) (k : Nat) (_hk : k < 25) : (fec e)[3 + k]? = (rlc e.r e.u)[k]? := by
  unfold fec
  rw [Array.getElem?_append_right (by simp)]
  congr 1; simp
def Fe.ru (e : Fe) : Ru := ⟨e.k, e.r.rk, e.r.mt⟩
def Fe.vw (e : Fe) : Hel := ⟨e.r, e.pk, e.bt⟩
def Ge.cs (x : Ge) : Array Value := #[.int .u64 x.pk, .int .u64 x.bt]
structure EnM (S : Nat → Prop) (o : Nat → Fg) (w : World) (e : Fe) : Prop where
  s : S e.p
  t : o e.p = .ent
  h : w.heap[e.p]? = some (.cells (fec e) 104 (0, 0))
  c : Cps (fun b => S b ∧ o b = .cop) w e.u e.r.cp
structure TaM (S : Nat → Prop) (o : Nat → Fg) (w : World) (x : Ge) : Prop where
  s : S x.p
  t : o x.p = .tal
  h : w.heap[x.p]? = some (.cells x.cs 102 (0, 0))
theorem EnM.carry {S T : Nat → Prop} {o o' : Nat → Fg} {w w' : World} {e : Fe} (h : EnM S o w e) (hc : ∀ b, b < w.heap.size → S b → (b = e.p ∨ o b = .cop) → T b ∧ o' b = o b ∧ w'.heap[b]? = w.heap[b]?) : EnM T o' w' e := by
  have h1 := hc e.p (Array.getElem?_eq_some_iff.1 h.h).1 h.s (Or.inl rfl)
  exact ⟨h1.1, h1.2.1.trans h.t, h1.2.2.trans h.h, Cps.carry (fun b hb hS => by
    have := hc b hb hS.1 (Or.inr hS.2)
    exact ⟨⟨this.1, this.2.1.trans hS.2⟩, this.2.2⟩) h.c⟩
theorem TaM.carry {S T : Nat → Prop} {o o' : Nat → Fg} {w w' : World} {x : Ge} (h : TaM S o w x) (hc : T x.p ∧ o' x.p = o x.p ∧ w'.heap[x.p]? = w.heap[x.p]?) : TaM T o' w' x :=
  ⟨hc.1, hc.2.1.trans h.t, hc.2.2.trans h.h⟩
/-- The table: the blocks of its maps, what they hold, the rules, what is gone, how many were added. -/
structure FlM (S : Nat → Prop) (o : Nat → Fg) (w : World) (g : Nat) (vm : Value) (br bp bg : Nat) (Gr Gp Gg : Lit → Option Value) (room : Int) (es : List Fe) (gs : List Ge) (ad : Int) : Prop where
  sg : S g
  og : o g = .tab
  hg : w.heap[g]? = some (.cells #[vm, .map (some br), .map (some bp), .int .i64 room, .map (some bg)] 93 (0, 0))
  tb : Tbl (fun b => S b ∧ o b = .tup) w vm (es.map Fe.ru) ad
  sr : S br
  or : o br = .rul
  mr : Mp w 3 br es.length Gr
  sp : S bp
  op : o bp = .pla
  mp : Mp w 174 bp es.length Gp
  sn : S bg
  on : o bg = .gon
  mg : Mp w 28 bg gs.length Gg
  ent : ∀ e ∈ es, EnM S o w e
  tal : ∀ x ∈ gs, TaM S o w x
  ne : es.Pairwise fun a b => a.p ≠ b.p
  nt : gs.Pairwise fun a b => a.p ≠ b.p
theorem FlM.carry {S T : Nat → Prop} {o o' : Nat → Fg} {w w' : World} {g : Nat} {vm : Value} {br bp bg : Nat} {Gr Gp Gg : Lit → Option Value} {room : Int} {es : List Fe} {gs : List Ge} {ad : Int} (h : FlM S o w g vm br bp bg Gr Gp Gg room es gs ad)
    (hc : ∀ b, b < w.heap.size → S b → T b ∧ o' b = o b ∧ w'.heap[b]? = w.heap[b]?) : FlM T o' w' g vm br bp bg Gr Gp Gg room es gs ad := by
  have h1 := hc g (Array.getElem?_eq_some_iff.1 h.hg).1 h.sg
  have h2 := hc br h.mr.lt h.sr
  have h3 := hc bp h.mp.lt h.sp
  have h4 := hc bg h.mg.lt h.sn
  exact ⟨h1.1, h1.2.1.trans h.og, h1.2.2.trans h.hg, h.tb.carry fun b hb hS => by
      have := hc b hb hS.1
      exact ⟨⟨this.1, this.2.1.trans hS.2⟩, this.2.2⟩,
    h2.1, h2.2.1.trans h.or, h.mr.carry h2.2.2, h3.1, h3.2.1.trans h.op, h.mp.carry h3.2.2, h4.1, h4.2.1.trans h.on, h.mg.carry h4.2.2,
    fun e he => (h.ent e he).carry fun b hb hS _ => hc b hb hS, fun x hx => (h.tal x hx).carry (hc x.p (Array.getElem?_eq_some_iff.1 (h.tal x hx).h).1 (h.tal x hx).s), h.ne, h.nt⟩
/-- What the maps hold are the rules and what is gone; the rules' own order. -/
structure FInv (Gr Gp Gg : Lit → Option Value) (room : Int) (es : List Fe) (gs : List Ge) (ad : Int) : Prop where
  gr : ∀ l v, Gr l = some v ↔ ∃ e ∈ es, l = .int .i64 e.k ∧ v = pv e.p
  gp : ∀ l v, Gp l = some v ↔ ∃ e ∈ es, l = kp e.r.rk e.r.mt ∧ v = pv e.p
  gg : ∀ l v, Gg l = some v ↔ ∃ x ∈ gs, l = .int .u64 x.ck ∧ v = pv x.p
  fit : ∀ e ∈ es, e.r.Fit ∧ mOk e.r.mt = true ∧ InB e.pk ∧ InB e.bt
  fig : ∀ x ∈ gs, InB x.ck ∧ InB x.pk ∧ InB x.bt
  num : es.Pairwise fun a b => a.k < b.k
  bd : ∀ e ∈ es, 1 ≤ e.k ∧ e.k ≤ ad
  apart : es.Pairwise fun a b => eqP a.r b.r = false
  once : gs.Pairwise fun a b => a.ck ≠ b.ck
  ad0 : 0 ≤ ad
  rm : 0 ≤ room ∧ room ≤ 1024
  len : (es.length : Int) ≤ room
end Go.Proofs.YtdehlnaoehjehaaGreatDoor
namespace Go.Proofs.YtdehlnaoehjehaaGreatDoor
set_option maxRecDepth 100000
open Go.RowKit

/-- The cells of a list of things. -/
def cel {α : Type} (enc : α → List Value) (l : List α) : List Value := l.flatMap enc
section
variable {α : Type} {enc : α → List Value} {k : Nat}
theorem cel_len (hk : ∀ x, (enc x).length = k) : ∀ l : List α, (cel enc l).length = l.length * k
  | [] => by simp [cel]
  | x :: l => by
    have := cel_len hk l
    simp only [cel] at this
    simp [cel, hk x, this, Nat.add_mul, Nat.add_comm]
theorem cel_at (hk : ∀ x, (enc x).length = k) : ∀ (l : List α) (j i : Nat) (hj : j < l.length), i < k → (cel enc l)[j * k + i]? = (enc l[j])[i]?
  | [], j, i, hj, _ => by simp at hj
  | x :: l, 0, i, _, hi => by
    simp only [cel, List.flatMap_cons, Nat.zero_mul, Nat.zero_add, List.getElem_cons_zero]
    rw [List.getElem?_append_left (by rw [hk]; exact hi)]
  | x :: l, j + 1, i, hj, hi => by
    have := cel_at hk l j i (by simpa using hj) hi
    simp only [cel] at this
    simp only [cel, List.flatMap_cons, List.getElem_cons_succ]
    rw [List.getElem?_append_right (by rw [hk, Nat.add_mul]; omega), hk, show (j + 1) * k + i - k = j * k + i by rw [Nat.add_mul]; omega]
    exact this
theorem cel_pos (hk : ∀ x, (enc x).length = k) {l : List α} {q : Nat} (hq : q < (cel enc l).length) : ∃ j i, j < l.length ∧ i < k ∧ q = j * k + i := by
  rw [cel_len hk] at hq
  have hk0 : 0 < k := by
    rcases Nat.eq_zero_or_pos k with e | e
    · rw [e] at hq; simp at hq
    · exact e
  refine ⟨q / k, q % k, Nat.div_lt_of_lt_mul (by rw [Nat.mul_comm]; exact hq), Nat.mod_lt _ hk0, ?_⟩
  rw [Nat.mul_comm]; exact (Nat.div_add_mod q k).symm
/-- What lies in a slice's cells. -/
theorem Lst.cells {T : Nat → Prop} {R : World → (Nat → Option Value) → α → Prop} {w : World} {a : Addr} {n cap : Nat} {l : List α} (hk : ∀ x, (enc x).length = k) (hR : ∀ f x, R w f x → ∀ i, i < k → f i = (enc x)[i]?) (h : Lst T k R w (.slice (some a) n cap) l) :
    ∀ j x, (cel enc l)[j]? = some x → w.cell? (a.add j) = some x := by
  obtain ⟨ao, c, e, -, -, -, h5⟩ := h
  intro q x hq
  obtain ⟨j, i, hj, hi, rfl⟩ := cel_pos hk (List.getElem?_eq_some_iff.1 hq).1
  obtain ⟨b, o, -, e2, hc⟩ := h5 (fun e => by rw [e] at hj; simp at hj)
  simp only [Value.slice.injEq] at e
  rw [e2] at e
  obtain ⟨e1, -, -⟩ := e
  cases e1
  have := hR _ _ (hc j hj) i hi
  rw [Addr.add_lit]
  rw [cel_at hk l j i hj hi] at hq
  rw [← Nat.add_assoc, this]; exact hq
/-- A row of one's own, as a list. -/
theorem Lst.of_own {R : World → (Nat → Option Value) → α → Prop} {w : World} {base e n : Nat} {v : Value} {l : List α} (hk : ∀ x, (enc x).length = k) (hR : ∀ f x, x ∈ l → (∀ i, i < k → f i = (enc x)[i]?) → R w f x) (hl : l.length ≤ 140737488355328) (hn : n = l.length) (h : w.ownsRow base e k v n (cel enc l)) : Lst (fun b => base ≤ b) k R w v l := by
  subst hn
  rcases h.2 with ⟨rfl, h0⟩ | ⟨g, cap, cur, rfl, hb, hg, h1, h2, h3, h4⟩
  · obtain rfl : l = [] := List.eq_nil_of_length_eq_zero h0
    exact Lst.nil _ _ _ _
  · refine ⟨_, cap, rfl, h1, hl, (fun h => by cases h), fun _ => ⟨g, 0, hb, rfl, fun j hj => hR _ _ (List.getElem_mem hj) fun i hi => ?_⟩⟩
    have hb1 : j * k + i < l.length * k := by
      have : (j + 1) * k ≤ l.length * k := Nat.mul_le_mul_right _ hj
      rw [Nat.add_mul] at this
      omega
    rw [cell_of_row _ _ _ _ _ _ hg, ← cel_at hk l j i hj hi, ← h4, List.getElem?_take, if_pos hb1]
    simp
end
theorem cell_on {w u : World} (hu : Below w.heap.size w u) {p : Addr} {x : Value} (h : w.cell? p = some x) : u.cell? p = some x := by
  have hlt : p.block < w.heap.size := by
    unfold World.cell? at h
    rcases Nat.lt_or_ge p.block w.heap.size with h2 | h2
    · exact h2
    · rw [Array.getElem?_eq_none h2] at h; simp at h
  rw [hu.cell hlt]; exact h
def c3 (a : Ac) : List Value := [.int .i8 a.dw, .int .i8 a.fd, .int .u64 a.n]
theorem infoAct : (Tryz.prog.info? 154).map (fun i => (i.zero, i.size, i.bytes)) = some (some (.agg #[.int .i8 0, .int .i8 0, .int .u64 0]), 3, 16) := by kernel_rfl
theorem infoActs : (Tryz.prog.info? 155).map (fun i => (i.zero, i.size, i.bytes)) = some (some nilS, 1, 24) := by kernel_rfl
def ClP (w : World) (l : List Ac) (e : Ending) (w' : World) : Prop := ∃ v', e = .returned v' ∧ Below w.heap.size w w' ∧ Acs (fun b => w.heap.size ≤ b) w' v' l
theorem three_of {f : Nat → Option Value} {a : Ac} (h : ∀ i, i < 3 → f i = (c3 a)[i]?) : f 0 = some (.int .i8 a.dw) ∧ f 1 = some (.int .i8 a.fd) ∧ f 2 = some (.int .u64 a.n) := ⟨h 0 (by omega), h 1 (by omega), h 2 (by omega)⟩
set_option maxHeartbeats 800000 in
set_option maxRecDepth 100000 in
theorem clB_any {T : Nat → Prop} (w : World) (v : Value) (l : List Ac) (h : Acs T w v l) (hb : l.length * 16 ≤ 140737488355328) : Calls Tryz.prog 77 #[v] w (ClP w l) := by
  have hq : ∀ (w : World) (a : Option Addr) (n c n' c' : Nat), (binOp .eql 155 (.slice a n c) (.slice none n' c')).run Tryz.prog w = .ok (.bool a.isNone) w := fun w a n c n' c' => Lib.run_eql_slice_nil w _ _ a n c n' c' Tryz.underlying155
  obtain ⟨ao, cap, rfl, h2, h3, h4, h5⟩ := id h
  cases ao with
  | none =>
    have hl : l = [] := by
      cases l with
      | nil => rfl
      | cons x l => obtain ⟨b, o, -, e, -⟩ := h5 (by simp); cases e
    subst hl
    clear h h5
    go_enter Tryz.func77, Tryz.ntmps77
    go_wp2
    go_ret
    exact ⟨_, rfl, Below.refl _ _, Lst.nil _ _ _ _⟩
  | some a =>
    obtain ⟨i, hi, hz0, hz1, hz2⟩ := info_parts infoAct
    have hk : ∀ x : Ac, (c3 x).length = 3 := fun _ => rfl
    have hcl : ∀ (u : World) j x, (cel c3 l)[j]? = some x → Hid (Below w.heap.size w u → u.cell? (a.add j) = some x) := fun u j x hx hu => by
      have h0 := Lst.cells hk (fun f x hR i hi => by
        obtain ⟨r1, r2, r3, -⟩ := hR
        have : i = 0 ∨ i = 1 ∨ i = 2 := by omega
        rcases this with rfl | rfl | rfl
        · exact r1
        · exact r2
        · exact r3) h j x hx
      exact cell_on hu h0
    have hfit : ∀ x ∈ l, x.Fit := h.all fun _ _ hR => hR.2.2.2
    have hone : ∀ x ∈ cel c3 l, x.oneCell' = true := fun x hx => by
      obtain ⟨y, -, hy⟩ := List.mem_flatMap.1 hx
      simp only [c3, List.mem_cons, List.not_mem_nil, or_false] at hy
      rcases hy with rfl | rfl | rfl <;> rfl
    have HC := hid hcl
    clear hcl h h5
    go_enter Tryz.func77, Tryz.ntmps77
    go_wp2_with (at_builtin; refine wpList_append_own _ rfl _ _ 155 rfl w.heap.size 154 i _ 3 16 Tryz.underlying155 hi hz0 hz1 hz2 rfl (by decide) _ _ _ rfl (World.ownsRow_made w #[] 0 (Nat.le_refl _) (Nat.zero_le _) (by simp)) a l.length cap (cel c3 l) rfl ?qc1 ?qc2 ?qc3 ?qc4 ?qc5 ?qc6 ?_)
    case qc1 => exact cel_len hk l
    case qc2 => exact fun j x hx => (HC.out _ j x hx).out ((Below.refl _ _).alloc (Nat.le_refl _) _)
    case qc3 => exact hone
    case qc4 => unfold maxLen; omega
    case qc5 => rw [Nat.zero_add]; exact hb
    case qc6 => simp
    intro v' w' hown hg hn
    have HO := hid hown
    have HB : Hid (Below w.heap.size w w') := ((Below.refl _ w).alloc (Nat.le_refl _) _).grown hg (by simp) (fun k hk => by simp [Value.ownBlock] at hk; omega)
    clear hown hg hn HC
    go_wp2
    go_ret
    refine ⟨_, rfl, HB.out, Lst.of_own hk (fun f x hx hf => ?_) h3 (by omega) HO.out⟩
    obtain ⟨r1, r2, r3⟩ := three_of hf
    exact ⟨r1, r2, r3, hfit x hx⟩
end Go.Proofs.YtdehlnaoehjehaaGreatDoor
namespace Go.Proofs.YtdehlnaoehjehaaGreatDoor
set_option maxRecDepth 100000
open Go.RowKit

section
variable {ops : Array Oper} {o : Oper} {a : Act} {w : World} {Kt : Act → World → Prop} {Q : Exit → Act → World → Prop} {E : Prop}
theorem stepStA (x y : Operand) (hop : o.op = .store 155 x y) (hgd : o.guard = none) (b i : Nat) (ao : Option Addr) (n c : Nat) (u : Value) (hx : a.eval x = .pointer (some ⟨b, i, none⟩)) (hy : a.eval y = .slice ao n c) (hc : w.cell? ⟨b, i, none⟩ = some u) (hz : w.frozen? ⟨b, i, none⟩ = false)
    (hk : Kt (a.put o.dst undef) (w.setCell ⟨b, i, none⟩ (.slice ao n c))) : if Region.wanted o (yielded ops a.tmps) = true then Oper.wp Tryz.prog o a w Kt Q else E := by
  have hw : Region.wanted o (yielded ops a.tmps) = true := by simp [Region.wanted, hgd]
  rw [if_pos hw]
  unfold Oper.wp execOp
  simp only [hop, hx, hy]
  go_simp
  exact hk
theorem stepStC (x y : Operand) (hop : o.op = .store 33 x y) (hgd : o.guard = none) (b i : Nat) (ao : Option Addr) (n c : Nat) (u : Value) (hx : a.eval x = .pointer (some ⟨b, i, none⟩)) (hy : a.eval y = .slice ao n c) (hc : w.cell? ⟨b, i, none⟩ = some u) (hz : w.frozen? ⟨b, i, none⟩ = false)
    (hk : Kt (a.put o.dst undef) (w.setCell ⟨b, i, none⟩ (.slice ao n c))) : if Region.wanted o (yielded ops a.tmps) = true then Oper.wp Tryz.prog o a w Kt Q else E := by
  have hw : Region.wanted o (yielded ops a.tmps) = true := by simp [Region.wanted, hgd]
  rw [if_pos hw]
  unfold Oper.wp execOp
  simp only [hop, hx, hy]
  go_simp
  exact hk
theorem stepStU (x y : Operand) (hop : o.op = .store 28 x y) (hgd : o.guard = none) (b i : Nat) (n : Int) (u : Value) (hx : a.eval x = .pointer (some ⟨b, i, none⟩)) (hy : a.eval y = .int .u64 n) (hc : w.cell? ⟨b, i, none⟩ = some u) (hz : w.frozen? ⟨b, i, none⟩ = false)
    (hk : Kt (a.put o.dst undef) (w.setCell ⟨b, i, none⟩ (.int .u64 n))) : if Region.wanted o (yielded ops a.tmps) = true then Oper.wp Tryz.prog o a w Kt Q else E := by
  have hw : Region.wanted o (yielded ops a.tmps) = true := by simp [Region.wanted, hgd]
  rw [if_pos hw]
  unfold Oper.wp execOp
  simp only [hop, hx, hy]
  go_simp
  exact hk
/-- A look-up that tells whether there is one. -/
theorem stepLookOk (m x : Operand) (t : TypeId) (hop : o.op = .lookup t m x true) (hgd : o.guard = none)
    {K e : TypeId} {b n : Nat} {G : Lit → Option Value} {z key : Value} {l : Lit} (hm : a.eval m = .map (some b)) (hx : a.eval x = key) (h : Mp w K b n G) (hK : Maps.Keyed Tryz.prog K) (ht : Tryz.prog.underlying t = some (.map K e)) (hz : (zeroValue e).run Tryz.prog w = .ok z w) (hkey : keyOf Tryz.prog K key = some l)
    (hk : Kt (a.put o.dst (.tuple #[(G l).getD z, .bool (G l).isSome])) w) : if Region.wanted o (yielded ops a.tmps) = true then Oper.wp Tryz.prog o a w Kt Q else E := by
  have hw : Region.wanted o (yielded ops a.tmps) = true := by simp [Region.wanted, hgd]
  rw [if_pos hw]
  unfold Oper.wp
  simp [execOp, hop, hm, hx, h.look_ok hK ht hz hkey, Result.andThen]
  exact hk
end
/-- A box of a whole value, in a walk: it names the new world. -/
theorem bxAgg {ops : Array Oper} {rest : List Oper} {o : Oper} {a : Act} {w : World} {Q : Exit → Act → World → Prop} (ty : TypeId) (x : Operand) (ho : o.op = .box ty x) (hw : Region.wanted o (yielded ops a.tmps) = true) (cs : Array Value) (hx : a.eval x = .agg cs) (W : World) (hW : Hid (w.alloc (.cells cs ty) = W))
    (h : wpList Tryz.prog ops Q rest (a.put o.dst (pv w.heap.size)) W) : wpList Tryz.prog ops Q (o :: rest) a w := by
  unfold wpList
  rw [if_pos hw]
  refine Or.inl ?_
  unfold Oper.wp execOp
  have hrun : (Instr.box ty (.agg cs)).run Tryz.prog w = .ok (pv w.heap.size) (w.alloc (.cells cs ty)) := rfl
  simp only [ho, hx, Sem.run_bind, Sem.run_pure, Result.andThen_ok, hrun]
  rw [hW.out]
  exact h
end Go.Proofs.YtdehlnaoehjehaaGreatDoor
