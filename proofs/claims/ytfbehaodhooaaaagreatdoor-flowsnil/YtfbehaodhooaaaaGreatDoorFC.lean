/-
  Proved here: rules with their counts as data; how lists of them, of copies and of actions lie in memory, and that they stay as long as their blocks do. No condition.
-/
/-
  Proved here: places (a rank and a match) as keys of maps. No condition but that numbers are of their width.
-/
/-
  Proved here: how a table of package flows lies in memory (FlM), and that it stays as long as its blocks do. No condition.
-/
import Derived.Test.YtfbehaodhooaaaaGreatDoorTQ
namespace Go.Proofs.YtfbehaodhooaaaaGreatDoor
set_option maxRecDepth 100000
open Go.RowKit

structure Ac where
  dw : Int
  fd : Int
  n : Int
structure Rl where
  rk : Int
  mt : Nat → Int
  cp : List (List Ac)
  ck : Int
structure Hel where
  r : Rl
  pk : Int
  bt : Int
def InB (x : Int) : Prop := 0 ≤ x ∧ x < 18446744073709551616
def I64 (x : Int) : Prop := -9223372036854775808 ≤ x ∧ x < 9223372036854775808
def Ac.Fit (a : Ac) : Prop := (-128 ≤ a.dw ∧ a.dw < 128) ∧ (-128 ≤ a.fd ∧ a.fd < 128) ∧ InB a.n
/-- Copies that a slice may hold. -/
def Sml (c : List (List Ac)) : Prop := c.length * 24 ≤ 140737488355328 ∧ ∀ l ∈ c, l.length * 16 ≤ 140737488355328
structure Rl.Fit (r : Rl) : Prop where
  rk : I64 r.rk
  mt : Wf r.mt
  ck : InB r.ck
  sm : Sml r.cp
def zRl : Rl := ⟨0, zf, [], 0⟩

section
variable {α : Type}
/-- A slice of things of k cells each, in a block of T; R says what cells a thing has. -/
def Lst (T : Nat → Prop) (k : Nat) (R : World → (Nat → Option Value) → α → Prop) (w : World) (v : Value) (l : List α) : Prop :=
  ∃ ao cap, v = .slice ao l.length cap ∧ l.length ≤ cap ∧ l.length ≤ 140737488355328 ∧ (ao = none → cap = 0) ∧
    (l ≠ [] → ∃ b o, T b ∧ ao = some ⟨b, o, none⟩ ∧ ∀ j (hj : j < l.length), R w (fun i => w.cell? ⟨b, o + j * k + i, none⟩) l[j])
theorem Lst.carry {T T' : Nat → Prop} {k : Nat} {R R' : World → (Nat → Option Value) → α → Prop} {w w' : World} {v : Value} {l : List α} (h : Lst T k R w v l) (hc : ∀ b, b < w.heap.size → T b → T' b ∧ w'.heap[b]? = w.heap[b]?) (hS : ∀ f x, R w f x → ∃ u, f 0 = some u) (hR : ∀ f x, R w f x → R' w' f x) : Lst T' k R' w' v l := by
  obtain ⟨ao, cap, h1, h2, h3, h4, h5⟩ := h
  refine ⟨ao, cap, h1, h2, h3, h4, fun hne => ?_⟩
  obtain ⟨b, o, hb, rfl, hcl⟩ := h5 hne
  have h0 : 0 < l.length := List.length_pos_iff.2 hne
  obtain ⟨u, hu⟩ := hS _ _ (hcl 0 h0)
  have hq := hc b (cell_lt hu) hb
  refine ⟨b, o, hq.1, rfl, fun j hj => ?_⟩
  have := hR _ _ (hcl j hj)
  have e : (fun i => w'.cell? ⟨b, o + j * k + i, none⟩) = fun i => w.cell? ⟨b, o + j * k + i, none⟩ := by
    funext i; exact cell_same hq.2
  rw [e]; exact this
theorem Lst.form {T : Nat → Prop} {k : Nat} {R : World → (Nat → Option Value) → α → Prop} {w : World} {v : Value} {l : List α} (h : Lst T k R w v l) : ∃ ao cap, v = .slice ao l.length cap ∧ l.length ≤ cap := by
  obtain ⟨ao, cap, h1, h2, _⟩ := h
  exact ⟨ao, cap, h1, h2⟩
theorem Lst.len {T : Nat → Prop} {k : Nat} {R : World → (Nat → Option Value) → α → Prop} {w : World} {v : Value} {l : List α} (h : Lst T k R w v l) : l.length ≤ 140737488355328 := by
  obtain ⟨ao, cap, h1, h2, h3, _⟩ := h
  exact h3
theorem Lst.nil (T : Nat → Prop) (k : Nat) (R : World → (Nat → Option Value) → α → Prop) (w : World) : Lst T k R w nilS [] := ⟨none, 0, rfl, by simp, by simp, fun _ => rfl, fun h => absurd rfl h⟩
theorem Lst.all {T : Nat → Prop} {k : Nat} {R : World → (Nat → Option Value) → α → Prop} {P : α → Prop} {w : World} {v : Value} {l : List α} (h : Lst T k R w v l) (hP : ∀ f x, R w f x → P x) : ∀ x ∈ l, P x := by
  intro x hx
  obtain ⟨_, _, _, _, _, _, h5⟩ := h
  obtain ⟨j, hj, rfl⟩ := List.getElem_of_mem hx
  obtain ⟨b, o, _, _, hcl⟩ := h5 (fun e => by subst e; simp at hj)
  exact hP _ _ (hcl j hj)
end


def RAc : World → (Nat → Option Value) → Ac → Prop := fun _ f a => f 0 = some (.int .i8 a.dw) ∧ f 1 = some (.int .i8 a.fd) ∧ f 2 = some (.int .u64 a.n) ∧ a.Fit
abbrev Acs (T : Nat → Prop) (w : World) (v : Value) (l : List Ac) : Prop := Lst T 3 RAc w v l
def RCp (T : Nat → Prop) : World → (Nat → Option Value) → List Ac → Prop := fun w f l => ∃ u, f 0 = some u ∧ Acs T w u l
abbrev Cps (T : Nat → Prop) (w : World) (v : Value) (l : List (List Ac)) : Prop := Lst T 1 (RCp T) w v l
/-- The cells of a rule, of a held rule. -/
abbrev rlc (r : Rl) (u : Value) : Array Value := rc r.rk r.mt u r.ck
def hdc (h : Hel) (u : Value) : Array Value := rlc h.r u ++ #[.int .u64 h.pk, .int .u64 h.bt]
theorem hdc_size (h : Hel) (u : Value) : (hdc h u).size = 27 := by simp [hdc, rlc, rc_size]
theorem hdc_rl (h : Hel) (u : Value) (k : Nat) (hk : k < 25) : (hdc h u)[k]? = (rlc h.r u)[k]? := by
  unfold hdc
  rw [Array.getElem?_append_left (by rw [rc_size]; exact hk)]
theorem hdc_pk (h : Hel) (u : Value) : (hdc h u)[25]? = some (.int .u64 h.pk) := by simp [hdc, rlc, rc_size]
theorem hdc_bt (h : Hel) (u : Value) : (hdc h u)[26]? = some (.int .u64 h.bt) := by simp [hdc, rlc, rc_size]
def RHel (T : Nat → Prop) : World → (Nat → Option Value) → Hel → Prop := fun w f h => ∃ u, (∀ i, i < 27 → f i = (hdc h u)[i]?) ∧ Cps T w u h.r.cp
abbrev Hels (T : Nat → Prop) (w : World) (v : Value) (l : List Hel) : Prop := Lst T 27 (RHel T) w v l
section
variable {T T' : Nat → Prop} {w w' : World} (hc : ∀ b, b < w.heap.size → T b → T' b ∧ w'.heap[b]? = w.heap[b]?)
include hc
theorem Acs.carry {v : Value} {l : List Ac} (h : Acs T w v l) : Acs T' w' v l := Lst.carry h hc (fun _ _ h => ⟨_, h.1⟩) (fun _ _ h => h)
theorem Cps.carry {v : Value} {l : List (List Ac)} (h : Cps T w v l) : Cps T' w' v l := Lst.carry h hc (fun _ _ ⟨_, h, _⟩ => ⟨_, h⟩) (fun _ _ ⟨u, h1, h2⟩ => ⟨u, h1, Acs.carry hc h2⟩)
theorem Hels.carry {v : Value} {l : List Hel} (h : Hels T w v l) : Hels T' w' v l := Lst.carry h hc (fun _ x ⟨u, h, _⟩ => ⟨_, (h 0 (by omega)).trans ((hdc_rl x u 0 (by omega)).trans (rc_rank _ _ _ _))⟩) (fun _ _ ⟨u, h1, h2⟩ => ⟨u, h1, Cps.carry hc h2⟩)
end
end Go.Proofs.YtfbehaodhooaaaaGreatDoor
namespace Go.Proofs.YtfbehaodhooaaaaGreatDoor
set_option maxRecDepth 100000
open Go.ChangeShapes Go.WideShapes Go.ChangeAt Go.RowKit Go.Maps

def pc (r : Int) (m : Nat → Int) : Array Value := #[.int .i64 r] ++ row 22 m
theorem pc_size (r : Int) (m : Nat → Int) : (pc r m).size = 23 := by simp [pc, row_size]
theorem pc_rank (r : Int) (m : Nat → Int) : (pc r m)[0]? = some (.int .i64 r) := by simp [pc, row_size]
theorem pc_mat (r : Int) (m : Nat → Int) (k : Nat) (hk : k < 22) : (pc r m)[1 + k]? = some (.int .u64 (m k)) := by
  unfold pc
  rw [Array.getElem?_append_right (by simp)]
  rw [show 1 + k - (#[Value.int .i64 r] : Array Value).size = k by simp, row_at 22 m k hk]
theorem pc_congr {r : Int} {a b : Nat → Int} (h : ∀ k, k < 22 → a k = b k) : pc r a = pc r b := by
  unfold pc; rw [row_congr h]
theorem cellsPl : Tryz.prog.cellsOf 113 = 23 := by kernel_rfl
theorem cellsI : Tryz.prog.cellsOf 3 = 1 := by kernel_rfl
theorem lawP : Keyed Tryz.prog 113 := Keyed.of_law (deep_law_laid (m := 6) (by kernel_rfl) (by decide) (of_decide_eq_true (by kernel_rfl)) (by kernel_rfl) (by kernel_rfl))
theorem lawU : Keyed Tryz.prog 28 := int_keyed Tryz.underlying28
theorem wf64 {x : Int} (h : I64 x) : (Lit.int .i64 x).wf = true := by
  obtain ⟨h1, h2⟩ := h
  simp [Lit.wf, IntKind.min, IntKind.max, IntKind.signed, IntKind.bits]; omega
theorem wfU {x : Int} (h : InB x) : (Lit.int .u64 x).wf = true := by
  obtain ⟨h1, h2⟩ := h
  simp [Lit.wf, IntKind.min, IntKind.max, IntKind.signed, IntKind.bits]; omega
theorem key_u {n : Int} (h : InB n) : keyOf Tryz.prog 28 (.int .u64 n) = some (.int .u64 n) := keyOf_int_mk Tryz.underlying28 (wfU h)
section
variable {H : Type} {enc : TypeId × Value → H} {W : World} {base : Nat} {sp : Nat → Bool} {held : Bool}
theorem shut_place (r : Int) (m : Nat → Int) (hr : I64 r) (hwf : Wf m) : ∃ d, DataW.Trod enc Tryz.prog W base sp held 113 (.agg (pc r m)) d [] := by
  obtain ⟨n, hn⟩ := shut_match (enc := enc) (W := W) (base := base) (sp := sp) (held := held) m hwf
  have t1 : ((pc r m).toList.drop 0).take 1 = [.int .i64 r] := by simp [pc]
  have t2 : ((pc r m).toList.drop 1).take 22 = (row 22 m).toList := by
    simp [pc]
    exact List.take_of_length_le (by simp [row_size])
  obtain ⟨n', rfl⟩ : ∃ n', n = n' + 1 := by
    cases n with
    | zero => simp [DataW.trod] at hn
    | succ n => exact ⟨n, rfl⟩
  have q1 : DataW.trod enc Tryz.prog W base sp held (n' + 1) 3 (((pc r m).toList.drop 0).take (Tryz.prog.cellsOf 3)) = some (.lit (.int .i64 r), []) := by
    rw [cellsI, t1]; exact trod_int_mk n' Tryz.underlying3 (wf64 hr)
  have q2 : DataW.trod enc Tryz.prog W base sp held (n' + 1) 32 (((pc r m).toList.drop 1).take (Tryz.prog.cellsOf 32)) = some (md m, []) := by
    rw [cellsM, t2]; simpa [Value.cells] using hn
  have := trod_struct2_mk (enc := enc) (w := W) (base := base) (spare := sp) (held := held) (n := n' + 1) (cs := (pc r m).toList) (y0 := (.lit (.int .i64 r), [])) (y1 := (md m, [])) Tryz.underlying113 (by rw [cellsPl]; simp [pc_size]) q1 q2
  exact ⟨_, n' + 1 + 1, by simpa [Value.cells] using this⟩
end
/-- A place's key. -/
noncomputable def kp (r : Int) (m : Nat → Int) : Lit := (keyOf Tryz.prog 113 (.agg (pc r m))).getD (.bool false)
set_option maxRecDepth 100000 in
theorem key_p {r : Int} {m : Nat → Int} (hr : I64 r) (hw : Wf m) : keyOf Tryz.prog 113 (.agg (pc r m)) = some (kp r m) := by
  have hf : (Value.agg (pc r m)).formed Tryz.prog 113 = true := by
    simp [Value.formed, Tryz.underlying113, cellsPl, pc_size]
  obtain ⟨d, hd⟩ := shut_place (enc := fun _ => ()) (W := default) (base := 0) (sp := fun _ => true) (held := true) r m hr hw
  have := (keyOf_asKey (enc := fun _ => ()) (w := default) (base := 0) (sp := fun _ => true) (held := true) (by kernel_rfl) (by rw [Tryz.underlying113]) hf hd).1
  unfold kp
  rw [this]; rfl
theorem kp_congr {r : Int} {a b : Nat → Int} (h : ∀ k, k < 22 → a k = b k) : kp r a = kp r b := by
  unfold kp; rw [pc_congr h]
set_option maxRecDepth 100000 in
theorem kp_inj {r s : Int} {a b : Nat → Int} (hr : I64 r) (hs : I64 s) (ha : Wf a) (hb : Wf b) (h : kp r a = kp s b) : r = s ∧ ∀ k, k < 22 → a k = b k := by
  have k2 := key_p hs hb
  rw [← h] at k2
  have e := lawP.inj (key_p hr ha) k2
  have e' : pc r a = pc s b := by injection e
  refine ⟨?_, fun k hk => ?_⟩
  · have h1 := pc_rank r a
    rw [e', pc_rank] at h1
    simpa using h1.symm
  · have h1 := pc_mat r a k hk
    rw [e', pc_mat s b k hk] at h1
    simpa using h1.symm
/-- Are two rules of one place? -/
def eqP (a b : Rl) : Bool := decide (a.rk = b.rk) && allU (fun k => a.mt k == b.mt k) 22
theorem eqP_iff {a b : Rl} : eqP a b = true ↔ a.rk = b.rk ∧ ∀ k, k < 22 → a.mt k = b.mt k := by
  unfold eqP
  rw [Bool.and_eq_true, allU_iff]
  simp
theorem eqP_kp {a b : Rl} (ha : a.Fit) (hb : b.Fit) : eqP a b = true ↔ kp a.rk a.mt = kp b.rk b.mt := by
  rw [eqP_iff]
  constructor
  · rintro ⟨h1, h2⟩; rw [h1]; exact kp_congr h2
  · exact kp_inj ha.rk hb.rk ha.mt hb.mt
end Go.Proofs.YtfbehaodhooaaaaGreatDoor
namespace Go.Proofs.YtfbehaodhooaaaaGreatDoor
set_option maxRecDepth 100000
open Go.RowKit Go.Maps

/-- Whose a block is. -/
inductive Fg where
  | tup | cop | tab | rul | pla | gon | ent | tal
/-- A rule that is there: its block, its number, the rule, its copies' slice, its counts. -/
structure Fe where
  p : Nat
  k : Int
  r : Rl
  u : Value
  pk : Int
  bt : Int
/-- Counts that are gone: their block, the Cookie, the counts. -/
structure Ge where
  p : Nat
  ck : Int
  pk : Int
  bt : Int
def fec (e : Fe) : Array Value := #[.int .u64 e.pk, .int .u64 e.bt, .int .i64 e.k] ++ rlc e.r e.u
theorem fec_size (e : Fe) : (fec e).size = 28 := by simp [fec, rlc, rc_size]
theorem fec_at (e : Fe) : (fec e)[0]? = some (.int .u64 e.pk) ∧ (fec e)[1]? = some (.int .u64 e.bt) ∧ (fec e)[2]? = some (.int .i64 e.k) := by
  refine ⟨?_, ?_, ?_⟩ <;> simp [fec, rlc, rc_size]
theorem fec_rl (e : Fe) (k : Nat) (_hk : k < 25) : (fec e)[3 + k]? = (rlc e.r e.u)[k]? := by
  unfold fec
  rw [Array.getElem?_append_right (by simp)]
  congr 1; simp
def Fe.ru (e : Fe) : Ru := ⟨e.k, e.r.rk, e.r.mt⟩
def Fe.vw (e : Fe) : Hel := ⟨e.r, e.pk, e.bt⟩
def Ge.cs (x : Ge) : Array Value := #[.int .u64 x.pk, .int .u64 x.bt]
structure EnM (S : Nat → Prop) (o : Nat → Fg) (w : World) (e : Fe) : Prop where
  s : S e.p
  t : o e.p = .ent
  h : w.heap[e.p]? = some (.cells (fec e) 74 (0, 0))
  c : Cps (fun b => S b ∧ o b = .cop) w e.u e.r.cp
structure TaM (S : Nat → Prop) (o : Nat → Fg) (w : World) (x : Ge) : Prop where
  s : S x.p
  t : o x.p = .tal
  h : w.heap[x.p]? = some (.cells x.cs 72 (0, 0))
theorem EnM.carry {S T : Nat → Prop} {o o' : Nat → Fg} {w w' : World} {e : Fe} (h : EnM S o w e) (hc : ∀ b, b < w.heap.size → S b → (b = e.p ∨ o b = .cop) → T b ∧ o' b = o b ∧ w'.heap[b]? = w.heap[b]?) : EnM T o' w' e := by
  have h1 := hc e.p (Array.getElem?_eq_some_iff.1 h.h).1 h.s (Or.inl rfl)
  exact ⟨h1.1, h1.2.1.trans h.t, h1.2.2.trans h.h, Cps.carry (fun b hb hS => by
    have := hc b hb hS.1 (Or.inr hS.2)
    exact ⟨⟨this.1, this.2.1.trans hS.2⟩, this.2.2⟩) h.c⟩
theorem TaM.carry {S T : Nat → Prop} {o o' : Nat → Fg} {w w' : World} {x : Ge} (h : TaM S o w x) (hc : T x.p ∧ o' x.p = o x.p ∧ w'.heap[x.p]? = w.heap[x.p]?) : TaM T o' w' x :=
  ⟨hc.1, hc.2.1.trans h.t, hc.2.2.trans h.h⟩
/-- The table: the blocks of its maps, what they hold, the rules, what is gone, how many were added. -/
structure FlM (S : Nat → Prop) (o : Nat → Fg) (w : World) (g : Nat) (vm : Value) (br bp bg : Nat) (Gr Gp Gg : Lit → Option Value) (room : Int) (es : List Fe) (gs : List Ge) (ad : Int) : Prop where
  sg : S g
  og : o g = .tab
  hg : w.heap[g]? = some (.cells #[vm, .map (some br), .map (some bp), .int .i64 room, .map (some bg)] 63 (0, 0))
  tb : Tbl (fun b => S b ∧ o b = .tup) w vm (es.map Fe.ru) ad
  sr : S br
  or : o br = .rul
  mr : Mp w 3 br es.length Gr
  sp : S bp
  op : o bp = .pla
  mp : Mp w 113 bp es.length Gp
  sn : S bg
  on : o bg = .gon
  mg : Mp w 28 bg gs.length Gg
  ent : ∀ e ∈ es, EnM S o w e
  tal : ∀ x ∈ gs, TaM S o w x
  ne : es.Pairwise fun a b => a.p ≠ b.p
  nt : gs.Pairwise fun a b => a.p ≠ b.p
theorem FlM.carry {S T : Nat → Prop} {o o' : Nat → Fg} {w w' : World} {g : Nat} {vm : Value} {br bp bg : Nat} {Gr Gp Gg : Lit → Option Value} {room : Int} {es : List Fe} {gs : List Ge} {ad : Int} (h : FlM S o w g vm br bp bg Gr Gp Gg room es gs ad)
    (hc : ∀ b, b < w.heap.size → S b → T b ∧ o' b = o b ∧ w'.heap[b]? = w.heap[b]?) : FlM T o' w' g vm br bp bg Gr Gp Gg room es gs ad := by
  have h1 := hc g (Array.getElem?_eq_some_iff.1 h.hg).1 h.sg
  have h2 := hc br h.mr.lt h.sr
  have h3 := hc bp h.mp.lt h.sp
  have h4 := hc bg h.mg.lt h.sn
  exact ⟨h1.1, h1.2.1.trans h.og, h1.2.2.trans h.hg, h.tb.carry fun b hb hS => by
      have := hc b hb hS.1
      exact ⟨⟨this.1, this.2.1.trans hS.2⟩, this.2.2⟩,
    h2.1, h2.2.1.trans h.or, h.mr.carry h2.2.2, h3.1, h3.2.1.trans h.op, h.mp.carry h3.2.2, h4.1, h4.2.1.trans h.on, h.mg.carry h4.2.2,
    fun e he => (h.ent e he).carry fun b hb hS _ => hc b hb hS, fun x hx => (h.tal x hx).carry (hc x.p (Array.getElem?_eq_some_iff.1 (h.tal x hx).h).1 (h.tal x hx).s), h.ne, h.nt⟩
/-- What the maps hold are the rules and what is gone; the rules' own order. -/
structure FInv (Gr Gp Gg : Lit → Option Value) (room : Int) (es : List Fe) (gs : List Ge) (ad : Int) : Prop where
  gr : ∀ l v, Gr l = some v ↔ ∃ e ∈ es, l = .int .i64 e.k ∧ v = pv e.p
  gp : ∀ l v, Gp l = some v ↔ ∃ e ∈ es, l = kp e.r.rk e.r.mt ∧ v = pv e.p
  gg : ∀ l v, Gg l = some v ↔ ∃ x ∈ gs, l = .int .u64 x.ck ∧ v = pv x.p
  fit : ∀ e ∈ es, e.r.Fit ∧ mOk e.r.mt = true ∧ InB e.pk ∧ InB e.bt
  fig : ∀ x ∈ gs, InB x.ck ∧ InB x.pk ∧ InB x.bt
  num : es.Pairwise fun a b => a.k < b.k
  bd : ∀ e ∈ es, 1 ≤ e.k ∧ e.k ≤ ad
  apart : es.Pairwise fun a b => eqP a.r b.r = false
  once : gs.Pairwise fun a b => a.ck ≠ b.ck
  ad0 : 0 ≤ ad
  rm : 0 ≤ room ∧ room ≤ 1024
  len : (es.length : Int) ≤ room
end Go.Proofs.YtfbehaodhooaaaaGreatDoor
