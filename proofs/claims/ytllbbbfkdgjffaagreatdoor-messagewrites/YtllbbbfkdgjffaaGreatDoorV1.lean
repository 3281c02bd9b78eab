/-
  Plain facts: messages as data; their bytes; how bytes are read, with the looks at what is read (c = true) or without (c = false). No program is spoken of.
-/
/-
  Proved here: how lists, rules, held rules and messages lie in memory, and that they stay as long as their blocks do. No condition.
-/
import Derived.Test.YtllbbbfkdgjffaaGreatDoorM1
namespace Go.Proofs.YtllbbbfkdgjffaaGreatDoor

structure Ac where
  dw : Int
  fd : Int
  n : Int
structure Rl where
  rk : Int
  mt : Nat → Int
  cp : List (List Ac)
  ck : Int
structure Hd where
  r : Rl
  pk : Int
  bt : Int
structure Ms where
  ty : Int
  id : Int
  dw : Int
  r : Rl
  po : Int
  up : Bool
  sw : Int
  ps : List Int
  ed : List Int
  fr : List Int
  hs : List Hd
  co : Int
def zRl : Rl := ⟨0, zf, [], 0⟩
def zMs : Ms := ⟨0, 0, 0, zRl, 0, false, 0, [], [], [], [], 0⟩

/-- Numbers that the types hold. -/
def In16 (x : Int) : Prop := 0 ≤ x ∧ x < 65536
def Ac.Fit (a : Ac) : Prop := (-128 ≤ a.dw ∧ a.dw < 128) ∧ (-128 ≤ a.fd ∧ a.fd < 128) ∧ InB a.n
def Rl.Fit (r : Rl) : Prop := (-9223372036854775808 ≤ r.rk ∧ r.rk < 9223372036854775808) ∧ (∀ k, k < 22 → InB (r.mt k)) ∧ (∀ k, 22 ≤ k → r.mt k = 0) ∧ (∀ l ∈ r.cp, ∀ a ∈ l, a.Fit) ∧ InB r.ck
def Hd.Fit (h : Hd) : Prop := h.r.Fit ∧ InB h.pk ∧ InB h.bt
structure Ms.Fit (m : Ms) : Prop where
  ty : -128 ≤ m.ty ∧ m.ty < 128
  id : 0 ≤ m.id ∧ m.id < 4294967296
  dw : -128 ≤ m.dw ∧ m.dw < 128
  r : m.r.Fit
  po : In16 m.po
  sw : In16 m.sw
  ps : ∀ x ∈ m.ps, In16 x
  ed : ∀ x ∈ m.ed, In16 x
  fr : IsB m.fr
  hs : ∀ h ∈ m.hs, h.Fit
  co : In16 m.co

/-- What stands where: the bytes. -/
def encAc (a : Ac) : List Int := dg a.dw 1 ++ (dg a.fd 1 ++ dg a.n 8)
def encCp (l : List Ac) : List Int := dg l.length 2 ++ l.flatMap encAc
def mb (m : Nat → Int) : Nat → Int
  | 0 => 0
  | k + 1 => mb m k + (if m (11 + k) = 0 then 0 else 2 ^ k)
def ent (m : Nat → Int) (k : Nat) : List Int := if m (11 + k) = 0 then [] else dg (m k) (sz k) ++ dg (m (11 + k)) (sz k)
def fs (m : Nat → Int) : Nat → List Int
  | 0 => []
  | k + 1 => fs m k ++ ent m k
def encMt (m : Nat → Int) : List Int := dg (mb m 11) 2 ++ fs m 11
def encCs (l : List (List Ac)) : List Int := dg l.length 2 ++ l.flatMap encCp
def encRl (r : Rl) : List Int := dg r.rk 4 ++ (dg r.ck 8 ++ (encMt r.mt ++ encCs r.cp))
def encHd (h : Hd) : List Int := encRl h.r ++ (dg h.pk 8 ++ dg h.bt 8)
def encHs (l : List Hd) : List Int := dg l.length 2 ++ l.flatMap encHd
def encSh (l : List Int) : List Int := dg l.length 2 ++ l.flatMap fun x => dg x 2
/-- Parts of a message. -/
inductive Fk where
  | sw | ps | ed | dw | rl | po | mo | fr | hs | up | co
def pts (ty : Int) : List Fk := if ty = 4 then [.sw, .ps, .ed] else if ty = 5 then [.dw, .rl] else if ty = 6 ∨ ty = 7 then [.po, .fr] else if ty = 11 then [.mo, .hs] else if ty = 12 then [.po, .up] else if ty = 13 then [.co] else []
def flag (b : Bool) : Int := bif b then 1 else 0
def encF (m : Ms) : Fk → List Int
  | .sw => dg m.sw 2
  | .ps => encSh m.ps
  | .ed => encSh m.ed
  | .dw => dg m.dw 1
  | .rl => encRl m.r
  | .po => dg m.po 2
  | .mo => dg m.po 2
  | .fr => dg m.fr.length 2 ++ m.fr
  | .hs => encHs m.hs
  | .up => dg (flag m.up) 1
  | .co => dg m.co 2
def body (m : Ms) : List Int := (pts m.ty).flatMap (encF m)
def encMs (m : Ms) : List Int := dg 1 1 ++ (dg m.ty 1 ++ (dg (8 + (body m).length : Nat) 2 ++ (dg m.id 4 ++ body m)))

/-- What is right. -/
def okAc (a : Ac) : Bool := decide (a.dw = 0 ∧ 0 ≤ a.fd ∨ a.dw = 1 ∧ a.fd = 0 ∨ a.dw = 2 ∧ a.fd = 0 ∧ a.n = 0)
def okCp (l : List Ac) : Bool := l.all okAc
def okRk (x : Int) : Bool := decide (-2147483648 ≤ x ∧ x ≤ 2147483647)
def okRl (r : Rl) : Bool := okRk r.rk && (mOk r.mt && r.cp.all okCp)
def okHd (h : Hd) : Bool := okRl h.r
def okDo (x : Int) : Bool := decide (0 ≤ x ∧ x ≤ 3)
def okMo (x : Int) : Bool := decide (x ≤ 1)
def okF (m : Ms) : Fk → Bool
  | .dw => okDo m.dw
  | .rl => okRl m.r
  | .mo => okMo m.po
  | .hs => m.hs.all okHd
  | _ => true
def clF (m : Ms) : Fk → Ms
  | .sw => { m with sw := 0 }
  | .ps => { m with ps := [] }
  | .ed => { m with ed := [] }
  | .dw => { m with dw := 0 }
  | .rl => { m with r := zRl }
  | .po => { m with po := 0 }
  | .mo => { m with po := 0 }
  | .fr => { m with fr := [] }
  | .hs => { m with hs := [] }
  | .up => { m with up := false }
  | .co => { m with co := 0 }
def blRl (r : Rl) : Bool := decide (r.rk = 0) && (allU (fun k => r.mt k == 0) 22 && (decide (r.cp.length = 0) && decide (r.ck = 0)))
def blank (m : Ms) : Bool := decide (m.dw = 0) && (blRl m.r && (decide (m.po = 0) && (!m.up && (decide (m.sw = 0) && (decide (m.co = 0) && (decide (m.ps.length = 0) && (decide (m.ed.length = 0) && (decide (m.fr.length = 0) && decide (m.hs.length = 0)))))))))
def isTy (x : Int) : Bool := decide (0 ≤ x ∧ x < 14)
def rest (m : Ms) : Ms := (pts m.ty).foldl clF m
def okMs (m : Ms) : Bool := isTy m.ty && (blank (rest m) && (pts m.ty).all (okF m))
/-- What Encode answers: an error's number. -/
def enE (m : Ms) : Int := if okMs m then (if (encMs m).length ≤ 8192 then 0 else 3) else 70

/-- Reading. -/
def i8 (n : Int) : Int := if n < 128 then n else n - 256
def i32 (n : Int) : Int := if n % 4294967296 < 2147483648 then n % 4294967296 else n % 4294967296 - 4294967296
def kp {α : Type} (c ok : Bool) (x : α) : Option α := if (c && !ok) = true then none else some x
def rdl {α : Type} (p : List Int → Option (α × List Int)) : Nat → List Int → Option (List α × List Int)
  | 0, r => some ([], r)
  | n + 1, r => (p r).bind fun x => (rdl p n x.2).map fun q => (x.1 :: q.1, q.2)
def rdL {α : Type} (p : List Int → Option (α × List Int)) (r : List Int) : Option (List α × List Int) := (tk 2 r).bind fun c => rdl p c.1.toNat c.2
def rdAc (c : Bool) (r : List Int) : Option (Ac × List Int) := (tk 1 r).bind fun a => (tk 1 a.2).bind fun b => (tk 8 b.2).bind fun d => kp c (okAc ⟨i8 a.1, i8 b.1, d.1⟩) (⟨i8 a.1, i8 b.1, d.1⟩, d.2)
def rdFs (b : Int) : Nat → (Nat → Int) → List Int → Option ((Nat → Int) × List Int)
  | 0, m, r => some (m, r)
  | j + 1, m, r => if b / 2 ^ (10 - j) % 2 = 1 then (tk (sz (10 - j)) r).bind fun x => (tk (sz (10 - j)) x.2).bind fun y => if y.1 = 0 then none else rdFs b j (upd (upd m (10 - j) x.1) (11 + (10 - j)) y.1) y.2 else rdFs b j m r
def rdMt (c : Bool) (r : List Int) : Option ((Nat → Int) × List Int) := (tk 2 r).bind fun b => if b.1 / 2048 = 0 then (rdFs b.1 11 zf b.2).bind fun x => kp c (mOk x.1) x else none
def rdRl (c : Bool) (r : List Int) : Option (Rl × List Int) := (tk 4 r).bind fun a => (tk 8 a.2).bind fun b => (rdMt c b.2).bind fun d => (rdL (rdL (rdAc c)) d.2).map fun e => (⟨i32 a.1, d.1, e.1, b.1⟩, e.2)
def rdHd (c : Bool) (r : List Int) : Option (Hd × List Int) := (rdRl c r).bind fun a => (tk 8 a.2).bind fun b => (tk 8 b.2).map fun d => (⟨a.1, b.1, d.1⟩, d.2)
def rdBy (r : List Int) : Option (List Int × List Int) := (tk 2 r).bind fun x => if x.1.toNat ≤ x.2.length then some (x.2.take x.1.toNat, x.2.drop x.1.toNat) else none
def rdF (c : Bool) (m : Ms) (r : List Int) : Fk → Option (Ms × List Int)
  | .sw => (tk 2 r).map fun x => ({ m with sw := x.1 }, x.2)
  | .ps => (rdL (tk 2) r).map fun x => ({ m with ps := x.1 }, x.2)
  | .ed => (rdL (tk 2) r).map fun x => ({ m with ed := x.1 }, x.2)
  | .dw => (tk 1 r).bind fun x => kp c (okDo (i8 x.1)) ({ m with dw := i8 x.1 }, x.2)
  | .rl => (rdRl c r).map fun x => ({ m with r := x.1 }, x.2)
  | .po => (tk 2 r).map fun x => ({ m with po := x.1 }, x.2)
  | .mo => (tk 2 r).bind fun x => kp c (okMo x.1) ({ m with po := x.1 }, x.2)
  | .fr => (rdBy r).map fun x => ({ m with fr := x.1 }, x.2)
  | .hs => (rdL (rdHd c) r).map fun x => ({ m with hs := x.1 }, x.2)
  | .up => (tk 1 r).bind fun x => if x.1 ≤ 1 then some ({ m with up := decide (x.1 = 1) }, x.2) else none
  | .co => (tk 2 r).map fun x => ({ m with co := x.1 }, x.2)
def rdPs (c : Bool) : List Fk → Ms → List Int → Option (Ms × List Int)
  | [], m, r => some (m, r)
  | k :: l, m, r => (rdF c m r k).bind fun x => rdPs c l x.1 x.2
def fld (d : List Int) (a k : Nat) : Int := num ((d.drop a).take k)
def tyOf (bs : List Int) : Int := i8 (fld bs 1 1)
def m0 (bs : List Int) : Ms := { zMs with ty := tyOf bs, id := fld bs 4 4 }
def prs (c : Bool) (bs : List Int) : Option Ms := (rdPs c (pts (tyOf bs)) (m0 bs) (bs.drop 8)).bind fun x => if x.2 = [] then some x.1 else none
def dec (bs : List Int) : Option Ms := if bs.length ≤ 8192 ∧ fld bs 0 1 = 1 ∧ isTy (tyOf bs) = true ∧ fld bs 2 2 = bs.length then prs true bs else none
/-- What Decode answers: an error's number. -/
def deE (bs : List Int) : Int := if bs.length < 8 ∨ (bs.length : Int) < fld bs 2 2 then 51 else match dec bs with | none => 70 | some _ => 0
end Go.Proofs.YtllbbbfkdgjffaaGreatDoor
namespace Go.Proofs.YtllbbbfkdgjffaaGreatDoor
open Go.RowKit

section
variable {α : Type}
/-- A slice of things of k cells each, in a block of T; R says what cells a thing has. -/
def Lst (T : Nat → Prop) (k : Nat) (R : World → (Nat → Option Value) → α → Prop) (w : World) (v : Value) (l : List α) : Prop :=
  ∃ ao cap, v = .slice ao l.length cap ∧ l.length ≤ cap ∧ l.length ≤ 140737488355328 ∧ (ao = none → cap = 0) ∧
    (l ≠ [] → ∃ b o, T b ∧ ao = some ⟨b, o, none⟩ ∧ ∀ j (hj : j < l.length), R w (fun i => w.cell? ⟨b, o + j * k + i, none⟩) l[j])
theorem Lst.carry {T T' : Nat → Prop} {k : Nat} {R R' : World → (Nat → Option Value) → α → Prop} {w w' : World} {v : Value} {l : List α} (h : Lst T k R w v l) (hc : ∀ b, b < w.heap.size → T b → T' b ∧ w'.heap[b]? = w.heap[b]?) (hS : ∀ f x, R w f x → ∃ u, f 0 = some u) (hR : ∀ f x, R w f x → R' w' f x) : Lst T' k R' w' v l := by
  obtain ⟨ao, cap, h1, h2, h3, h4, h5⟩ := h
  refine ⟨ao, cap, h1, h2, h3, h4, fun hne => ?_⟩
  obtain ⟨b, o, hb, rfl, hcl⟩ := h5 hne
  have h0 : 0 < l.length := List.length_pos_iff.2 hne
  obtain ⟨u, hu⟩ := hS _ _ (hcl 0 h0)
  have hq := hc b (cell_lt hu) hb
  refine ⟨b, o, hq.1, rfl, fun j hj => ?_⟩
  have := hR _ _ (hcl j hj)
  have e : (fun i => w'.cell? ⟨b, o + j * k + i, none⟩) = fun i => w.cell? ⟨b, o + j * k + i, none⟩ := by
    funext i; exact cell_same hq.2
  rw [e]; exact this
theorem Lst.form {T : Nat → Prop} {k : Nat} {R : World → (Nat → Option Value) → α → Prop} {w : World} {v : Value} {l : List α} (h : Lst T k R w v l) : ∃ ao cap, v = .slice ao l.length cap ∧ l.length ≤ cap := by
  obtain ⟨ao, cap, h1, h2, _⟩ := h
  exact ⟨ao, cap, h1, h2⟩
theorem Lst.len {T : Nat → Prop} {k : Nat} {R : World → (Nat → Option Value) → α → Prop} {w : World} {v : Value} {l : List α} (h : Lst T k R w v l) : l.length ≤ 140737488355328 := by
  obtain ⟨ao, cap, h1, h2, h3, _⟩ := h
  exact h3
theorem Lst.nil (T : Nat → Prop) (k : Nat) (R : World → (Nat → Option Value) → α → Prop) (w : World) : Lst T k R w nilS [] := ⟨none, 0, rfl, by simp, by simp, fun _ => rfl, fun h => absurd rfl h⟩
theorem Lst.all {T : Nat → Prop} {k : Nat} {R : World → (Nat → Option Value) → α → Prop} {P : α → Prop} {w : World} {v : Value} {l : List α} (h : Lst T k R w v l) (hP : ∀ f x, R w f x → P x) : ∀ x ∈ l, P x := by
  intro x hx
  obtain ⟨_, _, _, _, _, _, h5⟩ := h
  obtain ⟨j, hj, rfl⟩ := List.getElem_of_mem hx
  obtain ⟨b, o, _, _, hcl⟩ := h5 (fun e => by subst e; simp at hj)
  exact hP _ _ (hcl j hj)
end

def RSh : World → (Nat → Option Value) → Int → Prop := fun _ f x => f 0 = some (.int .u16 x) ∧ In16 x
def RAc : World → (Nat → Option Value) → Ac → Prop := fun _ f a => f 0 = some (.int .i8 a.dw) ∧ f 1 = some (.int .i8 a.fd) ∧ f 2 = some (.int .u64 a.n) ∧ a.Fit
abbrev Shs (T : Nat → Prop) (w : World) (v : Value) (l : List Int) : Prop := Lst T 1 RSh w v l
abbrev Acs (T : Nat → Prop) (w : World) (v : Value) (l : List Ac) : Prop := Lst T 3 RAc w v l
def RCp (T : Nat → Prop) : World → (Nat → Option Value) → List Ac → Prop := fun w f l => ∃ u, f 0 = some u ∧ Acs T w u l
abbrev Cps (T : Nat → Prop) (w : World) (v : Value) (l : List (List Ac)) : Prop := Lst T 1 (RCp T) w v l
/-- The cells of a rule, with its Copies' slice; of a held rule; of a message. -/
def rlc (r : Rl) (u : Value) : Array Value := #[.int .i64 r.rk] ++ row 22 r.mt ++ #[u, .int .u64 r.ck]
def hdc (h : Hd) (u : Value) : Array Value := rlc h.r u ++ #[.int .u64 h.pk, .int .u64 h.bt]
structure Sls where
  cp : Value
  ps : Value
  ed : Value
  fr : Value
  hs : Value
def msc (m : Ms) (s : Sls) : Array Value := #[.int .i8 m.ty, .int .u32 m.id, .int .i8 m.dw] ++ rlc m.r s.cp ++ #[.int .u16 m.po, .bool m.up, .int .u16 m.sw, s.ps, s.ed, s.fr, s.hs, .int .u16 m.co]
def RHd (T : Nat → Prop) : World → (Nat → Option Value) → Hd → Prop := fun w f h => ∃ u, (∀ i, i < 27 → f i = (hdc h u)[i]?) ∧ Cps T w u h.r.cp ∧ h.Fit
abbrev Hds (T : Nat → Prop) (w : World) (v : Value) (l : List Hd) : Prop := Lst T 27 (RHd T) w v l
theorem rlc_size (r : Rl) (u : Value) : (rlc r u).size = 25 := by simp [rlc, row_size]
theorem hdc_size (h : Hd) (u : Value) : (hdc h u).size = 27 := by simp [hdc, rlc_size]
theorem msc_size (m : Ms) (s : Sls) : (msc m s).size = 36 := by simp [msc, rlc_size]
theorem rlc_rk (r : Rl) (u : Value) : (rlc r u)[0]? = some (.int .i64 r.rk) := by simp [rlc, row_size]
theorem rlc_mt (r : Rl) (u : Value) (k : Nat) (h : k < 22) : (rlc r u)[1 + k]? = some (.int .u64 (r.mt k)) := by
  unfold rlc
  rw [Array.append_assoc, Array.getElem?_append_right (by simp), Array.getElem?_append_left (by simp [row_size]; omega)]
  simp only [List.size_toArray, List.length_cons, List.length_nil]
  rw [show 1 + k - (0 + 1) = k by omega]
  exact row_at 22 r.mt k h
theorem rlc_cp (r : Rl) (u : Value) : (rlc r u)[23]? = some u := by simp [rlc, row_size]
theorem rlc_ck (r : Rl) (u : Value) : (rlc r u)[24]? = some (.int .u64 r.ck) := by simp [rlc, row_size]
theorem hdc_rl (h : Hd) (u : Value) (k : Nat) (hk : k < 25) : (hdc h u)[k]? = (rlc h.r u)[k]? := by
  unfold hdc
  rw [Array.getElem?_append_left (by rw [rlc_size]; exact hk)]
theorem hdc_pk (h : Hd) (u : Value) : (hdc h u)[25]? = some (.int .u64 h.pk) := by simp [hdc, rlc_size]
theorem hdc_bt (h : Hd) (u : Value) : (hdc h u)[26]? = some (.int .u64 h.bt) := by simp [hdc, rlc_size]
theorem msc_rl (m : Ms) (s : Sls) (k : Nat) (hk : k < 25) : (msc m s)[3 + k]? = (rlc m.r s.cp)[k]? := by
  unfold msc
  rw [Array.append_assoc, Array.getElem?_append_right (by simp), Array.getElem?_append_left (by simp [rlc_size]; omega)]
  simp only [List.size_toArray, List.length_cons, List.length_nil]
  rw [show 3 + k - (0 + 1 + 1 + 1) = k by omega]
theorem msc_at (m : Ms) (s : Sls) : (msc m s)[0]? = some (.int .i8 m.ty) ∧ (msc m s)[1]? = some (.int .u32 m.id) ∧ (msc m s)[2]? = some (.int .i8 m.dw) ∧ (msc m s)[28]? = some (.int .u16 m.po) ∧ (msc m s)[29]? = some (.bool m.up) ∧ (msc m s)[30]? = some (.int .u16 m.sw) ∧ (msc m s)[31]? = some s.ps ∧ (msc m s)[32]? = some s.ed ∧ (msc m s)[33]? = some s.fr ∧ (msc m s)[34]? = some s.hs ∧ (msc m s)[35]? = some (.int .u16 m.co) := by
  refine ⟨?_, ?_, ?_, ?_, ?_, ?_, ?_, ?_, ?_, ?_, ?_⟩ <;> simp [msc, rlc_size]

section
variable {T T' : Nat → Prop} {w w' : World} (hc : ∀ b, b < w.heap.size → T b → T' b ∧ w'.heap[b]? = w.heap[b]?)
include hc
theorem Shs.carry {v : Value} {l : List Int} (h : Shs T w v l) : Shs T' w' v l := Lst.carry h hc (fun _ _ h => ⟨_, h.1⟩) (fun _ _ h => h)
theorem Acs.carry {v : Value} {l : List Ac} (h : Acs T w v l) : Acs T' w' v l := Lst.carry h hc (fun _ _ h => ⟨_, h.1⟩) (fun _ _ h => h)
theorem Cps.carry {v : Value} {l : List (List Ac)} (h : Cps T w v l) : Cps T' w' v l := Lst.carry h hc (fun _ _ ⟨_, h, _⟩ => ⟨_, h⟩) (fun _ _ ⟨u, h1, h2⟩ => ⟨u, h1, Acs.carry hc h2⟩)
theorem Hds.carry {v : Value} {l : List Hd} (h : Hds T w v l) : Hds T' w' v l := Lst.carry h hc (fun _ x ⟨u, h, _⟩ => ⟨_, (h 0 (by omega)).trans ((hdc_rl x u 0 (by omega)).trans (rlc_rk _ _))⟩) (fun _ _ ⟨u, h1, h2, h3⟩ => ⟨u, h1, Cps.carry hc h2, h3⟩)
end
/-- The slices of a message hold what it holds, in blocks of T. -/
structure Mss (T : Nat → Prop) (w : World) (m : Ms) (s : Sls) : Prop where
  cp : Cps T w s.cp m.r.cp
  ps : Shs T w s.ps m.ps
  ed : Shs T w s.ed m.ed
  fr : SlC T w s.fr m.fr
  hs : Hds T w s.hs m.hs
theorem Mss.carry {T T' : Nat → Prop} {w w' : World} {m : Ms} {s : Sls} (h : Mss T w m s) (hc : ∀ b, b < w.heap.size → T b → T' b ∧ w'.heap[b]? = w.heap[b]?) : Mss T' w' m s :=
  ⟨Cps.carry hc h.cp, Shs.carry hc h.ps, Shs.carry hc h.ed, h.fr.carry hc, Hds.carry hc h.hs⟩
end Go.Proofs.YtllbbbfkdgjffaaGreatDoor
