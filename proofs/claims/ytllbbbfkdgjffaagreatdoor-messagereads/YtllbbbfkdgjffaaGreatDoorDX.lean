/-
  Proved here: the document's Decode answers what the program's does: a message, or ErrShort, or ErrMessage. Condition: the bytes' memory is old.
-/
import Derived.Test.YtllbbbfkdgjffaaGreatDoorDZ
import Derived.Deep.CutBlock
namespace Go.Proofs.YtllbbbfkdgjffaaGreatDoor
open Go.RowKit

/-- What the document's Decode leaves. -/
def DeP (w : World) (bs : List Int) (e : Ending) (w' : World) : Prop := Below w.heap.size w w' ∧ ∃ s, e = .returned (.tuple #[.agg (msc (deM bs) s), .int .i64 (deE bs)]) ∧ Mss (fun x => w.heap.size ≤ x ∧ x < w'.heap.size) w' (deM bs) s
def hdBad (bs : List Int) : Bool := !(decide (fld bs 0 1 = 1) && decide (fld bs 2 2 = (bs.length : Int)))
def st0 (bs : List Int) : Option (List Int) := bif hdBad bs then none else some (bs.drop 8)
theorem resDe (tmps : Array Value) (w : World) (q : Nat) (m : Ms) (s : Sls) (c : Value) (hp : tmps.getD 2 undef = ptr q) (hc : tmps.getD 3 undef = c) (hg : MB w q m s) :
    (results Tryz.f12 tmps).run Tryz.prog w = .ok (.tuple #[.agg (msc m s), c]) w := by
  have hp' : tmps[2]?.getD undef = ptr q := by simpa using hp
  have hc' : tmps[3]?.getD undef = c := by simpa using hc
  have h0 : (loadVar 37 ⟨q, 0, none⟩).run Tryz.prog w = .ok (.agg (msc m s)) w := run_loadVar_row w q 37 37 _ (0, 0) _ hg Tryz.underlying37 rfl (sizeMs m s)
  simp [results, Tryz.results12, hp', hc', asAddr, h0]
structure H7 (b o : Nat) (x : Int) (w : World) : Prop where
  c1 : w.cell? ⟨b, o + 1, none⟩ = some (.int .u8 x)
theorem runBr {o : Oper} {a : Act} {w : World} (x y : Operand) (ho : o.op = .build 37 #[(0, x), (1, y)]) (p q : Int) (hx : a.eval x = .int .i8 p) (hy : a.eval y = .int .u32 q) : (execOp a.eval o).run Tryz.prog w = .ok (.value (.agg (msc ⟨p, q, 0, zRl, 0, false, 0, [], [], [], [], 0⟩ zSl))) w := by
  have := buildBr p q w
  unfold execOp
  simp only [ho, hx, hy, List.map_toArray, List.map_cons, List.map_nil, Sem.run_bind, Sem.run_pure, Result.andThen_ok, this]
theorem deP_zero {w y : World} {bs : List Int} {e : Int} (hb : Below w.heap.size w y) (he : deE bs = e) (hm : deM bs = zMs) : DeP w bs (.returned (.tuple #[.agg (msc zMs zSl), .int .i64 e])) y :=
  ⟨hb, zSl, by rw [he, hm], by rw [hm]; exact Mss.zero _ _ 0 0⟩
/-- What was read is what the document's Decode reads. -/
theorem rdec_of {bs : List Int} {m : Ms} {st' : Option (List Int)} (hG : Got (rdPs false (pts (tyOf bs)) (m0 bs)) (st0 bs) m st') : (st' = none → rdec bs = none) ∧ ∀ r, st' = some r → rdec bs = if r = [] then (if enE m = 0 then some m else none) else none := by
  have hh : rdec bs = ((st0 bs).bind (rdPs false (pts (tyOf bs)) (m0 bs))).bind fun x => if x.2 = [] then (if enE x.1 = 0 then some x.1 else none) else none := by
    unfold rdec st0 hdBad prs
    by_cases h1 : fld bs 0 1 = 1
    · by_cases h2 : fld bs 2 2 = (bs.length : Int)
      · rw [if_pos ⟨h1, h2⟩, decide_eq_true h1, decide_eq_true h2]
        simp only [Bool.and_true, Bool.not_true, cond_false, Option.bind_some]
        cases rdPs false (pts (tyOf bs)) (m0 bs) (bs.drop 8) with
        | none => rfl
        | some x =>
          simp only [Option.bind_some]
          split <;> rfl
      · rw [if_neg (fun h => h2 h.2), decide_eq_false h2]
        simp
    · rw [if_neg (fun h => h1 h.1), decide_eq_false h1]
      simp
  refine ⟨fun e => ?_, fun r e => ?_⟩
  · subst e
    rw [hh, hG.bad]; rfl
  · subst e
    rw [hh, hG.good]; rfl
theorem lst_nil {α : Type} {S S' : Nat → Prop} {k : Nat} {R R' : World → (Nat → Option Value) → α → Prop} {w w' : World} {l : List α} (h : Lst S k R w nilS l) : Lst S' k R' w' nilS l := by
  obtain ⟨ao, cap, h1, _⟩ := h
  have : l.length = 0 := by
    injection h1 with _ h2 _
    exact h2.symm
  obtain rfl : l = [] := List.length_eq_zero_iff.1 this
  exact Lst.nil _ _ _ _
theorem slc_nil {S : Nat → Prop} {w : World} {l : List Int} (h : SlC S w nilS l) : l = [] := by
  obtain ⟨ao, cap, h1, _⟩ := h
  injection h1 with _ h2 _
  exact List.length_eq_zero_iff.1 h2.symm
/-- What the switch leaves. -/
def SwP (T : Nat → Prop) (W : World) (g : Nat) (v : Value) (bs : List Int) (t id' : Int) (wx : World) : Prop := ∃ (m : Ms) (s : Sls) (st' : Option (List Int)), Dm T W g v bs st' m s wx ∧ Got (rdPs false (pts t) ⟨t, id', 0, zRl, 0, false, 0, [], [], [], [], 0⟩) (st0 bs) m st'
/-- What an append of a byte to the frame leaves. -/
def FrP (T : Nat → Prop) (W : World) (g : Nat) (v : Value) (bs : List Int) (m : Ms) (l : List Int) (x : Int) (u _u : Value) (st3 st5 : Option (List Int)) (v4 : Value) (x4 : World) : Prop :=
  x4.cell? ⟨W.heap.size, 33, none⟩ = some u ∧ x4.frozen? ⟨W.heap.size, 33, none⟩ = false ∧ Dm T W g v bs st5 { m with fr := l ++ [x] } ⟨nilS, nilS, nilS, v4, nilS⟩ (x4.setCell ⟨W.heap.size, 33, none⟩ v4) ∧ Rw (fun b => W.heap.size + 1 ≤ b) 1 5 (x4.setCell ⟨W.heap.size, 33, none⟩ v4) v4 (l ++ [x]).length ((l ++ [x]).map (Value.int .u8)) ∧ IsB (l ++ [x]) ∧ Got (rdl (tk 1) (l.length + 1)) st3 (l ++ [x]) st5
theorem fr_app {T : Nat → Prop} {W : World} {g : Nat} {v : Value} {bs : List Int} {m : Ms} {l : List Int} {u : Value} {st3 st4 : Option (List Int)} {wx : World} (hT : ∀ b, T b → b < W.heap.size) (hg : g < W.heap.size) (hW : Rw (fun b => W.heap.size + 1 ≤ b) 1 5 wx u l.length (l.map (Value.int .u8))) (hB : IsB l) (hG : Got (rdl (tk 1) l.length) st3 l st4) (hl : l.length < 65535) {z3 : World} {x : Int} {st5 : Option (List Int)} (o3 : Only (fun b => b = g) wx.drew z3) (hD3 : Dm T W g v bs st5 m ⟨nilS, nilS, nilS, u, nilS⟩ z3) (hG3 : Got (tk 1) st4 x st5) (x0 : 0 ≤ x) (x2 : x < 256) :
    z3.cell? ⟨W.heap.size, 33, none⟩ = some u ∧ (z3.alloc (.cells #[.int .u8 x] 5)).cell? ⟨W.heap.size, 33, none⟩ = some u ∧ Rw (fun b => W.heap.size + 1 ≤ b) 1 5 (z3.alloc (.cells #[.int .u8 x] 5)) u l.length (l.map (Value.int .u8)) ∧ ∀ v4 x4, Apd (z3.alloc (.cells #[.int .u8 x] 5)) u x4 → Rw (fun b => (W.heap.size + 1 ≤ b) ∨ (z3.alloc (.cells #[.int .u8 x] 5)).heap.size ≤ b) 1 5 x4 v4 (l.length + 1) (l.map (Value.int .u8) ++ [.int .u8 x]) → FrP T W g v bs m l x u u st3 st5 v4 x4 := by
  have two := hD3.two
  have hal : Below z3.heap.size z3 (z3.alloc (.cells #[.int .u8 x] 5)) := (Below.refl _ _).alloc (Nat.le_refl _) _
  have hW3 : Rw (fun b => W.heap.size + 1 ≤ b) 1 5 (z3.alloc (.cells #[.int .u8 x] 5)) u l.length (l.map (Value.int .u8)) := hW.keep fun b cur hS hb => by
    have hlt : b < wx.drew.heap.size := (Array.getElem?_eq_some_iff.1 hb).1
    have h1 := o3.block b (by omega)
    exact (hal.block b (Nat.lt_of_lt_of_le hlt o3.size)).trans h1
  refine ⟨(mb_cells hD3.mb).2.2.2.2.2.2.2.2.1, (cell_same (hal.block W.heap.size (by omega))).trans (mb_cells hD3.mb).2.2.2.2.2.2.2.2.1, hW3, fun v4 x4 hA hR => ?_⟩
  have hO : Only (fun b => W.heap.size + 1 ≤ b) z3 x4 := (Only.of hal fun b hb => by omega).trans (hA.only (fun b hb => by have := hal.size; have hb' : (z3.alloc (.cells #[.int .u8 x] 5)).heap.size ≤ b := hb; omega) fun b hb => hW3.own b hb)
  have hmb : MB x4 W.heap.size m ⟨nilS, nilS, nilS, u, nilS⟩ := (hO.block _ (by omega)).trans hD3.mb
  have hR4 : Rw (fun b => W.heap.size + 1 ≤ b) 1 5 x4 v4 (l.length + 1) (l.map (Value.int .u8) ++ [.int .u8 x]) := hR.carry fun b _ hb => ⟨hb.elim id fun h => by have := hal.size; omega, rfl⟩
  have hB2 : IsB (l ++ [x]) := fun z hz => by
    rcases List.mem_append.1 hz with hz | hz
    · exact hB z hz
    · simp at hz; subst hz; exact ⟨x0, x2⟩
  have hR5 : Rw (fun b => W.heap.size + 1 ≤ b) 1 5 x4 v4 (l ++ [x]).length ((l ++ [x]).map (Value.int .u8)) := by
    rw [List.length_append, List.map_append]; exact hR4
  have hsl : SlC (fun b => W.heap.size + 1 ≤ b) x4 v4 (l ++ [x]) := slc_of hR5 hB2 (by simp; omega)
  have ho5 : Only (fun b => b = W.heap.size) x4 (x4.setCell ⟨W.heap.size, 33, none⟩ v4) := (Only.refl (fun b => b = W.heap.size) x4).setCell (p := ⟨W.heap.size, 33, none⟩) rfl _
  have hf := hD3.fit
  refine ⟨(mb_cells hmb).2.2.2.2.2.2.2.2.1, mb_free hmb 33, ?_, hR5.carry fun b _ hS => ⟨hS, ho5.block b (by omega)⟩, hB2, Got.snoc hG hG3⟩
  refine ⟨(hD3.rg.more hT hg (hO.mono fun b hb => by omega)).more hT hg (ho5.mono fun b hb => by omega), mb_set hmb (set_fr m _ (l ++ [x]) v4), ?_, ⟨hf.ty, hf.id, hf.dw, hf.r, hf.po, hf.sw, hf.ps, hf.ed, hB2, hf.hs, hf.co⟩, Nat.le_trans (Nat.le_trans two hO.size) ho5.size⟩
  have hq := hD3.ms
  have hm : Mss (fun b => W.heap.size + 1 ≤ b) x4 { m with fr := l ++ [x] } ⟨nilS, nilS, nilS, v4, nilS⟩ := ⟨lst_nil hq.cp, lst_nil hq.ps, lst_nil hq.ed, hsl, lst_nil hq.hs⟩
  exact hm.carry fun b _ hS => ⟨hS, ho5.block b (by omega)⟩
theorem runCnt {o : Oper} {a : Act} {w : World} (x y : Operand) (ho : o.op = .build 55 #[(0, x), (1, y)]) (p q : Int) (hx : a.eval x = .int .u64 p) (hy : a.eval y = .int .u64 q) : (execOp a.eval o).run Tryz.prog w = .ok (.value (.agg #[.int .u64 p, .int .u64 q])) w := by
  unfold execOp
  simp only [ho, hx, hy, List.map_toArray, List.map_cons, List.map_nil, Sem.run_bind, Sem.run_pure]
  show _ = _
  kernel_rfl
theorem runHdB {o : Oper} {a : Act} {w : World} (x y : Operand) (ho : o.op = .build 57 #[(0, x), (1, y)]) (r : Rl) (u : Value) (p q : Int) (hx : a.eval x = .agg (rlc r u)) (hy : a.eval y = .agg #[.int .u64 p, .int .u64 q]) : (execOp a.eval o).run Tryz.prog w = .ok (.value (.agg (hdc ⟨r, p, q⟩ u))) w := by
  obtain ⟨rk, m, cp, ck⟩ := r
  unfold execOp
  simp only [ho, hx, hy, List.map_toArray, List.map_cons, List.map_nil, Sem.run_bind, Sem.run_pure]
  show _ = _
  kernel_rfl
/-- A rule was read, and laid into a block of its own. -/
theorem hd_next {T : Nat → Prop} {W : World} {g : Nat} {v : Value} {bs : List Int} {m : Ms} {s : Sls} {l : List Hd} {us : List Value} {u : Value} {st4 st5 : Option (List Int)} {wx y5 : World} {r5 : Rl} {u5 : Value} (hT : ∀ b, T b → b < W.heap.size) (hg : g < W.heap.size) (hD : Dm T W g v bs st4 m s wx) (hH : HdR (fun b => W.heap.size + 1 ≤ b) wx u l us) (hR : Rg T W g v bs st5 y5) (hO : Only (fun b => b = g ∨ wx.heap.size ≤ b) wx y5) (hC : CpR (fun b => wx.heap.size ≤ b) y5 u5 r5.cp) :
    Dm T W g v bs st5 m s (y5.alloc (.cells (rlc r5 u5) 31)) ∧ HdR (fun b => W.heap.size + 1 ≤ b) (y5.alloc (.cells (rlc r5 u5) 31)) u l us ∧ CpR (fun b => W.heap.size + 1 ≤ b) (y5.alloc (.cells (rlc r5 u5) 31)) u5 r5.cp ∧ (RB (y5.alloc (.cells (rlc r5 u5) 31)) y5.heap.size r5 u5 ∧ W.heap.size + 1 ≤ y5.heap.size) := by
  have two := hD.two
  have hal : Below y5.heap.size y5 (y5.alloc (.cells (rlc r5 u5) 31)) := (Below.refl _ _).alloc (Nat.le_refl _) _
  have hsz := hO.size
  have lt_of : ∀ {w : World} {b : Nat} {c : Obj}, w.heap[b]? = some c → b < w.heap.size := fun hb => (Array.getElem?_eq_some_iff.1 hb).1
  refine ⟨(hD.grow hg hO hR).grow hg (Only.of hal fun b hb => Or.inr hb) (hR.more hT hg (Only.of hal fun b hb => by omega)), hH.keep fun b cur t _ hS hb => ?_, (hC.mono fun b _ hb => by omega).keep fun b cur t _ _ hb => hal.block b (lt_of hb), heap_alloc_new _ _, by omega⟩
  have hlt := lt_of hb
  exact (hal.block b (by omega)).trans (hO.block b (by omega))
structure H31 (xq : Nat) (r : Rl) (u : Value) (w : World) : Prop where
  rb : RB w xq r u
theorem rl_range {w : World} {g : Nat} {r : Rl} {u : Value} (h : RB w g r u) : w.rangeAt g 0 (rlc r u).toList := range_of fun i hi => by
  rw [Nat.zero_add, cell_of_row w g i _ _ _ h]
theorem ne_rule : (31 : Nat) ≠ 57 := by decide
/-- A rule held is put behind the others. -/
theorem hd_app {T : Nat → Prop} {W : World} {g : Nat} {v : Value} {bs : List Int} {m : Ms} {l : List Hd} {us : List Value} {u u5 : Value} {r5 : Rl} {xq : Nat} {st3 st4 st5 : Option (List Int)} {V : World} (hT : ∀ b, T b → b < W.heap.size) (hg : g < W.heap.size) (hH : HdR (fun b => W.heap.size + 1 ≤ b) V u l us) (hC : CpR (fun b => W.heap.size + 1 ≤ b) V u5 r5.cp) (hF : r5.Fit) (hq : RB V xq r5 u5) (hxq : W.heap.size + 1 ≤ xq) (hG : Got (rdl (rdHd false) l.length) st3 l st4) (hG5 : Got (rdRl false) st4 r5 st5) (hl : l.length < 65535)
    {z6 : World} {n5 n6 : Int} {st6 st7 : Option (List Int)} (o6 : Only (fun b => b = g) V.drew z6) (hD6 : Dm T W g v bs st7 m ⟨nilS, nilS, nilS, nilS, u⟩ z6) (h5 : InB n5) (h6 : InB n6) (g5 : Got (tk 8) st5 n5 st6) (g6 : Got (tk 8) st6 n6 st7) :
    z6.cell? ⟨W.heap.size, 34, none⟩ = some u ∧ H31 xq r5 u5 (z6.alloc (.cells (hdc ⟨r5, n5, n6⟩ u5) 57)) ∧ (z6.alloc (.cells (hdc ⟨r5, n5, n6⟩ u5) 57)).cell? ⟨W.heap.size, 34, none⟩ = some u ∧ Rw (fun b => W.heap.size + 1 ≤ b) 27 57 (z6.alloc (.cells (hdc ⟨r5, n5, n6⟩ u5) 57)) u l.length (hdl l us) ∧ (∀ x ∈ (hdc ⟨r5, n5, n6⟩ u5).toList, x.oneCell' = true) ∧
    ∀ v4 x4, Apd (z6.alloc (.cells (hdc ⟨r5, n5, n6⟩ u5) 57)) u x4 → Rw (fun b => (W.heap.size + 1 ≤ b) ∨ (z6.alloc (.cells (hdc ⟨r5, n5, n6⟩ u5) 57)).heap.size ≤ b) 27 57 x4 v4 (l.length + 1) (hdl l us ++ (hdc ⟨r5, n5, n6⟩ u5).toList) →
      H31 xq r5 u5 x4 ∧ x4.cell? ⟨W.heap.size, 34, none⟩ = some u ∧ x4.frozen? ⟨W.heap.size, 34, none⟩ = false ∧ H31 xq r5 u5 (x4.setCell ⟨W.heap.size, 34, none⟩ v4) ∧ Dm T W g v bs st7 { m with hs := l ++ [⟨r5, n5, n6⟩] } ⟨nilS, nilS, nilS, nilS, v4⟩ (x4.setCell ⟨W.heap.size, 34, none⟩ v4) ∧ HdR (fun b => W.heap.size + 1 ≤ b) (x4.setCell ⟨W.heap.size, 34, none⟩ v4) v4 (l ++ [⟨r5, n5, n6⟩]) (us ++ [u5]) ∧ Got (rdl (rdHd false) (l.length + 1)) st3 (l ++ [⟨r5, n5, n6⟩]) st7 := by
  have two := hD6.two
  obtain ⟨Z, hZ⟩ : ∃ Z, Z = z6.alloc (.cells (hdc ⟨r5, n5, n6⟩ u5) 57) := ⟨_, rfl⟩
  have hal : Below z6.heap.size z6 Z := by rw [hZ]; exact (Below.refl _ _).alloc (Nat.le_refl _) _
  have hsz := hal.size
  rw [← hZ]
  have lt_of : ∀ {w : World} {b : Nat} {c : Obj}, w.heap[b]? = some c → b < w.heap.size := fun hb => (Array.getElem?_eq_some_iff.1 hb).1
  have keep : ∀ {b : Nat} {c : Obj}, W.heap.size + 1 ≤ b → V.heap[b]? = some c → Z.heap[b]? = V.heap[b]? := fun {b c} hS hb => by
    have hlt : b < V.drew.heap.size := lt_of hb
    exact (hal.block b (Nat.lt_of_lt_of_le hlt o6.size)).trans (o6.block b (by omega))
  have hH2 : HdR (fun b => W.heap.size + 1 ≤ b) Z u l us := hH.keep fun b cur t _ hS hb => keep hS hb
  have hC2 : CpR (fun b => W.heap.size + 1 ≤ b) Z u5 r5.cp := hC.keep fun b cur t _ hS hb => keep hS hb
  have hq2 : RB Z xq r5 u5 := (keep hxq hq).trans hq
  have k34 := (mb_cells hD6.mb).2.2.2.2.2.2.2.2.2.1
  have hone : (hdc ⟨r5, n5, n6⟩ u5).all (·.oneCell') = true := hdc_one _ _ hC.one
  refine ⟨k34, ⟨hq2⟩, (cell_same (hal.block W.heap.size (by omega))).trans k34, hH2.rw, fun x hx => by rw [Array.all_eq_true_iff_forall_mem] at hone; exact hone x (by simpa using hx), fun v4 x4 hA hR => ?_⟩
  have hO : Only (fun b => W.heap.size + 1 ≤ b) z6 x4 := (Only.of hal fun b hb => by omega).trans (hA.only (fun b hb => by have hb' : Z.heap.size ≤ b := hb; omega) fun b hb => hH2.rw.own b hb)
  have hmb : MB x4 W.heap.size m ⟨nilS, nilS, nilS, nilS, u⟩ := (hO.block _ (by omega)).trans hD6.mb
  have hfit : Hd.Fit ⟨r5, n5, n6⟩ := ⟨hF, h5, h6⟩
  have hH4 : HdR (fun b => W.heap.size + 1 ≤ b) x4 v4 (l ++ [⟨r5, n5, n6⟩]) (us ++ [u5]) := hH2.add (x := ⟨r5, n5, n6⟩) hC2 hfit hA (fun b hb => by omega) hR hl
  have hq4 : RB x4 xq r5 u5 := (hA.keep hH2.rw hq2 ne_rule).trans hq2
  have ho5 : Only (fun b => b = W.heap.size) x4 (x4.setCell ⟨W.heap.size, 34, none⟩ v4) := (Only.refl (fun b => b = W.heap.size) x4).setCell (p := ⟨W.heap.size, 34, none⟩) rfl _
  have hf := hD6.fit
  refine ⟨⟨hq4⟩, (mb_cells hmb).2.2.2.2.2.2.2.2.2.1, mb_free hmb 34, ⟨(ho5.block xq (by omega)).trans hq4⟩, ?_, hH4.keep fun b cur t _ hS _ => ho5.block b (by omega), Got.snoc hG (Got.hd hG5 g5 g6)⟩
  refine ⟨(hD6.rg.more hT hg (hO.mono fun b hb => by omega)).more hT hg (ho5.mono fun b hb => by omega), mb_set hmb (set_hs m _ _ v4), ?_, ⟨hf.ty, hf.id, hf.dw, hf.r, hf.po, hf.sw, hf.ps, hf.ed, hf.fr, hH4.fit, hf.co⟩, Nat.le_trans (Nat.le_trans two hO.size) ho5.size⟩
  have hq := hD6.ms
  have hfr : m.fr = [] := slc_nil hq.fr
  have hm : Mss (fun b => W.heap.size + 1 ≤ b) x4 { m with hs := l ++ [⟨r5, n5, n6⟩] } ⟨nilS, nilS, nilS, nilS, v4⟩ := ⟨lst_nil hq.cp, lst_nil hq.ps, lst_nil hq.ed, by show SlC _ _ nilS m.fr; rw [hfr]; exact SlC.nil _ _, hH4.hds⟩
  exact hm.carry fun b _ hS => ⟨hS, ho5.block b (by omega)⟩
end Go.Proofs.YtllbbbfkdgjffaaGreatDoor
