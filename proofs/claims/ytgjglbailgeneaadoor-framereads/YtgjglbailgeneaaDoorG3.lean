/-
  Proved here: the document's Parse answers what Parse answers (prH, prB, prE), for every bytes that a slice holds; no old memory turns. No condition.
-/
import Derived.Test.YtgjglbailgeneaaDoorG2
import Derived.Test.YtgjglbailgeneaaDoorF2
namespace Go.Proofs.YtgjglbailgeneaaDoor
open Go.RowKit

theorem gprow_set (h : Nat → Int) (v : Value) (j : Nat) (hj : j < 11) (x : Int) : (prow h v).setIfInBounds j (.int .u64 x) = prow (upd h j x) v := by
  apply Array.ext_getElem?
  intro k
  rw [Array.getElem?_setIfInBounds]
  by_cases e : j = k
  · subst e
    rw [if_pos rfl, if_pos (by rw [prow_size]; omega), prow_at _ _ j hj, upd_same]
  · rw [if_neg e]
    by_cases hk : k < 11
    · rw [prow_at _ _ k hk, prow_at _ _ k hk, upd_other _ _ _ _ (fun q => e q.symm)]
    · by_cases hk2 : k = 11
      · subst hk2; rw [prow_last, prow_last]
      · rw [Array.getElem?_eq_none (by rw [prow_size]; omega), Array.getElem?_eq_none (by rw [prow_size]; omega)]
theorem gprow_last (h : Nat → Int) (v v' : Value) : (prow h v).setIfInBounds 11 v' = prow h v' := by
  apply Array.ext_getElem?
  intro k
  rw [Array.getElem?_setIfInBounds]
  by_cases e : 11 = k
  · subst e
    rw [if_pos rfl, if_pos (by rw [prow_size]; omega), prow_last]
  · rw [if_neg e]
    by_cases hk : k < 11
    · rw [prow_at _ _ k hk, prow_at _ _ k hk]
    · rw [Array.getElem?_eq_none (by rw [prow_size]; omega), Array.getElem?_eq_none (by rw [prow_size]; omega)]
theorem gset {w : World} {b : Nat} {h : Nat → Int} {v : Value} (hh : PBlk w b h v) (j : Nat) (hj : j < 11) (x : Int) : PBlk (w.setCell ⟨b, j, none⟩ (.int .u64 x)) b (upd h j x) v := by
  unfold PBlk; rw [heap_setCell_same w b j _ 27 _ hh, gprow_set h v j hj x]
theorem gsetLast {w : World} {b : Nat} {h : Nat → Int} {v : Value} (hh : PBlk w b h v) (v' : Value) : PBlk (w.setCell ⟨b, 11, none⟩ v') b h v' := by
  unfold PBlk; rw [heap_setCell_same w b 11 _ 27 _ hh, gprow_last h v v']
theorem gsetOther {w : World} {b : Nat} {h : Nat → Int} {v : Value} (hh : PBlk w b h v) (c j : Nat) (u : Value) (hne : b ≠ c) : PBlk (w.setCell ⟨c, j, none⟩ u) b h v := by
  unfold PBlk; rw [heap_setCell_other _ _ _ _ hne]; exact hh
theorem gfrozen {w : World} {b : Nat} {h : Nat → Int} {v : Value} (hh : PBlk w b h v) (o : Nat) : w.frozen? ⟨b, o, none⟩ = false := by
  have : w.heap[b]? = some (Obj.cells (prow h v) 27 (0, 0)) := hh
  simp [World.frozen?, this]
/-- A number of a packet's header is stored. -/
theorem gst23 {ops : Array Oper} {rest : List Oper} {o : Oper} {a : Act} {w : World} {Q : Exit → Act → World → Prop} (x y : Operand) (ho : o.op = .store 23 x y) (g j : Nat) (hx : a.eval x = .pointer (some ⟨g, j, none⟩)) (v : Int) (hy : a.eval y = .int .u64 v) (hw : Region.wanted o (yielded ops a.tmps) = true) (f : Nat → Int) (u : Value) (hg : PBlk w g f u) (hj : j < 11)
    (h : wpList Tryd.prog ops Q rest (a.put o.dst undef) (w.setCell ⟨g, j, none⟩ (.int .u64 v))) : wpList Tryd.prog ops Q (o :: rest) a w := by
  unfold wpList
  rw [if_pos hw]
  refine Or.inl ?_
  have hs : (sizeOf 23).run Tryd.prog w = .ok 1 w := by
    have h1 : (Tryd.prog.info? 23).map (·.size) = some 1 := by kernel_rfl
    cases hq : Tryd.prog.info? 23 with
    | none => simp [hq] at h1
    | some i =>
      have hs : i.size = 1 := by simpa [hq] using h1
      simp [sizeOf, typeInfo, hq, hs]
  have hc := run_storeCells_cells (P := Tryd.prog) g j [.int .u64 v] 0 w (fun i hi => by
    have : i = 0 := by simpa using hi
    subst this; simp [hg.cell j hj]) (fun i _ => gfrozen hg _) (fun u hu => by
    have : u = .int .u64 v := by simpa using hu
    subst this; rfl)
  simp only [Nat.add_zero] at hc
  unfold Oper.wp execOp
  simp only [ho, hx, hy, Instr.storeAt, Instr.sureAddr, storeVar, Value.cells, Sem.run_bind, Sem.run_pure, Result.andThen_ok, hs, hc, List.size_toArray, List.length_cons, List.length_nil, Nat.zero_add, ne_eq, not_true_eq_false, if_false, Sem.run_ite]
  exact h
/-- The bytes from place l on, as a slice. -/
def slv (b o n cap l : Nat) : Value := .slice (if cap = l then some ⟨b, o, none⟩ else some ⟨b, o + l, none⟩) (n - l) (cap - l)
theorem info5s : (Tryd.prog.info? 5).map (·.size) = some 1 := by kernel_rfl
theorem slc {ops : Array Oper} {rest : List Oper} {o : Oper} {a : Act} {w : World} {Q : Exit → Act → World → Prop} (x y : Operand) (ho : o.op = .slice 22 x (some y) none none) (b oo n cap l : Nat) (hx : a.eval x = .slice (some ⟨b, oo, none⟩) n cap) (Y : Int) (hy : a.eval y = .int .i64 Y) (hY : Y = l) (hw : Region.wanted o (yielded ops a.tmps) = true) (hl : l ≤ n) (_hn : n ≤ cap)
    (h : wpList Tryd.prog ops Q rest (a.put o.dst (slv b oo n cap l)) w) : wpList Tryd.prog ops Q (o :: rest) a w := by
  subst hY
  unfold wpList
  rw [if_pos hw]
  refine Or.inl ?_
  have hs : (sizeOf 5).run Tryd.prog w = .ok 1 w := by
    cases hq : Tryd.prog.info? 5 with
    | none => have := info5s; simp [hq] at this
    | some i =>
      have hs : i.size = 1 := by have := info5s; simpa [hq] using this
      simp [sizeOf, typeInfo, hq, hs]
  have hr : (Instr.sliceAt 22 (.slice (some ⟨b, oo, none⟩) n cap) (some (.int .i64 (l : Int))) none none).run Tryd.prog w = .ok (slv b oo n cap l) w := by
    have he : Tryd.prog.elem 22 = 5 := by kernel_rfl
    rw [run_sliceAt_slice w 22 _ _ _ _ (by rw [he]; exact Tryd.underlying22), run_slice_l w 22 (some ⟨b, oo, none⟩) n cap (by rw [he]; exact Tryd.underlying22) .i64 l (by omega) (by omega), he, hs]
    simp only [Result.andThen_ok, sliced, slv, Int.toNat_natCast, Nat.mul_one, Option.map_some, Addr.add_mid]
  unfold Oper.wp execOp
  simp only [ho, hx, hy, Option.map_some, Option.map_none, Sem.run_bind, Sem.run_pure, Result.andThen_ok, hr]
  exact h
theorem slv_sl {B b o cap : Nat} {w : World} {bs : List Int} (hs : Sl B w (.slice (some ⟨b, o, none⟩) bs.length cap) bs) (l : Nat) (hl : l ≤ bs.length) : Sl B w (slv b o bs.length cap l) (bs.drop l) := by
  obtain ⟨ao, cap', e, h2, h3, h4, h6, h5⟩ := hs
  simp only [Value.slice.injEq, true_and] at e
  obtain ⟨rfl, rfl⟩ := e
  refine ⟨if cap = l then some ⟨b, o, none⟩ else some ⟨b, o + l, none⟩, cap - l, by rw [List.length_drop]; rfl, by rw [List.length_drop]; omega, by rw [List.length_drop]; omega, h4.drop l, (fun h => by split at h <;> cases h), fun hne => ?_⟩
  have hlt : l < bs.length := by
    rcases Nat.lt_or_ge l bs.length with h | h
    · exact h
    · exact absurd (List.drop_of_length_le h) hne
  obtain ⟨b', o', hb, e2, hc⟩ := h5 (fun e => hne (by rw [e]; simp))
  simp only [Option.some.injEq, Addr.mk.injEq, and_true] at e2
  obtain ⟨rfl, rfl⟩ := e2
  refine ⟨b, o + l, hb, by rw [if_neg (by omega)], fun j hj => ?_⟩
  rw [List.length_drop] at hj
  rw [Nat.add_assoc, hc (l + j) (by omega)]
  simp only [List.getD_eq_getElem?_getD, List.getElem?_drop]

/-- The state of the document's Parse. -/
def Rst (w W : World) (C : Nat → Int) (v : Value) (B : Nat) (vr : Value) (bs : List Int) : Prop :=
  Below w.heap.size w W ∧ PBlk W w.heap.size zf nilS ∧ PBlk W (w.heap.size + 1) C v ∧ Sl B W vr bs ∧ B ≤ w.heap.size
section
variable {w W W' : World} {C : Nat → Int} {v vr : Value} {B : Nat} {bs : List Int}
theorem Rst.on (h : Rst w W C v B vr bs) (hb : Below W.heap.size W W') : Rst w W' C v B vr bs :=
  ⟨h.1.trans (hb.mono h.1.size), h.2.1.on hb, h.2.2.1.on hb, h.2.2.2.1.on (hb.mono (Nat.le_trans h.2.2.2.2 h.1.size)), h.2.2.2.2⟩
theorem Rst.set (h : Rst w W C v B vr bs) (j : Nat) (hj : j < 11) (n : Int) : Rst w (W.setCell ⟨w.heap.size + 1, j, none⟩ (.int .u64 n)) (upd C j n) v B vr bs :=
  ⟨h.1.setCell (by simp) _, gsetOther h.2.1 _ _ _ (by omega), gset h.2.2.1 j hj n, h.2.2.2.1.on ((Below.refl _ _).setCell (by have := h.2.2.2.2; simp; omega) _), h.2.2.2.2⟩
theorem Rst.setLast (h : Rst w W C v B vr bs) (v' : Value) : Rst w (W.setCell ⟨w.heap.size + 1, 11, none⟩ v') C v' B vr bs :=
  ⟨h.1.setCell (by simp) _, gsetOther h.2.1 _ _ _ (by omega), gsetLast h.2.2.1 v', h.2.2.2.1.on ((Below.refl _ _).setCell (by have := h.2.2.2.2; simp; omega) _), h.2.2.2.2⟩
theorem rst_get (h : Rst w W C v B vr bs) (a k : Nat) (A K : Int) (hA : A = a) (hK : K = k) (hle : a + k ≤ bs.length) (h8 : k ≤ 8) :
    Calls Tryd.prog 19 #[vr, .int .i64 A, .int .i64 K] W fun e W' => e = .returned (.int .u64 (gt bs a k)) ∧ Rst w W' C v B vr bs := by
  subst hA; subst hK
  refine (get_any B a k vr bs W h.2.2.2.1 hle h8).mono ?_
  rintro e W' ⟨rfl, rfl⟩
  exact ⟨rfl, h⟩
end
theorem res9 (tmps : Array Value) (w : World) (g : Nat) (m : Nat → Int) (v : Value) (x : Int) (hp : tmps.getD 2 undef = .pointer (some ⟨g, 0, none⟩)) (hq : tmps.getD 3 undef = .int .i64 x) (hg : PBlk w g m v) :
    (results Tryd.f9 tmps).run Tryd.prog w = .ok (.tuple #[pv m v, .int .i64 x]) w := by
  have hp' : tmps[2]?.getD undef = .pointer (some ⟨g, 0, none⟩) := by simpa using hp
  have hq' : tmps[3]?.getD undef = .int .i64 x := by simpa using hq
  simp [results, Tryd.results9, hp', hq', asAddr, run_loadVar_row w g 27 27 _ (0, 0) _ hg Tryd.underlying27 rfl (size27 m v)]
/-- What the document's Parse must answer. -/
def RPost (w : World) (bs : List Int) (e : Ending) (w' : World) : Prop :=
  ∃ vb, e = .returned (.tuple #[pv (prH bs) vb, .int .i64 (prE bs)]) ∧ Below w.heap.size w w' ∧ Owns w.heap.size w' vb (prB bs)
theorem rpost_none {w W : World} {bs : List Int} {C : Nat → Int} {v vr : Value} {B : Nat} (hn : pPkt bs = none) (h : Rst w W C v B vr bs) : RPost w bs (.returned (.tuple #[pv zf nilS, .int .i64 30])) (W.setRow w.heap.size (prow zf nilS)) := by
  obtain ⟨e1, e2, e3⟩ := prE_none hn
  refine ⟨nilS, by rw [e1, e2], below_setRow h.1 (Nat.le_refl _) _, by rw [e3]; exact Owns.isNil⟩
theorem rpost_some {w W : World} {bs body : List Int} {C : Nat → Int} {v vr : Value} {B : Nat} (h : Rst w W C v B vr bs) (hO : Owns w.heap.size W v body) (hd : prE bs = 0 ∧ row 11 (prH bs) = row 11 C ∧ prB bs = body) : RPost w bs (.returned (.tuple #[pv C v, .int .i64 0])) (W.setRow w.heap.size (prow C v)) := by
  obtain ⟨e1, e2, e3⟩ := hd
  refine ⟨v, ?_, below_setRow h.1 (Nat.le_refl _) _, ?_⟩
  · rw [e1]
    have : prow C v = prow (prH bs) v := by unfold prow; rw [e2]
    have hpv : pv C v = pv (prH bs) v := congrArg Value.agg this
    rw [hpv]
  · rw [e3]; exact hO.setRow _ h.2.1 (by decide)
end Go.Proofs.YtgjglbailgeneaaDoor
