/-
  Proved here: two matches are compared as Go compares structs: equal just if all twenty-two numbers are the same; every match lies under the one that hits everything; what is left when everything is deleted. No condition.
-/
/-
  Proved here: FlowsCounts says true for every room and every list of deals. Condition: the widths' table holds its numbers.
-/
import Derived.Test.YtdehlnaoehjehaaGreatDoorzOC
import Derived.Test.YtdehlnaoehjehaaGreatDoorzGS
namespace Go.Proofs.YtdehlnaoehjehaaGreatDoor
set_option maxRecDepth 100000
open Go.RowKit

def eqM (a b : Nat → Int) : Bool := eqR 11 a b && eqR 11 (fun k => a (11 + k)) (fun k => b (11 + k))
theorem eqM_iff {a b : Nat → Int} : eqM a b = true ↔ ∀ k, k < 22 → a k = b k := by
  simp only [eqM, Bool.and_eq_true, eqR_iff]
  constructor
  · rintro ⟨h1, h2⟩ k hk
    by_cases h : k < 11
    · exact h1 k h
    · have := h2 (k - 11) (by omega)
      rw [show 11 + (k - 11) = k by omega] at this
      exact this
  · intro h
    exact ⟨fun k hk => h k (by omega), fun k hk => h (11 + k) (by omega)⟩
theorem row_head (m : Nat → Int) : (row 22 m).extract 0 11 = row 11 m := by
  refine row_ext (by simp [row_size]) fun k hk => ?_
  rw [Array.getElem?_extract, if_pos (by simp [row_size]; omega), Nat.zero_add, row_at 22 m k (by omega)]
theorem row_tail (m : Nat → Int) : (row 22 m).extract 11 22 = row 11 fun k => m (11 + k) := by
  refine row_ext (by simp [row_size]) fun k hk => ?_
  rw [Array.getElem?_extract, if_pos (by simp [row_size]; omega), row_at 22 m (11 + k) (by omega)]
theorem isAggH (w : World) : (isAgg 30).run Tryz.prog w = .ok true w := by
  unfold isAgg
  rw [Sem.run_bind, run_underlying Tryz.underlying30 w]
  rfl
theorem szH (w : World) : (sizeOf 30).run Tryz.prog w = .ok 11 w := by
  have h := size24 zf
  rw [row_size] at h
  cases hq : Tryz.prog.info? 30 with
  | none => simp [hq] at h
  | some i =>
    have hs : i.size = 11 := by simpa [hq] using h
    simp [sizeOf, typeInfo, hq, hs]
theorem part0 (m : Nat → Int) (w : World) : (Go.part 30 (row 22 m) 0).run Tryz.prog w = .ok (hv m) w := by
  simp only [Go.part, Sem.run_bind, isAggH, Result.andThen_ok, if_true, szH, Sem.run_pure, Nat.zero_add, row_head]
theorem part11 (m : Nat → Int) (w : World) : (Go.part 30 (row 22 m) 11).run Tryz.prog w = .ok (hv fun k => m (11 + k)) w := by
  simp only [Go.part, Sem.run_bind, isAggH, Result.andThen_ok, if_true, szH, Sem.run_pure, show 11 + 11 = 22 from rfl, row_tail]
theorem fieldsM : ((Tryz.prog.fieldsOf 32).toList.map fun f => (f.name == "_", f.type, f.offset)) = [(false, 30, 0), (false, 30, 11)] := by kernel_rfl
theorem stoodM : Tryz.prog.stoodInHeld 32 = false := by kernel_rfl
theorem underM : Tryz.prog.underlying 32 = some (.struct (Tryz.prog.fieldsOf 32)) := by kernel_rfl
theorem guardM : Tryz.prog.eqGuardType Tryz.prog.depth 32 = false := by kernel_rfl
theorem eqS_run (a b : Nat → Int) (w : World) : (Op.equalIn 10000 32 (mv a) (mv b)).run Tryz.prog w = .ok (eqM a b) w := by
  rw [show (10000 : Nat) = 9999 + 1 from rfl, run_equalIn_struct w 9999 32 _ _ underM stoodM]
  have hf := fieldsM
  match hq : (Tryz.prog.fieldsOf 32).toList with
  | [] => rw [hq] at hf; simp at hf
  | [x] => rw [hq] at hf; simp at hf
  | x :: y :: z :: r => rw [hq] at hf; simp at hf
  | [x, y] =>
    rw [hq] at hf
    simp only [List.map_cons, List.map_nil, List.cons.injEq, Prod.mk.injEq, beq_eq_false_iff_ne, and_true] at hf
    obtain ⟨⟨n1, t1, o1⟩, n2, t2, o2⟩ := hf
    simp only [Op.eqFields, if_pos n1, if_pos n2, t1, o1, t2, o2, Sem.run_bind, part0, part11, Result.andThen_ok, show (9999 : Nat) = 9997 + 2 from rfl, eqA_run, Sem.run_ite, Sem.run_pure]
    unfold eqM
    cases eqR 11 a b
    · simp
    · simp only [Bool.not_true, Bool.false_eq_true, if_false, Bool.true_and]
      cases eqR 11 (fun k => a (11 + k)) fun k => b (11 + k) <;> simp
theorem runEqM {o : Oper} {a : Act} {w : World} (x y : Operand) (ho : o.op = .binOp .eql 32 x y 32) (p q : Nat → Int) (hx : a.eval x = mv p) (hy : a.eval y = mv q) : (execOp a.eval o).run Tryz.prog w = .ok (.value (.bool (eqM p q))) w := by
  unfold execOp
  simp only [ho, hx, hy, Sem.run_bind, Sem.run_pure, Result.andThen_ok, run_eqGuard_agg w _ _ _ _ _ _ guardM, run_eql_struct, eqS_run]
theorem wrap_toNat (X : BitVec 64) : IntKind.u64.wrap (X.toNat : Int) = (X.toNat : Int) := by
  rw [IntKind.wrap_u64]
  have := X.isLt
  omega
theorem andNot_z (y : Int) : bits .andNot .u64 0 y = 0 := by
  have h : bits .andNot .u64 0 y = ((BitVec.ofInt 64 0 &&& ~~~BitVec.ofInt 64 y).toNat : Int) := wrap_toNat _
  rw [h]; simp
theorem and_z (x : Int) : bits .and .u64 x 0 = 0 := by
  have h : bits .and .u64 x 0 = ((BitVec.ofInt 64 x &&& BitVec.ofInt 64 0).toNat : Int) := wrap_toNat _
  rw [h]; simp
theorem over_zf (m : Nat → Int) (k : Nat) : over m zf k = false := by
  unfold over zf
  rw [andNot_z, and_z]; rfl
theorem und_zf {m : Nat → Int} (h : mOk m = true) : und m zf = true := by
  unfold und
  rw [h, ok_zf, Bool.true_and, Bool.true_and, allU_iff]
  intro k _
  rw [over_zf]; rfl
theorem rmL_all {es ds : List Fe} (h : ∀ x ∈ es, ∃ y ∈ ds, x.k = y.k) : rmL es ds = [] := by
  refine List.eq_nil_iff_forall_not_mem.2 fun x hx => ?_
  obtain ⟨h1, h2⟩ := rmL_mem.1 hx
  obtain ⟨y, hy, e⟩ := h x h1
  exact h2 y hy e
/-- The delete of everything. -/
theorem stp_all {es es' : List Fe} {G G' : Int → Option (Int × Int)} {ad room n er ad' : Int} {ck : Int} {cp : List (List Ac)} (h : Stp es G ad room 2 ⟨0, zf, cp, ck⟩ n er es' G' ad') (hm : ∀ e ∈ es, mOk e.r.mt = true) : n = (es.length : Nat) ∧ er = 0 ∧ es' = [] := by
  rcases h with h | h | h | h | h | h | h
  · exact absurd ⟨by omega, by omega⟩ h.1
  · have := h.2.1; rw [show mOk (Rl.mt ⟨0, zf, cp, ck⟩) = true from ok_zf] at this; cases this
  · have := h.2.1; omega
  · have := h.2.1; omega
  · have := h.2.1; omega
  · obtain ⟨-, -, h1, ⟨ds, hp, h2, h3, -⟩, -⟩ := h
    have hfl : (ds.filter fun e => und e.r.mt zf) = ds := List.filter_eq_self.2 fun e he => und_zf (hm e (hp.subset he))
    have hfl' : (ds.filter fun e => und e.r.mt (Rl.mt ⟨0, zf, cp, ck⟩)) = ds := hfl
    rw [hfl'] at h2 h3
    refine ⟨by rw [h2, hp.length_eq], h1, ?_⟩
    rw [h3]
    exact rmL_all fun x hx => ⟨x, hp.symm.subset hx, rfl⟩
  · have := h.2.1; omega
end Go.Proofs.YtdehlnaoehjehaaGreatDoor
namespace Go.Proofs.YtdehlnaoehjehaaGreatDoor
set_option maxRecDepth 100000
open Go.RowKit Go.Maps

theorem sizeHELD (h : Hel) (u : Value) : (Tryz.prog.info? 52).map (·.size) = some (hdc h u).size := by rw [hdc_size]; kernel_rfl
/-- Behind j of the held rules: what is left of what was found is what the rest have counted. -/
def Cj (w x0 wr : World) (N0 bf : Nat) (ys : List (Hel × Value)) (j : Nat) : Prop :=
  ∃ fs, Cg w x0 wr N0 bf fs ∧ FsOk fs ∧ fs.length ≤ 150 + j ∧ ∀ c, wr64 (smE (fs.map (vlF c))) = wr64 (smE ((ys.drop j).map fun y => vlH c y.1))
theorem Cj.low {w x0 wr : World} {N0 bf : Nat} {ys : List (Hel × Value)} {j : Nat} (h : Cj w x0 wr N0 bf ys j) : Below w.heap.size w wr := by
  obtain ⟨fs, h1, -⟩ := h
  exact h1.low
theorem cj_put {w x0 wr w2 : World} {N0 bf : Nat} {ys : List (Hel × Value)} {j : Nat} (h : Cj w x0 wr N0 bf ys j) (hj : j < ys.length) (hl : ys.length < 2000000) (hb : Below wr.heap.size wr w2) (hck : InB ys[j].1.r.ck) :
    Calls Tryz.prog 21 #[.int .u64 ys[j].1.r.ck, .int .u64 (wr64 (-ys[j].1.pk)), pv bf] w2 fun e w3 => e = .returned (.tuple #[]) ∧ Cj w x0 w3 N0 bf ys (j + 1) := by
  obtain ⟨fs, h1, h2, h3, h4⟩ := h
  refine (cg_put (h1.on hb) h2.nd (by omega) ys[j].1.r.ck (wr64 (-ys[j].1.pk))).mono ?_
  rintro e w3 ⟨rfl, q⟩
  refine ⟨rfl, _, q, h2.put hck (wr64_in _), by have := put_len fs ys[j].1.r.ck (wr64 (-ys[j].1.pk)); omega, fun c => ?_⟩
  rw [put_any' h2]
  have e1 := h4 c
  have e2 : (ys.drop j).map (fun y => vlH c y.1) = vlH c ys[j].1 :: (ys.drop (j + 1)).map (fun y => vlH c y.1) := by rw [List.drop_eq_getElem_cons hj]; rfl
  rw [e2, smE] at e1
  generalize smE (fs.map (vlF c)) = A at *
  generalize smE ((ys.drop (j + 1)).map fun y => vlH c y.1) = B at *
  by_cases hc : ys[j].1.r.ck = c
  · rw [show vlH c ys[j].1 = ys[j].1.pk from if_pos hc] at e1
    rw [if_pos hc]
    unfold wr64 at *
    omega
  · rw [show vlH c ys[j].1 = 0 from if_neg hc] at e1
    rw [if_neg hc]
    unfold wr64 at *
    omega
/-- The list of all that is held and gone. -/
structure Yl (w x0 : World) (N0 : Nat) (v : Value) (ys : List (Hel × Value)) : Prop where
  rw : Yrw N0 x0 v ys
  bd : ∀ y ∈ ys, InB y.1.r.ck ∧ InB y.1.pk
  len : ys.length < 2000000
  one : ∀ y ∈ ys, y.2.oneCell' = true
theorem cel_one {ys : List (Hel × Value)} (h : ∀ y ∈ ys, y.2.oneCell' = true) : ∀ z ∈ cel hen ys, z.oneCell' = true := fun z hz => by
  obtain ⟨y, hy, hz⟩ := List.mem_flatMap.1 hz
  exact Array.all_eq_true'.1 (hdc_one (h y hy)) z (by simpa [hen] using hz)
theorem gcl_one (ds : List Ge) : ∀ z ∈ gcl ds, z.oneCell' = true := cel_one fun y hy => by
  obtain ⟨x, -, rfl⟩ := List.mem_map.1 hy
  rfl
theorem gcl_len (ds : List Ge) : (gcl ds).length = ds.length * 27 := by
  unfold gcl
  rw [cel_len hen_len, List.length_map]
/-- What append hands on. -/
theorem ct_all {w wr w1 w2 w3 : World} {g bf : Nat} {room : Int} {k : Nat} {ad : Int} {es : List Fe} {gs : List Ge} {fs : List (Int × Int)} (h1 : Cs w wr g bf room ad es gs fs) (h3 : gs.length ≤ 1024 * k) (hk : k ≤ 150) (h4 : FsOk fs) (h5 : fs.length ≤ k) (h6 : ∀ c, wr64 (smE (fs.map (vlF c))) = wr64 (ctE c es + ctG c (gfn gs)))
    {v v3 : Value} {ds : List Fe} {xs : List (Hel × Value)} (hp : ds.Perm es) (hb1 : Below wr.heap.size wr w1) (hx : xs.map (·.1) = ds.map Fe.vw) (hxo : ∀ x ∈ xs, x.2.oneCell' = true) (hR1 : Rw (fun b => wr.heap.size ≤ b) 27 52 w1 v ds.length (cel hen xs)) {dg : List Ge} (hq : dg.Perm gs) (hb2 : Below w1.heap.size w1 w2)
    (hA : Apd w2 v w3) (hR3 : Rw (fun b => wr.heap.size ≤ b ∨ w2.heap.size ≤ b) 27 52 w3 v3 (ds.length + dg.length) (cel hen xs ++ gcl dg)) :
    ∃ ys, Yl w w3 wr.heap.size v3 ys ∧ ys.length = ds.length + dg.length ∧ Cj w w3 w3 wr.heap.size bf ys 0 := by
  obtain ⟨S, hF⟩ := h1.fl
  obtain ⟨-, -, i3, i4, i5, -⟩ := hF.inv
  have hxl : xs.length = ds.length := by simpa using congrArg List.length hx
  have e1 : ds.length = es.length := hp.length_eq
  have e2 : dg.length = gs.length := hq.length_eq
  have hyl : (xs ++ dg.map fun x => (x.vw, nilS)).length = ds.length + dg.length := by rw [List.length_append, List.length_map, hxl]
  have hb02 : Below wr.heap.size wr w2 := hb1.trans (hb2.mono hb1.size)
  have hs2 := hb02.size
  have hown : ∀ b, v.ownBlock = some b → wr.heap.size ≤ b := fun b e => hR1.own b e
  have hA3 : Below wr.heap.size wr w3 := ⟨hA.os.trans hb02.os, hA.tape.trans hb02.tape, hA.output.trans hb02.output, by have := hA.size; omega, fun b hb => by rw [hA.block b (by omega) (fun e => by have := hown b e; omega), hb02.block b hb]⟩
  refine ⟨xs ++ dg.map fun x => (x.vw, nilS), ⟨?_, fun y hy => ?_, by rw [hyl]; omega, fun y hy => ?_⟩, hyl, fs, ⟨h1.low.trans (hA3.mono h1.low.size), ?_, Nat.le_refl _, fun _ _ _ => rfl⟩, h4, by omega, fun c => ?_⟩
  · unfold Yrw
    rw [hyl]
    have : cel hen (xs ++ dg.map fun x => (x.vw, nilS)) = cel hen xs ++ gcl dg := by unfold gcl cel; rw [List.flatMap_append]
    rw [this]
    exact hR3.carry fun b _ hS => ⟨by rcases hS with q | q <;> omega, rfl⟩
  · rcases List.mem_append.1 hy with hy | hy
    · have : y.1 ∈ ds.map Fe.vw := by rw [← hx]; exact List.mem_map_of_mem hy
      obtain ⟨x, hx', e⟩ := List.mem_map.1 this
      have := i5 x (hp.subset hx')
      rw [← e]
      exact ⟨this.1.ck, this.2.2.1⟩
    · obtain ⟨x, hx', rfl⟩ := List.mem_map.1 hy
      have := hF.gon.2 x (hq.subset hx')
      exact ⟨this.1, this.2.1⟩
  · rcases List.mem_append.1 hy with hy | hy
    · exact hxo y hy
    · obtain ⟨x, -, rfl⟩ := List.mem_map.1 hy
      rfl
  · obtain ⟨F, vf, f1, -, f3, f4, f5⟩ := h1.st
    have hz := hA3.size
    exact ⟨F, vf, fun b hb => ⟨(f1 b hb).1, by have := (f1 b hb).2; omega, fun q => by have := (f1 b hb).2; omega⟩, f3, (hA3.block bf (f1 bf f3).2).trans f4, f5.carry fun b hb hS => ⟨hS, hA3.block b hb⟩⟩
  · rw [List.drop_zero, h6 c]
    congr 1
    rw [List.map_append, smE_append]
    have a1 : xs.map (fun y => vlH c y.1) = ds.map (vlE c) := by
      have : xs.map (fun y => vlH c y.1) = (xs.map (·.1)).map (vlH c) := by rw [List.map_map]; rfl
      rw [this, hx, List.map_map]; rfl
    have a2 : (dg.map fun x => (x.vw, nilS)).map (fun y => vlH c y.1) = dg.map (vlG c) := by rw [List.map_map]; rfl
    rw [a1, a2, ctG_gs hF.gon.1, smE_perm (hq.map (vlG c)), smE_perm (hp.map (vlE c))]
    rfl
/-- Behind all of them nothing is left. -/
theorem cj_end {w x0 wr : World} {N0 bf : Nat} {ys : List (Hel × Value)} (h : Cj w x0 wr N0 bf ys ys.length) (hl : ys.length < 2000000) : ∃ (ao : Option Addr) (cap n : Nat), n < 2147483000 ∧ wr.cell? ⟨bf, 0, none⟩ = some (.slice ao n cap) ∧ ∀ k, k < n → ∃ (b o : Nat) (h : Hel), ao = some ⟨b, o, none⟩ ∧ h.pk = 0 ∧ b < wr.heap.size ∧ wr.rangeAt b (o + k * 27) (hdc h nilS).toList := by
  obtain ⟨fs, h1, h2, h3, h4⟩ := h
  have hz := fs_zero h2 fun c => by rw [h4 c, List.drop_length]; rfl
  obtain ⟨F, v, -, -, f4, f5⟩ := h1.st
  obtain ⟨ao, cap, rfl⟩ := f5.form
  refine ⟨ao, cap, fs.length, by omega, by rw [cell_of_row _ _ _ _ _ _ f4]; rfl, fun k hk => ?_⟩
  rcases f5.2 with ⟨_, e⟩ | ⟨g, o, cap', cur, e, g2, g3, g4, g5, g6⟩
  · omega
  · obtain ⟨rfl, rfl⟩ : ao = some ⟨g, o, none⟩ ∧ cap = cap' := by simpa using e
    refine ⟨g, o, fH fs[k], rfl, hz _ (List.getElem_mem hk), (Array.getElem?_eq_some_iff.1 g3).1, range_of fun i hi => ?_⟩
    rw [hdc_size] at hi
    rw [cell_of_row _ _ _ _ _ _ g3, Nat.add_assoc, cells_at g6 (j := k * 27 + i) (by omega), fcl_at _ k i hk hi]
/-- What Find answers, in one form. -/
def FuP (w : World) (g bf : Nat) (room : Int) (k : Nat) (e : Ending) (w' : World) : Prop := ∃ (r : Rl) (u : Value) (ok : Bool), u.oneCell' = true ∧ e = .returned (.tuple #[.agg (rlc r u), .bool ok]) ∧ Below w.heap.size w w' ∧ (ok = false → Ctf w w' g bf room (k + 1)) ∧ (ok = true → ∀ w2, Below w'.heap.size w' w2 → Calls Tryz.prog 21 #[.int .u64 r.ck, .int .u64 1, pv bf] w2 fun e w3 => e = .returned (.tuple #[]) ∧ Ctf w w3 g bf room (k + 1))
theorem ct_fu {w wr : World} {g bf : Nat} {room : Int} {k : Nat} (h : Ctf w wr g bf room k) (hk : k ≤ 150) (hd : Nat → Int) (hw : Wf hd) (n : Int) (hn : I64 n) : Calls Tryz.prog 10 #[pv g, hv hd, .int .i64 n] wr (FuP w g bf room k) := by
  refine (ct_fnd h hk hd hw n hn).mono ?_
  rintro e w' (⟨rfl, q⟩ | ⟨r, u', hu, rfl, hB, q⟩)
  · exact ⟨⟨0, zf, [], 0⟩, nilS, false, rfl, rfl, q.low, fun _ => q, fun h => by cases h⟩
  · exact ⟨r, u', true, hu, rfl, hB, fun h => (by cases h), fun _ => q⟩
/-- What the tail needs of Gone, and of the append. -/
def TlG (w wr : World) (bf : Nat) (ao : Option Addr) (n cap : Nat) (e : Ending) (w2 : World) : Prop := ∃ (ao2 : Option Addr) (cap2 m : Nat) (xs us : List Value), e = .returned (.slice ao2 m cap2) ∧ Rw (fun b => wr.heap.size ≤ b) 27 52 w2 (.slice ao n cap) n xs ∧ us.length = m * 27 ∧ (m ≠ 0 → ∃ a, ao2 = some a ∧ ∀ j x, us[j]? = some x → w2.cell? (a.add j) = some x) ∧ (∀ x ∈ us, x.oneCell' = true) ∧ n + m < 2000000 ∧ ∀ v3 w3, Apd w2 (.slice ao n cap) w3 → Rw (fun b => wr.heap.size ≤ b ∨ w2.heap.size ≤ b) 27 52 w3 v3 (n + m) (xs ++ us) → ∃ (ao3 : Option Addr) (cap3 : Nat) (ys : List (Hel × Value)), v3 = .slice ao3 ys.length cap3 ∧ Yl w w3 wr.heap.size v3 ys ∧ Cj w w3 w3 wr.heap.size bf ys 0
def TlH (w wr : World) (g bf : Nat) (e : Ending) (w1 : World) : Prop := ∃ (ao : Option Addr) (cap n : Nat), e = .returned (.slice ao n cap) ∧ Calls Tryz.prog 18 #[pv g] w1 (TlG w wr bf ao n cap)
theorem ct_tail {w wr : World} {g bf : Nat} {room : Int} {k : Nat} (h : Ctf w wr g bf room k) (hk : k ≤ 150) : Calls Tryz.prog 16 #[pv g] wr (TlH w wr g bf) := by
  obtain ⟨ad, es, gs, fs, c1, c2, c3, c4, c5, c6, c7⟩ := h
  obtain ⟨S, hF⟩ := c1.fl
  obtain ⟨-, -, i3, i4, -, -⟩ := hF.inv
  refine (helds_flows wr g room ad es gs hF).mono ?_
  rintro e w1 ⟨v, ds, rfl, hp, -, hb1, -, xs, hx, hR1, hxo⟩
  obtain ⟨ao, cap, rfl⟩ := hR1.form
  refine ⟨ao, cap, ds.length, rfl, ?_⟩
  refine (gone_flows w1 g room ad es gs (hF.on hb1) (by omega)).mono ?_
  rintro e w2 ⟨v2, dg, rfl, hq, -, hb2, -, hR2⟩
  obtain ⟨ao2, cap2, rfl⟩ := hR2.form
  have e1 : ds.length = es.length := hp.length_eq
  have e2 : dg.length = gs.length := hq.length_eq
  have hRb : Rw (fun b => wr.heap.size ≤ b) 27 52 w2 (.slice ao ds.length cap) ds.length (cel hen xs) := hR1.carry fun b hb hS => ⟨hS, hb2.block b hb⟩
  refine ⟨ao2, cap2, dg.length, _, gcl dg, rfl, hRb, gcl_len dg, fun hm => ?_, gcl_one dg, by omega, fun v3 w3 hA hR3 => ?_⟩
  · rcases hR2.2 with ⟨_, e⟩ | ⟨g', o, cap', cur, e, _, g3, g4, g5, g6⟩
    · exact absurd e hm
    · obtain ⟨rfl, rfl⟩ : ao2 = some ⟨g', o, none⟩ ∧ cap2 = cap' := by simpa using e
      refine ⟨_, rfl, fun j x hj => ?_⟩
      have hjl : j < dg.length * 27 := by have := (List.getElem?_eq_some_iff.1 hj).1; rw [gcl_len] at this; exact this
      rw [Addr.add_lit, cell_of_row _ _ _ _ _ _ g3, cells_at g6 hjl]; exact hj
  · obtain ⟨ys, y1, y2, y3⟩ := ct_all c1 c3 hk c4 c5 c6 hp hb1 hx hxo hR1 hq hb2 hA hR3
    obtain ⟨ao3, cap3, rfl⟩ := hR3.form
    exact ⟨ao3, cap3, ys, by rw [y2], y1, y3⟩
end Go.Proofs.YtdehlnaoehjehaaGreatDoor
