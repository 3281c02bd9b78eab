/-
  Proved here: the list of variables of stage 18's rows gives the tables of packages header and policy; the program's own initialisers lay them so. No condition.
-/
import Derived.Test.YtjallmncajhamaaDoorRows
import Derived.Test.YtjallmncajhamaaDoorCards
import Derived.Test.YtjallmncajhamaaDoorTie
import Derived.Test.YtjallmncajhamaaDoorT5
import Derived.Lib.LaidTab
import Derived.WalkKit
import Derived.ProofKit
import Derived.OpenShut
import Derived.ChangeSame
import Derived.LaidMore
import Derived.LaidLaws
import Derived.LaidHandle
import Derived.Stop.LaidErr
import Derived.Deep.DeepHandedRow
import Derived.SizedLaws
import Derived.Carry
namespace Go.Proofs.YtjallmncajhamaaDoor
open Go.ChangeShapes Go.WideShapes Go.ChangeAt Go.RowKit
set_option maxRecDepth 100000

theorem own : ownKnob Tryd.prog.godebug = none := by kernel_rfl
theorem laidOut : laidOutB Tryd.prog = true := by kernel_rfl
theorem nWD : Tryd.prog.globalNamed "tollbridge/header.widths" = some 2 := by kernel_rfl
theorem nWT : Tryd.prog.globalNamed "tollbridge/policy.wants" = some 0 := by kernel_rfl
theorem nJT : Tryd.prog.globalNamed "tollbridge/policy.joints" = some 1 := by kernel_rfl
theorem tWD : (Tryd.prog.globals[2]?).map (·.type) = some 145 := by kernel_rfl
theorem tWT : (Tryd.prog.globals[0]?).map (·.type) = some 90 := by kernel_rfl
theorem tJT : (Tryd.prog.globals[1]?).map (·.type) = some 122 := by kernel_rfl
theorem cells3 : Tryd.prog.cellsOf 3 = 1 := by kernel_rfl
theorem cellsI8 : Tryd.prog.cellsOf 22 = 1 := by kernel_rfl
theorem cellsSD : Tryd.prog.cellsOf 63 = 1 := by kernel_rfl
theorem cellsWT : Tryd.prog.cellsOf 89 = 5 := by kernel_rfl
theorem cellsJT : Tryd.prog.cellsOf 121 = 2 := by kernel_rfl
def wtd (op : Nat) : DataW Unit := .agg [.lit (.int .i8 ((wsd op : Nat) : Int)), .lit (.int .i8 ((wkd op : Nat) : Int)), .lit (.int .i64 ((lst1 op : Nat) : Int)), .lit (.int .i64 ((mst op : Nat) : Int)), .lit (.int .i64 ((wfl op : Nat) : Int))]
def jtd (op : Nat) : DataW Unit := .agg [.lit (.int .i8 (jid op)), .lit (.int .i8 (jen op))]
theorem wtData : (Rows.laid_tollbridge_policy_wants : DataW Unit) = .agg ((List.range 11).map wtd) := by kernel_rfl
theorem jtData : (Rows.laid_tollbridge_policy_joints : DataW Unit) = .agg ((List.range 10).map jtd) := by kernel_rfl
theorem wdData : (Rows.laid_tollbridge_header_widths : DataW Unit) = .agg ((List.range 11).map fun f => .lit (.int .i64 ((wdt f : Nat) : Int))) := by kernel_rfl
section
variable {enc : TypeId × Value → Unit} {W : World} {base : Nat} {sp : Nat → Bool} {held : Bool}
theorem cellI {f : Nat} {t : TypeId} {cs : List Value} {k : IntKind} {n : Int} {q : List MemPlace} (ht : Tryd.prog.underlying t = some (.int k)) (h : DataW.trod enc Tryd.prog W base sp held f t cs = some (.lit (.int k n), q)) : cs = [.int k n] := by
  obtain ⟨m, rfl, hx, -⟩ := DataW.trod_int ht h
  injection hx with h1 h2
  injection h1 with h1
  injection h1 with h1 h3
  rw [h3]
theorem part_at {ds : List (DataW Unit)} {xs : List (DataW Unit × List MemPlace)} {q : List MemPlace} (h : ((DataW.agg ds, q) : DataW Unit × List MemPlace) = (.agg (xs.map (·.1)), xs.flatMap (·.2))) {i : Nat} {d : DataW Unit} (hd : ds[i]? = some d) : ∃ q', xs[i]? = some (d, q') ∧ i < xs.length := by
  injection h with h1 h2
  injection h1 with h1
  rw [h1, List.getElem?_map, Option.map_eq_some_iff] at hd
  obtain ⟨⟨x, y⟩, hx, rfl⟩ := hd
  exact ⟨y, hx, (List.getElem?_eq_some_iff.1 hx).1⟩
theorem arr_at {f n : Nat} {t e : TypeId} {cs : List Value} {ds : List (DataW Unit)} {q : List MemPlace} (ht : Tryd.prog.underlying t = some (.array n e)) (h : DataW.trod enc Tryd.prog W base sp held f t cs = some (.agg ds, q)) {i : Nat} {d : DataW Unit} (hd : ds[i]? = some d) : ∃ m q', DataW.trod enc Tryd.prog W base sp held m e ((cs.drop (i * Tryd.prog.cellsOf e)).take (Tryd.prog.cellsOf e)) = some (d, q') := by
  obtain ⟨xs, m, rfl, hx, -, hn, hel⟩ := DataW.trod_array ht h
  obtain ⟨q', h1, h2⟩ := part_at hx hd
  exact ⟨m, q', (hel i (by omega)).trans h1⟩
theorem str_at {f : Nat} {t : TypeId} {fs : Array Field} {cs : List Value} {ds : List (DataW Unit)} {q : List MemPlace} (ht : Tryd.prog.underlying t = some (.struct fs)) (h : DataW.trod enc Tryd.prog W base sp held f t cs = some (.agg ds, q)) (i : Nat) {fd : Field} (hf : fs[i]? = some fd) {d : DataW Unit} (hd : ds[i]? = some d) : ∃ m q', DataW.trod enc Tryd.prog W base sp held m fd.type ((cs.drop fd.offset).take (Tryd.prog.cellsOf fd.type)) = some (d, q') := by
  obtain ⟨xs, m, rfl, hx, -, hn, hel⟩ := DataW.trod_struct ht h
  obtain ⟨q', h1, -⟩ := part_at hx hd
  exact ⟨m, q', (hel i fd hf).trans h1⟩
end
theorem slot {cs : List Value} {a : Nat} {v : Value} (h : (cs.drop a).take 1 = [v]) : cs[a]? = some v := by
  have := congrArg (·[0]?) h
  simpa [List.getElem?_take, List.getElem?_drop] using this
theorem slot2 {cs : List Value} {a n j : Nat} {v : Value} (h : (((cs.drop a).take n).drop j).take 1 = [v]) : cs[a + j]? = some v := by
  have := slot h
  rw [List.getElem?_take] at this
  split at this
  · rwa [List.getElem?_drop] at this
  · cases this
theorem head_open {n : String} {d : DataW Unit} {r : List (String × DataW Unit)} {W : World} {g : Nat} {t : TypeId} (h : laidMet Tryd.prog ((n, d) :: r) W) (hg : Tryd.prog.globalNamed n = some g) (ht : (Tryd.prog.globals[g]?).map (·.type) = some t) : ∃ (cs : Array Value) (f : Nat) (q : List MemPlace), W.var? Tryd.prog n = some cs ∧ DataW.trod (fun _ => ()) Tryd.prog W 0 (fun _ => true) false f t cs.toList = some (d, q) := by
  obtain ⟨ps, ⟨g0, t0, cs0, f0, p0, q0, hg0, ht0, hv0, hd0, -, -⟩, -, -⟩ := h
  obtain rfl := Option.some.inj (hg.symm.trans hg0)
  obtain rfl := Option.some.inj (ht.symm.trans ht0)
  exact ⟨_, _, _, hv0, hd0⟩
abbrev laidS : List (String × DataW Unit) := [("tollbridge/header.widths", Rows.laid_tollbridge_header_widths), ("tollbridge/policy.joints", Rows.laid_tollbridge_policy_joints), ("tollbridge/policy.wants", Rows.laid_tollbridge_policy_wants)]
theorem room_at {n : String} {d : DataW Unit} {r : List (String × DataW Unit)} {W : World} {g : Nat} (h : laidMet Tryd.prog ((n, d) :: r) W) (hg : Tryd.prog.globalNamed n = some g) : g < W.heap.size := by
  obtain ⟨ps, ⟨g0, t0, cs0, f0, p0, q0, hg0, ht0, hv0, hd0, -, -⟩, -, -⟩ := h
  have hv := hv0
  unfold World.var? at hv
  rw [hg] at hv
  simp only [Option.bind_some] at hv
  by_cases hz : g < W.heap.size
  · exact hz
  · rw [Array.getElem?_eq_none (by omega)] at hv
    cases hv
theorem room_of_laid {W : World} (h : laidMet Tryd.prog laidS W) : 3 ≤ W.heap.size := by
  have h1 := room_at h nWD
  have h2 := room_at h.tail nJT
  have h3 := room_at h.tail.tail nWT
  omega
theorem wt_of {W : World} {r : List (String × DataW Unit)} (h : laidMet Tryd.prog (("tollbridge/policy.wants", Rows.laid_tollbridge_policy_wants) :: r) W) (op : Nat) (ho : op < 11) : W.rangeAt 0 (op * 5) (wtc op).toList := by
  rw [wtData] at h
  obtain ⟨cs, f, q, hv, hd⟩ := head_open h nWT tWT
  obtain ⟨m, q1, h1⟩ := arr_at Tryd.underlying90 hd (i := op) (d := wtd op) (by simp [ho])
  rw [cellsWT] at h1
  have hc : ∀ j v, cs.toList[op * 5 + j]? = some v → W.cell? ⟨0, op * 5 + j, none⟩ = some v := fun j v e => (World.var?_cell nWT hv _).trans (by simpa using e)
  obtain ⟨m0, p0, e0⟩ : ∃ m q, DataW.trod (fun _ => ()) Tryd.prog W 0 (fun _ => true) false m 63 ((((cs.toList.drop (op * 5)).take 5).drop 0).take (Tryd.prog.cellsOf 63)) = some (.lit (.int .i8 ((wsd op : Nat) : Int)), q) := str_at Tryd.underlying89 h1 0 rfl rfl
  obtain ⟨m1, p1, e1⟩ : ∃ m q, DataW.trod (fun _ => ()) Tryd.prog W 0 (fun _ => true) false m 63 ((((cs.toList.drop (op * 5)).take 5).drop 1).take (Tryd.prog.cellsOf 63)) = some (.lit (.int .i8 ((wkd op : Nat) : Int)), q) := str_at Tryd.underlying89 h1 1 rfl rfl
  obtain ⟨m2, p2, e2⟩ : ∃ m q, DataW.trod (fun _ => ()) Tryd.prog W 0 (fun _ => true) false m 3 ((((cs.toList.drop (op * 5)).take 5).drop 2).take (Tryd.prog.cellsOf 3)) = some (.lit (.int .i64 ((lst1 op : Nat) : Int)), q) := str_at Tryd.underlying89 h1 2 rfl rfl
  obtain ⟨m3, p3, e3⟩ : ∃ m q, DataW.trod (fun _ => ()) Tryd.prog W 0 (fun _ => true) false m 3 ((((cs.toList.drop (op * 5)).take 5).drop 3).take (Tryd.prog.cellsOf 3)) = some (.lit (.int .i64 ((mst op : Nat) : Int)), q) := str_at Tryd.underlying89 h1 3 rfl rfl
  obtain ⟨m4, p4, e4⟩ : ∃ m q, DataW.trod (fun _ => ()) Tryd.prog W 0 (fun _ => true) false m 3 ((((cs.toList.drop (op * 5)).take 5).drop 4).take (Tryd.prog.cellsOf 3)) = some (.lit (.int .i64 ((wfl op : Nat) : Int)), q) := str_at Tryd.underlying89 h1 4 rfl rfl
  have c0 := slot2 (j := 0) (by have := cellI Tryd.underlying63 e0; rwa [cellsSD] at this)
  have c1 := slot2 (j := 1) (by have := cellI Tryd.underlying63 e1; rwa [cellsSD] at this)
  have c2 := slot2 (j := 2) (by have := cellI Tryd.underlying3 e2; rwa [cells3] at this)
  have c3 := slot2 (j := 3) (by have := cellI Tryd.underlying3 e3; rwa [cells3] at this)
  have c4 := slot2 (j := 4) (by have := cellI Tryd.underlying3 e4; rwa [cells3] at this)
  intro j v hj
  match j, hj with
  | 0, hj => exact hc 0 v (c0.trans hj)
  | 1, hj => exact hc 1 v (c1.trans hj)
  | 2, hj => exact hc 2 v (c2.trans hj)
  | 3, hj => exact hc 3 v (c3.trans hj)
  | 4, hj => exact hc 4 v (c4.trans hj)
theorem jt_of {W : World} {r : List (String × DataW Unit)} (h : laidMet Tryd.prog (("tollbridge/policy.joints", Rows.laid_tollbridge_policy_joints) :: r) W) (op : Nat) (ho : op < 10) : W.rangeAt 1 (op * 2) (jtc op).toList := by
  rw [jtData] at h
  obtain ⟨cs, f, q, hv, hd⟩ := head_open h nJT tJT
  obtain ⟨m, q1, h1⟩ := arr_at Tryd.underlying122 hd (i := op) (d := jtd op) (by simp [ho])
  rw [cellsJT] at h1
  have hc : ∀ j v, cs.toList[op * 2 + j]? = some v → W.cell? ⟨1, op * 2 + j, none⟩ = some v := fun j v e => (World.var?_cell nJT hv _).trans (by simpa using e)
  obtain ⟨m0, p0, e0⟩ : ∃ m q, DataW.trod (fun _ => ()) Tryd.prog W 0 (fun _ => true) false m 22 ((((cs.toList.drop (op * 2)).take 2).drop 0).take (Tryd.prog.cellsOf 22)) = some (.lit (.int .i8 (jid op)), q) := str_at Tryd.underlying121 h1 0 rfl rfl
  obtain ⟨m1, p1, e1⟩ : ∃ m q, DataW.trod (fun _ => ()) Tryd.prog W 0 (fun _ => true) false m 22 ((((cs.toList.drop (op * 2)).take 2).drop 1).take (Tryd.prog.cellsOf 22)) = some (.lit (.int .i8 (jen op)), q) := str_at Tryd.underlying121 h1 1 rfl rfl
  have c0 := slot2 (j := 0) (by have := cellI Tryd.underlying22 e0; rwa [cellsI8] at this)
  have c1 := slot2 (j := 1) (by have := cellI Tryd.underlying22 e1; rwa [cellsI8] at this)
  intro j v hj
  match j, hj with
  | 0, hj => exact hc 0 v (c0.trans hj)
  | 1, hj => exact hc 1 v (c1.trans hj)
theorem wd_of {W : World} {r : List (String × DataW Unit)} (h : laidMet Tryd.prog (("tollbridge/header.widths", Rows.laid_tollbridge_header_widths) :: r) W) (k : Nat) (hk : k < 11) : W.cell? ⟨2, k, none⟩ = some (.int .i64 ((wdt k : Nat) : Int)) := by
  rw [wdData] at h
  obtain ⟨cs, f, q, hv, hd⟩ := head_open h nWD tWD
  obtain ⟨m, q1, h1⟩ := arr_at Tryd.underlying145 hd (i := k) (d := .lit (.int .i64 ((wdt k : Nat) : Int))) (by simp [hk])
  rw [cells3] at h1
  have c := slot (cellI Tryd.underlying3 h1)
  rw [Nat.mul_one] at c
  exact (World.var?_cell nWD hv _).trans (by simpa using c)
theorem tabP_of_laid {W : World} (h : laidMet Tryd.prog laidS W) : TabP W := ⟨wd_of h, wt_of h.tail.tail, jt_of h.tail⟩
theorem door_met (os : Os) (args : Array Value) : laidMetH Tryd.prog laidS ((World.doorLaid Tryd.prog 28 os).forCall (fun _ _ => 0) ⟨#[], args, []⟩).memory :=
  laidMetH_of_parts (laidMet_of_run' 8 (by kernel_rfl) (by kernel_rfl)) (by kernel_rfl)
end Go.Proofs.YtjallmncajhamaaDoor
