/-
  Proved here: the rows' list of variables gives the widths' table; a slice of bytes that comes in holds bytes, within the reach of every row; a packet that comes in is eleven numbers below 2 to 64 and such a slice. No further condition.
-/
import Derived.Test.YtioohgcaakcgaaaDoorRows
import Derived.Test.YtioohgcaakcgaaaDoorCards
import Derived.Test.YtioohgcaakcgaaaDoorTie
import Derived.Test.YtioohgcaakcgaaaDoorB1
import Derived.WalkKit
import Derived.ProofKit
import Derived.OpenShut
import Derived.ChangeSame
import Derived.LaidMore
import Derived.Stop.LaidErr
import Derived.Deep.DeepHandedRow
import Derived.Lib.LaidTab
import Derived.SizedLaws
import Derived.Carry
namespace Go.Proofs.YtioohgcaakcgaaaDoor
open Go.ChangeShapes Go.WideShapes Go.ChangeAt Go.RowKit

theorem own : ownKnob Tryd.prog.godebug = none := by kernel_rfl
theorem gWid : Tryd.prog.globalNamed "tollbridge/header.widths" = some 0 := by kernel_rfl
theorem tWid : (Tryd.prog.globals[0]?).map (·.type) = some 74 := by kernel_rfl
theorem cells3 : Tryd.prog.cellsOf 3 = 1 := by kernel_rfl
theorem cells23 : Tryd.prog.cellsOf 22 = 1 := by kernel_rfl
theorem cells25 : Tryd.prog.cellsOf 30 = 11 := by kernel_rfl
theorem cells27 : Tryd.prog.cellsOf 32 = 12 := by kernel_rfl
theorem cells22 : Tryd.prog.cellsOf 25 = 1 := by kernel_rfl
theorem cells5 : Tryd.prog.cellsOf 5 = 1 := by kernel_rfl
theorem bytes5 : Tryd.prog.bytesOf 5 = 1 := by kernel_rfl
theorem laidOut : laidOutB Tryd.prog = true := by kernel_rfl
theorem cells61 : Tryd.prog.cellsOf 74 = 11 := by kernel_rfl
def widL : List Int := [48, 48, 16, 12, 32, 32, 8, 16, 16, 16, 16]
theorem widData : (Rows.laid_tollbridge_header_widths : DataW Unit) = Lib.tabData .i64 widL := by kernel_rfl

/-- WHAT THE ROWS' LIST GIVES: the widths' table. -/
theorem tab_of_laid {W : World} (h : laidMet Tryd.prog Rows.arpReadsRow.laid W) : Tab W := by
  have hw : laidMet Tryd.prog (("tollbridge/header.widths", Lib.tabData .i64 widL) :: []) W := by rw [← widData]; exact h
  intro k hk
  rw [(Lib.tabIs_of_head gWid tWid Tryd.underlying74 Tryd.underlying3 cells3 cells61 hw).cell gWid k hk]
  have hk' : k = 0 ∨ k = 1 ∨ k = 2 ∨ k = 3 ∨ k = 4 ∨ k = 5 ∨ k = 6 ∨ k = 7 ∨ k = 8 ∨ k = 9 ∨ k = 10 := by omega
  rcases hk' with rfl | rfl | rfl | rfl | rfl | rfl | rfl | rfl | rfl | rfl | rfl <;> rfl

/-- The heap that the program's own initialisers leave meets the rows' list. -/
theorem door_met (os : Os) (args : Array Value) : laidMet Tryd.prog Rows.arpReadsRow.laid ((World.doorLaid Tryd.prog 14 os).forCall (fun _ _ => 0) ⟨#[], args, []⟩).memory :=
  laidMet_of_run' 8 (by kernel_rfl) (by kernel_rfl)

def hd {H : Type} (h : Nat → Int) : DataW H := .agg ((List.range 11).map fun k => .lit (.int .u64 (h k)))
theorem hd_congr {H : Type} {a b : Nat → Int} (h : ∀ k, k < 11 → a k = b k) : (hd a : DataW H) = hd b := by
  unfold hd
  rw [List.map_congr_left fun k hk => by rw [h k (List.mem_range.1 hk)]]
theorem mapM_all {α β : Type} {f : α → Option β} {g : α → β} : ∀ l : List α, (∀ i ∈ l, f i = some (g i)) → l.mapM f = some (l.map g)
  | [], _ => by simp
  | i :: l, h => by simp [h i (by simp), mapM_all l fun j hj => h j (by simp [hj])]
/-- Every number is one of 64 bits. -/
def Wf (h : Nat → Int) : Prop := ∀ k, (Lit.int .u64 (h k)).wf = true
theorem zero_wf : (Lit.int .u64 0).wf = true := by simp [Lit.wf, IntKind.min, IntKind.max, IntKind.signed, IntKind.bits]

section
variable {H : Type} {enc : TypeId × Value → H} {W : World} {base : Nat} {sp : Nat → Bool} {held : Bool}
/-- Eleven cells that read as an array of eleven numbers. -/
theorem open_arr {fuel : Nat} {cs : List Value} {x : DataW H × List MemPlace} (hf : DataW.trod enc Tryd.prog W base sp held fuel 30 cs = some x) :
    ∃ h : Nat → Int, cs.toArray = row 11 h ∧ x = (hd h, []) ∧ Wf h := by
  obtain ⟨xs, m, rfl, hx, hl, hn, hel⟩ := DataW.trod_array Tryd.underlying30 hf
  rw [cells25] at hl
  have key : ∀ k, k < 11 → ∃ n : Int, cs[k]? = some (.int .u64 n) ∧ xs[k]? = some (.lit (.int .u64 n), []) ∧ (Lit.int .u64 n).wf = true := by
    intro k hk
    have h1 := hel k hk
    rw [cells23, Nat.mul_one] at h1
    have hkx : k < xs.length := by omega
    rw [List.getElem?_eq_getElem hkx] at h1
    obtain ⟨n, e1, e2, wn⟩ := DataW.trod_int Tryd.underlying22 h1
    refine ⟨n, ?_, ?_, wn⟩
    · have := congrArg (·[0]?) e1
      simpa [List.getElem?_take, List.getElem?_drop] using this
    · rw [List.getElem?_eq_getElem hkx, e2]
  have hall : ∃ h : Nat → Int, ∀ k, (k < 11 → cs[k]? = some (.int .u64 (h k)) ∧ xs[k]? = some (.lit (.int .u64 (h k)), [])) ∧ (Lit.int .u64 (h k)).wf = true := by
    refine ⟨fun k => if hk : k < 11 then (key k hk).choose else 0, fun k => ?_⟩
    by_cases hk : k < 11
    · simp only [hk, dite_true, forall_const]
      obtain ⟨a, b, c⟩ := (key k hk).choose_spec
      exact ⟨⟨a, b⟩, c⟩
    · simp [hk, zero_wf]
  obtain ⟨h, hh⟩ := hall
  have hxs : xs = (List.range 11).map fun k => (.lit (.int .u64 (h k)), []) := by
    apply List.ext_getElem?
    intro k
    by_cases hk : k < 11
    · rw [((hh k).1 hk).2]; simp [hk]
    · rw [List.getElem?_eq_none (by omega), List.getElem?_eq_none (by simp; omega)]
  refine ⟨h, row_ext (by simp [hl]) fun k hk => by simpa using ((hh k).1 hk).1, ?_, fun k => (hh k).2⟩
  rw [hx, hxs]
  simp [hd, List.range_succ]
theorem shut_arr (m : Nat) (h : Nat → Int) (hwf : Wf h) : DataW.trod enc Tryd.prog W base sp held (m + 2) 30 (row 11 h).toList = some (hd h, []) := by
  have e : ∀ k, k < 11 → DataW.trod enc Tryd.prog W base sp held (m + 1) 22 (((row 11 h).toList.drop (k * Tryd.prog.cellsOf 22)).take (Tryd.prog.cellsOf 22)) = some (.lit (.int .u64 (h k)), []) := by
    intro k hk
    have hc : ((row 11 h).toList.drop (k * Tryd.prog.cellsOf 22)).take (Tryd.prog.cellsOf 22) = [.int .u64 (h k)] := by
      rw [cells23, Nat.mul_one]
      have h1 := row_at 11 h k hk
      have hlt : k < (row 11 h).toList.length := by simp [row_size, hk]
      rw [List.drop_eq_getElem_cons hlt]
      have h2 : (row 11 h).toList[k]? = some (.int .u64 (h k)) := by simpa using h1
      rw [List.getElem?_eq_getElem hlt] at h2
      rw [Option.some.inj h2]
      rfl
    rw [hc]
    exact trod_int_mk m Tryd.underlying22 (hwf k)
  unfold DataW.trod
  rw [Tryd.underlying30]
  have hl : (row 11 h).toList.length = Tryd.prog.cellsOf 30 := by rw [cells25]; simp [row_size]
  simp only [hl, if_true]
  have hm : (List.range 11).mapM (fun i => DataW.trod enc Tryd.prog W base sp held (m + 1) 22 (((row 11 h).toList.drop (i * Tryd.prog.cellsOf 22)).take (Tryd.prog.cellsOf 22))) = some ((List.range 11).map fun k => (.lit (.int .u64 (h k)), [])) := by
    exact mapM_all _ fun k hk => e k (List.mem_range.1 hk)
  rw [hm]
  simp [hd, List.range_succ]

theorem reach5 {n m : Nat} (h : (n + m) * Tryd.prog.bytesOf 5 ≤ reachBytes) : n ≤ 140737488351232 := by
  rw [bytes5] at h
  simp only [reachBytes] at h
  omega
theorem sized_pkt {ts : List TypeId} {ds : List (DataW H)} (h : (DataW.weightsEach Tryd.prog ts ds).all (· ≤ reachBytes) = true) {j : Nat} {x : DataW H} {elems spare : List (DataW H)} (ht : ts[j]? = some 32) (hd : ds[j]? = some (.agg [x, .slice elems spare])) :
    (elems.length + spare.length) * Tryd.prog.bytesOf 5 ≤ reachBytes := by
  have := List.all_eq_true.1 h _ (DataW.weights_mem_each ht hd ((elems.length + spare.length) * Tryd.prog.bytesOf 5) (by simp [DataW.weights, DataW.weightsEach, Tryd.underlying32, Tryd.underlying25]))
  simpa using this
/-- A SLICE OF BYTES THAT CAME IN: its one cell. -/
theorem open_cell {fuel : Nat} {cs : List Value} {x : DataW H × List MemPlace} (hf : DataW.trod enc Tryd.prog W 0 (fun _ => true) true fuel 25 cs = some x) (hlt : ∀ y ∈ x.2, y.block < W.heap.size)
    (hreach : ∀ elems spare, x.1 = .slice elems spare → (elems.length + spare.length) * Tryd.prog.bytesOf 5 ≤ reachBytes) :
    ∃ v bs, cs = [v] ∧ Sl W.heap.size W v bs ∧ bs.length ≤ 140737488351232 := by
  rcases open_ints Tryd.underlying25 Tryd.underlying5 cells5 hf with ⟨hcs, hx⟩ | ⟨a, len, cap, zs, hcs, _, hl, hm, hz, hx, hcell, hwz⟩
  · exact ⟨_, [], hcs, Sl.nil _ _, by simp⟩
  · have hz' : zs.length = cap := by simpa using hz
    have hr := hreach _ _ (by rw [hx])
    have hr' : len ≤ 140737488351232 := by
      have := reach5 hr
      simp only [lits, List.length_map, List.length_take] at this
      omega
    have hlen : (zs.take len).length = len := by rw [List.length_take]; omega
    refine ⟨_, zs.take len, hcs, ⟨some a, cap, by rw [hlen], by omega, by omega, fun y hy => ?_, (fun h => by cases h), fun hne => ?_⟩, by omega⟩
    · have := bounds_u8 (hwz y (List.mem_of_mem_take hy))
      omega
    · have hpos : 0 < len := by
        rcases Nat.eq_zero_or_pos len with h0 | h0
        · subst h0; simp at hne
        · exact h0
      obtain ⟨b, off, spot⟩ := a
      have hspot : spot = none := by simpa [Addr.add] using World.cell?_spot (hcell 0 (by omega))
      subst hspot
      refine ⟨b, off, ?_, rfl, fun j hj => ?_⟩
      · refine hlt (.cell b off) ?_
        rw [hx]
        exact MemPlace.mem_row.2 ⟨0, by omega, by simp⟩
      · rw [hlen] at hj
        rw [← Addr.add_mid, hcell j (by omega)]
        simp only [List.getD_eq_getElem?_getD, List.getElem?_take, if_pos hj]
/-- A SLICE OF BYTES THAT CAME IN. -/
theorem open_sl {v : Value} {d : DataW H} {p : List MemPlace} (h0 : DataW.Trod enc Tryd.prog W 0 (fun _ => true) true 25 v d p) (hlt : ∀ y ∈ p, y.block < W.heap.size)
    (hreach : ∀ elems spare, d = .slice elems spare → (elems.length + spare.length) * Tryd.prog.bytesOf 5 ≤ reachBytes) (hv : ∃ ao n c, v = .slice ao n c) :
    ∃ bs, Sl W.heap.size W v bs ∧ bs.length ≤ 140737488351232 := by
  obtain ⟨fuel, hf⟩ := h0
  obtain ⟨ao, n, c, rfl⟩ := hv
  obtain ⟨v', bs, hcs, hs, hl⟩ := open_cell hf hlt hreach
  simp only [Value.cells] at hcs
  have : v' = .slice ao n c := by simpa using hcs.symm
  exact ⟨bs, this ▸ hs, hl⟩
/-- A PACKET THAT CAME IN. -/
theorem open_pkt {r : Reach} {b0 : Nat} {v : Value} {d : DataW H} {p : List MemPlace} (hv0 : Value.okWide Tryd.prog W r b0 32 v) (h0 : DataW.Trod enc Tryd.prog W 0 (fun _ => true) true 32 v d p) (hlt : ∀ y ∈ p, y.block < W.heap.size)
    (hreach : ∀ x elems spare, d = .agg [x, .slice elems spare] → (elems.length + spare.length) * Tryd.prog.bytesOf 5 ≤ reachBytes) :
    ∃ (h : Nat → Int) (vb : Value) (bs : List Int), v = pv h vb ∧ Wf h ∧ Sl W.heap.size W vb bs ∧ bs.length ≤ 140737488351232 := by
  obtain ⟨cs, rfl, hsz, _⟩ : ∃ cs, v = .agg cs ∧ cs.size = Tryd.prog.cellsOf 32 ∧ Row.okWide Tryd.prog W r b0 32 cs := by
    simpa [Value.okWide, Tryd.underlying32] using hv0
  obtain ⟨fuel, hf⟩ := h0
  obtain ⟨y0, y1, n, hx, hl, e0, e1⟩ := trod_struct2 Tryd.underlying32 hf
  obtain ⟨a, ca, ha, wa⟩ := open_arr e0
  rw [cells27] at hsz
  simp only [Prod.mk.injEq] at hx
  obtain ⟨vb, bs, cb, hs, hb⟩ := open_cell e1 (fun y hy => hlt y (by rw [hx.2]; exact List.mem_append_right _ hy)) (fun elems spare e => hreach y0.1 elems spare (by rw [hx.1, e]))
  refine ⟨a, vb, bs, ?_, wa, hs, hb⟩
  have : cs = prow a vb := by
    apply Array.ext_getElem?
    intro k
    by_cases hk : k < 11
    · have := row_at 11 a k hk
      rw [← ca, cells25] at this
      rw [prow_at a vb k hk, ← this]
      simp [Value.cells, hk]
    · by_cases hk2 : k = 11
      · subst hk2
        have := congrArg (·[0]?) cb
        rw [cells22] at this
        rw [prow_last]
        simpa [Value.cells, List.getElem?_drop] using this
      · rw [Array.getElem?_eq_none (by omega), Array.getElem?_eq_none (by rw [prow_size]; omega)]
  rw [this]
end
theorem Wf.bd {h : Nat → Int} (hwf : Wf h) : ∀ k, 0 ≤ h k ∧ h k < 18446744073709551616 := fun k => by
  have := bounds_u64 (hwf k); omega
end Go.Proofs.YtioohgcaakcgaaaDoor
