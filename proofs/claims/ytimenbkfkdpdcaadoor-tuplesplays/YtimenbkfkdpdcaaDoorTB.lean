/-
  Proved here: a table of package tuples by the rules that are in it (Tbl): New, Add, Find, Rows. Conditions: the widths' table holds its numbers; fewer than 2 to 31 were added.
-/
import Derived.Test.YtimenbkfkdpdcaaDoorIB
namespace Go.Proofs.YtimenbkfkdpdcaaDoor
open Go.RowKit

def Tbl (S : Nat → Prop) (w : World) (v : Value) (T : List Ru) (ad : Int) : Prop := ∃ g o bm nm Gm vr rs, v = pv g ∧ TabM S o w g ad bm nm Gm vr rs ∧ Inv T ad nm Gm rs
theorem Tbl.carry {S S' : Nat → Prop} {w w' : World} {v : Value} {T : List Ru} {ad : Int} (h : Tbl S w v T ad) (hc : ∀ b, b < w.heap.size → S b → S' b ∧ w'.heap[b]? = w.heap[b]?) : Tbl S' w' v T ad := by
  obtain ⟨g, o, bm, nm, Gm, vr, rs, h1, h2, h3⟩ := h
  exact ⟨g, o, bm, nm, Gm, vr, rs, h1, h2.carry fun b hb hS _ => ⟨(hc b hb hS).1, rfl, (hc b hb hS).2⟩, h3⟩
theorem Tbl.form {S : Nat → Prop} {w : World} {v : Value} {T : List Ru} {ad : Int} (h : Tbl S w v T ad) : ∃ g, v = pv g := by
  obtain ⟨g, o, bm, nm, Gm, vr, rs, h1, h2, h3⟩ := h
  exact ⟨g, h1⟩
set_option maxRecDepth 100000 in
theorem tnew_any (w : World) : Calls Tryd.prog 7 #[] w fun e w' => ∃ v, e = .returned v ∧ Below w.heap.size w w' ∧ Tbl (fun b => w.heap.size ≤ b) w' v [] 0 := by
  have hmm := @run_makeMap Tryd.prog
  have HF : Hid (Below w.heap.size w ((w.alloc (.map #[] 0)).alloc (.cells #[.int .i64 0, .map (some w.heap.size), .slice none 0 0] 55)) ∧ Tbl (fun b => w.heap.size ≤ b) ((w.alloc (.map #[] 0)).alloc (.cells #[.int .i64 0, .map (some w.heap.size), .slice none 0 0] 55)) (pv (w.heap.size + 1)) [] 0) := by
    have h1 := heap_alloc_new (w.alloc (.map #[] 0)) (.cells #[.int .i64 0, .map (some w.heap.size), .slice none 0 0] 55)
    have e1 : (w.alloc (.map #[] 0)).heap.size = w.heap.size + 1 := by simp
    rw [e1] at h1
    refine ⟨((Below.refl _ _).alloc (Nat.le_refl _) _).alloc (by simp) _, w.heap.size + 1, fun b => if b = w.heap.size + 1 then .tab else .mat, w.heap.size, 0, fun _ => none, nilS, [], rfl, ⟨by show _ ≤ _; omega, by simp, h1, Nat.le_refl _, by simp, (Mp.new w 3).carry (heap_alloc_old _ _ (by simp)), Rw.nil _ _ _ _, (fun _ h => by cases h), List.Pairwise.nil⟩, Inv.nil⟩
  go_enter Tryd.func7, Tryd.ntmps7
  go_wp2
  go_ret
  exact ⟨_, rfl, HF.out.1, HF.out.2⟩
def adE (T : List Ru) (m : Nat → Int) : Int := if mOk m then (if 1024 ≤ T.length then 4 else 0) else 20
def adT (T : List Ru) (ad r : Int) (m : Nat → Int) : List Ru := if adE T m = 0 then T ++ [⟨ad + 1, r, m⟩] else T
def adA (T : List Ru) (ad : Int) (m : Nat → Int) : Int := if adE T m = 0 then ad + 1 else ad
def adN (T : List Ru) (ad : Int) (m : Nat → Int) : Int := if adE T m = 0 then ad + 1 else 0
theorem tAdd_any {S : Nat → Prop} (w : World) (v : Value) (T : List Ru) (ad r : Int) (m : Nat → Int) (cp : Value) (ck : Int) (h : Tbl S w v T ad) (hf : Fresh S w) (ht : Tab w) (hw : Wf m) (ha : ad < 2147483640) :
    Calls Tryd.prog 8 #[v, .agg (rc r m cp ck)] w fun e w' => e = .returned (.tuple #[.int .i64 (adN T ad m), .int .i64 (adE T m)]) ∧ Only S w w' ∧ Tbl S w' v (adT T ad r m) (adA T ad m) := by
  obtain ⟨g, o, bm, nm, Gm, vr, rs, rfl, hT, hI⟩ := id h
  cases hm : mOk m with
  | false =>
    have e0 : adE T m = 20 := by simp [adE, hm]
    unfold adN adT adA
    rw [e0]
    refine (tadd_bad w g r m cp ck ht hm).mono ?_
    rintro e w' ⟨rfl, hb⟩
    exact ⟨rfl, Only.of hb hf, h.carry fun b hb1 hS => ⟨hS, hb.block b hb1⟩⟩
  | true =>
    by_cases hn : 1024 ≤ T.length
    · have e0 : adE T m = 4 := by simp [adE, hm, hn]
      unfold adN adT adA
      rw [e0]
      refine (tadd_full w g ad bm nm Gm vr rs r m cp ck hT ht hm (by rw [hI.cnt]; exact hn)).mono ?_
      rintro e w' ⟨rfl, hb⟩
      exact ⟨rfl, Only.of hb hf, h.carry fun b hb1 hS => ⟨hS, hb.block b hb1⟩⟩
    · have e0 : adE T m = 0 := by simp [adE, hm, hn]
      unfold adN adT adA
      rw [e0]
      have hl := hI.len
      refine (tadd_ok w g ad bm nm Gm vr rs r m cp ck hT hf ht hm hw (by rw [hI.cnt]; omega) hI.ad0 (by omega) (by omega) (fun ρ hρ => ⟨by have := (hl.2 ρ hρ).1; omega, fun l => by have := (hl.2 ρ hρ).2 l; omega⟩)).mono ?_
      rintro e w' ⟨rfl, hO, o', vr', ρ, rs', v5, hou, hT'⟩
      exact ⟨rfl, hO, g, o', bm, _, _, vr', _, rfl, hT', hI.add (u := ⟨ad + 1, r, m⟩) rfl hm hw hou⟩
theorem tFind_any {S : Nat → Prop} (w : World) (v : Value) (T : List Ru) (ad : Int) (h : Nat → Int) (hT : Tbl S w v T ad) (hw : Wf h) (ha : ad < 2147483640) :
    Calls Tryd.prog 12 #[v, hv h] w fun e w' => ∃ f, Best T h f ∧ e = .returned (.tuple #[.int .i64 (eD f).k, .bool f.isSome]) ∧ Below w.heap.size w w' := by
  obtain ⟨g, o, bm, nm, Gm, vr, rs, rfl, hT, hI⟩ := hT
  refine (find_any w g ad bm nm Gm vr rs h hT hw (by have := hI.len.1; omega)).mono ?_
  rintro e w' ⟨rfl, hb⟩
  exact ⟨_, hI.best hw fun ρ hρ => (hT.all ρ hρ).wf, rfl, hb⟩
theorem tRows_any {S : Nat → Prop} (w : World) (v : Value) (T : List Ru) (ad : Int) (hT : Tbl S w v T ad) :
    Calls Tryd.prog 14 #[v] w fun e w' => e = .returned (.int .i64 (nMask T : Nat)) ∧ w' = w := by
  obtain ⟨g, o, bm, nm, Gm, vr, rs, rfl, hT, hI⟩ := hT
  have hr := hI.rows
  obtain ⟨ao, cap, rfl⟩ := hT.row.form
  obtain ⟨t0, t1, t2, t3⟩ := three_cells hT.hg
  rw [hr] at t2
  clear hT hI hr
  go_enter Tryd.func14, Tryd.ntmps14
  go_wp2
  go_ret
  exact ⟨rfl, rfl⟩
end Go.Proofs.YtimenbkfkdpdcaaDoor
