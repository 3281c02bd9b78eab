/-
  Proved here: New of package flows: a table without rules, in new memory, of room brought into its bounds. No condition.
-/
/-
  Proved here: wakes of the statements says true. Condition: the widths' table holds its numbers.
-/
/-
  Proved here: wakes of the statements says true. Condition: the widths' table holds its numbers.
-/
/-
  Proved here: the rows' list of variables gives the widths' table. No further condition.
-/
import Derived.Test.YtdehlnaoehjehaaGreatDoorzKL
import Derived.Test.YtdehlnaoehjehaaGreatDoorRows
import Derived.Test.YtdehlnaoehjehaaGreatDoorCards
import Derived.Test.YtdehlnaoehjehaaGreatDoorTie
import Derived.WalkKit
import Derived.ProofKit
import Derived.OpenShut
import Derived.ChangeSame
import Derived.LaidMore
import Derived.Stop.LaidErr
import Derived.Deep.DeepHandedRow
import Derived.Deep.Slices
import Derived.Lib.LaidTab
import Derived.SizedLaws
import Derived.Carry
namespace Go.Proofs.YtdehlnaoehjehaaGreatDoor
set_option maxRecDepth 100000
open Go.RowKit Go.Maps

def SnP (w : World) (e : Ending) (w' : World) : Prop := ∃ gt b1, e = .returned (.agg #[pv gt, .map (some b1), .map (some (b1 + 1))]) ∧ Below w.heap.size w w' ∧ w.heap.size + 1 ≤ b1 ∧ w'.heap.size = b1 + 2 ∧ Tbl (fun b => w.heap.size + 1 ≤ b ∧ b < b1) w' (pv gt) [] 0 ∧ Mp w' 3 b1 0 (fun _ => none) ∧ Mp w' 174 (b1 + 1) 0 (fun _ => none)
set_option maxHeartbeats 800000 in
set_option maxRecDepth 100000 in
theorem snew_any (w : World) : Calls Tryz.prog 33 #[] w (SnP w) := by
  have hmm := @run_makeMap Tryz.prog
  obtain ⟨W0, hW0⟩ : ∃ W0, W0 = w.alloc (.cells #[.pointer none, .map none, .map none] 89) := ⟨_, rfl⟩
  have hB0 : Below w.heap.size w W0 := by rw [hW0]; exact (Below.refl _ _).alloc (Nat.le_refl _) _
  have hs0 : W0.heap.size = w.heap.size + 1 := by rw [hW0]; simp
  have hX0 : W0.heap[w.heap.size]? = some (.cells #[.pointer none, .map none, .map none] 89 (0, 0)) := by rw [hW0]; exact heap_alloc_new _ _
  have HN : Hid (∀ w1 gt, Below W0.heap.size W0 w1 → Tbl (fun b => W0.heap.size ≤ b) w1 (pv gt) [] 0 → (((w1.alloc (.map #[] 0)).alloc (.map #[] 0)).cell? ⟨w.heap.size, 0, none⟩ = some (.pointer none) ∧ ((w1.alloc (.map #[] 0)).alloc (.map #[] 0)).cell? ⟨w.heap.size, 1, none⟩ = some (.map none) ∧ ((w1.alloc (.map #[] 0)).alloc (.map #[] 0)).cell? ⟨w.heap.size, 2, none⟩ = some (.map none) ∧ ∀ i, ((w1.alloc (.map #[] 0)).alloc (.map #[] 0)).frozen? ⟨w.heap.size, i, none⟩ = false) ∧ ∃ W, W = (((((w1.alloc (.map #[] 0)).alloc (.map #[] 0)).setCell ⟨w.heap.size, 0, none⟩ (pv gt)).setCell ⟨w.heap.size, 1, none⟩ (.map (some w1.heap.size))).setCell ⟨w.heap.size, 2, none⟩ (.map (some (w1.heap.size + 1)))) ∧ W.heap[w.heap.size]? = some (.cells #[pv gt, .map (some w1.heap.size), .map (some (w1.heap.size + 1))] 89 (0, 0)) ∧ SnP w (.returned (.agg #[pv gt, .map (some w1.heap.size), .map (some (w1.heap.size + 1))])) W) := fun w1 gt hb hT => by
    have hs1 := hb.size
    have e1 : (w1.alloc (.map #[] 0)).heap.size = w1.heap.size + 1 := by simp
    have e2 : ((w1.alloc (.map #[] 0)).alloc (.map #[] 0)).heap.size = w1.heap.size + 2 := by simp
    have hB2 : Below w1.heap.size w1 ((w1.alloc (.map #[] 0)).alloc (.map #[] 0)) := ((Below.refl _ _).alloc (Nat.le_refl _) _).alloc (by simp) _
    have hx : ((w1.alloc (.map #[] 0)).alloc (.map #[] 0)).heap[w.heap.size]? = some (.cells #[.pointer none, .map none, .map none] 89 (0, 0)) := (hB2.block _ (by omega)).trans ((hb.block _ (by omega)).trans hX0)
    obtain ⟨W, hW⟩ : ∃ W, W = (((((w1.alloc (.map #[] 0)).alloc (.map #[] 0)).setCell ⟨w.heap.size, 0, none⟩ (pv gt)).setCell ⟨w.heap.size, 1, none⟩ (.map (some w1.heap.size))).setCell ⟨w.heap.size, 2, none⟩ (.map (some (w1.heap.size + 1)))) := ⟨_, rfl⟩
    have oth : ∀ b, b ≠ w.heap.size → W.heap[b]? = ((w1.alloc (.map #[] 0)).alloc (.map #[] 0)).heap[b]? := fun b hb => by rw [hW, heap_setCell_other _ ⟨w.heap.size, 2, none⟩ b _ hb, heap_setCell_other _ ⟨w.heap.size, 1, none⟩ b _ hb, heap_setCell_other _ ⟨w.heap.size, 0, none⟩ b _ hb]
    have q1 := heap_setCell_same _ w.heap.size 0 _ _ (pv gt) hx
    have q2 := heap_setCell_same _ w.heap.size 1 _ _ (.map (some w1.heap.size)) q1
    have q3 := heap_setCell_same _ w.heap.size 2 _ _ (.map (some (w1.heap.size + 1))) q2
    refine ⟨⟨by rw [cell_of_row _ _ _ _ _ _ hx]; rfl, by rw [cell_of_row _ _ _ _ _ _ hx]; rfl, by rw [cell_of_row _ _ _ _ _ _ hx]; rfl, fun i => by simp [World.frozen?, hx]⟩, W, hW, by rw [hW]; exact q3, gt, w1.heap.size, rfl, ?_, by omega, by rw [hW]; simp, ?_, ?_, ?_⟩
    · have hq := hB0.trans ((hb.trans (hB2.mono hs1)).mono hB0.size)
      exact ⟨by rw [hW]; exact hq.os, by rw [hW]; exact hq.tape, by rw [hW]; exact hq.output, by rw [hW]; simpa using hq.size, fun b hb1 => (oth b (by omega)).trans (hq.block b hb1)⟩
    · exact hT.carry fun b hb1 hS => ⟨⟨by omega, hb1⟩, (oth b (by omega)).trans (hB2.block b hb1)⟩
    · exact (Mp.new w1 3).carry ((oth _ (by omega)).trans (heap_alloc_old _ _ (by simp)))
    · have := (Mp.new (w1.alloc (.map #[] 0)) 174)
      rw [e1] at this
      exact this.carry (oth _ (by omega))
  have HU := hid (tnew_any W0)
  have HW0 := hid hW0
  clear hB0 hs0 hX0 hW0
  go_enter Tryz.func33, Tryz.ntmps33
  go_upto_region 1 with fail
  rw [← HW0.out]
  clear HW0
  go_wp2_with (first
    | (go_at_call 73; refine (HU.out).mono ?_; rintro e w1 ⟨v, rfl, hb, hT⟩; obtain ⟨gt, rfl⟩ := hT.form; obtain ⟨⟨z1a, z1b, z1c, z1d⟩, W, z2, z3, z4⟩ := HN.out w1 gt hb hT; have HZ2 := hid z2.symm; have HZ3 := hid z3; have HZ4 := hid z4; clear hb hT z2 z3 z4 HU HN))
  rw [HZ2.out]
  exact bodyPost_ret (v := .agg #[pv gt, .map (some w1.heap.size), .map (some (w1.heap.size + 1))]) (results_cell_row Tryz.results33 _ _ w.heap.size 89 _ (0, 0) _ rfl HZ3.out Tryz.underlying89 rfl (by kernel_rfl)) rfl HZ4.out
theorem FInv.nil {room : Int} (h : 0 ≤ room ∧ room ≤ 1024) : FInv (fun _ => none) (fun _ => none) (fun _ => none) room [] [] 0 :=
  ⟨fun l v => by simp, fun l v => by simp, fun l v => by simp, fun e he => by simp at he, fun e he => by simp at he, List.Pairwise.nil, fun e he => by simp at he, List.Pairwise.nil, List.Pairwise.nil, by omega, h, by simpa using h.1⟩
def rmO (n : Int) : Int := min (max n 0) 1024
theorem rmO_bd (n : Int) : 0 ≤ rmO n ∧ rmO n ≤ 1024 := by unfold rmO; omega
def NwP (w : World) (n : Int) (e : Ending) (w' : World) : Prop := ∃ g, e = .returned (pv g) ∧ Below w.heap.size w w' ∧ Fl (fun b => w.heap.size ≤ b) w' g (rmO n) 0 [] []
set_option maxHeartbeats 800000 in
set_option maxRecDepth 100000 in
theorem fnew_any (w : World) (n : Int) : Calls Tryz.prog 8 #[.int .i64 n] w (NwP w n) := by
  have hmm := @run_makeMap Tryz.prog
  have HS := hid (snew_any w)
  have HN : Hid (∀ w1 gt b1, Below w.heap.size w w1 → w.heap.size + 1 ≤ b1 → w1.heap.size = b1 + 2 → Tbl (fun b => w.heap.size + 1 ≤ b ∧ b < b1) w1 (pv gt) [] 0 → Mp w1 3 b1 0 (fun _ => none) → Mp w1 174 (b1 + 1) 0 (fun _ => none) → ∃ W, W = ((w1.alloc (.map #[] 0)).alloc (.cells #[pv gt, .map (some b1), .map (some (b1 + 1)), .int .i64 (rmO n), .map (some w1.heap.size)] 93)) ∧ NwP w n (.returned (pv (w1.heap.size + 1))) W) := fun w1 gt b1 hb h1 h2 h3 h4 h5 => by
    obtain ⟨W, hW⟩ : ∃ W, W = ((w1.alloc (.map #[] 0)).alloc (.cells #[pv gt, .map (some b1), .map (some (b1 + 1)), .int .i64 (rmO n), .map (some w1.heap.size)] 93)) := ⟨_, rfl⟩
    have hB : Below w1.heap.size w1 W := by rw [hW]; exact ((Below.refl _ _).alloc (Nat.le_refl _) _).alloc (by simp) _
    have hg := heap_alloc_new (w1.alloc (.map #[] 0)) (.cells #[pv gt, .map (some b1), .map (some (b1 + 1)), .int .i64 (rmO n), .map (some w1.heap.size)] 93)
    rw [← hW, show (w1.alloc (.map #[] 0)).heap.size = w1.heap.size + 1 by simp] at hg
    obtain ⟨o, ho⟩ : ∃ o : Nat → Fg, ∀ b, o b = if b = w1.heap.size + 1 then .tab else if b = b1 then .rul else if b = b1 + 1 then .pla else if b = w1.heap.size then .gon else .tup := ⟨_, fun _ => rfl⟩
    have hMg : Mp W 28 w1.heap.size 0 (fun _ => none) := (Mp.new w1 28).carry (by rw [hW]; exact heap_alloc_old _ _ (by simp))
    refine ⟨W, hW, w1.heap.size + 1, rfl, hb.trans (hB.mono hb.size), o, pv gt, b1, b1 + 1, w1.heap.size, fun _ => none, fun _ => none, fun _ => none, ⟨by omega, by rw [ho, if_pos rfl], hg, ?_, by omega, ?_, ?_, by omega, ?_, ?_, by omega, ?_, hMg, fun e he => by simp at he, fun e he => by simp at he, List.Pairwise.nil, List.Pairwise.nil⟩, FInv.nil (rmO_bd n)⟩
    · exact h3.carry fun b hb1 hS => ⟨⟨by omega, by rw [ho, if_neg (by omega), if_neg (by omega), if_neg (by omega), if_neg (by omega)]⟩, hB.block b hb1⟩
    · rw [ho, if_neg (by omega), if_pos rfl]
    · exact h4.carry (hB.block _ (by omega))
    · rw [ho, if_neg (by omega), if_neg (by omega), if_pos rfl]
    · exact h5.carry (hB.block _ (by omega))
    · rw [ho, if_neg (by omega), if_neg (by omega), if_neg (by omega), if_pos rfl]
  go_enter Tryz.func8, Tryz.ntmps8
  go_wp2_with (first
    | (go_at_call 33; refine (HS.out).mono ?_; rintro e w1 ⟨gt, b1, rfl, z1, z2, z3, z4, z5, z6⟩; obtain ⟨W, y1, y2⟩ := HN.out w1 gt b1 z1 z2 z3 z4 z5 z6; have HY1 := hid y1.symm; have HY2 := hid y2; clear y1 y2 z1 z2 z3 z4 z5 z6 HS HN))
  rw [show min (max n 0) 1024 = rmO n from rfl, HY1.out]
  go_ret
  exact HY2.out
end Go.Proofs.YtdehlnaoehjehaaGreatDoor
namespace Go.Proofs.YtdehlnaoehjehaaGreatDoor
set_option maxRecDepth 100000
open Go.RowKit Go.Maps

def m1 : Nat → Int := upd (upd zf 1 1) 12 281474976710655
def w1h : Nat → Int := upd zf 1 1
theorem rc1 : (Value.agg #[.int .i64 2, .int .u64 0, .int .u64 1, .int .u64 0, .int .u64 0, .int .u64 0, .int .u64 0, .int .u64 0, .int .u64 0, .int .u64 0, .int .u64 0, .int .u64 0, .int .u64 0, .int .u64 281474976710655, .int .u64 0, .int .u64 0, .int .u64 0, .int .u64 0, .int .u64 0, .int .u64 0, .int .u64 0, .int .u64 0, .int .u64 0, .slice none 0 0, .int .u64 7]) = .agg (rlc ⟨2, m1, [], 7⟩ nilS) := by kernel_rfl
theorem rc2 : (Value.agg #[.int .i64 1, .int .u64 0, .int .u64 0, .int .u64 0, .int .u64 0, .int .u64 0, .int .u64 0, .int .u64 0, .int .u64 0, .int .u64 0, .int .u64 0, .int .u64 0, .int .u64 0, .int .u64 0, .int .u64 0, .int .u64 0, .int .u64 0, .int .u64 0, .int .u64 0, .int .u64 0, .int .u64 0, .int .u64 0, .int .u64 0, .slice none 0 0, .int .u64 8]) = .agg (rlc ⟨1, zf, [], 8⟩ nilS) := by kernel_rfl
theorem rc3 : (Value.agg #[.int .i64 3, .int .u64 0, .int .u64 0, .int .u64 0, .int .u64 0, .int .u64 0, .int .u64 0, .int .u64 0, .int .u64 0, .int .u64 0, .int .u64 0, .int .u64 0, .int .u64 0, .int .u64 0, .int .u64 0, .int .u64 0, .int .u64 0, .int .u64 0, .int .u64 0, .int .u64 0, .int .u64 0, .int .u64 0, .int .u64 0, .slice none 0 0, .int .u64 0]) = .agg (rlc ⟨3, zf, [], 0⟩ nilS) := by kernel_rfl
theorem hv1 : (Value.agg #[.int .u64 0, .int .u64 1, .int .u64 0, .int .u64 0, .int .u64 0, .int .u64 0, .int .u64 0, .int .u64 0, .int .u64 0, .int .u64 0, .int .u64 0]) = hv w1h := by kernel_rfl
theorem wf_of {f : Nat → Int} (h : ∀ k, 0 ≤ f k ∧ f k ≤ 18446744073709551615) : Wf f := fun k => WalkArith.wf_u64 (h k)
theorem upd_bd {f : Nat → Int} {j : Nat} {x : Int} (h : ∀ k, 0 ≤ f k ∧ f k ≤ 18446744073709551615) (hx : 0 ≤ x ∧ x ≤ 18446744073709551615) : ∀ k, 0 ≤ upd f j x k ∧ upd f j x k ≤ 18446744073709551615 := fun k => by
  by_cases e : k = j
  · subst e; rw [upd_same]; exact hx
  · rw [upd_other _ _ _ _ e]; exact h k
theorem zf_bd : ∀ k, 0 ≤ zf k ∧ zf k ≤ 18446744073709551615 := fun k => ⟨Int.le_refl _, by show (0 : Int) ≤ _; omega⟩
theorem wf_m1 : Wf m1 := wf_of (upd_bd (upd_bd zf_bd (by omega)) (by omega))
theorem wf_zf : Wf zf := wf_of zf_bd
theorem wf_1 : Wf w1h := wf_of (upd_bd zf_bd (by omega))
theorem ok_m1 : mOk m1 = true := by decide +kernel
theorem ok_zf : mOk zf = true := by decide +kernel
theorem hit11 : hit m1 w1h = true := by decide +kernel
theorem hit21 : hit zf w1h = true := by decide +kernel
theorem hit00 : hit zf zf = true := by decide +kernel
theorem fitN {rk ck : Int} {m : Nat → Int} (h1 : I64 rk) (h2 : Wf m) (h3 : InB ck) : Rl.Fit ⟨rk, m, [], ck⟩ := ⟨h1, h2, h3, by simp, by simp⟩
theorem stp_add {es es' : List Fe} {G G' : Int → Option (Int × Int)} {ad room n er ad' : Int} {r : Rl} (h : Stp es G ad room 0 r n er es' G' ad') (hm : mOk r.mt = true) (hf : es.filter (fun x => eqP x.r r) = []) (hl : (es.length : Int) < room) : n = 1 ∧ er = 0 ∧ ad' = ad + 1 ∧ ∃ p u, es' = es ++ [⟨p, ad + 1, r, u, 0, 0⟩] := by
  rcases h with h | h | h | h | h | h | h
  · exact absurd ⟨by omega, by omega⟩ h.1
  · rw [hm] at h; exact absurd h.2.1 (by simp)
  · have := h.2.2.1.2; omega
  · obtain ⟨-, -, -, h1, h2, ⟨p, u, h3⟩, -, h4⟩ := h
    rw [hf] at h3
    exact ⟨h1, h2, h4, p, u, h3⟩
  · have := h.2.1; omega
  · have := h.2.1; omega
  · have := h.2.1; omega
theorem stp_full {es es' : List Fe} {G G' : Int → Option (Int × Int)} {ad room n er ad' : Int} {r : Rl} (h : Stp es G ad room 0 r n er es' G' ad') (hm : mOk r.mt = true) (hf : es.filter (fun x => eqP x.r r) = []) (hl : room ≤ (es.length : Int)) : n = 0 ∧ er = 4 ∧ ad' = ad ∧ es' = es := by
  rcases h with h | h | h | h | h | h | h
  · exact absurd ⟨by omega, by omega⟩ h.1
  · rw [hm] at h; exact absurd h.2.1 (by simp)
  · exact ⟨h.2.2.2.1, h.2.2.2.2.1, h.2.2.2.2.2.2.2, h.2.2.2.2.2.1⟩
  · exact absurd ⟨hf, hl⟩ h.2.2.1
  · have := h.2.1; omega
  · have := h.2.1; omega
  · have := h.2.1; omega
theorem eqP_rk {a b : Rl} (h : a.rk ≠ b.rk) : eqP a b = false := by simp [eqP, h]
/-- A table of one's own, in new memory. -/
structure Own (w wr : World) (g : Nat) (room ad : Int) (es : List Fe) (N : Nat) : Prop where
  low : Below w.heap.size w wr
  fl : ∃ gs, Fl (fun b => w.heap.size ≤ b) wr g room ad es gs ∧ gs.length ≤ N
theorem Own.on {w wr w' : World} {g : Nat} {room ad : Int} {es : List Fe} {N : Nat} (h : Own w wr g room ad es N) (hb : Below wr.heap.size wr w') : Own w w' g room ad es N := by
  obtain ⟨gs, h1, h2⟩ := h.fl
  exact ⟨h.low.trans (hb.mono h.low.size), gs, h1.on hb, h2⟩
theorem own_new (w : World) (n : Int) : Calls Tryz.prog 8 #[.int .i64 n] w fun e w' => ∃ g, e = .returned (pv g) ∧ Own w w' g (rmO n) 0 [] 0 := (fnew_any w n).mono fun e w' ⟨g, h1, h2, h3⟩ => ⟨g, h1, h2, [], h3, by simp⟩
theorem own_do {w wr : World} {g : Nat} {room ad : Int} {es : List Fe} {N : Nat} (h : Own w wr g room ad es N) (ht : Tab w) (what : Int) (hwh : -128 ≤ what ∧ what < 128) (r : Rl) (hr : r.Fit) (had : ad < 2147483640) (hN : N < 2147480000) {T : Nat → Prop} {u : Value} (hu : Cps T wr u r.cp) (hT : ∀ b, T b → b < w.heap.size) :
    Calls Tryz.prog 13 #[pv g, .int .i8 what, .agg (rlc r u)] wr fun e w' => ∃ (n er ad' : Int) (es' : List Fe) (G G' : Int → Option (Int × Int)), e = .returned (.tuple #[.int .i64 n, .int .i64 er]) ∧ Own w w' g room ad' es' (N + 1024) ∧ (ad ≤ ad' ∧ ad' ≤ ad + 1) ∧ Stp es G ad room what r n er es' G' ad' := by
  obtain ⟨gs, h1, h2⟩ := h.fl
  have hpos := ht.pos
  have hs := h.low.size
  refine (do_flows wr g room ad es gs h1 (fun b hb => by show w.heap.size ≤ b; omega) (ht.on h.low) (by show ¬ w.heap.size ≤ 0; omega) what hwh r u hr had (by omega) hu (fun b hb => ⟨by have := hT b hb; omega, by have := hT b hb; show ¬ w.heap.size ≤ b; omega⟩)).mono ?_
  rintro e w' ⟨n, er, ad', es', gs', rfl, q1, q2, q3, q4, q5⟩
  exact ⟨n, er, ad', es', _, _, rfl, ⟨h.low.trans (q1.below fun k hk => hk), gs', q2, by omega⟩, q4, q5⟩
theorem own_add {w wr : World} {g : Nat} {room ad : Int} {es : List Fe} {N : Nat} (h : Own w wr g room ad es N) (ht : Tab w) (r : Rl) (hr : r.Fit) (had : ad < 2147483640) (hN : N < 2147480000) (hc : r.cp = []) (hm : mOk r.mt = true) (hf : es.filter (fun x => eqP x.r r) = []) (hl : (es.length : Int) < room) :
    Calls Tryz.prog 13 #[pv g, .int .i8 0, .agg (rlc r nilS)] wr fun e w' => e = .returned (.tuple #[.int .i64 1, .int .i64 0]) ∧ ∃ p u, Own w w' g room (ad + 1) (es ++ [⟨p, ad + 1, r, u, 0, 0⟩]) (N + 1024) :=
  (own_do h ht 0 (by omega) r hr had hN (T := fun _ => False) (by rw [hc]; exact Lst.nil _ _ _ _) (fun b hb => hb.elim)).mono fun e w' ⟨n, er, ad', es', G, G', q1, q2, q3, q4⟩ => by
    obtain ⟨rfl, rfl, rfl, p, u, rfl⟩ := stp_add q4 hm hf hl
    exact ⟨q1, p, u, q2⟩
theorem own_find {w wr : World} {g : Nat} {room ad : Int} {es : List Fe} {N : Nat} (h : Own w wr g room ad es N) (hd : Nat → Int) (hw : Wf hd) (n : Int) (hn : I64 n) (had : ad < 2147483640) (x : Fe) (hx : ∀ f, Met es hd f → f = some x) :
    Calls Tryz.prog 10 #[pv g, hv hd, .int .i64 n] wr fun e w' => ∃ u', u'.oneCell' = true ∧ e = .returned (.tuple #[.agg (rlc x.r u'), .bool true]) ∧ Own w w' g room ad (upE es x.k (sumE x.pk 1) (sumE x.bt (max n 0))) N := by
  obtain ⟨gs, h1, h2⟩ := h.fl
  have hs := h.low.size
  refine (find_flows wr g room ad es gs h1 (fun b hb => by show w.heap.size ≤ b; omega) hd hw n hn had).mono ?_
  rintro e w' ⟨q1, f, q2, q3⟩
  obtain rfl := hx f q2
  obtain ⟨u', q3, q4, q5⟩ := q3
  exact ⟨u', Lst.oneC q4, q3, h.low.trans (q1.below fun k hk => hk), gs, q5, h2⟩
theorem own_helds {w wr : World} {g : Nat} {room ad : Int} {es : List Fe} {N : Nat} (h : Own w wr g room ad es N) : Calls Tryz.prog 16 #[pv g] wr fun e w' => Own w w' g room ad es N ∧ ∃ (v : Value) (ds : List Fe), e = .returned v ∧ ds.Perm es ∧ (ds.Pairwise fun a b => ltE b a = false) ∧ Below wr.heap.size wr w' ∧ Hels (fun b => wr.heap.size ≤ b) w' v (ds.map Fe.vw) := by
  obtain ⟨gs, h1, h2⟩ := h.fl
  refine (helds_flows wr g room ad es gs h1).mono ?_
  rintro e w' ⟨v, ds, q1, q2, q3, q4, q5⟩
  exact ⟨h.on q4, v, ds, q1, q2, q3, q4, q5.1⟩
/-- The counts of the first of a list. -/
theorem Hels.first {T : Nat → Prop} {w : World} {v : Value} {x : Hel} {l : List Hel} (h : Hels T w v (x :: l)) : ∃ b o cap, v = .slice (some ⟨b, o, none⟩) (l.length + 1) cap ∧ w.cell? ⟨b, o + 25, none⟩ = some (.int .u64 x.pk) ∧ w.cell? ⟨b, o + 26, none⟩ = some (.int .u64 x.bt) := by
  obtain ⟨ao, cap, h1, -, -, -, h5⟩ := h
  obtain ⟨b, o, -, rfl, h6⟩ := h5 (by simp)
  obtain ⟨u, h7, -⟩ := h6 0 (by simp)
  have a1 := h7 25 (by omega)
  have a2 := h7 26 (by omega)
  simp only [List.getElem_cons_zero, hdc_pk, hdc_bt, Nat.zero_mul, Nat.add_zero] at a1 a2
  exact ⟨b, o, cap, h1, a1, a2⟩
theorem two_sorted {a b : Fe} {ds : List Fe} (hp : ds.Perm [a, b]) (hs : ds.Pairwise fun x y => ltE y x = false) (h : ltE a b = true) : ds = [a, b] := by
  have hl := hp.length_eq
  match ds, hl with
  | [x, y], _ =>
    have hx : x ∈ [a, b] := hp.subset (by simp)
    simp only [List.mem_cons, List.not_mem_nil, or_false] at hx
    rcases hx with rfl | rfl
    · have := (List.perm_cons x).1 hp
      simp at this
      rw [this]
    · have h2 : [x, y].Perm [x, a] := hp.trans (List.Perm.swap _ _ _)
      have := (List.perm_cons x).1 h2
      simp at this
      subst this
      simp [h] at hs
def e1W (p : Nat) (u : Value) (pk bt : Int) : Fe := ⟨p, 1, ⟨2, m1, [], 7⟩, u, pk, bt⟩
def e2W (p : Nat) (u : Value) : Fe := ⟨p, 2, ⟨1, zf, [], 8⟩, u, 0, 0⟩
theorem met1 {p q : Nat} {u v : Value} (f : Option Fe) (h : Met [e1W p u 0 0, e2W q v] w1h f) : f = some (e1W p u 0 0) := by
  cases f with
  | none => have := h (e1W p u 0 0) (by simp); rw [show (e1W p u 0 0).r.mt = m1 from rfl, hit11] at this; cases this
  | some x =>
    obtain ⟨h1, -, h3⟩ := h
    have := h3 (e1W p u 0 0) (by simp) hit11
    rcases this with e | e
    · rw [e]
    · simp only [List.mem_cons, List.not_mem_nil, or_false] at h1
      rcases h1 with rfl | rfl
      · rfl
      · exact absurd e (by simp [ltE, e1W, e2W])
end Go.Proofs.YtdehlnaoehjehaaGreatDoor
namespace Go.Proofs.YtdehlnaoehjehaaGreatDoor
set_option maxRecDepth 100000
open Go.RowKit Go.Maps

abbrev r1W : Rl := ⟨2, m1, [], 7⟩
set_option maxHeartbeats 3200000 in
set_option maxRecDepth 100000 in
theorem wakes_any (w : World) (ht : Tab w) : Calls Tryz.prog 20 #[] w fun e w' => e = .returned (.bool true) ∧ Below w.heap.size w w' := by
  have HT := hid ht
  have bw : ∀ (y : World) (cs : Array Value), Below y.heap.size y (y.alloc (.cells cs 35)) := fun y cs => (Below.refl _ _).alloc (Nat.le_refl _) _
  have HA1 : Hid (∀ x g, Own w x g (rmO 2) 0 [] 0 → Calls Tryz.prog 13 #[pv g, .int .i8 0, .agg (rlc r1W nilS)] (x.alloc (.cells (rlc r1W nilS) 35)) fun e w' => e = .returned (.tuple #[.int .i64 1, .int .i64 0]) ∧ ∃ p u, Own w w' g (rmO 2) 1 [e1W p u 0 0] 1024) := fun x g h =>
    own_add (h.on (bw _ _)) HT.out r1W (fitN (by unfold I64; omega) wf_m1 (by unfold InB; omega)) (by omega) (by omega) rfl ok_m1 rfl (by decide)
  have HA2 : Hid (∀ x g p u, Own w x g (rmO 2) 1 [e1W p u 0 0] 1024 → Calls Tryz.prog 13 #[pv g, .int .i8 0, .agg #[.int .i64 1, .int .u64 0, .int .u64 0, .int .u64 0, .int .u64 0, .int .u64 0, .int .u64 0, .int .u64 0, .int .u64 0, .int .u64 0, .int .u64 0, .int .u64 0, .int .u64 0, .int .u64 0, .int .u64 0, .int .u64 0, .int .u64 0, .int .u64 0, .int .u64 0, .int .u64 0, .int .u64 0, .int .u64 0, .int .u64 0, .slice none 0 0, .int .u64 8]] x fun e w' => e = .returned (.tuple #[.int .i64 1, .int .i64 0]) ∧ ∃ q v, Own w w' g (rmO 2) 2 [e1W p u 0 0, e2W q v] 2048) := fun x g p u h => by
    rw [rc2]
    exact own_add h HT.out ⟨1, zf, [], 8⟩ (fitN (by unfold I64; omega) wf_zf (by unfold InB; omega)) (by omega) (by omega) rfl ok_zf (by simp [e1W, eqP]) (by show (1 : Int) < rmO 2; decide)
  have HA3 : Hid (∀ x g p u q v, Own w x g (rmO 2) 2 [e1W p u 0 0, e2W q v] 2048 → Calls Tryz.prog 13 #[pv g, .int .i8 0, .agg #[.int .i64 3, .int .u64 0, .int .u64 0, .int .u64 0, .int .u64 0, .int .u64 0, .int .u64 0, .int .u64 0, .int .u64 0, .int .u64 0, .int .u64 0, .int .u64 0, .int .u64 0, .int .u64 0, .int .u64 0, .int .u64 0, .int .u64 0, .int .u64 0, .int .u64 0, .int .u64 0, .int .u64 0, .int .u64 0, .int .u64 0, .slice none 0 0, .int .u64 0]] x fun e w' => e = .returned (.tuple #[.int .i64 0, .int .i64 4]) ∧ Own w w' g (rmO 2) 2 [e1W p u 0 0, e2W q v] 3072) := fun x g p u q v h => by
    rw [rc3]
    refine (own_do h HT.out 0 (by omega) ⟨3, zf, [], 0⟩ (fitN (by unfold I64; omega) wf_zf (by unfold InB; omega)) (by omega) (by omega) (T := fun _ => False) (Lst.nil _ _ _ _) (fun b hb => hb.elim)).mono ?_
    rintro e w' ⟨n, er, ad', es', G, G', q1, q2, q3, q4⟩
    obtain ⟨rfl, rfl, rfl, rfl⟩ := stp_full q4 ok_zf (by simp [e1W, e2W, eqP]) (by show rmO 2 ≤ (2 : Int); decide)
    exact ⟨q1, q2⟩
  have HF : Hid (∀ x g p u q v, Own w x g (rmO 2) 2 [e1W p u 0 0, e2W q v] 3072 → Calls Tryz.prog 10 #[pv g, .agg #[.int .u64 0, .int .u64 1, .int .u64 0, .int .u64 0, .int .u64 0, .int .u64 0, .int .u64 0, .int .u64 0, .int .u64 0, .int .u64 0, .int .u64 0], .int .i64 60] x fun e w' => ∃ u', u'.oneCell' = true ∧ e = .returned (.tuple #[.agg (rlc r1W u'), .bool true]) ∧ Own w w' g (rmO 2) 2 [e1W p u 1 60, e2W q v] 3072) := fun x g p u q v h => by
    rw [hv1]
    exact own_find h w1h wf_1 60 (by unfold I64; omega) (by omega) (e1W p u 0 0) (fun f hf => met1 f hf)
  have HH : Hid (∀ x g p u q v u', u'.oneCell' = true → Own w x g (rmO 2) 2 [e1W p u 1 60, e2W q v] 3072 → Calls Tryz.prog 16 #[pv g] (x.alloc (.cells (rlc r1W u') 35)) fun e w' => Below w.heap.size w w' ∧ (w'.cell? ⟨x.heap.size, 24, none⟩ = some (.int .u64 7)) ∧ ∃ b o cap, e = .returned (.slice (some ⟨b, o, none⟩) 2 cap) ∧ w'.cell? ⟨b, o + 25, none⟩ = some (.int .u64 1) ∧ w'.cell? ⟨b, o + 26, none⟩ = some (.int .u64 60)) := fun x g p u q v u' hu h => by
    refine (own_helds (h.on (bw x _))).mono ?_
    rintro e w' ⟨h1, z, ds, rfl, h2, h3, h4, h5⟩
    obtain rfl := two_sorted h2 h3 (by simp [ltE, e1W, e2W])
    obtain ⟨b, o, cap, rfl, h6, h7⟩ := h5.first
    refine ⟨h1.low, ?_, b, o, cap, rfl, h6, h7⟩
    have := h4.block x.heap.size (by simp)
    rw [cell_of_row _ _ _ _ _ _ (this.trans (heap_alloc_new _ _))]
    exact (rc_cp _ _ _ _).2
  clear ht bw
  go_enter Tryz.func20, Tryz.ntmps20
  go_upto_region 8 with (first
    | (go_at_call 8; refine (own_new w 2).mono ?_; rintro e x1 ⟨g, rfl, h1⟩; have HC1 := hid (HA1.out x1 g h1); clear h1 HA1)
    | (refine stNew 35 (.tmp 2) (.tmp 16) rfl rfl x1 35 _ (rlc r1W nilS) rfl rfl rc1 (size_rl _ _) rfl (rc_one rfl) ?_)
    | (refine ldRow 35 (.tmp 2) rfl rfl x1.heap.size rfl 35 (rlc r1W nilS) _ Tryz.underlying35 rfl (size_rl _ _) (heap_alloc_new _ _) ?_)
    | (go_at_call 13; refine (HC1.out).mono ?_; rintro e x2 ⟨rfl, p, u, h1⟩; have HC2 := hid (HA2.out x2 g p u h1); clear h1 HA2 HC1)
    | (go_at_call 13; refine (HC2.out).mono ?_; rintro e x3 ⟨rfl, q, v, h1⟩; have HC3 := hid (HA3.out x3 g p u q v h1); clear h1 HA3 HC2)
    | (go_at_call 13; refine (HC3.out).mono ?_; rintro e x4 ⟨rfl, h1⟩; have HC4 := hid (HF.out x4 g p u q v h1); clear h1 HF HC3)
    | (go_at_call 10; refine (HC4.out).mono ?_; rintro e x5 ⟨u', hu', rfl, h1⟩; have HC5 := hid (HH.out x5 g p u q v u' hu' h1); have HU := hid hu'; clear h1 hu' HH HC4)
    | (refine stNew 35 (.tmp 9) (.tmp 39) rfl rfl x5 35 _ (rlc r1W u') rfl rfl rfl (size_rl _ _) rfl (rc_one HU.out) ?_)
    | (go_at_call 16; refine (HC5.out).mono ?_; rintro e x6 ⟨hB6, c24, b, o, cap, rfl, c25, c26⟩; have HB6 := hid hB6; clear hB6 HC5))
  go_wp2
  go_ret
  exact ⟨rfl, HB6.out⟩
end Go.Proofs.YtdehlnaoehjehaaGreatDoor
namespace Go.Proofs.YtdehlnaoehjehaaGreatDoor
set_option maxRecDepth 100000
open Go.ChangeShapes Go.WideShapes Go.ChangeAt Go.RowKit Go.Deep

theorem own : ownKnob Tryz.prog.godebug = none := by kernel_rfl
theorem gWid : Tryz.prog.globalNamed "tollbridge/header.widths" = some 0 := by kernel_rfl
theorem tWid : (Tryz.prog.globals[0]?).map (·.type) = some 225 := by kernel_rfl
theorem cells3 : Tryz.prog.cellsOf 3 = 1 := by kernel_rfl
theorem cellsCPS : Tryz.prog.cellsOf 33 = 1 := by kernel_rfl
theorem cellsRULE : Tryz.prog.cellsOf 35 = 25 := by kernel_rfl
theorem cellsA11 : Tryz.prog.cellsOf 225 = 11 := by kernel_rfl
theorem laidOut : laidOutB Tryz.prog = true := by kernel_rfl
def widL : List Int := [48, 48, 16, 12, 32, 32, 8, 16, 16, 16, 16]
theorem widData : (Rows.laid_tollbridge_header_widths : DataW Unit) = Lib.tabData .i64 widL := by kernel_rfl
abbrev laidL : List (String × DataW Unit) := [("tollbridge/header.widths", Rows.laid_tollbridge_header_widths)]
/-- WHAT THE ROWS' LIST GIVES: the widths' table. -/
theorem tab_of_laid {W : World} (h : laidMet Tryz.prog laidL W) : Tab W := by
  have hw : laidMet Tryz.prog (("tollbridge/header.widths", Lib.tabData .i64 widL) :: []) W := by rw [← widData]; exact h
  intro k hk
  rw [(Lib.tabIs_of_head gWid tWid Tryz.underlying225 Tryz.underlying3 cells3 cellsA11 hw).cell gWid k hk]
  have hk' : k = 0 ∨ k = 1 ∨ k = 2 ∨ k = 3 ∨ k = 4 ∨ k = 5 ∨ k = 6 ∨ k = 7 ∨ k = 8 ∨ k = 9 ∨ k = 10 := by omega
  rcases hk' with rfl | rfl | rfl | rfl | rfl | rfl | rfl | rfl | rfl | rfl | rfl <;> rfl
/-- The heap that the program's own initialisers leave meets the rows' list. -/
theorem door_met (os : Os) (args : Array Value) : laidMet Tryz.prog laidL ((World.doorLaid Tryz.prog 14 os).forCall (fun _ _ => 0) ⟨#[], args, []⟩).memory :=
  laidMet_of_run' 8 (by kernel_rfl) (by kernel_rfl)

end Go.Proofs.YtdehlnaoehjehaaGreatDoor
