/-
  Proved here: filter and set of the statements; terms made so far (MkS), kept while more are made. No condition.
-/
import Derived.Test.YtjallmncajhamaaDoorGT
namespace Go.Proofs.YtjallmncajhamaaDoor
open Go.RowKit
set_option maxRecDepth 100000

theorem run_bt012 (op f n : Int) (W : World) : (Instr.build 26 #[(0, .int .i8 op), (1, .int .i8 f), (2, .int .u64 n)]).run Tryd.prog W = .ok (.agg #[.int .i8 op, .int .i8 f, .int .u64 n, .slice none 0 0]) W := by kernel_rfl
theorem set8_any (n : Nat) (w : World) : Calls Tryd.prog 44 #[.int .u64 ((n : Nat) : Int)] w fun e w' => e = .returned (.agg (tmc 7 9 n nilS)) ∧ Below w.heap.size w w' := by
  have hbt := fun W => run_bt012 7 9 ((n : Nat) : Int) W
  have HR : Hid ((w.alloc (.cells (tmc 0 0 0 nilS) 26)).heap[w.heap.size]? = some (.cells (tmc 0 0 0 nilS) 26 (0, 0))) := heap_alloc_new _ _
  have HB : Hid (Below w.heap.size w (w.alloc (.cells (tmc 0 0 0 nilS) 26))) := (Below.refl _ _).alloc (Nat.le_refl _) _
  go_enter Tryd.func44, Tryd.ntmps44
  go_wp2
  exact bodyPost_ret (v := .agg (tmc 7 9 n nilS)) (res_tm Tryd.results44 _ _ w.heap.size _ rfl rfl (heap_alloc_new _ _)) rfl ⟨rfl, (Below.refl _ _).alloc (Nat.le_refl _) _⟩
theorem filter8_any (S : Nat → Prop) (t : Tm) (cs : Array Value) (w : World) (h : UmV S w t cs) (_hS : ∀ b, b < w.heap.size → S b → b < w.heap.size) : Calls Tryd.prog 43 #[.agg cs] w fun e w' => ∃ ds, e = .returned (.agg ds) ∧ Below w.heap.size w w' ∧ UmV (fun b => (b < w.heap.size ∧ S b) ∨ w.heap.size ≤ b) w' (.mk 6 0 0 [t]) ds := by
  have h4 := h.size
  have hone := h.one
  have hinf := h.info
  obtain ⟨x0, x1, x2, x3, rfl⟩ := arr4 h4
  obtain ⟨W1, hW1⟩ : ∃ W1, W1 = (w.alloc (.cells #[x0, x1, x2, x3] 26)).alloc (.cells (tmc 0 0 0 nilS) 26) := ⟨_, rfl⟩
  have HE : Hid ((w.alloc (.cells #[x0, x1, x2, x3] 26)).alloc (.cells #[.int .i8 0, .int .i8 0, .int .u64 0, .slice none 0 0] 26) = W1) := hW1.symm
  have HT : Hid (Tw w #[x0, x1, x2, x3] W1) := by show Tw _ _ _; rw [hW1]; exact Tw.new _ _
  have HU : Hid (UmV (fun b => ((b < w.heap.size ∧ S b) ∨ w.heap.size ≤ b) ∧ b ≠ w.heap.size + 1) (W1.alloc (.cells #[x0, x1, x2, x3] 26)) (.mk 6 0 0 [t]) (tmc 6 0 0 (.slice (some ⟨W1.heap.size, 0, none⟩) 1 1))) :=
    (um_on h fun b hb hSb => (⟨⟨Or.inl ⟨hb, hSb⟩, by omega⟩, HT.out.b.block b hb⟩ : (((b < w.heap.size ∧ S b) ∨ w.heap.size ≤ b) ∧ b ≠ w.heap.size + 1) ∧ _)).bld 6 (by have := HT.out.sz; omega) (fun b _ h => h)
  have hbt := fun W => run_bt03 6 (some ⟨W1.heap.size, 0, none⟩) 1 1 W
  have HR2 : Hid ((W1.alloc (.cells #[x0, x1, x2, x3] 26)).heap[w.heap.size + 1]? = some (.cells (tmc 0 0 0 nilS) 26 (0, 0))) := (heap_alloc_old _ _ (by have := HT.out.sz; omega)).trans HT.out.r
  have HB2 : Hid (Below w.heap.size w (W1.alloc (.cells #[x0, x1, x2, x3] 26))) := HT.out.b.alloc HT.out.b.size _
  clear h hone hW1
  go_enter Tryd.func43, Tryd.ntmps43
  go_upto_region 1 with fail
  rw [show (w.alloc (.cells #[x0, x1, x2, x3] 26)).alloc (.cells #[.int .i8 0, .int .i8 0, .int .u64 0, .slice none 0 0] 26) = W1 from HE.out]
  clear HE
  go_wp2_with (first
    | (refine ldRow 26 (.tmp 1) rfl rfl w.heap.size rfl 26 #[x0, x1, x2, x3] _ Tryd.underlying26 rfl sizeTM HT.out.n ?_)
    | (refine bldSl 24 26 (.tmp 3) rfl rfl #[x0, x1, x2, x3] rfl Tryd.underlying24 _ _ _ rfl rfl rfl rfl (by decide) (by decide) ?_)
    | (refine stRow 26 (.tmp 2) (.tmp 5) rfl rfl (w.heap.size + 1) (tmc 6 0 0 (.slice (some ⟨W1.heap.size, 0, none⟩) 1 1)) rfl rfl 26 (tmc 0 0 0 nilS) HR2.out sizeTM rfl (tic_one _ _ _ _ _ _) ?_))
  refine bodyPost_ret (v := .agg (tmc 6 0 0 (.slice (some ⟨W1.heap.size, 0, none⟩) 1 1))) (res_tm Tryd.results43 _ _ (w.heap.size + 1) _ sizeTM rfl (setRow_heap _ _ _ _ _ _ HR2.out)) rfl ?_
  exact ⟨_, rfl, bel_row HB2.out (by omega) _, um_on HU.out fun b _ hSb => ⟨hSb.1, setRow_other _ _ b _ hSb.2⟩⟩
/-- Terms made so far; what they have lies in memory that is not block A. -/
structure MkS (A : Nat → Prop) (w : World) (L : List (Tm × Array Value)) (wr : World) : Prop where
  low : Below w.heap.size w wr
  ts : ∀ x ∈ L, UmV (fun b => b < wr.heap.size ∧ ¬ A b) wr x.1 x.2
theorem MkS.on {A : Nat → Prop} {w : World} {L : List (Tm × Array Value)} {wr w' : World} (h : MkS A w L wr) (hb : Below wr.heap.size wr w') : MkS A w L w' :=
  ⟨h.low.trans (hb.mono h.low.size), fun x hx => um_on (h.ts x hx) fun b hl hS => ⟨⟨by have := hb.size; omega, hS.2⟩, hb.block b hl⟩⟩
theorem MkS.put {A : Nat → Prop} {w : World} {L : List (Tm × Array Value)} {wr : World} (h : MkS A w L wr) {t : Tm} {cs : Array Value} (ht : UmV (fun b => b < wr.heap.size ∧ ¬ A b) wr t cs) : MkS A w ((t, cs) :: L) wr :=
  ⟨h.low, fun x hx => by
    rcases List.mem_cons.1 hx with rfl | hx
    · exact ht
    · exact h.ts x hx⟩
end Go.Proofs.YtjallmncajhamaaDoor
