/-
  Proved here: wakes of the statements says true. Condition: the widths' table holds its numbers.
-/
import Derived.Test.YtejmobkfanejbaaDoorL1
import Derived.Test.YtejmobkfanejbaaDoorB6
namespace Go.Proofs.YtejmobkfanejbaaDoor
open Go.RowKit

abbrev ac3 (a : Ac) : Array Value := #[.int .i8 a.dw, .int .i8 a.fd, .int .u64 a.n]
abbrev sl1 (b n : Nat) : Value := .slice (some ⟨b, 0, none⟩) n n
theorem acs1 {w : World} {b t : Nat} {a : Ac} (hb : w.heap[b]? = some (.cells (ac3 a) t (0, 0))) (ha : a.Fit) : Acs (fun _ => True) w (sl1 b 1) [a] := by
  refine ⟨some ⟨b, 0, none⟩, 1, rfl, by simp, by simp, (fun h => by cases h), fun _ => ⟨b, 0, trivial, rfl, fun j hj => ?_⟩⟩
  obtain rfl : j = 0 := by simp at hj; omega
  exact ⟨(cell_of_row _ _ _ _ _ _ hb).trans rfl, (cell_of_row _ _ _ _ _ _ hb).trans rfl, (cell_of_row _ _ _ _ _ _ hb).trans rfl, ha⟩
theorem acs2 {w : World} {b t : Nat} {a c : Ac} (hb : w.heap[b]? = some (.cells #[.int .i8 a.dw, .int .i8 a.fd, .int .u64 a.n, .int .i8 c.dw, .int .i8 c.fd, .int .u64 c.n] t (0, 0))) (ha : a.Fit) (hc : c.Fit) : Acs (fun _ => True) w (sl1 b 2) [a, c] := by
  refine ⟨some ⟨b, 0, none⟩, 2, rfl, by simp, by simp, (fun h => by cases h), fun _ => ⟨b, 0, trivial, rfl, fun j hj => ?_⟩⟩
  have hj' : j = 0 ∨ j = 1 := by simp at hj; omega
  rcases hj' with rfl | rfl
  · exact ⟨(cell_of_row _ _ _ _ _ _ hb).trans rfl, (cell_of_row _ _ _ _ _ _ hb).trans rfl, (cell_of_row _ _ _ _ _ _ hb).trans rfl, ha⟩
  · exact ⟨(cell_of_row _ _ _ _ _ _ hb).trans rfl, (cell_of_row _ _ _ _ _ _ hb).trans rfl, (cell_of_row _ _ _ _ _ _ hb).trans rfl, hc⟩
theorem cps1 {w : World} {b t : Nat} {u : Value} {l : List Ac} (hb : w.heap[b]? = some (.cells #[u] t (0, 0))) (h : Acs (fun _ => True) w u l) : Cps (fun _ => True) w (sl1 b 1) [l] := by
  refine ⟨some ⟨b, 0, none⟩, 1, rfl, by simp, by simp, (fun h => by cases h), fun _ => ⟨b, 0, trivial, rfl, fun j hj => ?_⟩⟩
  obtain rfl : j = 0 := by simp at hj; omega
  exact ⟨u, (cell_of_row _ _ _ _ _ _ hb).trans rfl, h⟩
theorem cps3 {w : World} {b t : Nat} {u1 u2 u3 : Value} {l1 l2 l3 : List Ac} (hb : w.heap[b]? = some (.cells #[u1, u2, u3] t (0, 0))) (h1 : Acs (fun _ => True) w u1 l1) (h2 : Acs (fun _ => True) w u2 l2) (h3 : Acs (fun _ => True) w u3 l3) : Cps (fun _ => True) w (sl1 b 3) [l1, l2, l3] := by
  refine ⟨some ⟨b, 0, none⟩, 3, rfl, by simp, by simp, (fun h => by cases h), fun _ => ⟨b, 0, trivial, rfl, fun j hj => ?_⟩⟩
  have hj' : j = 0 ∨ j = 1 ∨ j = 2 := by simp at hj; omega
  rcases hj' with rfl | rfl | rfl
  · exact ⟨u1, (cell_of_row _ _ _ _ _ _ hb).trans rfl, h1⟩
  · exact ⟨u2, (cell_of_row _ _ _ _ _ _ hb).trans rfl, h2⟩
  · exact ⟨u3, (cell_of_row _ _ _ _ _ _ hb).trans rfl, h3⟩
theorem pts3 {w : World} {b t : Nat} (hb : w.heap[b]? = some (.cells #[.int .u16 1, .int .u16 2, .int .u16 3] t (0, 0))) : Pts (fun _ => True) w (sl1 b 3) [1, 2, 3] := by
  refine ⟨some ⟨b, 0, none⟩, 3, rfl, by simp, by simp, (fun h => by cases h), fun _ => ⟨b, 0, trivial, rfl, fun j hj => ?_⟩⟩
  have hj' : j = 0 ∨ j = 1 ∨ j = 2 := by simp at hj; omega
  rcases hj' with rfl | rfl | rfl
  · exact ⟨(cell_of_row _ _ _ _ _ _ hb).trans rfl, by show (0 : Int) ≤ 1 ∧ (1 : Int) < 65536; decide⟩
  · exact ⟨(cell_of_row _ _ _ _ _ _ hb).trans rfl, by show (0 : Int) ≤ 2 ∧ (2 : Int) < 65536; decide⟩
  · exact ⟨(cell_of_row _ _ _ _ _ _ hb).trans rfl, by show (0 : Int) ≤ 3 ∧ (3 : Int) < 65536; decide⟩
def hW : Nat → Int := upd (upd (upd zf 2 2048) 9 3) 5 9
abbrev hWc : Array Value := #[.int .u64 0, .int .u64 0, .int .u64 2048, .int .u64 0, .int .u64 0, .int .u64 9, .int .u64 0, .int .u64 0, .int .u64 0, .int .u64 3, .int .u64 0]
theorem hW_row : hWc = row 11 hW := by kernel_rfl
def cW : List (List Ac) := [[⟨0, 5, 5⟩, ⟨1, 0, 1⟩], [⟨1, 0, 0⟩], [⟨1, 0, 7⟩]]
def oW : Nat → Int := upd (upd hW 5 5) 9 1
theorem outs_W : outs hW [1, 2, 3] cW = [oW, hW] := by kernel_rfl
theorem pnts_W : pnts cW = false := by kernel_rfl
theorem fitW {d f n : Int} (h1 : -128 ≤ d ∧ d < 128) (h2 : -128 ≤ f ∧ f < 128) (h3 : 0 ≤ n ∧ n < 18446744073709551616) : Ac.Fit ⟨d, f, n⟩ := ⟨h1, h2, h3⟩
/-- The worlds of wakes ahead of Run, one block each. -/
abbrev w1W (w : World) : World := (w.alloc (.cells hWc 24)).alloc (.cells (ac3 ⟨0, 5, 5⟩) 48)
abbrev w2W (w : World) : World := (w1W w).alloc (.cells #[.int .i8 0, .int .i8 5, .int .u64 5, .int .i8 1, .int .i8 0, .int .u64 1] 48)
abbrev w4W (w : World) : World := ((w2W w).alloc (.cells (ac3 ⟨1, 0, 0⟩) 48)).alloc (.cells (ac3 ⟨1, 0, 7⟩) 48)
abbrev w5W (w : World) : World := (w4W w).alloc (.cells #[sl1 (w.heap.size + 1 + 1) 2, sl1 (w.heap.size + 1 + 1 + 1) 1, sl1 (w.heap.size + 1 + 1 + 1 + 1) 1] 45)
abbrev w6W (w : World) : World := (w5W w).alloc (.cells #[.int .u16 1, .int .u16 2, .int .u16 3] 40)
theorem blk_new {w : World} {o : Obj} {n : Nat} (h : n = w.heap.size) : (w.alloc o).heap[n]? = some o := by subst h; exact heap_alloc_new _ _
theorem blk_old {w : World} {o x : Obj} {n : Nat} (h : w.heap[n]? = some x) : (w.alloc o).heap[n]? = some x := by
  rw [Below.heap_alloc _ _ _ (Array.getElem?_eq_some_iff.1 h).1]; exact h
theorem low_W (w : World) : Below w.heap.size w (w6W w) := (((((((Below.refl _ _).alloc (Nat.le_refl _) _).alloc (by simp) _).alloc (by simp; omega) _).alloc (by simp; omega) _).alloc (by simp; omega) _).alloc (by simp; omega) _).alloc (by simp; omega) _
theorem runW (w : World) (ht : Tab w) : Calls Tryd.prog 14 #[.agg hWc, sl1 (w.heap.size + 1 + 1 + 1 + 1 + 1) 3, sl1 (w.heap.size + 1 + 1 + 1 + 1 + 1 + 1) 3] (w6W w) fun e w' => ∃ b o k, e = .returned (.tuple #[.slice (some ⟨b, o, none⟩) 2 k, .bool false]) ∧ Below w.heap.size w w' ∧ (w'.cell? ⟨w.heap.size + 1, 0, none⟩ = some (.int .i8 0) ∧ w'.cell? ⟨w.heap.size + 1, 1, none⟩ = some (.int .i8 5) ∧ w'.cell? ⟨w.heap.size + 1, 2, none⟩ = some (.int .u64 5)) ∧ (b < w'.heap.size ∧ w'.cell? ⟨b, o + 5, none⟩ = some (.int .u64 5) ∧ w'.cell? ⟨b, o + 9, none⟩ = some (.int .u64 1) ∧ w'.cell? ⟨b, o + 11 + 5, none⟩ = some (.int .u64 9) ∧ w'.cell? ⟨b, o + 11 + 9, none⟩ = some (.int .u64 3)) := by
  have b1 : (w6W w).heap[w.heap.size + 1]? = some (.cells (ac3 ⟨0, 5, 5⟩) 48 (0, 0)) := blk_old (blk_old (blk_old (blk_old (blk_old (blk_new (by simp))))))
  have b2 : (w6W w).heap[w.heap.size + 1 + 1]? = some (.cells #[.int .i8 0, .int .i8 5, .int .u64 5, .int .i8 1, .int .i8 0, .int .u64 1] 48 (0, 0)) := blk_old (blk_old (blk_old (blk_old (blk_new (by simp)))))
  have b3 : (w6W w).heap[w.heap.size + 1 + 1 + 1]? = some (.cells (ac3 ⟨1, 0, 0⟩) 48 (0, 0)) := blk_old (blk_old (blk_old (blk_new (by simp))))
  have b4 : (w6W w).heap[w.heap.size + 1 + 1 + 1 + 1]? = some (.cells (ac3 ⟨1, 0, 7⟩) 48 (0, 0)) := blk_old (blk_old (blk_new (by simp)))
  have b5 : (w6W w).heap[w.heap.size + 1 + 1 + 1 + 1 + 1]? = some (.cells #[sl1 (w.heap.size + 1 + 1) 2, sl1 (w.heap.size + 1 + 1 + 1) 1, sl1 (w.heap.size + 1 + 1 + 1 + 1) 1] 45 (0, 0)) := blk_old (blk_new (by simp))
  have b6 : (w6W w).heap[w.heap.size + 1 + 1 + 1 + 1 + 1 + 1]? = some (.cells #[.int .u16 1, .int .u16 2, .int .u16 3] 40 (0, 0)) := blk_new (by simp)
  have hl := low_W w
  have hc : Cps (fun _ => True) (w6W w) (sl1 (w.heap.size + 1 + 1 + 1 + 1 + 1) 3) cW := cps3 b5 (acs2 (a := ⟨0, 5, 5⟩) (c := ⟨1, 0, 1⟩) b2 (fitW (by omega) (by omega) (by omega)) (fitW (by omega) (by omega) (by omega))) (acs1 b3 (fitW (by omega) (by omega) (by omega))) (acs1 b4 (fitW (by omega) (by omega) (by omega)))
  have hr := run_any hW hc (pts3 b6) (ht.on hl) (by decide)
  rw [show hv hW = Value.agg hWc from congrArg Value.agg hW_row.symm] at hr
  generalize w6W w = W at *
  refine hr.mono ?_
  rintro e w' ⟨v', rfl, hb, hH⟩
  rw [outs_W] at hH
  have hbl := hl.trans (hb.mono hl.size)
  have c1 := (hb.block _ (Array.getElem?_eq_some_iff.1 b1).1).trans b1
  obtain ⟨ao, k, rfl⟩ := hH.form
  obtain ⟨b, o, rfl, -, hbs, h0⟩ := hH.at (j := 0) (by simp)
  obtain ⟨b', o', e', -, -, h1⟩ := hH.at (j := 1) (by simp)
  obtain ⟨rfl, rfl⟩ : b = b' ∧ o = o' := by simpa using e'
  refine ⟨b, o, k, by rw [pnts_W]; rfl, hbl, ⟨?_, ?_, ?_⟩, hbs, ?_, ?_, ?_, ?_⟩
  · rw [cell_of_row _ _ _ _ _ _ c1]; rfl
  · rw [cell_of_row _ _ _ _ _ _ c1]; rfl
  · rw [cell_of_row _ _ _ _ _ _ c1]; rfl
  · have := h0 5 (by omega); simpa [show oW 5 = 5 from rfl] using this
  · have := h0 9 (by omega); simpa [show oW 9 = 1 from rfl] using this
  · have := h1 5 (by omega); simpa [show hW 5 = 9 from rfl] using this
  · have := h1 9 (by omega); simpa [show hW 9 = 3 from rfl] using this
abbrev rWc (u : Value) : Array Value := #[.int .i64 0, .int .u64 0, .int .u64 0, .int .u64 0, .int .u64 0, .int .u64 0, .int .u64 0, .int .u64 0, .int .u64 0, .int .u64 0, .int .u64 0, .int .u64 0, .int .u64 0, .int .u64 0, .int .u64 0, .int .u64 0, .int .u64 0, .int .u64 0, .int .u64 0, .int .u64 0, .int .u64 0, .int .u64 0, .int .u64 0, u, .int .u64 0]
theorem rW_row (u : Value) (c : List (List Ac)) : rWc u = rlc ⟨0, zf, c, 0⟩ u := by kernel_rfl
theorem checkW (x : World) (ht : Tab x) (a : Ac) (ha : a.Fit) : Calls Tryd.prog 11 #[.agg (rWc (sl1 (x.heap.size + 1) 1))] ((x.alloc (.cells (ac3 a) 48)).alloc (.cells #[sl1 x.heap.size 1] 45)) fun e w' => e = .returned (.int .i64 (ckR ⟨0, zf, [[a]], 0⟩)) ∧ Below x.heap.size x w' := by
  have hl : Below x.heap.size x ((x.alloc (.cells (ac3 a) 48)).alloc (.cells #[sl1 x.heap.size 1] 45)) := ((Below.refl _ _).alloc (Nat.le_refl _) _).alloc (by simp) _
  have b1 : ((x.alloc (.cells (ac3 a) 48)).alloc (.cells #[sl1 x.heap.size 1] 45)).heap[x.heap.size]? = some (.cells (ac3 a) 48 (0, 0)) := blk_old (blk_new rfl)
  have b2 : ((x.alloc (.cells (ac3 a) 48)).alloc (.cells #[sl1 x.heap.size 1] 45)).heap[x.heap.size + 1]? = some (.cells #[sl1 x.heap.size 1] 45 (0, 0)) := blk_new (by simp)
  rw [rW_row _ [[a]]]
  refine (acheck_any (r := ⟨0, zf, [[a]], 0⟩) (cps1 b2 (acs1 b1 ha)) (ht.on hl)).mono ?_
  rintro e w' ⟨rfl, hb⟩
  exact ⟨rfl, hl.trans (hb.mono hl.size)⟩
theorem ck1 : ckR ⟨0, zf, [[⟨0, 5, 5⟩]], 0⟩ = 0 := by kernel_rfl
theorem ck2 : ckR ⟨0, zf, [[⟨1, 0, 65536⟩]], 0⟩ = 2 := by kernel_rfl
set_option maxHeartbeats 3200000 in
set_option maxRecDepth 100000 in
theorem wakes_any (w : World) (ht : Tab w) : Calls Tryd.prog 10 #[] w fun e w' => e = .returned (.bool true) ∧ Below w.heap.size w w' := by
  have HR := hid (runW w ht)
  have HC1 : Hid (∀ x, Below w.heap.size w x → Calls Tryd.prog 11 #[.agg (rWc (sl1 (x.heap.size + 1) 1))] ((x.alloc (.cells (ac3 ⟨0, 5, 5⟩) 48)).alloc (.cells #[sl1 x.heap.size 1] 45)) fun e w' => e = .returned (.int .i64 0) ∧ Below w.heap.size w w' ∧ Below x.heap.size x w') := fun x hx => by
    have := checkW x (ht.on hx) ⟨0, 5, 5⟩ (fitW (by omega) (by omega) (by omega))
    rw [ck1] at this
    exact this.mono fun e w' ⟨h1, h2⟩ => ⟨h1, hx.trans (h2.mono hx.size), h2⟩
  have HC2 : Hid (∀ x, Below w.heap.size w x → Calls Tryd.prog 11 #[.agg (rWc (sl1 (x.heap.size + 1) 1))] ((x.alloc (.cells (ac3 ⟨1, 0, 65536⟩) 48)).alloc (.cells #[sl1 x.heap.size 1] 45)) fun e w' => e = .returned (.int .i64 2) ∧ Below w.heap.size w w' ∧ Below x.heap.size x w') := fun x hx => by
    have := checkW x (ht.on hx) ⟨1, 0, 65536⟩ (fitW (by omega) (by omega) (by omega))
    rw [ck2] at this
    exact this.mono fun e w' ⟨h1, h2⟩ => ⟨h1, hx.trans (h2.mono hx.size), h2⟩
  clear ht
  go_enter Tryd.func10, Tryd.ntmps10
  go_upto_region 6 with fail
  go_upto_region 7 with (go_at_call 14; refine (HR.out).mono ?_; rintro e x1 ⟨b, o, k, rfl, hb1, ⟨a0, a1, a2⟩, hbs, o1, o2, o3, o4⟩; have HC1' := hid (HC1.out x1 hb1); have HO := hid (And.intro hbs (And.intro o1 (And.intro o2 (And.intro o3 o4)))); clear HR HC1 hb1 hbs o1 o2 o3 o4)
  go_upto_region 9 with (first
    | (go_at_call 11; refine (HC1'.out).mono ?_; rintro e x2 ⟨rfl, hb2, hx2⟩; have HC2' := hid (HC2.out x2 hb2); have HX2 := hid hx2; clear HC1' HC2 hb2 hx2)
    | (go_at_call 11; refine (HC2'.out).mono ?_; rintro e x3 ⟨rfl, hb3, hx3⟩; have HB3 := hid hb3; have HX3 := hid (HX2.out.trans (hx3.mono HX2.out.size)); clear HC2' HX2 hb3 hx3))
  have p1 : x3.cell? ⟨b, o + 5, none⟩ = some (.int .u64 5) := by rw [HX3.out.cell (p := ⟨b, o + 5, none⟩) HO.out.1]; exact HO.out.2.1
  have p2 : x3.cell? ⟨b, o + 9, none⟩ = some (.int .u64 1) := by rw [HX3.out.cell (p := ⟨b, o + 9, none⟩) HO.out.1]; exact HO.out.2.2.1
  have p3 : x3.cell? ⟨b, o + 11 + 5, none⟩ = some (.int .u64 9) := by rw [HX3.out.cell (p := ⟨b, o + 11 + 5, none⟩) HO.out.1]; exact HO.out.2.2.2.1
  have p4 : x3.cell? ⟨b, o + 11 + 9, none⟩ = some (.int .u64 3) := by rw [HX3.out.cell (p := ⟨b, o + 11 + 9, none⟩) HO.out.1]; exact HO.out.2.2.2.2
  go_wp2
  go_ret
  exact ⟨rfl, HB3.out⟩
end Go.Proofs.YtejmobkfanejbaaDoor
