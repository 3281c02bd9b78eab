/-
  Proved here: Put of package cache with a new header; New. Conditions: fewer than 2 to 31 places; the hand is at one of them, if there are some.
-/
import Derived.Test.YtpmdgockiblkaaaCP
namespace Go.Proofs.Ytpmdgockiblkaaa
open Go.RowKit Go.Maps

theorem stepStP {ops : Array Oper} {o : Oper} {a : Act} {w : World} {Kt : Act → World → Prop} {Q : Exit → Act → World → Prop} {E : Prop} (x y : Operand) (hop : o.op = .store 51 x y) (hgd : o.guard = none) (b i g : Nat) (u : Value) (hx : a.eval x = .pointer (some ⟨b, i, none⟩)) (hy : a.eval y = pv g) (hc : w.cell? ⟨b, i, none⟩ = some u) (hz : w.frozen? ⟨b, i, none⟩ = false)
    (hk : Kt (a.put o.dst undef) (w.setCell ⟨b, i, none⟩ (pv g))) : if Region.wanted o (yielded ops a.tmps) = true then Oper.wp Try.prog o a w Kt Q else E := by
  have hw : Region.wanted o (yielded ops a.tmps) = true := by simp [Region.wanted, hgd]
  rw [if_pos hw]
  unfold Oper.wp execOp
  simp only [hop, hx, hy]
  go_simp
  exact hk
set_option maxHeartbeats 3200000 in
set_option maxRecDepth 100000 in
theorem put_new {S : Nat → Prop} (w : World) (v : Value) (c : Cs) (h : Hdr) (id : Int) (hC : Ca S w v c) (hf : Fresh S w) (hc : c.es ≠ []) (hn : c.es.length < 2147483640) (hh : c.hand < c.es.length) (hfd : fnd c.es h = none) : Calls Try.prog 13 #[v, hv h.f, .int .i64 id] w (PuP S w v c h id) := by
  have HCa := hid hC
  obtain ⟨g, bm, n, G, bp, cur, q, rfl, hM⟩ := hC
  obtain ⟨x, hx⟩ : ∃ z, z = h.f := ⟨_, rfl⟩
  have hwx : Wf x := by rw [hx]; exact h.wf
  obtain ⟨W0, hW0⟩ : ∃ W0, W0 = w.alloc (.cells (row 11 h.f) 30) := ⟨_, rfl⟩
  have hB0 : Below w.heap.size w W0 := by rw [hW0]; exact (Below.refl _ _).alloc (Nat.le_refl _) _
  have hs0 : W0.heap.size = w.heap.size + 1 := by rw [hW0]; simp
  have hG0 : W0.heap[w.heap.size]? = some (.cells (row 11 h.f) 30 (0, 0)) := by rw [hW0]; exact heap_alloc_new _ _
  obtain ⟨S', hS'⟩ : ∃ S' : Nat → Prop, S' = fun b => S b ∧ b ≠ w.heap.size := ⟨_, rfl⟩
  have hSS : ∀ b, S' b → S b := fun b hb => by rw [hS'] at hb; exact hb.1
  have hSb : ¬ S' w.heap.size := by rw [hS']; exact fun h => h.2 rfl
  have hSf : ∀ W : World, W0.heap.size ≤ W.heap.size → Fresh S' W := fun W hW b hb => by rw [hS']; exact ⟨hf b (by omega), by omega⟩
  have hM0 : CaM S' W0 g c bm n G bp cur q := hM.carry fun b hb hS => ⟨by rw [hS']; exact ⟨hS, by omega⟩, hB0.block b hb⟩
  obtain ⟨c0, -, c2, c3⟩ := hM0.cells
  have HH : Hid (Hg g bm n G w.heap.size x W0.drew) := ⟨c2, hM0.mp.carry rfl, range_of fun i hi => by
    rw [row_size] at hi
    rw [Nat.zero_add]
    refine (cell_of_row W0 _ _ _ _ _ hG0).trans ?_
    rw [hx]⟩
  have hO0 : Only S w W0 := Only.of hB0 hf
  have hGn : G (kl x) = none := by rw [hx]; exact hM.m2 h (fnd_none hfd)
  obtain ⟨L, hL⟩ : ∃ z, z = c.es.length := ⟨_, rfl⟩
  obtain ⟨now, hnow⟩ : ∃ z, z = c.now := ⟨_, rfl⟩
  obtain ⟨i, hi⟩ : ∃ z, z = rmI c := ⟨_, rfl⟩
  obtain ⟨r1, r2, r3, r4⟩ := rmS_at hh
  have hiL : i < L := by rw [hi, hL]; exact r4
  have HRm : Hid (Calls Try.prog 23 #[pv g] W0.drew fun r w' => r = .returned (.int .i64 (i : Nat)) ∧ Only S' W0 w' ∧ Ca S' w' (pv g) (rmS c)) := by
    show Calls _ _ _ _ _
    refine (room_any W0.drew (pv g) c ⟨g, bm, n, G, bp, cur, q, rfl, hM0.carry fun b _ hS => ⟨hS, rfl⟩⟩ (hSf W0.drew (Nat.le_refl _)) hn hh).mono ?_
    rintro r w' ⟨h1, h2, h3⟩
    exact ⟨by rw [hi]; exact h1, ⟨h2.os, h2.tape, h2.output, h2.size, h2.block⟩, h3⟩
  have hLn : ((L : Int) == 0) = false := by simp; omega
  have HAll := hid (And.intro hSS (And.intro hSb (And.intro hSf (And.intro hO0 (And.intro hG0 hs0)))))
  have HC := hid (And.intro hc (And.intro hfd (And.intro hn hh)))
  have HR := hid (And.intro r1 (And.intro r2 (And.intro r3 r4)))
  have HV := hid (And.intro hx (And.intro hL (And.intro hnow hi)))
  have HW0 := hid hW0
  rw [← hx] at HW0
  rw [← hL] at c3
  rw [← hx]
  clear hM hM0 hfd hG0 hW0 hB0 hO0 hx hL hnow hi r1 r2 r3 r4 hSS hSb hSf hs0 hc hn hh c0 hS' hf
  go_enter Try.func13, Try.ntmps13
  go_upto_region 1 with fail
  rw [← HW0.out]
  clear HW0
  go_upto_region 2 with fail
  refine wp_region_held_drew (S := Hg g bm n G w.heap.size x) (by kernel_rfl) HH.out (fun hHeld => ?_)
  refine wpAnyH_take (i := 0) (v := ?_) rfl (by kernel_rfl) (by kernel_rfl) (by kernel_rfl) (fun _ _ _ h => h) (Or.inl ⟨by rfl, ?_⟩) hHeld ?_
  rotate_left
  · intro w' hSw
    clear hSw
    go_simp
    first | done | with_reducible rfl
  simp only [Act.put, List.getElem_toArray, List.getElem_cons_zero, List.setIfInBounds_toArray, List.set_cons_zero, List.set_cons_succ]
  refine wpAnyH_take (i := 1) (v := ?_) rfl (by kernel_rfl) (by kernel_rfl) (by kernel_rfl) (fun _ _ _ h => h) (Or.inl ⟨by rfl, ?_⟩) hHeld ?_
  rotate_left
  · intro w' hSw
    clear hSw
    go_simp
    first | done | with_reducible rfl
  simp only [Act.put, List.getElem_toArray, List.getElem_cons_succ, List.getElem_cons_zero, List.setIfInBounds_toArray, List.set_cons_zero, List.set_cons_succ]
  refine wpAnyH_take (i := 2) (v := ?_) rfl (by kernel_rfl) (by kernel_rfl) (by kernel_rfl) (fun _ _ _ h => h) (Or.inl ⟨by rfl, ?_⟩) hHeld ?_
  rotate_left
  · intro w' hSw
    clear hSw
    go_simp
    first | done | with_reducible rfl
  simp only [Act.put, List.getElem_toArray, List.getElem_cons_succ, List.getElem_cons_zero, List.setIfInBounds_toArray, List.set_cons_zero, List.set_cons_succ]
  refine wpAnyH_take (i := 3) (v := ?_) rfl (by kernel_rfl) (by kernel_rfl) (by kernel_rfl) (fun _ _ _ h => h) (Or.inl ⟨by rfl, ?_⟩) hHeld ?_
  rotate_left
  · intro w' hSw
    have c2 := hSw.c2
    clear hSw
    go_simp
    first | done | with_reducible rfl
  simp only [Act.put, List.getElem_toArray, List.getElem_cons_succ, List.getElem_cons_zero, List.setIfInBounds_toArray, List.set_cons_zero, List.set_cons_succ]
  refine wpAnyH_take (i := 4) (v := (hv x)) rfl (by kernel_rfl) (by kernel_rfl) (by kernel_rfl) (fun _ _ _ h => h) (Or.inl ⟨by rfl, ?_⟩) hHeld ?_
  · intro w' hSw
    exact runLd 30 (.tmp 4) rfl w.heap.size 0 rfl (row 11 x) _ hSw.rx Try.underlying30 rfl (sizeH x)
  simp only [Act.put, List.getElem_toArray, List.getElem_cons_succ, List.getElem_cons_zero, List.setIfInBounds_toArray, List.set_cons_zero, List.set_cons_succ]
  refine wpAnyH_take (i := 5) (v := (.tuple #[.int .i64 0, .bool false])) rfl (by kernel_rfl) (by kernel_rfl) (by kernel_rfl) (fun _ _ _ h => h) (Or.inl ⟨by rfl, ?_⟩) hHeld ?_
  · intro w' hSw
    exact runLookN (.tmp 24) (.tmp 25) rfl rfl rfl hSw.mp hwx hGn
  simp only [Act.put, List.getElem_toArray, List.getElem_cons_succ, List.getElem_cons_zero, List.setIfInBounds_toArray, List.set_cons_zero, List.set_cons_succ]
  refine wpAnyH_take (i := 6) (v := ?_) rfl (by kernel_rfl) (by kernel_rfl) (by kernel_rfl) (fun _ _ _ h => h) (Or.inl ⟨by rfl, ?_⟩) hHeld ?_
  rotate_left
  · intro w' hSw
    clear hSw
    go_simp
    first | done | with_reducible rfl
  simp only [Act.put, List.getElem_toArray, List.getElem_cons_succ, List.getElem_cons_zero, List.setIfInBounds_toArray, List.set_cons_zero, List.set_cons_succ]
  refine wpAnyH_take (i := 7) (v := ?_) rfl (by kernel_rfl) (by kernel_rfl) (by kernel_rfl) (fun _ _ _ h => h) (Or.inl ⟨by rfl, ?_⟩) hHeld ?_
  rotate_left
  · intro w' hSw
    clear hSw
    go_simp
    first | done | with_reducible rfl
  simp only [Act.put, List.getElem_toArray, List.getElem_cons_succ, List.getElem_cons_zero, List.setIfInBounds_toArray, List.set_cons_zero, List.set_cons_succ]
  refine wpAnyH_take (i := 8) (v := ?_) rfl (by kernel_rfl) (by kernel_rfl) (by kernel_rfl) (fun _ _ _ h => h) (Or.inl ⟨by rfl, ?_⟩) hHeld ?_
  rotate_left
  · intro w' hSw
    clear hSw
    go_simp
    first | done | with_reducible rfl
  simp only [Act.put, List.getElem_toArray, List.getElem_cons_succ, List.getElem_cons_zero, List.setIfInBounds_toArray, List.set_cons_zero, List.set_cons_succ]
  refine wpAnyH_take (i := 9) (v := ?_) rfl (by kernel_rfl) (by kernel_rfl) (by kernel_rfl) (fun _ _ _ h => h) (Or.inl ⟨by rfl, ?_⟩) hHeld ?_
  rotate_left
  · intro w' hSw
    clear hSw
    go_simp
    first | done | with_reducible rfl
  simp only [Act.put, List.getElem_toArray, List.getElem_cons_succ, List.getElem_cons_zero, List.setIfInBounds_toArray, List.set_cons_zero, List.set_cons_succ]
  refine wpAnyH_take (i := 10) (v := ?_) rfl (by kernel_rfl) (by kernel_rfl) (by kernel_rfl) (fun _ _ _ h => h) (Or.inl ⟨by rfl, ?_⟩) hHeld ?_
  rotate_left
  · intro w' hSw
    clear hSw
    go_simp
    first | done | with_reducible rfl
  simp only [Act.put, List.getElem_toArray, List.getElem_cons_succ, List.getElem_cons_zero, List.setIfInBounds_toArray, List.set_cons_zero, List.set_cons_succ]
  refine wpAnyH_done (by kernel_rfl) ?_ _
  go_upto_region 7 with (go_at_call 23; refine (HRm.out).mono ?_; rintro r w5 ⟨rfl, hO5, hC5⟩; have HO5 := hid hO5; have HC5 := hid hC5; clear hO5 hC5 HRm)
  clear HH hGn c2 c3
  obtain ⟨hx, hL, hnow, hi⟩ := HV.out
  obtain ⟨hSS, hSb, hSf, hO0, hG0, hs0⟩ := HAll.out
  obtain ⟨r1, r2, r3, r4⟩ := HR.out
  obtain ⟨hc, hfd, hn, hh⟩ := HC.out
  obtain ⟨wd, hwd⟩ : ∃ wd, wd = w5.drew := ⟨_, rfl⟩
  have hsd : wd.heap.size = w5.heap.size := by rw [hwd]; rfl
  have hOd : Only S' W0 wd := by rw [hwd]; exact HO5.out.drew
  have hCd : Ca S' wd (pv g) (rmS c) := HC5.out.carry fun b _ hS => ⟨hS, by rw [hwd]; rfl⟩
  obtain ⟨g', bm, n, G, bp, cur, q, hg', hM5⟩ := hCd
  obtain rfl : g = g' := by simpa using hg'
  obtain ⟨c0, -, c2, c3⟩ := hM5.cells
  rw [r3, ← hnow] at c0
  rw [r1, ← hL] at c3
  rw [← hi] at r2
  have hX5 : wd.heap[w.heap.size]? = some (.cells (row 11 h.f) 30 (0, 0)) := (hOd.block _ hSb).trans hG0
  have hs5 : W0.heap.size ≤ wd.heap.size := hOd.size
  have hu5 : Hu g now bm bp L w.heap.size x wd := ⟨c0, c2, c3, range_of fun j hj => by
    rw [row_size] at hj
    rw [Nat.zero_add, cell_of_row wd _ _ _ _ _ hX5, hx]⟩
  obtain ⟨E, hE⟩ : ∃ E : Et, E = ⟨h, id, c.now, false⟩ := ⟨_, rfl⟩
  have e1 : E.h.f = x := by rw [hE, hx]
  have e2 : E.id = id := by rw [hE]
  have e3 : E.gen = now := by rw [hE, hnow]
  have e4 : E.mark = false := by rw [hE]
  have hpl := hM5.place r2
  have hbl := cell_lt hpl
  have hgl := cell_lt c0
  have hzp := (hM5.frz i).2.1
  obtain ⟨W6, hW6⟩ : ∃ W6, W6 = wd.alloc (.cells (ecs E) 55) := ⟨_, rfl⟩
  have hB6 : Below wd.heap.size wd W6 := by rw [hW6]; exact (Below.refl _ _).alloc (Nat.le_refl _) _
  have hu6 : Hu g now bm bp L w.heap.size x W6 := hu5.on (hB6.block _ hgl) (hB6.block _ (by omega))
  have hp6 : W6.cell? ⟨bp, i, none⟩ = some (ptr q i none) := (cell_same (hB6.block _ hbl)).trans hpl
  have hz6 : W6.frozen? ⟨bp, i, none⟩ = false := (frz_same (hB6.block _ hbl)).trans hzp
  obtain ⟨a1, a2, a3, a4, a5⟩ := hM5.apart
  have hbx : w.heap.size ≠ bp := fun e => hSb (e ▸ hM5.sp)
  obtain ⟨W7, hW7⟩ : ∃ W7, W7 = W6.setCell ⟨bp, i, none⟩ (pv wd.heap.size) := ⟨_, rfl⟩
  have hO7 : ∀ b, b ≠ bp → W7.heap[b]? = W6.heap[b]? := fun b hb => by rw [hW7]; exact heap_setCell_other W6 ⟨bp, i, none⟩ b _ hb
  have hu7 : Hu g now bm bp L w.heap.size x W7 := hu5.on ((hO7 g a2).trans (hB6.block _ hgl)) ((hO7 _ hbx).trans (hB6.block _ (by omega)))
  have hmp7 : Mp W7.drew 30 bm n G := hM5.mp.carry ((hO7 _ a3).trans (hB6.block _ hM5.mp.lt))
  have hno := rmS_h (c := c) (fnd_none hfd)
  have hcn : n < 2147483648 := by
    rw [hM5.cn]
    have := List.countP_le_length (p := Option.isSome) (l := (rmS c).es)
    rw [r1] at this
    unfold cnt; omega
  have hOW6 : Only S wd W6 := Only.of hB6 fun b hb => hSS b (hSf wd hs5 b hb)
  have HFin : Hid (∀ w8, Tur W7.drew w8 bm → Mp w8 30 bm (if (G (kl x)).isSome then n else n + 1) (updL G (kl x) (some (.int .i64 (i : Int)))) → PuP S w (pv g) c h id (.returned (.tuple #[])) w8) := fun w8 hT8' hM8 => by
    have hT8 : Tur W7 w8 bm := ⟨hT8'.os, hT8'.tape, hT8'.output, hT8'.size, hT8'.block⟩
    have t1 := hM5.new r2 E (by rw [hE]; exact hno) (hSf wd hs5) W7 (by rw [hW7, hW6]) hT8 (by rw [e1]; exact hM8)
    have t2 := t1.carry (T := S) (w' := w8) fun b _ hS => ⟨hSS b hS, rfl⟩
    have hp : putS c h id = { rmS c with es := (rmS c).es.set i (some E) } := by rw [put_rm id hc hfd, ← hi, ← hE]
    rw [← hp] at t2
    have hOn : Only S w w8 := by
      refine ((hO0.trans (hOd.mono hSS)).trans hOW6).trans (Only.trans (b := W7) ?_ (hT8.only (hSS _ hM5.sm)))
      rw [hW7]
      exact (Only.refl S W6).setCell (hSS _ hM5.sp) _
    exact ⟨rfl, hOn, g, bm, _, _, bp, _, _, rfl, t2⟩
  have HU5 : Hid (Hu g now bm bp L w.heap.size x w5.drew) := by show Hu _ _ _ _ _ _ _ _; rw [← hwd]; exact hu5
  have HU6 := hid hu6
  have HU7 := hid hu7
  have HU8 : Hid (Hu g now bm bp L w.heap.size x W7.drew) := hu7.on rfl rfl
  have HU9 : Hid (∀ w8, Tur W7.drew w8 bm → Hu g now bm bp L w.heap.size x w8) := fun w8 hT => hu7.on (hT.block _ a1) (hT.block _ fun e => hSb (e ▸ hM5.sm))
  have HW6 : Hid (w5.drew.alloc (.cells (ecs E) 55) = W6) := by show _ = _; rw [hW6, hwd]
  have HW7 : Hid (W6.setCell ⟨bp, i, none⟩ (pv w5.drew.heap.size) = W7) := by show _ = _; rw [hW7, hwd]
  have HP6 := hid (And.intro hp6 hz6)
  have HMp := hid hmp7
  have HE := hid (And.intro e1 (And.intro e2 (And.intro e3 e4)))
  clear hwd hsd hOd hM5 hg' c0 c2 c3 hX5 hs5 hu5 hE e1 e2 e3 e4 hpl hbl hgl hzp hW6 hB6 hu6 hp6 hz6 a1 a2 a3 a4 a5 hbx hW7 hO7 hu7 hmp7 hno hOW6 hx hL hnow hi hSS hSb hSf hO0 hG0 hs0 r1 r2 r3 r4 hc hfd hn hh HO5 HC5 HCa HAll HC HR HV
  refine wp_region_held_drew (S := Hu g now bm bp L w.heap.size x) (by kernel_rfl) HU5.out (fun hHeld => ?_)
  refine wpAnyH_take (i := 0) (v := ?_) rfl (by kernel_rfl) (by kernel_rfl) (by kernel_rfl) (fun _ _ _ h => h) (Or.inl ⟨by rfl, ?_⟩) hHeld ?_
  rotate_left
  · intro w' hSw
    clear hSw
    go_simp
    first | done | with_reducible rfl
  simp only [Act.put, List.getElem_toArray, List.getElem_cons_zero, List.setIfInBounds_toArray, List.set_cons_zero, List.set_cons_succ]
  refine wpAnyH_take (i := 1) (v := ?_) rfl (by kernel_rfl) (by kernel_rfl) (by kernel_rfl) (fun _ _ _ h => h) (Or.inl ⟨by rfl, ?_⟩) hHeld ?_
  rotate_left
  · intro w' hSw
    clear hSw
    go_simp
    first | done | with_reducible rfl
  simp only [Act.put, List.getElem_toArray, List.getElem_cons_succ, List.getElem_cons_zero, List.setIfInBounds_toArray, List.set_cons_zero, List.set_cons_succ]
  refine wpAnyH_take (i := 2) (v := ?_) rfl (by kernel_rfl) (by kernel_rfl) (by kernel_rfl) (fun _ _ _ h => h) (Or.inl ⟨by rfl, ?_⟩) hHeld ?_
  rotate_left
  · intro w' hSw
    clear hSw
    go_simp
    first | done | with_reducible rfl
  simp only [Act.put, List.getElem_toArray, List.getElem_cons_succ, List.getElem_cons_zero, List.setIfInBounds_toArray, List.set_cons_zero, List.set_cons_succ]
  refine wpAnyH_take (i := 3) (v := ?_) rfl (by kernel_rfl) (by kernel_rfl) (by kernel_rfl) (fun _ _ _ h => h) (Or.inl ⟨by rfl, ?_⟩) hHeld ?_
  rotate_left
  · intro w' hSw
    have c3 := hSw.c3
    clear hSw
    go_simp
    first | done | with_reducible rfl
  simp only [Act.put, List.getElem_toArray, List.getElem_cons_succ, List.getElem_cons_zero, List.setIfInBounds_toArray, List.set_cons_zero, List.set_cons_succ]
  refine wpAnyH_take (i := 4) (v := ?_) rfl (by kernel_rfl) (by kernel_rfl) (by kernel_rfl) (fun _ _ _ h => h) (Or.inl ⟨by rfl, ?_⟩) hHeld ?_
  rotate_left
  · intro w' hSw
    clear hSw
    go_simp
    first | done | with_reducible rfl
  simp only [Act.put, List.getElem_toArray, List.getElem_cons_succ, List.getElem_cons_zero, List.setIfInBounds_toArray, List.set_cons_zero, List.set_cons_succ]
  refine wpAnyH_take (i := 5) (v := (hv x)) rfl (by kernel_rfl) (by kernel_rfl) (by kernel_rfl) (fun _ _ _ h => h) (Or.inl ⟨by rfl, ?_⟩) hHeld ?_
  · intro w' hSw
    exact runLd 30 (.tmp 4) rfl w.heap.size 0 rfl (row 11 x) _ hSw.rx Try.underlying30 rfl (sizeH x)
  simp only [Act.put, List.getElem_toArray, List.getElem_cons_succ, List.getElem_cons_zero, List.setIfInBounds_toArray, List.set_cons_zero, List.set_cons_succ]
  refine wpAnyH_take (i := 6) (v := ?_) rfl (by kernel_rfl) (by kernel_rfl) (by kernel_rfl) (fun _ _ _ h => h) (Or.inl ⟨by rfl, ?_⟩) hHeld ?_
  rotate_left
  · intro w' hSw
    clear hSw
    go_simp
    first | done | with_reducible rfl
  simp only [Act.put, List.getElem_toArray, List.getElem_cons_succ, List.getElem_cons_zero, List.setIfInBounds_toArray, List.set_cons_zero, List.set_cons_succ]
  refine wpAnyH_take (i := 7) (v := ?_) rfl (by kernel_rfl) (by kernel_rfl) (by kernel_rfl) (fun _ _ _ h => h) (Or.inl ⟨by rfl, ?_⟩) hHeld ?_
  rotate_left
  · intro w' hSw
    clear hSw
    go_simp
    first | done | with_reducible rfl
  simp only [Act.put, List.getElem_toArray, List.getElem_cons_succ, List.getElem_cons_zero, List.setIfInBounds_toArray, List.set_cons_zero, List.set_cons_succ]
  refine wpAnyH_take (i := 8) (v := ?_) rfl (by kernel_rfl) (by kernel_rfl) (by kernel_rfl) (fun _ _ _ h => h) (Or.inl ⟨by rfl, ?_⟩) hHeld ?_
  rotate_left
  · intro w' hSw
    clear hSw
    go_simp
    first | done | with_reducible rfl
  simp only [Act.put, List.getElem_toArray, List.getElem_cons_succ, List.getElem_cons_zero, List.setIfInBounds_toArray, List.set_cons_zero, List.set_cons_succ]
  refine wpAnyH_take (i := 9) (v := ?_) rfl (by kernel_rfl) (by kernel_rfl) (by kernel_rfl) (fun _ _ _ h => h) (Or.inl ⟨by rfl, ?_⟩) hHeld ?_
  rotate_left
  · intro w' hSw
    clear hSw
    go_simp
    first | done | with_reducible rfl
  simp only [Act.put, List.getElem_toArray, List.getElem_cons_succ, List.getElem_cons_zero, List.setIfInBounds_toArray, List.set_cons_zero, List.set_cons_succ]
  refine wpAnyH_take (i := 10) (v := ?_) rfl (by kernel_rfl) (by kernel_rfl) (by kernel_rfl) (fun _ _ _ h => h) (Or.inl ⟨by rfl, ?_⟩) hHeld ?_
  rotate_left
  · intro w' hSw
    have c0 := hSw.c0
    clear hSw
    go_simp
    first | done | with_reducible rfl
  simp only [Act.put, List.getElem_toArray, List.getElem_cons_succ, List.getElem_cons_zero, List.setIfInBounds_toArray, List.set_cons_zero, List.set_cons_succ]
  refine wpAnyH_take (i := 11) (v := (.agg (ecs E))) rfl (by kernel_rfl) (by kernel_rfl) (by kernel_rfl) (fun _ _ _ h => h) (Or.inl ⟨by rfl, ?_⟩) hHeld ?_
  · intro w' hSw
    exact runBld (.tmp 55) (.tmp 56) (.tmp 60) rfl E HE.out.2.2.2 (by rw [HE.out.1]; rfl) (by rw [HE.out.2.1]; rfl) (by rw [HE.out.2.2.1]; rfl)
  simp only [Act.put, List.getElem_toArray, List.getElem_cons_succ, List.getElem_cons_zero, List.setIfInBounds_toArray, List.set_cons_zero, List.set_cons_succ]
  refine wpAnyH_ready (rs := [12]) (by kernel_rfl) (by simp) ?_
  refine AllReadyH.cons rfl (fun K hK => ?_) AllReadyH.nil
  refine stepBox 55 (.tmp 61) rfl rfl (ecs E) rfl ?_
  rw [HW6.out]
  refine hK.out _ _ HU6.out (fun hHeld => ?_)
  clear hK K
  simp only [Act.put, List.getElem_toArray, List.getElem_cons_succ, List.getElem_cons_zero, List.setIfInBounds_toArray, List.set_cons_zero, List.set_cons_succ]
  refine wpAnyH_take (i := 13) (v := ?_) rfl (by kernel_rfl) (by kernel_rfl) (by kernel_rfl) (fun _ _ _ h => h) (Or.inl ⟨by rfl, ?_⟩) hHeld ?_
  rotate_left
  · intro w' hSw
    clear hSw
    go_simp
    first | done | with_reducible rfl
  simp only [Act.put, List.getElem_toArray, List.getElem_cons_succ, List.getElem_cons_zero, List.setIfInBounds_toArray, List.set_cons_zero, List.set_cons_succ]
  refine wpAnyH_ready (rs := [14]) (by kernel_rfl) (by simp) ?_
  refine AllReadyH.cons rfl (fun K hK => ?_) AllReadyH.nil
  refine stepStP (.tmp 63) (.tmp 62) rfl rfl bp i _ _ rfl rfl HP6.out.1 HP6.out.2 ?_
  rw [HW7.out]
  refine hK.out _ _ HU7.out (fun hHeld => ?_)
  clear hK K
  simp only [Act.put, List.getElem_toArray, List.getElem_cons_succ, List.getElem_cons_zero]
  refine wpAnyH_done (by kernel_rfl) ?_ _
  go_upto_region 8 with fail
  refine wp_region_held_drew (S := Hu g now bm bp L w.heap.size x) (by kernel_rfl) HU8.out (fun hHeld => ?_)
  refine wpAnyH_take (i := 0) (v := ?_) rfl (by kernel_rfl) (by kernel_rfl) (by kernel_rfl) (fun _ _ _ h => h) (Or.inl ⟨by rfl, ?_⟩) hHeld ?_
  rotate_left
  · intro w' hSw
    clear hSw
    go_simp
    first | done | with_reducible rfl
  simp only [Act.put, List.getElem_toArray, List.getElem_cons_zero, List.setIfInBounds_toArray, List.set_cons_zero, List.set_cons_succ]
  refine wpAnyH_take (i := 1) (v := ?_) rfl (by kernel_rfl) (by kernel_rfl) (by kernel_rfl) (fun _ _ _ h => h) (Or.inl ⟨by rfl, ?_⟩) hHeld ?_
  rotate_left
  · intro w' hSw
    clear hSw
    go_simp
    first | done | with_reducible rfl
  simp only [Act.put, List.getElem_toArray, List.getElem_cons_succ, List.getElem_cons_zero, List.setIfInBounds_toArray, List.set_cons_zero, List.set_cons_succ]
  refine wpAnyH_take (i := 2) (v := ?_) rfl (by kernel_rfl) (by kernel_rfl) (by kernel_rfl) (fun _ _ _ h => h) (Or.inl ⟨by rfl, ?_⟩) hHeld ?_
  rotate_left
  · intro w' hSw
    clear hSw
    go_simp
    first | done | with_reducible rfl
  simp only [Act.put, List.getElem_toArray, List.getElem_cons_succ, List.getElem_cons_zero, List.setIfInBounds_toArray, List.set_cons_zero, List.set_cons_succ]
  refine wpAnyH_take (i := 3) (v := ?_) rfl (by kernel_rfl) (by kernel_rfl) (by kernel_rfl) (fun _ _ _ h => h) (Or.inl ⟨by rfl, ?_⟩) hHeld ?_
  rotate_left
  · intro w' hSw
    have c2 := hSw.c2
    clear hSw
    go_simp
    first | done | with_reducible rfl
  simp only [Act.put, List.getElem_toArray, List.getElem_cons_succ, List.getElem_cons_zero, List.setIfInBounds_toArray, List.set_cons_zero, List.set_cons_succ]
  refine wpAnyH_take (i := 4) (v := (hv x)) rfl (by kernel_rfl) (by kernel_rfl) (by kernel_rfl) (fun _ _ _ h => h) (Or.inl ⟨by rfl, ?_⟩) hHeld ?_
  · intro w' hSw
    exact runLd 30 (.tmp 4) rfl w.heap.size 0 rfl (row 11 x) _ hSw.rx Try.underlying30 rfl (sizeH x)
  simp only [Act.put, List.getElem_toArray, List.getElem_cons_succ, List.getElem_cons_zero, List.setIfInBounds_toArray, List.set_cons_zero, List.set_cons_succ]
  refine wpAnyH_take (i := 5) (v := ?_) rfl (by kernel_rfl) (by kernel_rfl) (by kernel_rfl) (fun _ _ _ h => h) (Or.inl ⟨by rfl, ?_⟩) hHeld ?_
  rotate_left
  · intro w' hSw
    clear hSw
    go_simp
    first | done | with_reducible rfl
  simp only [Act.put, List.getElem_toArray, List.getElem_cons_succ, List.getElem_cons_zero, List.setIfInBounds_toArray, List.set_cons_zero, List.set_cons_succ]
  refine wpAnyH_ready (rs := [6]) (by kernel_rfl) (by simp) ?_
  refine AllReadyH.cons rfl (fun K hK => ?_) AllReadyH.nil
  refine stepStore (.tmp 67) (.tmp 68) (.tmp 69) 44 rfl rfl rfl rfl rfl HMp.out lawH Try.underlying44 hcn (key_h hwx) ?_
  intro w8 hM8 hT8
  have HT8 := hid hT8
  have HM8 := hid hM8
  refine hK.out _ _ (HU9.out w8 hT8) (fun hHeld => ?_)
  clear hK K
  simp only [Act.put, List.getElem_toArray, List.getElem_cons_succ, List.getElem_cons_zero]
  clear hM8 hT8
  refine wpAnyH_done (by kernel_rfl) ?_ _
  go_wp2
  first | go_end0 | refine bodyPost_ret (results_none rfl _ _ _) rfl ?_
  exact HFin.out w8 HT8.out HM8.out
/-- PUT. -/
theorem put_any {S : Nat → Prop} (w : World) (v : Value) (c : Cs) (h : Hdr) (id : Int) (hC : Ca S w v c) (hf : Fresh S w) (hn : c.es.length < 2147483640) (hh : c.es ≠ [] → c.hand < c.es.length) : Calls Try.prog 13 #[v, hv h.f, .int .i64 id] w (PuP S w v c h id) := by
  by_cases hc : c.es = []
  · exact put_nilS w v c h id hC hf hc
  · cases hfd : fnd c.es h with
    | some i => exact put_there w v c h id hC hf i hfd
    | none => exact put_new w v c h id hC hf hc hn (hh hc) hfd
/-- How many places there are. -/
def szN (size : Int) : Nat := (min (max size 0) 1024).toNat
def newC (n : Nat) : Cs := ⟨0, 0, List.replicate n none⟩
theorem infoPEN : (Try.prog.info? 51).map (fun i => (i.zero, i.size, i.bytes)) = some (some (.pointer none), 1, 8) := by kernel_rfl
theorem madeP (N : Nat) (l : Int) (hl : l = (N : Int)) (hn : N ≤ 1024) : ∃ zs : Array Value, zs.size = N ∧ (∀ i, i < N → zs[i]? = some (.pointer none)) ∧ ∀ w, (Instr.makeSlice 45 (.int .i64 l) (.int .i64 l)).run Try.prog w = .ok (.slice (some ⟨w.heap.size, 0, none⟩) N N) (w.alloc (.cells zs 51)) := by
  obtain ⟨i, hi, hz0, hz1, hz2⟩ := info_parts infoPEN
  refine ⟨madeCells (Value.pointer none).cells (N * 1), by simp [size_madeCells], fun k hk => ?_, fun w => ?_⟩
  · simp [madeCells, Value.cells, hk, Nat.mod_one]
  · have := run_make (P := Try.prog) w 45 51 i (.pointer none) Try.underlying45 hi hz0 .i64 .i64 l l (by omega) (Int.le_refl _) (by rw [hz2]; omega) (by omega)
    rw [hz1, hl] at this
    rw [hl]
    simpa using this
theorem szN_le (size : Int) : szN size ≤ 1024 := by unfold szN; omega
theorem new_at (w : World) (N : Nat) (zs : Array Value) (hz : zs.size = N) (hp : ∀ i, i < N → zs[i]? = some (.pointer none)) : Below w.heap.size w (((w.alloc (.map #[] 0)).alloc (.cells zs 51)).alloc (.cells #[.int .i64 0, .int .i64 0, .map (some w.heap.size), .slice (some ⟨w.heap.size + 1, 0, none⟩) N N] 47)) ∧ Ca (fun b => w.heap.size ≤ b) (((w.alloc (.map #[] 0)).alloc (.cells zs 51)).alloc (.cells #[.int .i64 0, .int .i64 0, .map (some w.heap.size), .slice (some ⟨w.heap.size + 1, 0, none⟩) N N] 47)) (pv (w.heap.size + 2)) (newC N) := by
  obtain ⟨W1, hW1⟩ : ∃ W1, W1 = w.alloc (.map #[] 0) := ⟨_, rfl⟩
  obtain ⟨W2, hW2⟩ : ∃ W2, W2 = W1.alloc (.cells zs 51) := ⟨_, rfl⟩
  have s1 : W1.heap.size = w.heap.size + 1 := by rw [hW1]; simp
  have s2 : W2.heap.size = w.heap.size + 2 := by rw [hW2]; simp [s1]
  rw [← hW1, ← hW2]
  refine ⟨((hW1 ▸ (Below.refl _ _).alloc (Nat.le_refl _) _ : Below w.heap.size w W1).trans (hW2 ▸ (Below.refl _ _).alloc (by omega) _ : Below w.heap.size W1 W2)).alloc (by omega) _, w.heap.size + 2, w.heap.size, 0, fun _ => none, w.heap.size + 1, zs, id, rfl, ?_⟩
  have hnn : ∀ (i : Nat) (e : Et), (newC N).es[i]? = some (some e) → False := fun i e he => by
    have := List.mem_of_getElem? he
    simp [newC] at this
  refine ⟨by show _ ≤ _; omega, ?_, Nat.le_refl _, ?_, by show _ ≤ _; omega, ?_, by simp [newC, hz], fun i o ho => ?_, fun i e he => (hnn i e he).elim, fun i e he => (hnn i e he).elim, fun _ _ => rfl, ?_⟩
  · rw [← s2, heap_alloc_new]; simp [ccs, newC]
  · have h1 : Mp W1 30 w.heap.size 0 fun _ => none := by rw [hW1]; exact Mp.new w 30
    exact (h1.carry (w' := W2) (by rw [hW2]; exact heap_alloc_old _ _ (by omega))).carry (heap_alloc_old _ _ (by omega))
  · rw [heap_alloc_old _ _ (by omega), hW2, ← s1]; exact heap_alloc_new _ _
  · have hi : i < N := by have := (List.getElem?_eq_some_iff.1 ho).1; simpa [newC] using this
    have : o = none := by simp [newC, hi] at ho; exact ho.symm
    rw [hp i hi, this]; rfl
  · simp [cnt, newC, List.countP_replicate]
set_option maxRecDepth 100000 in
/-- NEW. -/
theorem new_any (w : World) (size : Int) (_hs : (Lit.int .i64 size).wf = true) : Calls Try.prog 9 #[.int .i64 size] w fun r w' => ∃ v, r = .returned v ∧ Below w.heap.size w w' ∧ Ca (fun b => w.heap.size ≤ b) w' v (newC (szN size)) := by
  have hmm := @run_makeMap Try.prog
  obtain ⟨N, hN⟩ : ∃ N, N = szN size := ⟨_, rfl⟩
  have hle : N ≤ 1024 := by rw [hN]; exact szN_le size
  rw [← hN]
  have hcases : (size < 0 ∧ N = 0) ∨ (0 ≤ size ∧ size ≤ 1024 ∧ size = (N : Int)) ∨ (1024 < size ∧ N = 1024) := by rw [hN]; unfold szN; omega
  clear hN
  rcases hcases with ⟨h1, h2⟩ | ⟨h1, h2, h3⟩ | ⟨h1, h2⟩
  · obtain ⟨zs, hz1, hz2, hz3⟩ := madeP N 0 (by omega) hle
    have HF := hid (new_at w N zs hz1 hz2)
    clear hz1 hz2 h2 hle
    go_enter Try.func9, Try.ntmps9
    go_wp2
    go_ret
    exact ⟨_, rfl, HF.out.1, HF.out.2⟩
  · obtain ⟨zs, hz1, hz2, hz3⟩ := madeP N size h3 hle
    have HF := hid (new_at w N zs hz1 hz2)
    have h4 : ¬ size < 0 := by omega
    have h5 : ¬ 1024 < size := by omega
    clear hz1 hz2 h3 hle
    go_enter Try.func9, Try.ntmps9
    go_wp2
    all_goals go_ret
    all_goals exact ⟨_, rfl, HF.out.1, HF.out.2⟩
  · obtain ⟨zs, hz1, hz2, hz3⟩ := madeP N 1024 (by omega) hle
    have HF := hid (new_at w N zs hz1 hz2)
    have h4 : ¬ size < 0 := by omega
    clear hz1 hz2 h2 hle
    go_enter Try.func9, Try.ntmps9
    go_wp2
    all_goals go_ret
    all_goals exact ⟨_, rfl, HF.out.1, HF.out.2⟩
end Go.Proofs.Ytpmdgockiblkaaa
