/-
  Proved here: slices.Sorted over the keys of the map of what is gone: a new slice of them, each once, rising. Condition: fewer than 2 to 31 entries.
-/
/-
  Proved here: the keys of the map of what is gone are the Cookies of what is gone. No condition.
-/
/-
  Proved here: Gone of package flows: what is gone of each Cookie, rising, in new memory. Condition: fewer than 2 to 31 Cookies.
-/
import Derived.Test.YtdehlnaoehjehaaGreatDoorzGU
import Derived.Test.YtdehlnaoehjehaaGreatDoorzFS
import Derived.Test.YtdehlnaoehjehaaGreatDoorzKL
namespace Go.Proofs.YtdehlnaoehjehaaGreatDoor
set_option maxRecDepth 100000
open Go.RowKit Go.Maps

/-- A slice of numbers in new memory, or none. -/
def RowU (w : World) (B : Nat) (v : Value) (zs : List Int) : Prop := (v = .slice none 0 0 ∧ zs = []) ∨ ∃ g cap, v = .slice (some ⟨g, 0, none⟩) zs.length cap ∧ B ≤ g ∧ Dt w g 0 cap 28 zs.toArray
theorem dt_own {w : World} {g cap : Nat} {xs : List Int} {cur : Array Value} (hh : w.heap[g]? = some (.cells cur 28 (0, 0))) (h1 : xs.length ≤ cap) (h2 : cur.size = cap * 1) (h3 : cur.toList.take (xs.length * 1) = xs.map uv) : Dt w g 0 cap 28 xs.toArray := by
  refine ⟨cur, hh, by simpa using h1, by omega, fun j hj => ?_⟩
  simp only [List.size_toArray] at hj
  have e : (cur.toList.take (xs.length * 1))[j]? = (xs.map uv)[j]? := by rw [h3]
  rw [List.getElem?_take_of_lt (by omega), List.getElem?_map, List.getElem?_eq_getElem hj] at e
  rw [Nat.zero_add, ← Array.getElem?_toList, e]
  simp [hj]
theorem sort_own (w1 : World) (B : Nat) (v : Value) (xs : List Int) (h : w1.ownsRow B 28 1 v xs.length (xs.map uv)) (hlen : xs.length < 2147483648) (hB : B ≤ w1.heap.size) :
    (∃ ao n cap, v = .slice ao n cap) ∧ Calls Tryz.prog 95 #[v] w1 fun e w' => e = .returned (.tuple #[]) ∧ Below B w1 w' ∧ ∃ zs : List Int, zs.Perm xs ∧ zs.Pairwise (· ≤ ·) ∧ RowU w' B v zs := by
  rcases h.2 with ⟨rfl, hn⟩ | ⟨g, cap, cur, rfl, hg, hh, h1, h2, h3, h4⟩
  · refine ⟨⟨_, _, _, rfl⟩, (sort_nil w1).mono ?_⟩
    rintro e w' ⟨rfl, hO⟩
    have hx : xs = [] := List.length_eq_zero_iff.1 hn
    subst hx
    exact ⟨rfl, hO.below fun k hk => Nat.le_trans hB hk, [], List.Perm.refl _, List.Pairwise.nil, Or.inl ⟨rfl, rfl⟩⟩
  · refine ⟨⟨_, _, _, rfl⟩, (sort_any g 0 cap 28 xs.length (by omega) w1 xs.toArray (by simp) (dt_own hh h1 h3 h4)).mono ?_⟩
    rintro e w' ⟨rfl, hS⟩
    have he := Go.Sort.sortInt xs
    have hp : (xs.mergeSort (fun x y => decide (x ≤ y))).Perm xs := List.mergeSort_perm _ _
    have hs : (xs.mergeSort (fun x y => decide (x ≤ y))).Pairwise fun x y => decide (x ≤ y) = true := List.pairwise_mergeSort (fun a b c hab hbc => by simp at *; omega) (fun a b => by simp; omega) xs
    refine ⟨rfl, hS.only.below fun k hk => hk.elim (fun e => e ▸ hg) (Nat.le_trans hB), _, hp, hs.imp (fun h => of_decide_eq_true h), Or.inr ⟨g, cap, by rw [hp.length_eq], hg, ?_⟩⟩
    rw [← he]
    exact hS.dt
/-- What comes out: the keys, rising. -/
def SuP (w : World) (D0 : DataW Value) (e : Ending) (w' : World) : Prop := ∃ v zs, e = .returned v ∧ KeyS D0 zs ∧ zs.Pairwise (· ≤ ·) ∧ RowU w' w.heap.size v zs ∧ Below w.heap.size w w'
theorem KeyS.perm {D : DataW Value} {xs zs : List Int} (h : KeyS D xs) (p : zs.Perm xs) : KeyS D zs := ⟨p.nodup_iff.2 h.1, fun z => p.mem_iff.trans (h.2 z)⟩
set_option maxHeartbeats 3200000 in
set_option maxRecDepth 100000 in
theorem sortedU_any (Bm b nn : Nat) (D0 : DataW Value) (hD : ∀ l, Maps.has D0 l = true → ∃ z : Int, (Lit.int .u64 z).wf = true ∧ l = .int .u64 z) (hsz : Maps.size D0 < 2147483648) (hln : ∀ xs, KeyS D0 xs → xs.length < 2147483648) (w : World) (hBm : Bm < w.heap.size) (hm : w.cell? ⟨Bm, 0, none⟩ = some (.map (some b))) (hown : w.ownsMap Tryz.prog 28 tok b nn D0) :
    Calls Tryz.prog 55 #[.func (.func 96) #[] #[.pointer (some ⟨Bm, 0, none⟩)]] w (SuP w D0) := by
  have HC := hid (collectU_any Bm b nn D0 hD hsz w hBm hm hown)
  have HS : Hid (∀ w1 v xs, KeyS D0 xs → w1.ownsRow w.heap.size 28 1 v xs.length (xs.map uv) → Below w.heap.size w w1 → (∃ ao n cap, v = .slice ao n cap) ∧ Calls Tryz.prog 95 #[v] w1 fun e w' => e = .returned (.tuple #[]) ∧ SuP w D0 (.returned v) w') := hid fun w1 v xs h1 h2 h3 => by
    obtain ⟨q1, q2⟩ := sort_own w1 w.heap.size v xs h2 (hln xs h1) h3.size
    refine ⟨q1, q2.mono ?_⟩
    rintro e w' ⟨rfl, hB, zs, hp, hs, hr⟩
    exact ⟨rfl, v, zs, rfl, h1.perm hp, hs, hr, h3.trans hB⟩
  clear hown hm hD hln
  go_enter Tryz.func55, Tryz.ntmps55
  go_wp2_with (first
    | (go_at_call 94; refine (HC.out).mono ?_; rintro e w1 ⟨v, xs, rfl, h1, h2, h3, h4⟩; obtain ⟨⟨ao, n, cap, rfl⟩, hs⟩ := HS.out w1 v xs h1 h2 h4; have HSS := hid hs; clear h1 h2 h3 h4 hs HC)
    | (go_at_call 95; refine (HSS.out).mono ?_; rintro e w2 ⟨rfl, hp⟩; have HP := hid hp; clear hp HSS))
  go_ret
  exact HP.out
end Go.Proofs.YtdehlnaoehjehaaGreatDoor
namespace Go.Proofs.YtdehlnaoehjehaaGreatDoor
set_option maxRecDepth 100000
open Go.RowKit Go.Maps

theorem perm_map {α β : Type} (f : α → β) : ∀ (zs : List β) (gs : List α), zs.Perm (gs.map f) → ∃ ds : List α, ds.Perm gs ∧ zs = ds.map f
  | [], gs, h => by
    have e : gs.map f = [] := h.symm.eq_nil
    obtain rfl : gs = [] := List.map_eq_nil_iff.1 e
    exact ⟨[], List.Perm.refl _, rfl⟩
  | z :: zs, gs, h => by
    obtain ⟨x, hx, rfl⟩ := List.mem_map.1 (h.subset List.mem_cons_self)
    obtain ⟨s, t, rfl⟩ := List.append_of_mem hx
    have p : (s ++ x :: t).Perm (x :: (s ++ t)) := List.perm_middle
    have q : (f x :: zs).Perm (f x :: (s ++ t).map f) := h.trans (p.map f)
    obtain ⟨ds, h1, h2⟩ := perm_map f zs (s ++ t) ((List.perm_cons _).1 q)
    exact ⟨x :: ds, (h1.cons x).trans p.symm, by rw [h2]; rfl⟩
theorem keys_gone {D : DataW Value} {Gg : Lit → Option Value} {gs : List Ge} (hD : ∀ l, (Gg l = none → Maps.has D l = false) ∧ ∀ v, Gg l = some v → Maps.has D l = true ∧ ∀ z, D.atKey l z = .held v)
    (hgg : ∀ l v, Gg l = some v ↔ ∃ x ∈ gs, l = .int .u64 x.ck ∧ v = pv x.p) (ho : gs.Pairwise fun a b => a.ck ≠ b.ck) {zs : List Int} (h : KeyS D zs) : zs.Perm (gs.map Ge.ck) := by
  refine (List.perm_ext_iff_of_nodup h.1 (List.pairwise_map.2 ho)).2 fun z => ?_
  rw [h.2 z, List.mem_map]
  constructor
  · intro hh
    cases hG : Gg (.int .u64 z) with
    | none => rw [(hD _).1 hG] at hh; cases hh
    | some v =>
      obtain ⟨x, hx, e, -⟩ := (hgg _ _).1 hG
      exact ⟨x, hx, by simpa using e.symm⟩
  · rintro ⟨x, hx, rfl⟩
    exact ((hD _).2 _ ((hgg _ _).2 ⟨x, hx, rfl, rfl⟩)).1
/-- What is gone, rising by Cookies. -/
theorem gone_rising {D : DataW Value} {Gg : Lit → Option Value} {gs : List Ge} (hD : ∀ l, (Gg l = none → Maps.has D l = false) ∧ ∀ v, Gg l = some v → Maps.has D l = true ∧ ∀ z, D.atKey l z = .held v)
    (hgg : ∀ l v, Gg l = some v ↔ ∃ x ∈ gs, l = .int .u64 x.ck ∧ v = pv x.p) (ho : gs.Pairwise fun a b => a.ck ≠ b.ck) {zs : List Int} (h : KeyS D zs) (hs : zs.Pairwise (· ≤ ·)) : ∃ ds : List Ge, ds.Perm gs ∧ zs = ds.map Ge.ck ∧ ds.Pairwise fun a b => a.ck < b.ck := by
  obtain ⟨ds, h1, rfl⟩ := perm_map Ge.ck zs gs (keys_gone hD hgg ho h)
  refine ⟨ds, h1, rfl, ?_⟩
  have hn : (ds.map Ge.ck).Pairwise (· ≠ ·) := h.1
  exact ((List.pairwise_map.1 hs).and (List.pairwise_map.1 hn)).imp fun ⟨a, b⟩ => by omega
theorem keys_wide {D : DataW Value} {Gg : Lit → Option Value} {gs : List Ge} (hD : ∀ l, (Gg l = none → Maps.has D l = false) ∧ ∀ v, Gg l = some v → Maps.has D l = true ∧ ∀ z, D.atKey l z = .held v)
    (hgg : ∀ l v, Gg l = some v ↔ ∃ x ∈ gs, l = .int .u64 x.ck ∧ v = pv x.p) (hf : ∀ x ∈ gs, InB x.ck) : ∀ l, Maps.has D l = true → ∃ z : Int, (Lit.int .u64 z).wf = true ∧ l = .int .u64 z := fun l hl => by
  cases hG : Gg l with
  | none => rw [(hD l).1 hG] at hl; cases hl
  | some v =>
    obtain ⟨x, hx, rfl, -⟩ := (hgg _ _).1 hG
    exact ⟨x.ck, wfU (hf x hx), rfl⟩
end Go.Proofs.YtdehlnaoehjehaaGreatDoor
namespace Go.Proofs.YtdehlnaoehjehaaGreatDoor
set_option maxRecDepth 100000
open Go.RowKit Go.Maps

def Ge.vw (x : Ge) : Hel := ⟨⟨0, zf, [], x.ck⟩, x.pk, x.bt⟩
section
variable {ops : Array Oper} {rest : List Oper} {o : Oper} {a : Act} {w : World} {Q : Exit → Act → World → Prop}
/-- An operation that yields a value and turns nothing. -/
theorem stepVal (v : Value) (hw : Region.wanted o (yielded ops a.tmps) = true) (hr : (execOp a.eval o).run Tryz.prog w = .ok (.value v) w) (hk : wpList Tryz.prog ops Q rest (a.put o.dst v) w) : wpList Tryz.prog ops Q (o :: rest) a w := by
  unfold wpList
  rw [if_pos hw]
  refine Or.inl ?_
  unfold Oper.wp
  rw [hr]
  exact hk
theorem runBldC (x : Operand) (ho : o.op = .build 35 #[(3, x)]) (ck : Int) (hx : a.eval x = .int .u64 ck) : (execOp a.eval o).run Tryz.prog w = .ok (.value (.agg (rlc ⟨0, zf, [], ck⟩ nilS))) w := by
  unfold execOp
  simp only [ho, hx, List.map_toArray, List.map_cons, List.map_nil, Sem.run_bind, Sem.run_pure]
  show _ = _
  kernel_rfl
end
def gcl (ds : List Ge) : List Value := cel hen (ds.map fun x => (x.vw, nilS))
/-- Where Gone is, i Cookies being done. -/
structure Gnp (w1 : World) (ds : List Ge) (i : Nat) (v : Value) (wr : World) : Prop where
  low : Below w1.heap.size w1 wr
  st : Rw (fun b => w1.heap.size ≤ b) 27 52 wr v i (gcl (ds.take i))
/-- What Gone answers. -/
def GnP (w : World) (gs : List Ge) (e : Ending) (w' : World) : Prop := ∃ (v : Value) (ds : List Ge), e = .returned v ∧ ds.Perm gs ∧ (ds.Pairwise fun a b => a.ck < b.ck) ∧ Below w.heap.size w w' ∧ Hels (fun b => w.heap.size ≤ b) w' v (ds.map Ge.vw) ∧ Rw (fun b => w.heap.size ≤ b) 27 52 w' v ds.length (gcl ds)
theorem Gnp.fin {w1 : World} {ds : List Ge} {v : Value} {wr : World} (h : Gnp w1 ds ds.length v wr) (hl : ds.length < 2147483648) : Hels (fun b => w1.heap.size ≤ b) wr v (ds.map Ge.vw) := by
  have hR := h.st
  rw [List.take_length] at hR
  rcases hR with ⟨h1, ⟨rfl, h0⟩ | ⟨g, o, cap, cur, rfl, hb, hg, hc1, hc2, hc3⟩⟩
  · obtain rfl : ds = [] := List.eq_nil_of_length_eq_zero h0
    exact Lst.nil _ _ _ _
  · refine ⟨_, cap, by rw [List.length_map], by rw [List.length_map]; exact hc1, by rw [List.length_map]; omega, (fun h => by cases h), fun _ => ⟨g, o, hb, rfl, fun j hj => ?_⟩⟩
    rw [List.length_map] at hj
    refine ⟨nilS, fun i hi => ?_, by rw [List.getElem_map]; exact Lst.nil _ _ _ _⟩
    have hb1 : j * 27 + i < ds.length * 27 := by omega
    show wr.cell? ⟨g, o + j * 27 + i, none⟩ = _
    rw [cell_of_row _ _ _ _ _ _ hg, Nat.add_assoc, cells_at hc3 hb1]
    unfold gcl
    rw [cel_at hen_len _ j i (by rw [List.length_map]; exact hj) hi]
    simp [hen]
theorem gcl_next {ds : List Ge} {i : Nat} (hi : i < ds.length) : gcl (ds.take (i + 1)) = gcl (ds.take i) ++ (hdc ds[i].vw nilS).toList := by
  rw [List.take_add_one, List.getElem?_eq_getElem hi]
  simp only [Option.toList, List.map_append, List.map_cons, List.map_nil, gcl, cel, List.flatMap_append, List.flatMap_cons, List.flatMap_nil, List.append_nil, hen]
set_option maxHeartbeats 3200000 in
set_option maxRecDepth 100000 in
theorem gone_flows {S : Nat → Prop} (w : World) (g : Nat) (room ad : Int) (es : List Fe) (gs : List Ge) (h : Fl S w g room ad es gs) (hgl : gs.length < 2147483000) :
    Calls Tryz.prog 18 #[pv g] w (GnP w gs) := by
  obtain ⟨o, vm, br, bp, bg, Gr, Gp, Gg, h1, h2⟩ := h
  obtain ⟨-, -, -, -, c4⟩ := h1.cells
  have hTa : ∀ x ∈ gs, TaM S o w x := h1.tal
  have hM := h1.mg
  obtain ⟨D, hown, hsz, hD⟩ := h1.mg
  have hfig := h2.fig
  have HS : Hid (∀ w0, w0 = w.alloc (.cells #[.map (some bg)] 91) → Calls Tryz.prog 55 #[.func (.func 96) #[] #[.pointer (some ⟨w.heap.size, 0, none⟩)]] w0 fun e w1 => ∃ (ao : Option Addr) (cap : Nat) (ds : List Ge), e = .returned (.slice ao ds.length cap) ∧ ds.Perm gs ∧ (ds.Pairwise fun a b => a.ck < b.ck) ∧ Below w.heap.size w w1 ∧ (0 < ds.length → ∃ gl, ao = some ⟨gl, 0, none⟩ ∧ gl < w1.heap.size ∧ ∀ j (hj : j < ds.length), w1.cell? ⟨gl, j, none⟩ = some (.int .u64 ds[j].ck))) := fun w0 hw0 => by
    have hB0 : Below w.heap.size w w0 := by rw [hw0]; exact (Below.refl _ _).alloc (Nat.le_refl _) _
    have hs0 : w0.heap.size = w.heap.size + 1 := by rw [hw0]; simp
    have hc0 : w0.cell? ⟨w.heap.size, 0, none⟩ = some (.map (some bg)) := by
      rw [hw0, cell_of_row _ _ _ _ _ _ (heap_alloc_new _ _)]; rfl
    have hown0 : w0.ownsMap Tryz.prog 28 tok bg gs.length D := by
      have hbl := hown.lt
      obtain ⟨es', clock, hb, Ft, hs, hD'⟩ := hown
      exact ⟨es', clock, (hB0.block bg hbl).trans hb, Ft, hs, hD'⟩
    refine (sortedU_any w.heap.size bg gs.length D (keys_wide hD h2.gg fun x hx => (h2.fig x hx).1) (by omega) (fun xs hxs => ?_) w0 (by omega) hc0 hown0).mono ?_
    · have := (keys_gone hD h2.gg h2.once hxs).length_eq
      rw [List.length_map] at this
      omega
    · rintro e w1 ⟨v, zs, rfl, hk, hpw, hR, hB⟩
      obtain ⟨ds, hp, rfl, hpd⟩ := gone_rising hD h2.gg h2.once hk hpw
      have hB1 : Below w.heap.size w w1 := hB0.trans (hB.mono hB0.size)
      rcases hR with ⟨rfl, hz⟩ | ⟨gl, cap, rfl, hgB, hDt⟩
      · have e0 : ds = [] := by simpa using hz
        subst e0
        exact ⟨none, 0, [], rfl, hp, hpd, hB1, fun h => by simp at h⟩
      · refine ⟨_, cap, ds, by rw [List.length_map], hp, hpd, hB1, fun _ => ⟨gl, rfl, hDt.lt, fun j hj => ?_⟩⟩
        have := hDt.cell j (by simpa using hj)
        rw [Nat.zero_add] at this
        rw [this]
        simp [hj]
  have HX : Hid (∀ wx x, Below w.heap.size w wx → x ∈ gs → wx.cell? ⟨g, 4, none⟩ = some (.map (some bg)) ∧ (Instr.lookup 91 (.map (some bg)) (.int .u64 x.ck) false).run Tryz.prog wx = .ok (pv x.p) wx ∧ wx.rangeAt x.p 0 (#[Value.int .u64 x.pk, Value.int .u64 x.bt] : Array Value).toList) := fun wx x hb hx => by
    have hG : Gg (.int .u64 x.ck) = some (pv x.p) := (h2.gg _ _).2 ⟨x, hx, rfl, rfl⟩
    have hMx : Mp wx 28 bg gs.length Gg := hM.carry (hb.block _ hM.lt)
    have hl := hMx.look lawU Tryz.underlying91 (zeroPT wx) (key_u (hfig x hx).1)
    rw [hG] at hl
    have ht := (hTa x hx).h
    exact ⟨cell_on hb c4, hl, row_range ((hb.block _ (Array.getElem?_eq_some_iff.1 ht).1).trans ht)⟩
  obtain ⟨iR, hiR, hiz, his, -⟩ := info_parts infoHELD
  clear h1 h2 hTa hM hown hsz hD hfig
  go_enter Tryz.func18, Tryz.ntmps18
  go_upto_region 5 with (first
    | (go_at_call 56; refine (keysU_any bg w).mono ?_; rintro e w0 ⟨rfl, hw0⟩; have HS1 := hid (HS.out w0 hw0); clear HS hw0)
    | (go_at_call 55; refine (HS1.out).mono ?_; rintro e w1 ⟨ao, cap, ds, rfl, q1, q2, q3, q4⟩; have HQ := hid (And.intro q1 (And.intro q2 (And.intro q3 q4))); clear q1 q2 q3 q4 HS1))
  have hlen : ds.length < 2147483000 := by rw [HQ.out.1.length_eq]; exact hgl
  go_loopw [3, 15] (fun v i wr => ∃ k : Nat, k ≤ ds.length ∧ i = .int .i64 k ∧ Gnp w1 ds k v wr) (fun _ i _ => ds.length - (intOf i).toNat)
  case atStart => exact ⟨0, by omega, rfl, Below.refl _ _, Rw.nil _ _ _ _⟩
  case round =>
    obtain ⟨k, hk, rfl, hrel⟩ := hrel
    generalize wr = wx at *
    obtain ⟨ao3, cap3, rfl⟩ : ∃ ao3 cap3, _ = Value.slice ao3 k cap3 := hrel.st.form
    have HV := hid hrel
    clear hrel
    by_cases hlt : k < ds.length
    · obtain ⟨hp, hso, hb1, hR⟩ := HQ.out
      obtain ⟨x, hx⟩ : ∃ x, x = ds[k] := ⟨_, rfl⟩
      have hxe : x ∈ gs := hp.subset (hx ▸ List.getElem_mem hlt)
      obtain ⟨gl, rfl, hgl1, hcl⟩ := hR (by omega)
      have hL := HV.out.low
      have hBx : Below w.heap.size w wx := hb1.trans (hL.mono hb1.size)
      have d0 : wx.cell? ⟨gl, k, none⟩ = some (.int .u64 x.ck) := by rw [hx]; exact cell_on hL (hcl k hlt)
      obtain ⟨c4x, hlk, hrc⟩ := HX.out wx x hBx hxe
      have HRc := hid hrc
      have HN : Hid (∀ w3, w3 = wx.alloc (.cells (hdc x.vw nilS) 52) → Rw (fun b => w1.heap.size ≤ b ∧ (Value.slice ao3 k cap3).ownBlock = some b) 27 52 w3 (.slice ao3 k cap3) k (gcl (ds.take k)) ∧ (∀ j z, (hdc x.vw nilS).toList[j]? = some z → w3.cell? (Addr.add ⟨wx.heap.size, 0, none⟩ j) = some z) ∧
          ∀ w4 v4, Apd w3 (.slice ao3 k cap3) w4 → (∀ S, Rw S 27 52 w3 (.slice ao3 k cap3) k (gcl (ds.take k)) → Rw (fun b => S b ∨ w3.heap.size ≤ b) 27 52 w4 v4 (k + 1) (gcl (ds.take k) ++ (hdc x.vw nilS).toList)) → Gnp w1 ds (k + 1) v4 w4) := fun w3 h3 => by
        have hB3 : Below wx.heap.size wx w3 := by rw [h3]; exact (Below.refl _ _).alloc (Nat.le_refl _) _
        have hRr := HV.out.st
        have hRs : Rw (fun b => w1.heap.size ≤ b ∧ (Value.slice ao3 k cap3).ownBlock = some b) 27 52 w3 (.slice ao3 k cap3) k (gcl (ds.take k)) := hRr.self.carry fun b hb hS => ⟨hS, hB3.block b hb⟩
        refine ⟨hRs, fun j z hz => ?_, fun w4 v4 hA hR4 => ⟨?_, ?_⟩⟩
        · rw [Addr.add_lit, Nat.zero_add, h3, cell_of_row _ _ _ _ _ _ (heap_alloc_new _ _), ← hz]; simp
        · refine ⟨hA.os.trans (hB3.os.trans hL.os), hA.tape.trans (hB3.tape.trans hL.tape), hA.output.trans (hB3.output.trans hL.output), by have := hA.size; have := hB3.size; have := hL.size; omega, fun b hb => ?_⟩
          have hs1 := hL.size
          have hs3 := hB3.size
          rw [hA.block b (by omega) (fun e => by have := hRr.own b e; omega), hB3.block b (by omega), hL.block b hb]
        · rw [gcl_next hlt, ← hx]
          exact (hR4 _ hRs).carry fun b _ hS => ⟨by
            have := hB3.size; have := hL.size
            rcases hS with q | q
            · exact q.1
            · omega, rfl⟩
      have hw1 : IntKind.i64.wrap ((k : Int) + 1) = (k : Int) + 1 := by rw [IntKind.wrap_i64]; omega
      clear hp hso hb1 hR hxe hcl hL hBx hx hrc HV hgl1
      obtain ⟨y1, y2, y3⟩ := HN.out _ rfl
      have HY1 := hid y1
      have HY2 := hid y2
      have HY3 := hid y3
      have H1c : Hid (∀ z ∈ (hdc x.vw nilS).toList, z.oneCell' = true) := fun z hz => Array.all_eq_true'.1 (hdc_one rfl) z (by simpa using hz)
      clear y1 y2 y3 HN
      go_upto_region 8 with (first
        | (refine stepVal (.agg (rlc ⟨0, zf, [], x.ck⟩ nilS)) rfl (runBldC (.tmp 20) rfl x.ck rfl) ?_)
        | (refine ldMid 50 (.tmp 29) rfl rfl x.p 0 rfl #[.int .u64 x.pk, .int .u64 x.bt] _ Tryz.underlying50 rfl (size_cnt _ _) HRc.out ?_)
        | (refine stepVal (.agg (hdc x.vw nilS)) rfl (runBldH (.tmp 21) (.tmp 30) rfl x.vw nilS rfl rfl) ?_)
        | (refine bldSl 45 52 (.tmp 31) rfl rfl (hdc x.vw nilS) rfl Tryz.underlying45 iR _ 27 hiR hiz his (hdc_size _ _) (by omega) (by omega) ?_)
        | (refine appRw (.tmp 19) (.tmp 32) 45 rfl rfl (k := 27) (t := 52) (n := k) (m := 1) (c := 1) (us := (hdc x.vw nilS).toList) (ad := ⟨wx.heap.size, 0, none⟩) rfl rfl Tryz.underlying45 infoHELD (hdc_size _ _) (by omega) (by omega) HY1.out (hen_len (x.vw, nilS)) HY2.out H1c.out (by omega) (Or.inl (by omega)) ?_; intro v4 w4 hA4 hR4; have hG4 := HY3.out w4 v4 hA4 hR4; obtain ⟨s4, c5, rfl⟩ : ∃ s4 c5, v4 = .slice s4 (k + 1) c5 := hG4.st.form; have HG4 := hid hG4; clear hA4 hR4 hG4))
      clear HY1 HY2 HY3 H1c HRc hlk c4x
      go_wp2
      go_roundw
      case rel => exact ⟨k + 1, by omega, by go_num, HG4.out⟩
      case measure => simp [intOf]; omega
    · obtain rfl : k = ds.length := by omega
      obtain ⟨hp, hso, hb1, hR⟩ := HQ.out
      have HE : Hid (GnP w gs (.returned (.slice ao3 ds.length cap3)) wx) := by
        refine ⟨_, ds, rfl, hp, hso, hb1.trans (HV.out.low.mono hb1.size), ?_⟩
        refine ⟨Hels.carry (fun b _ hS => ⟨by have := hb1.size; omega, rfl⟩) (HV.out.fin (by omega)), ?_⟩
        have q := HV.out.st
        rw [List.take_length] at q
        exact q.carry fun b _ hS => ⟨by have := hb1.size; omega, rfl⟩
      clear hp hso hb1 hR HV HQ
      go_wp2
      go_ret
      exact HE.out
end Go.Proofs.YtdehlnaoehjehaaGreatDoor
