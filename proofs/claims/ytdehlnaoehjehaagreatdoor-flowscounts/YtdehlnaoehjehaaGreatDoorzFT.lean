/-
  Proved here: slices.SortedFunc over the rules' map: a new slice of all rules, by falling rank and rising number. Condition: fewer than 2 to 31 rules.
-/
/-
  Proved here: inOrder of package flows: a new slice of all rules, by falling rank and rising number. Condition: fewer than 2 to 31 rules.
-/
import Derived.Test.YtdehlnaoehjehaaGreatDoorzFO
namespace Go.Proofs.YtdehlnaoehjehaaGreatDoor
set_option maxRecDepth 100000
open Go.RowKit Go.Maps

/-- Is a rule ahead of another one? -/
def ltE (a b : Fe) : Bool := decide (b.r.rk < a.r.rk) || (decide (a.r.rk = b.r.rk) && decide (a.k < b.k))
def cfE (a b : Fe) : Int := orI (cmpI b.r.rk a.r.rk) (cmpI a.k b.k)
theorem ltOf_cfE (a b : Fe) : decide (cfE a b < 0) = ltE a b := by
  unfold cfE ltE orI cmpI
  by_cases h1 : b.r.rk < a.r.rk
  · simp [h1]
  · by_cases h2 : a.r.rk < b.r.rk
    · have h3 : ¬ a.r.rk = b.r.rk := by omega
      simp [h1, h2, h3]
    · have h3 : a.r.rk = b.r.rk := by omega
      by_cases h4 : a.k < b.k
      · simp [h3, h4]
      · by_cases h5 : b.k < a.k <;> simp [h3, h4, h5]
/-- The rules that are there, with that they are. -/
abbrev Mem (es : List Fe) := { e : Fe // e ∈ es }
def cfM (es : List Fe) (a b : Mem es) : Int := cfE a.1 b.1
theorem ltM (es : List Fe) (a b : Mem es) : ltOf (cfM es) a b = ltE a.1 b.1 := ltOf_cfE a.1 b.1
theorem ltE_iff {a b : Fe} : ltE a b = true ↔ b.r.rk < a.r.rk ∨ (a.r.rk = b.r.rk ∧ a.k < b.k) := by simp [ltE]
theorem ltE_no {a b : Fe} : ltE a b = false ↔ ¬ (b.r.rk < a.r.rk ∨ (a.r.rk = b.r.rk ∧ a.k < b.k)) := by rw [← ltE_iff]; simp
theorem swoM (es : List Fe) : Go.Sort.SWO (ltOf (cfM es)) where
  irrefl x := by rw [ltM, ltE_no]; omega
  trans x y z h1 h2 := by rw [ltM, ltE_iff] at *; omega
  ntrans x y z h1 h2 := by rw [ltM, ltE_no] at *; omega
/-- What has been collected are the rules, in some order. -/
theorem vals_perm {D : DataW Value} {Gr : Lit → Option Value} {es : List Fe} {xs : List Nat} (hv : Vals D xs) (hD : ∀ l, (Gr l = none → Maps.has D l = false) ∧ ∀ v, Gr l = some v → Maps.has D l = true ∧ ∀ z, D.atKey l z = .held v)
    (hg : ∀ l v, Gr l = some v ↔ ∃ e ∈ es, l = .int .i64 e.k ∧ v = pv e.p) (hn : es.Pairwise fun a b => a.k < b.k) : ∃ dl : List Fe, dl.Perm es ∧ xs = dl.map (·.p) := by
  obtain ⟨ps, rfl, nd, hm, hval⟩ := hv
  have h1 : ∀ q ∈ ps, ∃ e ∈ es, q = (.int .i64 e.k, e.p) := fun q hq => by
    have hh := (hm q.1).1 (List.mem_map_of_mem hq)
    cases hG : Gr q.1 with
    | none => rw [(hD q.1).1 hG] at hh; cases hh
    | some v =>
      obtain ⟨e, he, e1, e2⟩ := (hg q.1 v).1 hG
      have h3 := ((hD q.1).2 v hG).2 (.held v)
      rw [hval q hq, e2] at h3
      refine ⟨e, he, Prod.ext e1 ?_⟩
      simpa using h3
  obtain ⟨dl, hl, hd⟩ := pickA (n := ps.length) (p := fun i (e : Fe) => e ∈ es ∧ ∀ h : i < ps.length, ps[i] = (.int .i64 e.k, e.p)) (fun i hi => by
    obtain ⟨e, he, h2⟩ := h1 ps[i] (List.getElem_mem hi)
    exact ⟨e, he, fun _ => h2⟩)
  have hps : ps = dl.map fun e => (.int .i64 e.k, e.p) := by
    apply List.ext_getElem
    · simp [hl]
    · intro i h2 h3
      rw [List.getElem_map]
      exact (hd i (by omega)).2 h2
  have hdm : ∀ e ∈ dl, e ∈ es := fun e he => by
    obtain ⟨i, hi, rfl⟩ := List.getElem_of_mem he
    exact (hd i hi).1
  refine ⟨dl, ?_, by rw [hps]; simp⟩
  have n1 : dl.Nodup := by
    rw [hps, List.map_map] at nd
    exact List.Pairwise.of_map _ (fun a b h e => h (by rw [e])) nd
  have n2 : es.Nodup := hn.imp fun h e => by subst e; omega
  refine (List.perm_ext_iff_of_nodup n1 n2).2 fun e => ⟨hdm e, fun he => ?_⟩
  have hk : (Lit.int .i64 e.k) ∈ ps.map (·.1) := (hm _).2 ((hD _).2 (pv e.p) ((hg _ _).2 ⟨e, he, rfl, rfl⟩)).1
  rw [hps, List.map_map] at hk
  obtain ⟨e', he', e1⟩ := List.mem_map.1 hk
  have e2 : e'.k = e.k := by simpa using e1
  have : e' = e := by
    have h5 := hdm e' he'
    obtain ⟨i, hi, rfl⟩ := List.getElem_of_mem he
    obtain ⟨j, hj, rfl⟩ := List.getElem_of_mem h5
    rcases Nat.lt_trichotomy i j with h | h | h
    · have := List.pairwise_iff_getElem.1 hn i j hi hj h; omega
    · subst h; rfl
    · have := List.pairwise_iff_getElem.1 hn j i hj hi h; omega
  exact this ▸ he'
theorem heap_srt {α : Type} [Inhabited α] {enc : α → Value} {w : World} {g n : Nat} {os : Array Obj} {cur : Array Value} {e : TypeId} {fr : Nat × Nat} (d : Array α) (hb : w.heap[g]? = some (.cells cur e fr)) :
    (Go.Sort.grow (Go.Sort.putRow enc (Go.Sort.ahead w n) g 0 d) os).heap[g]? = some (.cells (Go.Sort.putCells enc 0 d cur) e fr) := by
  have hg : g < w.heap.size := (Array.getElem?_eq_some_iff.1 hb).1
  rw [Go.Sort.heap_grow_old _ _ (by simpa using hg)]
  simp [Go.Sort.putRow, Go.Sort.mapBlock, Go.Sort.ahead, Array.getElem?_modify, hb, Go.Sort.onCells]
theorem other_srt {α : Type} [Inhabited α] {enc : α → Value} {w : World} {g n : Nat} {os : Array Obj} (d : Array α) : ∀ k, k < w.heap.size → k ≠ g → (Go.Sort.grow (Go.Sort.putRow enc (Go.Sort.ahead w n) g 0 d) os).heap[k]? = w.heap[k]? := by
  intro k hk hne
  rw [Go.Sort.heap_grow_old _ _ (by simpa using hk)]
  simp [Go.Sort.putRow, Go.Sort.mapBlock, Go.Sort.ahead, Array.getElem?_modify, hne.symm]
/-- What SortedFunc hands back. -/
def SoP (w : World) (es : List Fe) (e : Ending) (w' : World) : Prop := ∃ (v : Value) (ds : List Fe), e = .returned v ∧ ds.Perm es ∧ (ds.Pairwise fun a b => ltE b a = false) ∧ Below w.heap.size w w' ∧ Rw (fun b => w.heap.size ≤ b) 1 96 w' v ds.length (ds.map fun e => pv e.p)
/-- What the comparison reads of each rule. -/
def Rds (w : World) (es : List Fe) : Prop := ∀ e ∈ es, w.cell? ⟨e.p, 2, none⟩ = some (.int .i64 e.k) ∧ w.cell? ⟨e.p, 3, none⟩ = some (.int .i64 e.r.rk)
theorem Rds.on {w w' : World} {es : List Fe} (h : Rds w es) (hb : Below w.heap.size w w') : Rds w' es := fun e he => ⟨cell_on hb (h e he).1, cell_on hb (h e he).2⟩
set_option maxHeartbeats 1600000 in
set_option maxRecDepth 100000 in
/-- The sort itself, on a slice of rules of one's own. -/
theorem sortE_any (w : World) (es dl : List Fe) (v : Value) (B : Nat) (hp : dl.Perm es) (hr : Rds w es) (hB : ∀ e ∈ es, e.p < B) (hn : es.length < 2147483648) (h : w.ownsRow B 96 1 v dl.length (dl.map fun e => pv e.p)) (hv : v = .slice none 0 0 ↔ dl = []) :
    Calls Tryz.prog 127 #[v, .func (.func 91) #[] #[]] w fun e w' => e = .returned (.tuple #[]) ∧ ∃ ds : List Fe, ds.Perm es ∧ (ds.Pairwise fun a b => ltE b a = false) ∧ Below B w w' ∧ Rw (fun b => B ≤ b) 1 96 w' v ds.length (ds.map fun e => pv e.p) := by
  rcases h.2 with ⟨rfl, h0⟩ | ⟨g, cap, cur, rfl, hb, hg, h1, h2, h3, h4⟩
  · obtain rfl : dl = [] := hv.1 rfl
    have hcon := AnyF.slices_SortFunc_none { Tryz.sortE with } none 0 (.func (.func 91) #[] #[]) w
    change Calls Tryz.prog 127 _ _ _ at hcon
    refine hcon.mono ?_
    rintro e w' ⟨rfl, rfl⟩
    exact ⟨rfl, [], hp, List.Pairwise.nil, Below.refl _ _, Rw.nil _ _ _ _⟩
  · have hlen := hp.length_eq
    have hne : dl ≠ [] := fun e => by have := hv.2 e; cases this
    have hne' : es ≠ [] := fun e => by rw [e] at hp; exact hne (List.Perm.eq_nil hp)
    obtain ⟨e0, he0⟩ := List.exists_mem_of_ne_nil es hne'
    haveI : Inhabited (Mem es) := ⟨⟨e0, he0⟩⟩
    obtain ⟨dm, hdm⟩ : ∃ dm : List (Mem es), dm.map (·.1) = dl := ⟨dl.pmap (fun e h => ⟨e, h⟩) (fun e he => hp.subset he), by simp [List.map_pmap]⟩
    have hml : dm.length = dl.length := by rw [← hdm]; simp
    have hgl := (Array.getElem?_eq_some_iff.1 hg).1
    have hH : Go.Sort.Holds (fun x : Mem es => pv x.1.p) w g 0 dm.toArray := fun j hj => by
      have hj' : j < dm.length := by simpa using hj
      refine ⟨?_, by simp [World.frozen?, hg]⟩
      rw [cell_of_row _ _ _ _ _ _ hg]
      have h5 : (cur.toList.take (dl.length * 1))[j]? = (dl.map fun e => pv e.p)[j]? := by rw [h4]
      rw [List.getElem?_take_of_lt (by omega)] at h5
      rw [Nat.zero_add]
      have h6 : cur[j]? = (dl.map fun e => pv e.p)[j]? := by simpa using h5
      rw [h6, ← hdm, List.map_map]
      rw [List.getElem?_map, List.getElem?_eq_getElem hj']
      simp [hj']
    have hcmp : CmpLays1 Tryz.prog 91 #[] (fun x : Mem es => pv x.1.p) (cfM es) g 0 dm.toArray.size w := fun m os dk hs x y => by
      have rd : ∀ e ∈ es, ∀ k u, w.cell? ⟨e.p, k, none⟩ = some u → (sortWorld (fun x : Mem es => pv x.1.p) w g 0 m dk os).cell? ⟨e.p, k, none⟩ = some u := fun e he k u hu => by
        have hlt := cell_lt hu
        have hne : e.p ≠ g := fun e1 => by have := hB e he; omega
        unfold sortWorld
        rw [cell_same (other_srt dk e.p hlt hne)]; exact hu
      have hx := hr x.1 x.2
      have hy := hr y.1 y.2
      exact before_any x.1.p y.1.p x.1.r.rk x.1.k y.1.r.rk y.1.k _ ⟨rd _ y.2 _ _ hy.2, rd _ x.2 _ _ hx.2, rd _ x.2 _ _ hx.1, rd _ y.2 _ _ hy.1⟩
    have eg : ∀ args w, (callFunc 91 args).run Tryz.prog w = .ok (.enter 91 args) w := enters_of Tryz.func91 (by kernel_rfl) rfl
    have hcon := Any.slices_SortFunc Tryz.sortE (fun x : Mem es => pv x.1.p) (fun _ => rfl) (cfM es) (swoM es) 91 #[] g 0 cap dm.toArray w eg hcmp hH hgl (by simp; omega)
    change Calls Tryz.prog 127 _ _ _ at hcon
    rw [show dm.toArray.size = dl.length by simp [hml]] at hcon
    refine hcon.mono ?_
    rintro e w' ⟨rfl, d', n, os, hpm, hso, rfl⟩
    have hd1 : d'.size = dl.length := by rw [hpm.1]; simp [hml]
    have hpe : d'.toList.Perm dm := by
      have := hpm.2.2
      rw [← hd1] at this
      have e1 : d'.extract 0 d'.size = d' := by simp
      have e2 : dm.toArray.extract 0 d'.size = dm.toArray := by rw [hd1, ← hml]; simp
      rw [e1, e2] at this
      simpa using this
    refine ⟨rfl, d'.toList.map (·.1), ?_, ?_, ?_, ?_⟩
    · have := hpe.map (·.1)
      rw [hdm] at this
      exact this.trans hp
    · rw [List.pairwise_map, List.pairwise_iff_getElem]
      intro i j hi hj hij
      simp only [Array.length_toList] at hi hj
      have := hso i j (Nat.zero_le _) hij (by omega)
      rw [ltM, getElem!_pos d' i hi, getElem!_pos d' j hj] at this
      simpa using this
    · refine ⟨rfl, rfl, rfl, by unfold sortWorld; simp, fun k hk => ?_⟩
      rcases Nat.lt_or_ge k w.heap.size with h5 | h5
      · unfold sortWorld
        exact other_srt d' k h5 (by omega)
      · omega
    · refine ⟨by simp, Or.inr ⟨g, 0, cap, _, by simp [hd1], hb, heap_srt d' hg, by simp; omega, by simp [Go.Sort.putCells]; omega, ?_⟩⟩
      rw [List.drop_zero]
      apply List.ext_getElem?
      intro j
      rw [List.getElem?_take]
      by_cases hj : j < d'.size
      · rw [if_pos (by simpa using hj), List.map_map, List.getElem?_map, Array.getElem?_toList]
        have hjc : j < cur.size := by omega
        simp [Go.Sort.putCells, hj, hjc]
      · rw [if_neg (by simpa using hj), List.getElem?_eq_none (by simp; omega)]
end Go.Proofs.YtdehlnaoehjehaaGreatDoor
namespace Go.Proofs.YtdehlnaoehjehaaGreatDoor
set_option maxRecDepth 100000
open Go.RowKit Go.Maps

theorem sorted_any (w : World) (Bm b nn : Nat) (D : DataW Value) (Gr : Lit → Option Value) (es : List Fe) (hD : ∀ l, (Gr l = none → Maps.has D l = false) ∧ ∀ v, Gr l = some v → Maps.has D l = true ∧ ∀ z, D.atKey l z = .held v)
    (hg : ∀ l v, Gr l = some v ↔ ∃ e ∈ es, l = .int .i64 e.k ∧ v = pv e.p) (hn : es.Pairwise fun a b => a.k < b.k) (hsz : Maps.size D < 2147483648) (hlen : es.length < 2147483648) (hr : Rds w es) (hBm : Bm < w.heap.size) (hm : w.cell? ⟨Bm, 0, none⟩ = some (.map (some b))) (hown : w.ownsMap Tryz.prog 3 tok b nn D) :
    Calls Tryz.prog 89 #[.func (.func 128) #[] #[.pointer (some ⟨Bm, 0, none⟩)], .func (.func 91) #[] #[]] w (SoP w es) := by
  have hDp : ∀ l, Maps.has D l = true → ∃ p, ∀ zd, D.atKey l zd = .held (pv p) := fun l hl => by
    cases hG : Gr l with
    | none => rw [(hD l).1 hG] at hl; cases hl
    | some v =>
      obtain ⟨e, -, -, rfl⟩ := (hg l v).1 hG
      exact ⟨e.p, ((hD l).2 _ hG).2⟩
  have HC := hid (collect_any Bm b nn D hDp hsz w hBm hm hown)
  have HS : Hid (∀ w1 v xs, Vals D xs → w1.ownsRow w.heap.size 96 1 v xs.length (xs.map pv) → (v = .slice none 0 0 ↔ xs = []) → Below w.heap.size w w1 → (∃ ao n cap, v = .slice ao n cap) ∧ Calls Tryz.prog 127 #[v, .func (.func 91) #[] #[]] w1 fun e w' => e = .returned (.tuple #[]) ∧ SoP w es (.returned v) w') := fun w1 v xs h1 h2 h3 h4 => by
    obtain ⟨dl, hp, rfl⟩ := vals_perm h1 hD hg hn
    refine ⟨by obtain ⟨ao, cap, e⟩ := own_form h2; exact ⟨_, _, _, e⟩, ?_⟩
    refine (sortE_any w1 es dl v w.heap.size hp (hr.on h4) (fun e he => cell_lt (hr e he).1) hlen (by rw [List.length_map, List.map_map] at h2; exact h2) (by rw [h3]; simp)).mono ?_
    rintro e w' ⟨rfl, ds, q1, q2, q3, q4⟩
    exact ⟨rfl, v, ds, rfl, q1, q2, h4.trans q3, q4⟩
  clear hown hm hr hDp hD hg hn
  go_enter Tryz.func89, Tryz.ntmps89
  go_wp2_with (first
    | (go_at_call 126; refine (HC.out).mono ?_; rintro e w1 ⟨v, xs, rfl, h1, h2, h3, h4⟩; obtain ⟨⟨ao, n, cap, rfl⟩, hs⟩ := HS.out w1 v xs h1 h2 h3 h4; have HSS := hid hs; clear h1 h2 h3 h4 hs HC)
    | (go_at_call 127; refine (HSS.out).mono ?_; rintro e w2 ⟨rfl, hp⟩; have HP := hid hp; clear hp HSS))
  go_ret
  exact HP.out
theorem Mp.data {w : World} {K : TypeId} {b n : Nat} {G : Lit → Option Value} (h : Mp w K b n G) : ∃ D : DataW Value, w.ownsMap Tryz.prog K tok b n D ∧ Maps.size D = n ∧ ∀ l, (G l = none → Maps.has D l = false) ∧ ∀ v, G l = some v → Maps.has D l = true ∧ ∀ z, D.atKey l z = .held v := h
theorem FlM.rds {S : Nat → Prop} {o : Nat → Fg} {w : World} {g : Nat} {vm : Value} {br bp bg : Nat} {Gr Gp Gg : Lit → Option Value} {room : Int} {es : List Fe} {gs : List Ge} {ad : Int} (h : FlM S o w g vm br bp bg Gr Gp Gg room es gs ad) : Rds w es := fun e he => by
  have h1 := (h.ent e he).h
  refine ⟨by rw [cell_of_row _ _ _ _ _ _ h1]; exact (fec_at e).2.2, ?_⟩
  rw [cell_of_row _ _ _ _ _ _ h1, show 3 = 3 + 0 from rfl, fec_rl e 0 (by omega)]
  exact rc_rank _ _ _ _
/-- The cells of a table. -/
theorem FlM.cells {S : Nat → Prop} {o : Nat → Fg} {w : World} {g : Nat} {vm : Value} {br bp bg : Nat} {Gr Gp Gg : Lit → Option Value} {room : Int} {es : List Fe} {gs : List Ge} {ad : Int} (h : FlM S o w g vm br bp bg Gr Gp Gg room es gs ad) : w.cell? ⟨g, 0, none⟩ = some vm ∧ w.cell? ⟨g, 1, none⟩ = some (.map (some br)) ∧ w.cell? ⟨g, 2, none⟩ = some (.map (some bp)) ∧ w.cell? ⟨g, 3, none⟩ = some (.int .i64 room) ∧ w.cell? ⟨g, 4, none⟩ = some (.map (some bg)) := by
  refine ⟨?_, ?_, ?_, ?_, ?_⟩ <;> rw [cell_of_row _ _ _ _ _ _ h.hg] <;> rfl
theorem inOrder_any {S : Nat → Prop} {o : Nat → Fg} (w : World) (g : Nat) (vm : Value) (br bp bg : Nat) (Gr Gp Gg : Lit → Option Value) (room : Int) (es : List Fe) (gs : List Ge) (ad : Int) (h : FlM S o w g vm br bp bg Gr Gp Gg room es gs ad) (hI : FInv Gr Gp Gg room es gs ad) : Calls Tryz.prog 54 #[pv g] w (SoP w es) := by
  obtain ⟨D, hown, hsz, hD⟩ := h.mr.data
  have hlen : es.length < 2147483648 := by have := hI.len; have := hI.rm; omega
  have hB1 : Below w.heap.size w (w.alloc (.cells #[.map (some br)] 86)) := (Below.refl _ _).alloc (Nat.le_refl _) _
  have hown1 : (w.alloc (.cells #[.map (some br)] 86)).ownsMap Tryz.prog 3 tok br es.length D := by
    have hbl := hown.lt
    obtain ⟨es', clock, hb, Ft, hs, hD'⟩ := hown
    exact ⟨es', clock, (hB1.block br hbl).trans hb, Ft, hs, hD'⟩
  have HS := hid (sorted_any (w.alloc (.cells #[.map (some br)] 86)) w.heap.size br es.length D Gr es hD hI.gr hI.num (by omega) hlen (h.rds.on hB1) (by simp) (by rw [cell_of_row _ _ _ _ _ _ (heap_alloc_new _ _)]; rfl) hown1)
  obtain ⟨-, c1, -, -, -⟩ := h.cells
  have HB1 := hid hB1
  clear h hI hown hD hown1 hB1 hsz
  go_enter Tryz.func54, Tryz.ntmps54
  go_wp2_with (first
    | (go_at_call 90; refine (values_any br w).mono ?_; rintro e w1 ⟨rfl, rfl⟩)
    | (go_at_call 89; refine (HS.out).mono ?_; rintro e w2 ⟨v, ds, rfl, q1, q2, q3, q4⟩; have HP := hid (And.intro q1 (And.intro q2 (And.intro q3 q4))); clear q1 q2 q3 q4 HS))
  go_ret
  obtain ⟨q1, q2, q3, q4⟩ := HP.out
  exact ⟨v, ds, rfl, q1, q2, HB1.out.trans (q3.mono HB1.out.size), q4.carry fun b _ hb => ⟨by simp at hb; omega, rfl⟩⟩
end Go.Proofs.YtdehlnaoehjehaaGreatDoor
