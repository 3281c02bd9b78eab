/-
  Proved here: rules that came in as a list (open_rules); a table and a list of rules of one's own side by side (Bs). No condition.
-/
import Derived.Test.YtimenbkfkdpdcaaDoorO9
import Derived.Test.YtimenbkfkdpdcaaDoorWN
import Derived.Great.BuildSlice
namespace Go.Proofs.YtimenbkfkdpdcaaDoor
open Go.ChangeShapes Go.WideShapes Go.ChangeAt Go.RowKit Go.Deep

/-- A list of rules, to be read. -/
abbrev Rls (T : Nat → Prop) (w : World) (v : Value) (l : List RuV) : Prop := Lst T 25 RRu w v l
theorem open_rules {H : Type} {enc : TypeId × Value → H} {W : World} {v : Value} {d : DataW H} {p : List MemPlace} (h0 : DataW.Trod enc Tryd.prog W 0 (fun _ => true) true 49 v d p) (hlt : ∀ y ∈ p, y.block < W.heap.size) (hw : ∀ n ∈ d.weights Tryd.prog 49, n ≤ reachBytes) (hv : ∃ ao n c, v = .slice ao n c) :
    ∃ l, Rls (fun b => b < W.heap.size) W v l := by
  obtain ⟨fuel, hf⟩ := h0
  obtain ⟨ao, n, c, rfl⟩ := hv
  obtain ⟨v', l, hcs, hl⟩ := open_lst Tryd.underlying49 cellsRULE (by omega) (by decide +kernel) opens_rule hf hlt hw
  simp only [Value.cells] at hcs
  have : v' = .slice ao n c := by simpa using hcs.symm
  exact ⟨l, this ▸ hl⟩
def rvc (x : RuV) : Array Value := rc x.r x.m x.cp x.ck
def rvs (l : List RuV) : List Value := l.flatMap fun x => (rvc x).toList
theorem rvc_len (x : RuV) : (rvc x).toList.length = 25 := by simp [rvc, rc_size]
theorem rvs_app (a b : List RuV) : rvs (a ++ b) = rvs a ++ rvs b := by simp [rvs]
theorem rvs_one (x : RuV) : rvs [x] = (rvc x).toList := by simp [rvs]
theorem rvs_len : ∀ l : List RuV, (rvs l).length = l.length * 25
  | [] => rfl
  | q :: l => by
    have := rvs_len l
    rw [show rvs (q :: l) = (rvc q).toList ++ rvs l from rfl, List.length_append, rvc_len, this, List.length_cons]; omega
theorem rvs_at : ∀ (l : List RuV) (j i : Nat) (hj : j < l.length), i < 25 → (rvs l)[j * 25 + i]? = (rvc l[j])[i]?
  | q :: l, 0, i, _, hi => by
    rw [show rvs (q :: l) = (rvc q).toList ++ rvs l from rfl, List.getElem?_append_left (by rw [rvc_len]; omega)]
    simp
  | q :: l, j + 1, i, hj, hi => by
    rw [show rvs (q :: l) = (rvc q).toList ++ rvs l from rfl, List.getElem?_append_right (by rw [rvc_len]; omega), rvc_len, show (j + 1) * 25 + i - 25 = j * 25 + i by omega]
    exact rvs_at l j i (by simpa using hj) hi
theorem rvc_one {x : RuV} (h : x.cp.oneCell' = true) : (rvc x).all (·.oneCell') = true := by
  unfold rvc rc
  rw [Array.all_append, Array.all_append, row_one]
  simp [Value.oneCell'] at h ⊢
  exact h
/-- Rules by their places. -/
def numT (l : List RuV) : List Ru := l.mapIdx fun i x => ⟨(i : Int) + 1, x.r, x.m⟩
theorem numT_len (l : List RuV) : (numT l).length = l.length := by simp [numT]
theorem numT_app (l : List RuV) (x : RuV) : numT (l ++ [x]) = numT l ++ [⟨(l.length : Int) + 1, x.r, x.m⟩] := by simp [numT, List.mapIdx_append]
theorem mem_numT {l : List RuV} {u : Ru} : u ∈ numT l ↔ ∃ (j : Nat) (hj : j < l.length), u = ⟨(j : Int) + 1, l[j].r, l[j].m⟩ := by
  unfold numT
  rw [List.mem_mapIdx]
  constructor
  · rintro ⟨i, hi, rfl⟩; exact ⟨i, hi, rfl⟩
  · rintro ⟨i, hi, rfl⟩; exact ⟨i, hi, rfl⟩
/-- The table and the list. -/
def Bs (w wr : World) (v vi : Value) (In : List RuV) : Prop :=
  Below w.heap.size w wr ∧ (∃ SA : Nat → Prop, (∀ j, SA j → w.heap.size ≤ j ∧ j < wr.heap.size) ∧ Tbl SA wr v (numT In) In.length ∧ Rw (fun j => w.heap.size ≤ j ∧ ¬ SA j) 25 36 wr vi In.length (rvs In)) ∧ ∀ x ∈ In, x.cp.oneCell' = true
theorem Bs.tab {w wr : World} {v vi : Value} {In : List RuV} (h : Bs w wr v vi In) :
    ∃ S : Nat → Prop, Tbl S wr v (numT In) In.length ∧ Fresh S wr ∧ ¬ S 0 ∨ w.heap.size = 0 := by
  obtain ⟨hb, ⟨SA, h1, h2, h3⟩, h4⟩ := h
  refine ⟨fun j => SA j ∨ wr.heap.size ≤ j, ?_⟩
  by_cases h0 : w.heap.size = 0
  · exact Or.inr h0
  · refine Or.inl ⟨h2.carry fun b _ hS => ⟨Or.inl hS, rfl⟩, fun k hk => Or.inr hk, fun e => ?_⟩
    rcases e with e | e
    · have := (h1 0 e).1; omega
    · have := hb.size; omega
/-- Only new memory. -/
theorem Bs.more {w wr w' : World} {v vi : Value} {In : List RuV} (h : Bs w wr v vi In) (hn : Below wr.heap.size wr w') : Bs w w' v vi In := by
  obtain ⟨hb, ⟨SA, h1, h2, h3⟩, h4⟩ := h
  exact ⟨hb.trans (hn.mono hb.size), ⟨SA, fun j hj => ⟨(h1 j hj).1, Nat.lt_of_lt_of_le (h1 j hj).2 hn.size⟩, h2.carry fun b hb hS => ⟨hS, hn.block b hb⟩, h3.carry fun b hb hS => ⟨hS, hn.block b hb⟩⟩, h4⟩
theorem fold_set : ∀ (l : List Value) (k : Nat) (A : Array Value) (i : Nat), ((l.zipIdx k).foldl (fun (cs : Array Value) (x : Value × Nat) => cs.setIfInBounds (0 + x.2) x.1) A).size = A.size ∧ ((l.zipIdx k).foldl (fun (cs : Array Value) (x : Value × Nat) => cs.setIfInBounds (0 + x.2) x.1) A)[i]? = if k ≤ i ∧ i < k + l.length ∧ i < A.size then l[i - k]? else A[i]?
  | [], k, A, i => by
    simp
    omega
  | c :: l, k, A, i => by
    obtain ⟨h1, h2⟩ := fold_set l (k + 1) (A.setIfInBounds (0 + k) c) i
    simp only [List.zipIdx_cons, List.foldl_cons]
    refine ⟨by rw [h1]; simp, ?_⟩
    rw [h2, Array.getElem?_setIfInBounds, Array.size_setIfInBounds]
    simp only [Nat.zero_add, List.length_cons]
    by_cases h : k = i
    · subst h
      rw [if_neg (by omega), if_pos rfl]
      by_cases hs : k < A.size
      · rw [if_pos hs, if_pos ⟨by omega, by omega, hs⟩]; simp
      · rw [if_neg hs, if_neg (by omega), Array.getElem?_eq_none (by omega)]
    · rw [if_neg h]
      by_cases hq : k + 1 ≤ i ∧ i < k + 1 + l.length ∧ i < A.size
      · rw [if_pos hq, if_pos ⟨by omega, by omega, hq.2.2⟩, show i - k = (i - (k + 1)) + 1 by omega]; simp
      · rw [if_neg hq, if_neg (by omega)]
theorem fill_one (n : Nat) (A cs : Array Value) (hA : A.size = n) (hc : cs.size = n) : Instr.fill (fun i => some (i * n, n)) A [(0, .agg cs)] = some cs := by
  simp only [Instr.fill, Value.cells, Nat.zero_mul, Nat.zero_add]
  rw [if_neg (by simp [hA, hc])]
  refine congrArg some ?_
  apply Array.ext_getElem?
  intro i
  rw [← Array.foldl_toList, Array.toList_zipIdx]
  have h := (fold_set cs.toList 0 A i).2
  simp only [Nat.zero_add] at h
  rw [h, Array.length_toList, Nat.sub_zero]
  by_cases hi : i < n
  · rw [if_pos ⟨by omega, by omega, by omega⟩]; simp
  · rw [if_neg (by omega), Array.getElem?_eq_none (by omega), Array.getElem?_eq_none (by omega)]
/-- A slice of one thing is made. -/
theorem bldSl {ops : Array Oper} {rest : List Oper} {o : Oper} {a : Act} {w : World} {Q : Exit → Act → World → Prop} (t e : TypeId) (y : Operand) (ho : o.op = .buildSlice t 1 #[(0, y)]) (hg : o.guard = none) (cs : Array Value) (hy : a.eval y = .agg cs) (hu : Tryd.prog.underlying t = some (.slice e)) (ie : TypeInfo) (z : Value) (n : Nat) (hie : Tryd.prog.info? e = some ie) (hz : ie.zero = some z) (hsz : ie.size = n) (hn : cs.size = n) (hn0 : 0 < n) (hn1 : n ≤ 1000)
    (h : wpList Tryd.prog ops Q rest (a.put o.dst (.slice (some ⟨w.heap.size, 0, none⟩) 1 1)) (w.alloc (.cells cs e))) : wpList Tryd.prog ops Q (o :: rest) a w := by
  refine wpList_buildSlice hg t e 1 _ ho cs ie z hu hie hz (by rw [hsz, Nat.one_mul]; omega) (by rw [hsz, Nat.one_mul]; omega) ?_ h
  rw [hsz]
  have : (Array.map (fun (x : Nat × Operand) => (x.1, a.eval x.2)) #[(0, y)]).toList = [(0, .agg cs)] := by simp [hy]
  show Instr.fill _ _ (Array.map (fun (x : Nat × Operand) => (x.1, a.eval x.2)) #[(0, y)]).toList = _
  rw [this]
  exact fill_one n _ cs (by simp) hn
theorem Bs.form {w wr : World} {v vi : Value} {In : List RuV} (h : Bs w wr v vi In) : ∃ ao cap, vi = .slice ao In.length cap := by
  obtain ⟨-, ⟨SA, -, -, h3⟩, -⟩ := h
  exact h3.form
theorem Bs.tbl {w wr : World} {v vi : Value} {In : List RuV} (h : Bs w wr v vi In) : ∃ S, Tbl S wr v (numT In) In.length := by
  obtain ⟨-, ⟨SA, -, h2, -⟩, -⟩ := h
  exact ⟨SA, h2⟩
/-- The cells of the list. -/
theorem Bs.cells {w wr : World} {v : Value} {ao : Option Addr} {cap : Nat} {In : List RuV} (h : Bs w wr v (.slice ao In.length cap) In) (hn : 0 < In.length) :
    ∃ g o, ao = some ⟨g, o, none⟩ ∧ g < wr.heap.size ∧ ∀ (j : Nat) (hj : j < In.length) (i : Nat), i < 25 → wr.cell? ⟨g, o + j * 25 + i, none⟩ = (rvc In[j])[i]? := by
  obtain ⟨-, ⟨SA, -, -, hx, h3⟩, -⟩ := h
  rcases h3 with ⟨_, h0⟩ | ⟨g, o, cap', cur, he, hb1, hb2, hb3, hb4, hb5⟩
  · omega
  obtain ⟨rfl, rfl⟩ : ao = some ⟨g, o, none⟩ ∧ cap = cap' := by simpa using he
  refine ⟨g, o, rfl, (Array.getElem?_eq_some_iff.1 hb2).1, fun j hj i hi => ?_⟩
  have hlt : j * 25 + i < In.length * 25 := by omega
  rw [cell_of_row _ _ _ _ _ _ hb2, show o + j * 25 + i = o + (j * 25 + i) by omega, cells_at hb5 hlt, rvs_at In j i hj hi]
/-- A rule is added to both, or to neither. -/
theorem Bs.add {w wr : World} {v vi : Value} {In : List RuV} (h : Bs w wr v vi In) (x : RuV) (ht : Tab w) (hx : Wf x.m) (hc : x.cp.oneCell' = true) (hl : In.length < 1000) :
    Calls Tryd.prog 8 #[v, .agg (rvc x)] (wr.alloc (.cells (rvc x) 36)) fun e w' => (mOk x.m = false ∧ e = .returned (.tuple #[.int .i64 0, .int .i64 20]) ∧ Bs w w' v vi In) ∨
      (mOk x.m = true ∧ e = .returned (.tuple #[.int .i64 ((In.length : Int) + 1), .int .i64 0]) ∧ w'.heap[wr.heap.size]? = some (.cells (rvc x) 36 (0, 0)) ∧ ∀ w2, Below w'.heap.size w' w2 → Rw (fun _ => True) 25 36 w2 vi In.length (rvs In) ∧ ∀ w3 v3, Apd w2 vi w3 → (∀ S, Rw S 25 36 w2 vi In.length (rvs In) → Rw (fun b => S b ∨ w2.heap.size ≤ b) 25 36 w3 v3 (In.length + 1) (rvs In ++ (rvc x).toList)) → Bs w w3 v v3 (In ++ [x])) := by
  obtain ⟨hb, ⟨SA, h1, h2, h3⟩, h4⟩ := h
  have hpos := ht.pos
  obtain ⟨wq, hwq⟩ : ∃ wq, wq = wr.alloc (.cells (rvc x) 36) := ⟨_, rfl⟩
  have hn0 : Below wr.heap.size wr wq := by rw [hwq]; exact (Below.refl _ _).alloc (Nat.le_refl _) _
  have hgq : wq.heap[wr.heap.size]? = some (.cells (rvc x) 36 (0, 0)) := by rw [hwq]; exact heap_alloc_new _ _
  have hgl : wr.heap.size < wq.heap.size := (Array.getElem?_eq_some_iff.1 hgq).1
  have hgS : ¬ SA wr.heap.size := fun e => by have := (h1 _ e).2; omega
  rw [← hwq]
  replace hb := hb.trans (hn0.mono hb.size)
  replace h1 : ∀ j, SA j → w.heap.size ≤ j ∧ j < wq.heap.size := fun j hj => ⟨(h1 j hj).1, by have := (h1 j hj).2; omega⟩
  replace h2 : Tbl SA wq v (numT In) In.length := h2.carry fun b hb hS => ⟨hS, hn0.block b hb⟩
  replace h3 : Rw (fun j => w.heap.size ≤ j ∧ ¬ SA j) 25 36 wq vi In.length (rvs In) := h3.carry fun b hb hS => ⟨hS, hn0.block b hb⟩
  have hsz := hb.size
  have hge : ∀ k, SA k ∨ wq.heap.size ≤ k → w.heap.size ≤ k := fun k hk => by
    rcases hk with hk | hk
    · exact (h1 k hk).1
    · omega
  refine (tAdd_any (S := fun j => SA j ∨ wq.heap.size ≤ j) wq v (numT In) In.length x.r x.m x.cp x.ck (h2.carry fun b _ hS => ⟨Or.inl hS, rfl⟩) (fun k hk => Or.inr hk) (ht.on hb) hx (by omega)).mono ?_
  rintro e w' ⟨he, hO, hT⟩
  have hB : Below w.heap.size w w' := hb.trans (hO.below hge)
  have hkeep : ∀ j, j < wq.heap.size → (w.heap.size ≤ j ∧ ¬ SA j) → w'.heap[j]? = wq.heap[j]? := fun j hj hS => hO.block j fun e => by
    rcases e with e | e
    · exact hS.2 e
    · omega
  have hT' : Tbl (fun j => (SA j ∨ wq.heap.size ≤ j) ∧ j < w'.heap.size) w' v (adT (numT In) In.length x.r x.m) (adA (numT In) In.length x.m) := hT.carry fun b hb hS => ⟨⟨hS, hb⟩, rfl⟩
  have hR' : Rw (fun j => w.heap.size ≤ j ∧ ¬ ((SA j ∨ wq.heap.size ≤ j) ∧ j < w'.heap.size)) 25 36 w' vi In.length (rvs In) := h3.carry fun j hj hS => ⟨⟨hS.1, fun e => by
    rcases e.1 with e | e
    · exact hS.2 e
    · omega⟩, hkeep j hj hS⟩
  have hbd : ∀ j, (SA j ∨ wq.heap.size ≤ j) ∧ j < w'.heap.size → w.heap.size ≤ j ∧ j < w'.heap.size := fun j hj => ⟨hge j hj.1, hj.2⟩
  cases hm : mOk x.m with
  | false =>
    have e0 : adE (numT In) x.m = 20 := by simp [adE, hm]
    unfold adT adA at hT'
    unfold adN at he
    rw [e0] at hT' he
    exact Or.inl ⟨rfl, he, hB, ⟨_, hbd, hT', hR'⟩, h4⟩
  | true =>
    have e0 : adE (numT In) x.m = 0 := by simp [adE, hm, numT_len]; omega
    unfold adT adA at hT'
    unfold adN at he
    rw [e0] at hT' he
    refine Or.inr ⟨rfl, he, (hO.block _ fun e => ?_).trans hgq, fun w2 hn => ?_⟩
    · rcases e with e | e
      · exact hgS e
      · omega
    have hs2 := hn.size
    have own : ∀ j, vi.ownBlock = some j → (w.heap.size ≤ j ∧ ¬ ((SA j ∨ wq.heap.size ≤ j) ∧ j < w'.heap.size)) ∧ j < w'.heap.size := fun j hj => ⟨hR'.own j hj, hR'.ownLt j hj⟩
    have hR2 : Rw (fun j => w.heap.size ≤ j ∧ ¬ ((SA j ∨ wq.heap.size ≤ j) ∧ j < w'.heap.size)) 25 36 w2 vi In.length (rvs In) := hR'.carry fun j hj hS => ⟨hS, hn.block j hj⟩
    refine ⟨hR2.carry fun _ _ _ => ⟨trivial, rfl⟩, fun w3 v3 hA hR => ?_⟩
    have hs3 := hA.size
    refine ⟨⟨hA.os.trans (hn.os.trans hB.os), hA.tape.trans (hn.tape.trans hB.tape), hA.output.trans (hn.output.trans hB.output), by have := hB.size; omega, fun k hk => ?_⟩, ⟨_, fun j hj => ⟨(hbd j hj).1, by have := hj.2; omega⟩, ?_, ?_⟩, fun y hy => ?_⟩
    · rw [hA.block k (by have := hB.size; omega) (fun e => by have := (own k e).1.1; omega), hn.block k (by have := hB.size; omega), hB.block k hk]
    · rw [numT_app]
      have el : ((In ++ [x]).length : Int) = (In.length : Int) + 1 := by simp
      rw [el]
      refine hT'.carry fun b hb hS => ⟨hS, ?_⟩
      rw [hA.block b (by omega) (fun e => (own b e).1.2 hS), hn.block b hb]
    · rw [rvs_app, rvs_one, List.length_append]
      refine (hR _ hR2).carry fun j _ hS => ⟨?_, rfl⟩
      rcases hS with hS | hS
      · exact hS
      · exact ⟨by have := hB.size; omega, fun e => by have := e.2; omega⟩
    · rcases List.mem_append.1 hy with hy | hy
      · exact h4 y hy
      · rw [List.mem_singleton.1 hy]; exact hc
theorem rvc_rank (x : RuV) : (rvc x)[0]? = some (.int .i64 x.r) := rc_rank _ _ _ _
theorem rvc_mat (x : RuV) (i : Nat) (hi : i < 22) : (rvc x)[i + 1]? = (row 22 x.m)[i]? := by
  rw [Nat.add_comm, row_at 22 _ _ hi]; exact rc_mat _ _ _ _ _ hi
theorem rvc_size (x : RuV) : (rvc x).size = 25 := rc_size _ _ _ _
theorem infoRULE : (Tryd.prog.info? 36).map (fun i => (i.zero, i.size, i.bytes)) = some (some (.agg (rc 0 zf nilS 0)), 25, 216) := by kernel_rfl
/-- Best, by places. -/
theorem best_none {In : List RuV} {h : Nat → Int} (hb : Best (numT In) h none) (j : Nat) (hj : j < In.length) : hit In[j].m h = false := hb.1 rfl ⟨(j : Int) + 1, In[j].r, In[j].m⟩ (mem_numT.2 ⟨j, hj, rfl⟩)
theorem best_some {In : List RuV} {h : Nat → Int} {e : En} (hb : Best (numT In) h (some e)) : ∃ (j : Nat) (hj : j < In.length), e.k = (j : Int) + 1 ∧ hit In[j].m h = true ∧ ∀ (i : Nat) (hi : i < In.length), hit In[i].m h = true → ¬ In[j].r < In[i].r ∧ (In[i].r = In[j].r → ¬ i < j) := by
  obtain ⟨⟨u, hu, he, hh⟩, h2⟩ := hb.2 e rfl
  obtain ⟨j, hj, rfl⟩ := mem_numT.1 hu
  subst he
  refine ⟨j, hj, rfl, hh, fun i hi hit => ?_⟩
  rcases h2 ⟨(i : Int) + 1, In[i].r, In[i].m⟩ (mem_numT.2 ⟨i, hi, rfl⟩) hit with h | h
  · have h1 : In[i].r = In[j].r := congrArg En.r h
    have h2 : (i : Int) + 1 = (j : Int) + 1 := congrArg En.k h
    exact ⟨by omega, fun _ => by omega⟩
  · simp only [ahd, Bool.or_eq_true, decide_eq_true_eq, Bool.and_eq_true, beq_iff_eq] at h
    exact ⟨by omega, fun _ => by omega⟩
/-- A header and a match in memory. -/
structure H6 (b : Nat) (h : Nat → Int) (g p : Nat) (m : Nat → Int) (w : World) : Prop where
  rh : w.rangeAt b 0 (row 11 h).toList
  rm : w.rangeAt g p (row 22 m).toList
/-- And two ranks. -/
structure H7 (b : Nat) (h : Nat → Int) (g1 : Nat) (m : Nat → Int) (r : Int) (g p : Nat) (r' : Int) (w : World) : Prop where
  rh : w.rangeAt b 0 (row 11 h).toList
  rm : w.rangeAt g1 1 (row 22 m).toList
  cr : w.cell? ⟨g1, 0, none⟩ = some (.int .i64 r)
  cq : w.cell? ⟨g, p, none⟩ = some (.int .i64 r')
theorem range_blk {w : World} {b n t : Nat} {f : Nat → Int} (h : Blk w b n t f) : w.rangeAt b 0 (row n f).toList := range_of fun i _ => by rw [Nat.zero_add, cell_of_row _ _ _ _ _ _ h]
/-- The match within a rule. -/
theorem range_mat {w : World} {g p : Nat} {x : RuV} (h : ∀ i, i < 25 → w.cell? ⟨g, p + i, none⟩ = (rvc x)[i]?) : w.rangeAt g (p + 1) (row 22 x.m).toList := range_of fun i hi => by
  have hi2 : i < 22 := by rw [row_size] at hi; exact hi
  rw [show p + 1 + i = p + (i + 1) by omega, h (i + 1) (by omega), rvc_mat x i hi2]
end Go.Proofs.YtimenbkfkdpdcaaDoor
