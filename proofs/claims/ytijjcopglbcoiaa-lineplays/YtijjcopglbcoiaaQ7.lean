/-
  Proved here: appendBig of package line writes the lowest bytes of a number, the greatest first, into a slice with room, in place. Conditions: at most 4 bytes; the slice lies in one block and has room.
-/
import Derived.Test.YtijjcopglbcoiaaQ2
import Derived.Test.YtijjcopglbcoiaaEX
namespace Go.Proofs.Ytijjcopglbcoiaa
open Go.RowKit Seal

/-- From w to w' the bytes xs were written into block g, from a on; else no old block has turned. -/
structure Wr (g a : Nat) (xs : List Int) (w w' : World) : Prop where
  os : w'.os = w.os
  tape : w'.tape = w.tape
  output : w'.output = w.output
  size : w.heap.size ≤ w'.heap.size
  block : ∀ k, k < w.heap.size → k ≠ g → w'.heap[k]? = w.heap[k]?
  own : ∀ cur t, w.heap[g]? = some (.cells cur t (0, 0)) → a + xs.length ≤ cur.size → ∃ cur', w'.heap[g]? = some (.cells cur' t (0, 0)) ∧ cur'.size = cur.size ∧ (∀ i, i < a ∨ a + xs.length ≤ i → cur'[i]? = cur[i]?) ∧ (∀ i, i < xs.length → cur'[a + i]? = some (.int .u8 (xs.getD i 0)))
theorem Wr.refl (g a : Nat) (w : World) : Wr g a [] w w := ⟨rfl, rfl, rfl, Nat.le_refl _, fun _ _ _ => rfl, fun cur t h _ => ⟨cur, h, rfl, fun _ _ => rfl, fun i hi => by simp at hi⟩⟩
theorem Wr.trans {g a : Nat} {xs ys : List Int} {w w1 w2 : World} (h : Wr g a xs w w1) (k : Wr g (a + xs.length) ys w1 w2) : Wr g a (xs ++ ys) w w2 := by
  refine ⟨k.os.trans h.os, k.tape.trans h.tape, k.output.trans h.output, Nat.le_trans h.size k.size, fun i hi hne => (k.block i (Nat.lt_of_lt_of_le hi h.size) hne).trans (h.block i hi hne), fun cur t hb hs => ?_⟩
  rw [List.length_append] at hs
  obtain ⟨c1, e1, e2, e3, e4⟩ := h.own cur t hb (by omega)
  obtain ⟨c2, f1, f2, f3, f4⟩ := k.own c1 t e1 (by omega)
  refine ⟨c2, f1, f2.trans e2, fun i hi => ?_, fun i hi => ?_⟩
  · rw [List.length_append] at hi
    rw [f3 i (by omega), e3 i (by omega)]
  · rw [List.length_append] at hi
    by_cases hlt : i < xs.length
    · rw [f3 (a + i) (Or.inl (by omega)), e4 i hlt]
      simp only [List.getD_eq_getElem?_getD, List.getElem?_append_left hlt]
    · have := f4 (i - xs.length) (by omega)
      rw [show a + xs.length + (i - xs.length) = a + i by omega] at this
      rw [this]
      simp only [List.getD_eq_getElem?_getD, List.getElem?_append_right (Nat.le_of_not_lt hlt)]
theorem Wr.allocs {g a : Nat} {xs : List Int} {w w' : World} (h : Wr g a xs w w') (o : Obj) (hg : g < w.heap.size) : Wr g a xs w (w'.alloc o) := by
  have hs := h.size
  refine ⟨h.os, h.tape, h.output, by simp; omega, fun k hk hne => ?_, fun cur t hb hs2 => ?_⟩
  · rw [heap_alloc_old _ _ (by omega)]; exact h.block k hk hne
  · obtain ⟨c1, e1, e2⟩ := h.own cur t hb hs2
    exact ⟨c1, by rw [heap_alloc_old _ _ (by omega)]; exact e1, e2⟩
theorem Wr.only {g a n : Nat} {xs : List Int} {w w' : World} (h : Wr g a xs w w') (hg : n ≤ g) (hn : n ≤ w.heap.size) : Below n w w' := ⟨h.os, h.tape, h.output, h.size, fun k hk => h.block k (by omega) (by omega)⟩

/-- Bytes are appended in place. -/
theorem app_wr {w : World} {g o n cap : Nat} {u : Value} {B : Nat} {cur : Array Value} {t : TypeId} {bs : List Int} (ty : TypeId) (hg : w.heap[g]? = some (.cells cur t (0, 0))) (hc : o + cap ≤ cur.size) (hn : n + bs.length ≤ cap) (hu : Sl B w u bs) :
    ∃ w', (Builtin.append_ #[31, 31] ty #[.slice (some ⟨g, o, none⟩) n cap, u]).run Try.prog w = .ok (.slice (some ⟨g, o, none⟩) (n + bs.length) cap) w' ∧ Wr g (o + n) bs w w' := by
  obtain ⟨i, hi, hz0, hz1, hz2⟩ := info_parts info5
  obtain ⟨uo, uc, rfl, hu1, hu2, hu3, hu4, hu5⟩ := hu
  by_cases hbs : bs = []
  · subst hbs
    have hsrc : Src Try.prog i.size 31 (.slice uo 0 uc) 0 [] w := by
      cases uo with
      | none => exact Src.ofNil w Try.underlying31 uc
      | some a => exact Src.ofSlice w Try.underlying31 a 0 uc [] (by simp) (fun j u h => by simp at h) (fun u h => by cases h)
    exact ⟨w, run_append_nothing w 31 31 ty 5 i Try.underlying31 hi (some ⟨g, o, none⟩) n cap (by simpa using hn) _ hsrc, Wr.refl _ _ _⟩
  · obtain ⟨b, ob, _, rfl, hcl⟩ := hu5 hbs
    have hnews : ∀ j x, (bs.map (Value.int .u8))[j]? = some x → w.cell? (Addr.add ⟨b, ob, none⟩ j) = some x := by
      intro j x hx
      have hj : j < bs.length := by simpa using (List.getElem?_eq_some_iff.1 hx).1
      rw [Addr.add_lit, hcl j hj]
      rw [List.getElem?_map, List.getElem?_eq_getElem hj] at hx
      rw [List.getD_eq_getElem?_getD, List.getElem?_eq_getElem hj]
      exact hx
    have h1 : ∀ x ∈ bs.map (Value.int .u8), x.oneCell' = true := by
      intro x hx
      obtain ⟨y, _, rfl⟩ := List.mem_map.1 hx
      rfl
    have hcell : ∀ j, j < (bs.map (Value.int .u8)).length → (w.cell? ⟨g, o + n * i.size + j, none⟩).isSome = true := by
      intro j hj
      rw [List.length_map] at hj
      rw [hz1, cell_of_row w g _ cur t (0, 0) hg, Array.getElem?_eq_getElem (by omega)]; rfl
    have hfr : ∀ j, j < (bs.map (Value.int .u8)).length → w.frozen? ⟨g, o + n * i.size + j, none⟩ = false := by
      intro j _
      simp [World.frozen?, hg]
    have hr := run_append_room_cells (P := Try.prog) w 31 ty 5 i Try.underlying31 hi g o n cap ⟨b, ob, none⟩ bs.length uc (bs.map (Value.int .u8)) (by simp [hz1]) hnews h1 hn hcell hfr
    rw [hz1, Nat.mul_one] at hr
    have hb := setCells_below g (bs.map (Value.int .u8)) (o + n) w
    refine ⟨_, hr, hb.1, hb.2.1, hb.2.2.1, hb.2.2.2.1, fun k _ hne => hb.2.2.2.2 k hne, fun cur2 t2 h2 hs2 => ?_⟩
    obtain ⟨cur', e1, e2, e3, e4⟩ := setCells_all g (bs.map (Value.int .u8)) (o + n) w cur2 t2 h2
    rw [List.length_map] at e3 e4
    refine ⟨cur', e1, e2, e3, fun i hi => ?_⟩
    rw [e4 i hi hs2, List.getElem?_map, List.getD_eq_getElem?_getD, List.getElem?_eq_getElem hi]
    rfl
/-- The same, in a walk. -/
theorem appWr {ops : Array Oper} {rest : List Oper} {op : Oper} {a : Act} {w : World} {Q : Exit → Act → World → Prop} (s x : Operand) (ho : op.op = .call { callee := .builtin .append, args := #[s, x], argTypes := #[31, 31] })
    (hw : Region.wanted op (yielded ops a.tmps) = true) {g o n cap : Nat} {u : Value} {B : Nat} {cur : Array Value} {t : TypeId} {bs : List Int} (hs : a.eval s = .slice (some ⟨g, o, none⟩) n cap) (hx : a.eval x = u) (hg : w.heap[g]? = some (.cells cur t (0, 0))) (hc : o + cap ≤ cur.size) (hn : n + bs.length ≤ cap) (hu : Sl B w u bs)
    (hK : ∀ w', Wr g (o + n) bs w w' → wpList Try.prog ops Q rest (a.put op.dst (.slice (some ⟨g, o, none⟩) (n + bs.length) cap)) w') : wpList Try.prog ops Q (op :: rest) a w := by
  obtain ⟨w', hr, h1⟩ := app_wr (ty := op.type) hg hc hn hu
  unfold wpList
  rw [if_pos hw]
  refine Or.inl ?_
  unfold Oper.wp execOp
  simp only [ho, resolve, invoke, builtin, Sem.run_bind, Sem.run_pure, Result.andThen_ok, List.map_toArray, List.map_cons, List.map_nil, hs, hx, hr]
  exact hK w' h1

set_option maxHeartbeats 800000 in
theorem big_any (g o n cap k : Nat) (x : Nat) (w : World) (cur : Array Value) (t : TypeId) (hg : w.heap[g]? = some (.cells cur t (0, 0))) (hc : o + cap ≤ cur.size) (hn : n + k ≤ cap) (hk : k ≤ 4) :
    Calls Try.prog 49 #[.slice (some ⟨g, o, none⟩) n cap, .int .i64 k, .int .u64 (x : Nat)] w fun r w' => r = .returned (.slice (some ⟨g, o, none⟩) (n + k) cap) ∧ Wr g (o + n) (dg x k) w w' := by
  have hgl := (Array.getElem?_eq_some_iff.1 hg).1
  have HG : Hid (w.heap[g]? = some (.cells cur t (0, 0))) := hg
  clear hg
  go_enter Try.func49, Try.ntmps49
  go_wp2
  go_loopw [0, 1] (fun b s wr => ∃ j : Nat, j ≤ k ∧ s = .int .i64 ((k : Int) - j) ∧ b = .slice (some ⟨g, o, none⟩) (n + j) cap ∧ Wr g (o + n) ((dg x k).take j) w wr) (fun _ s _ => (intOf s).toNat)
  case atStart => exact ⟨0, by omega, by go_num, rfl, by simpa using Wr.refl g (o + n) w⟩
  case round =>
    obtain ⟨j, hj, rfl, rfl, hE⟩ := hrel
    have HE : Hid (Wr g (o + n) ((dg x k).take j) w wr) := hE
    have HL : Hid (((dg x k).take j).length = j) := by show _ = _; rw [List.length_take, dg_len]; omega
    clear hE
    by_cases hlt : j < k
    · obtain ⟨cur1, e1, e2, -⟩ := HE.out.own cur t HG.out (by rw [HL.out]; omega)
      have H1 : Hid (∀ o', (wr.alloc o').heap[g]? = some (.cells cur1 t (0, 0))) := fun o' => by rw [heap_alloc_old _ _ (Array.getElem?_eq_some_iff.1 e1).1]; exact e1
      have H2 : Hid (cur1.size = cur.size) := e2
      have HS : Hid ((dg x k).take (j + 1) = (dg x k).take j ++ [(x : Int) / 2 ^ (8 * (k - j - 1)) % 256]) := by show _ = _; rw [show k - j - 1 = k - 1 - j by omega]; exact take_step x k j hlt
      clear e1 e2
      go_wp2_with (at_builtin; refine appWr (.tmp 11) (.tmp 17) rfl rfl rfl rfl (H1.out _) (by rw [H2.out]; exact hc) (bs := [(x : Int) / 2 ^ (8 * (k - j - 1)) % 256]) (by simp; omega) (sl_one wr _ (Int.emod_nonneg _ (by omega)) (Int.emod_lt_of_pos _ (by omega))) ?_; intro w' hE1)
      have HR : Hid (Wr g (o + n) ((dg x k).take (j + 1)) w w') := by
        show Wr _ _ _ _ _
        rw [HS.out]
        have h9 := hE1
        rw [show o + (n + j) = o + n + ((dg (x : Int) k).take j).length by rw [HL.out]; omega] at h9
        exact (HE.out.allocs _ hgl).trans h9
      clear hE1 HE
      go_wp2
      go_roundw
      case rel => exact ⟨j + 1, by omega, by go_num, rfl, HR.out⟩
      case measure => simp [intOf]; omega
    · obtain rfl : j = k := by omega
      have HF : Hid (Wr g (o + n) (dg x j) w wr) := by
        have := HE.out
        rw [take_all] at this
        exact this
      go_wp2
      go_ret
      exact ⟨rfl, HF.out⟩
end Go.Proofs.Ytijjcopglbcoiaa
