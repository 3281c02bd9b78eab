/-
  Proved here: slices.IndexFunc and slices.DeleteFunc at rules, with a closure that tells by c: the rules of which c does not hold are left, in their order. Condition: fewer than 2 to 31 rules.
-/
import Derived.Test.YtdehlnaoehjehaaGreatDoorzFT
namespace Go.Proofs.YtdehlnaoehjehaaGreatDoor
set_option maxRecDepth 100000
open Go.RowKit

abbrev cl2 (b : Nat) : Value := .func (.func 84) #[] #[.pointer (some ⟨b, 0, none⟩)]
theorem entU1 (args : Array Value) (w : World) : (callFunc 84 args).run Tryz.prog w = .ok (.enter 84 args) w := rfl
abbrev eps (l : List Fe) : List Value := l.map fun e => pv e.p
theorem eps_at (l : List Fe) (j : Nat) (hj : j < l.length) : (eps l)[j]? = some (pv l[j].p) := by simp [hj]
/-- What the closure tells, in every world in which all but one block of old lies as it lay. -/
def Clo (w : World) (v : Value) (l : List Fe) (b : Nat) (c : Fe → Bool) : Prop := ∀ wx, Apd w v wx → ∀ e ∈ l, Calls Tryz.prog 84 #[pv e.p, .pointer (some ⟨b, 0, none⟩)] wx fun r w' => r = .returned (.bool (c e)) ∧ Below wx.heap.size wx w'
def fiC (l : List Fe) (c : Fe → Bool) (q : Nat) : Prop := ∀ j (hj : j < l.length), j < q → c l[j] = false
def IxC (w : World) (l : List Fe) (c : Fe → Bool) (r : Ending) (w' : World) : Prop := Below w.heap.size w w' ∧ ∃ k, r = .returned (.int .i64 k) ∧ ((k = -1 ∧ fiC l c l.length) ∨ ∃ (q : Nat) (hq : q < l.length), k = (q : Int) ∧ fiC l c q ∧ c l[q] = true)
theorem Apd.refl (w : World) (v : Value) : Apd w v w := ⟨rfl, rfl, rfl, Nat.le_refl _, fun _ _ _ => rfl⟩
theorem Apd.ofB {w w' : World} (v : Value) (h : Below w.heap.size w w') : Apd w v w' := ⟨h.os, h.tape, h.output, h.size, fun k hk _ => h.block k hk⟩
set_option maxHeartbeats 1600000 in
set_option maxRecDepth 100000 in
theorem indexC_any {S : Nat → Prop} (w : World) (v : Value) (l : List Fe) (b : Nat) (c : Fe → Bool) (h : Rw S 1 96 w v l.length (eps l)) (hC : Clo w v l b c) (hn : l.length < 2147483647) :
    Calls Tryz.prog 124 #[v, cl2 b] w (IxC w l c) := by
  obtain ⟨ao, cap, rfl⟩ := h.form
  have H := hid h
  have HC := hid hC
  clear h hC
  go_enter Tryz.func124, Tryz.ntmps124
  go_upto_region 2 with fail
  go_loopw [8] (fun i wr => ∃ q : Nat, q ≤ l.length ∧ i = .int .i64 q ∧ Below w.heap.size w wr ∧ fiC l c q) (fun i _ => l.length - (intOf i).toNat)
  case atStart => exact ⟨0, by omega, rfl, Below.refl _ _, fun j _ h => by omega⟩
  case round =>
    obtain ⟨q, hq, rfl, hlow, hfi⟩ := hrel
    generalize wr = wx at *
    have HLo := hid hlow
    have HFi := hid hfi
    clear hlow hfi
    by_cases hlt : q < l.length
    · have hql : decide ((q : Int) < (l.length : Int)) = true := decide_eq_true (by omega)
      rcases H.out with ⟨hx, ⟨_, hz0⟩ | ⟨g, o, cap', cur, he, hb1, hb2, hb3, hb4, hb5⟩⟩
      · omega
      obtain ⟨rfl, rfl⟩ : ao = some ⟨g, o, none⟩ ∧ cap = cap' := by simpa using he
      have hgl := (Array.getElem?_eq_some_iff.1 hb2).1
      have hgx : wx.heap[g]? = some (.cells cur 96 (0, 0)) := (HLo.out.block g hgl).trans hb2
      obtain ⟨p, hp⟩ : ∃ p, p = l[q].p := ⟨_, rfl⟩
      have d0 : wx.cell? ⟨g, o + q, none⟩ = some (pv p) := by
        rw [cell_of_row _ _ _ _ _ _ hgx]
        have := cells_at hb5 (j := q) (by omega)
        rw [eps_at l q hlt, ← hp] at this
        exact this
      obtain ⟨t, ht⟩ : ∃ t, t = c l[q] := ⟨_, rfl⟩
      have HC' : Hid (Calls Tryz.prog 84 #[pv p, .pointer (some ⟨b, 0, none⟩)] wx fun r w' => r = .returned (.bool t) ∧ Below w.heap.size w w') := by
        have := HC.out wx (Apd.ofB _ HLo.out) l[q] (List.getElem_mem hlt)
        rw [← hp, ← ht] at this
        exact this.mono fun r w' ⟨h1, h2⟩ => ⟨h1, HLo.out.trans (h2.mono HLo.out.size)⟩
      have hw1 : IntKind.i64.wrap ((q : Int) + 1) = (q : Int) + 1 := by rw [IntKind.wrap_i64]; omega
      have HT := hid ht
      clear hx he hb1 hb2 hb3 hb4 hb5 hgl hgx hp ht
      cases t with
      | true =>
        go_wp2_with (refine callCl 84 (.tmp 11) [.tmp 15] _ [pv p] [.pointer (some ⟨b, 0, none⟩)] rfl rfl rfl rfl entU1 _ HC'.out ?_; rintro r w5 ⟨rfl, hb5⟩; refine Or.inl ⟨_, rfl, ?_⟩; have HB5 := hid hb5; clear hb5 HC')
        go_ret
        exact ⟨HB5.out, _, rfl, Or.inr ⟨q, hlt, rfl, HFi.out, HT.out.symm⟩⟩
      | false =>
        go_wp2_with (refine callCl 84 (.tmp 11) [.tmp 15] _ [pv p] [.pointer (some ⟨b, 0, none⟩)] rfl rfl rfl rfl entU1 _ HC'.out ?_; rintro r w5 ⟨rfl, hb5⟩; refine Or.inl ⟨_, rfl, ?_⟩; have HB5 := hid hb5; clear hb5 HC')
        go_roundw
        case rel =>
          refine ⟨q + 1, by omega, by go_num, HB5.out, fun j hj hjq => ?_⟩
          by_cases e : j = q
          · subst e; exact HT.out.symm
          · exact HFi.out j hj (by omega)
        case measure => simp [intOf]; omega
    · obtain rfl : q = l.length := by omega
      have hql : decide ((l.length : Int) < (l.length : Int)) = false := by simp
      go_wp2
      go_ret
      exact ⟨HLo.out, _, rfl, Or.inl ⟨rfl, HFi.out⟩⟩
theorem zeroPE : ∀ w, (zeroValue 96).run Tryz.prog w = .ok (.pointer none) w := fun w => by simp [go_sem]
/-- n nil pointers. -/
abbrev zps (n : Nat) : List Value := (Builtin.zeroCells (Value.pointer none).cells n).toList
theorem zps_len (n : Nat) : (zps n).length = n * 1 := by simp [Builtin.zeroCells, Value.cells]
theorem zps_one (n : Nat) : ∀ x ∈ zps n, x.oneCell' = true := fun x hx => by
  simp only [zps, Builtin.zeroCells, Value.cells, Array.toList_map, List.mem_map] at hx
  obtain ⟨i, -, rfl⟩ := hx
  simp [Nat.mod_one, Value.oneCell']
/-- The rules of which c does not hold. -/
def flt (l : List Fe) (c : Fe → Bool) : List Fe := l.filter fun e => !c e
theorem flt_take {l : List Fe} {c : Fe → Bool} {q : Nat} (hq : q < l.length) : flt (l.take (q + 1)) c = flt (l.take q) c ++ if c l[q] = true then [] else [l[q]] := by
  rw [List.take_add_one, List.getElem?_eq_getElem hq]
  unfold flt
  rw [List.filter_append]
  cases h : c l[q] <;> simp [h]
theorem flt_fi {l : List Fe} {c : Fe → Bool} {q : Nat} (h : fiC l c q) (hq : q ≤ l.length) : flt (l.take q) c = l.take q := by
  unfold flt
  refine List.filter_eq_self.2 fun e he => ?_
  obtain ⟨j, hj, rfl⟩ := List.getElem_of_mem he
  rw [List.length_take] at hj
  have := h j (by omega) (by omega)
  rw [List.getElem_take, this]; rfl
/-- What DeleteFunc answers. -/
def DlC (S : Nat → Prop) (w : World) (v : Value) (l : List Fe) (r : Ending) (w' : World) : Prop := ∃ v', r = .returned v' ∧ Apd w v w' ∧ Rw S 1 96 w' v' l.length (eps l)
/-- What a round keeps. -/
structure Fsc (w : World) (g o cap : Nat) (l : List Fe) (c : Fe → Bool) (p q : Nat) (wr : World) : Prop where
  apd : Apd w (.slice (some ⟨g, o, none⟩) l.length cap) wr
  ex : ∃ cur : Array Value, wr.heap[g]? = some (.cells cur 96 (0, 0)) ∧ o + cap ≤ cur.size ∧ (∀ t, t < p → cur[o + t]? = (eps (flt (l.take q) c))[t]?) ∧ ∀ t, q ≤ t → t < l.length → cur[o + t]? = (eps l)[t]?
  len : p = (flt (l.take q) c).length
  lt : p < q
  le : q ≤ l.length
theorem Fsc.skip {w : World} {g o cap : Nat} {l : List Fe} {c : Fe → Bool} {p q : Nat} {wr w5 : World} (h : Fsc w g o cap l c p q wr) (hb : Below wr.heap.size wr w5) (hq : q < l.length) (hk : c l[q] = true) : Fsc w g o cap l c p (q + 1) w5 := by
  obtain ⟨cur, h1, h2, h3, h4⟩ := h.ex
  have e : flt (l.take (q + 1)) c = flt (l.take q) c := by rw [flt_take hq, if_pos hk, List.append_nil]
  exact ⟨h.apd.below hb, ⟨cur, (hb.block g (Array.getElem?_eq_some_iff.1 h1).1).trans h1, h2, by rw [e]; exact h3, fun t h5 h6 => h4 t (by omega) h6⟩, by rw [e]; exact h.len, by have := h.lt; omega, hq⟩
theorem Fsc.keep {w : World} {g o cap : Nat} {l : List Fe} {c : Fe → Bool} {p q : Nat} {wr w5 : World} (h : Fsc w g o cap l c p q wr) (hb : Below wr.heap.size wr w5) (hq : q < l.length) (hk : c l[q] = false) (hc : l.length ≤ cap) : Fsc w g o cap l c (p + 1) (q + 1) (w5.setCell ⟨g, o + p, none⟩ (pv l[q].p)) := by
  obtain ⟨cur, h1, h2, h3, h4⟩ := h.ex
  have hlt := h.lt
  have hle := h.le
  have h15 := (hb.block g (Array.getElem?_eq_some_iff.1 h1).1).trans h1
  have e1 := heap_setCell_same w5 g (o + p) _ _ (pv l[q].p) h15
  have e : flt (l.take (q + 1)) c = flt (l.take q) c ++ [l[q]] := by rw [flt_take hq, if_neg (by rw [hk]; simp)]
  have hap := h.apd.below hb
  have hpl : (eps (flt (l.take q) c)).length = p := by rw [List.length_map, ← h.len]
  refine ⟨⟨hap.os, hap.tape, hap.output, ?_, fun k hk' hne => ?_⟩, ⟨_, e1, by simpa using h2, fun t ht => ?_, fun t h5 h6 => ?_⟩, by rw [e, List.length_append, ← h.len]; rfl, by omega, by omega⟩
  · simpa using hap.size
  · have hkg : k ≠ g := fun e => hne (by simp [Value.ownBlock, e])
    rw [heap_setCell_other _ ⟨g, _, none⟩ k _ hkg]
    exact hap.block k hk' hne
  · rw [e, show eps (flt (l.take q) c ++ [l[q]]) = eps (flt (l.take q) c) ++ [pv l[q].p] by simp [eps], Array.getElem?_setIfInBounds]
    by_cases ht2 : t < p
    · rw [if_neg (by omega), List.getElem?_append_left (by omega)]
      exact h3 t ht2
    · obtain rfl : t = p := by omega
      rw [List.getElem?_append_right (by omega), hpl, if_pos rfl, if_pos (by omega), Nat.sub_self]; rfl
  · rw [Array.getElem?_setIfInBounds, if_neg (by omega)]
    exact h4 t (by omega) h6
/-- The end: what is behind is cleared. -/
theorem Fsc.fin {S : Nat → Prop} {w : World} {g o cap : Nat} {l : List Fe} {c : Fe → Bool} {p : Nat} {wr : World} (h : Fsc w g o cap l c p l.length wr) (hg : S g) (hc : l.length ≤ cap) :
    (∀ ty, (Builtin.clear_ #[114] ty #[.slice (some ⟨g, o + p, none⟩) (l.length - p) (cap - p)]).run Tryz.prog wr = .ok (.tuple #[]) (wr.setCells g (o + p) (zps (l.length - p)))) ∧
    Apd w (.slice (some ⟨g, o, none⟩) l.length cap) (wr.setCells g (o + p) (zps (l.length - p))) ∧ Rw S 1 96 (wr.setCells g (o + p) (zps (l.length - p))) (.slice (some ⟨g, o, none⟩) p cap) p (eps (flt l c)) := by
  obtain ⟨cur, h1, h2, h3, -⟩ := h.ex
  have hlt := h.lt
  have hlen := h.len
  rw [List.take_length] at h3 hlen
  have hzl := zps_len (l.length - p)
  refine ⟨fun ty => run_clear_k wr 114 96 ty _ (l.length - p) Tryz.underlying114 zeroPE (zps_one _) g (o + p) _ (by omega) (fun j hj => ?_) (fun j hj => ?_), ?_⟩
  · have hj2 : j < l.length - p := by rw [Nat.mul_one] at hzl; rw [← hzl]; exact hj
    rw [cell_of_row _ _ _ _ _ _ h1, Array.getElem?_eq_getElem (by omega)]; rfl
  · simp [World.frozen?, h1]
  · obtain ⟨cur2, g1, g2, g3, g4, g5, g6⟩ := setCells_all g (zps (l.length - p)) (o + p) wr cur 96 h1
    refine ⟨⟨g6.os.trans h.apd.os, g6.tape.trans h.apd.tape, g6.output.trans h.apd.output, Nat.le_trans h.apd.size g6.size, fun k hk hne => ?_⟩, by rw [List.length_map, ← hlen]; omega, Or.inr ⟨g, o, cap, cur2, rfl, hg, g1, by omega, by omega, ?_⟩⟩
    · rw [g5 k (fun e => hne (by simp [Value.ownBlock, e]))]; exact h.apd.block k hk hne
    · apply List.ext_getElem?
      intro t
      rw [List.getElem?_take]
      by_cases ht : t < p
      · rw [if_pos (by omega), List.getElem?_drop, Array.getElem?_toList, g3 (o + t) (Or.inl (by omega)), h3 t ht]
      · rw [if_neg (by omega), List.getElem?_eq_none (by rw [List.length_map, ← hlen]; omega)]
set_option maxHeartbeats 3200000 in
set_option maxRecDepth 100000 in
theorem delC_any {S : Nat → Prop} (w : World) (v : Value) (l : List Fe) (b : Nat) (c : Fe → Bool) (h : Rw S 1 96 w v l.length (eps l)) (hC : Clo w v l b c) (hn : l.length < 2147483647) :
    Calls Tryz.prog 83 #[v, cl2 b] w (DlC S w v (flt l c)) := by
  obtain ⟨ao, cap, rfl⟩ := h.form
  have H := hid h
  have HC := hid hC
  have HIx := hid (indexC_any w (.slice ao l.length cap) l b c h hC hn)
  clear h hC
  go_enter Tryz.func83, Tryz.ntmps83
  go_upto_region 2 with (go_at_call 124; refine (HIx.out).mono ?_; rintro r w1 ⟨hb1, k, rfl, hk⟩
                         have HB1 := hid hb1
                         have HK := hid hk
                         clear hb1 hk HIx)
  rcases HK.out with ⟨rfl, hfi⟩ | ⟨q0, hq0, rfl, hfi, hkq⟩
  · have HF : Hid (DlC S w (.slice ao l.length cap) (flt l c) (.returned (.slice ao l.length cap)) w1) := by
      have e : flt l c = l := by have := flt_fi hfi (Nat.le_refl _); rw [List.take_length] at this; exact this
      show DlC _ _ _ _ _ _
      rw [e]
      exact ⟨_, rfl, Apd.ofB _ HB1.out, H.out.carry fun b hb hS => ⟨hS, HB1.out.block b hb⟩⟩
    clear hfi HK
    go_wp2
    go_ret
    exact HF.out
  · rcases H.out with ⟨hx, ⟨_, hz0⟩ | ⟨g, o, cap', cur, he, hb1, hb2, hb3, hb4, hb5⟩⟩
    · omega
    obtain ⟨rfl, rfl⟩ : ao = some ⟨g, o, none⟩ ∧ cap = cap' := by simpa using he
    have hgl := (Array.getElem?_eq_some_iff.1 hb2).1
    have HF0 : Hid (Fsc w g o cap l c q0 (q0 + 1) w1) := by
      have e0 := flt_fi hfi (Nat.le_of_lt hq0)
      have e : flt (l.take (q0 + 1)) c = l.take q0 := by rw [flt_take hq0, if_pos hkq, List.append_nil, e0]
      refine ⟨Apd.ofB _ HB1.out, ⟨cur, (HB1.out.block g hgl).trans hb2, by omega, fun t ht => ?_, fun t h1 h2 => cells_at hb5 (by omega)⟩, by rw [e, List.length_take]; omega, by omega, hq0⟩
      rw [e]
      have h6 := cells_at hb5 (j := t) (by omega)
      rw [h6, eps_at l t (by omega), eps_at _ t (by rw [List.length_take]; omega), List.getElem_take]
    have HSg := hid hb1
    have hne : ((q0 : Int) == -1) = false := beq_eq_false_iff_ne.2 (by omega)
    have hw0 : IntKind.i64.wrap ((q0 : Int) + 1) = ((q0 + 1 : Nat) : Int) := by rw [IntKind.wrap_i64]; omega
    clear hx he hb1 hb2 hb4 hb5 hfi hkq HK
    go_upto_region 5 with fail
    go_loopw [5, 6] (fun i j wr => ∃ p q : Nat, i = .int .i64 p ∧ j = .int .i64 q ∧ Fsc w g o cap l c p q wr) (fun _ j _ => l.length - (intOf j).toNat)
    case atStart => exact ⟨q0, q0 + 1, rfl, rfl, HF0.out⟩
    case round =>
      obtain ⟨p, q, rfl, rfl, hF⟩ := hrel
      generalize wr = wx at *
      have hpq := hF.lt
      have hql := hF.le
      have HF := hid hF
      clear hF HF0
      by_cases hlt : q < l.length
      · have hd : decide ((q : Int) < (l.length : Int)) = true := decide_eq_true (by omega)
        obtain ⟨cur', x1, x2, x3, x4⟩ := HF.out.ex
        obtain ⟨y, hy⟩ : ∃ y, y = l[q].p := ⟨_, rfl⟩
        have hgx := (Array.getElem?_eq_some_iff.1 x1).1
        have d0 : wx.cell? ⟨g, o + q, none⟩ = some (pv y) := by
          rw [cell_of_row _ _ _ _ _ _ x1, x4 q (by omega) hlt, eps_at l q hlt, ← hy]
        obtain ⟨u0, hu0⟩ : ∃ u, wx.cell? ⟨g, o + p, none⟩ = some u := by rw [cell_of_row _ _ _ _ _ _ x1]; exact ⟨_, Array.getElem?_eq_getElem (by omega)⟩
        obtain ⟨t, ht⟩ : ∃ t, t = c l[q] := ⟨_, rfl⟩
        have HX1 := hid x1
        have HCl : Hid (Calls Tryz.prog 84 #[pv y, .pointer (some ⟨b, 0, none⟩)] wx fun r w5 => r = .returned (.bool t) ∧ Below wx.heap.size wx w5 ∧ w5.cell? ⟨g, o + p, none⟩ = some u0 ∧ w5.frozen? ⟨g, o + p, none⟩ = false) := by
          have := HC.out wx HF.out.apd l[q] (List.getElem_mem hlt)
          rw [← hy, ← ht] at this
          refine this.mono fun r w5 ⟨h1, h5⟩ => ⟨h1, h5, by rw [h5.cell (p := ⟨g, o + p, none⟩) hgx]; exact hu0, ?_⟩
          have hg5 := (h5.block g hgx).trans HX1.out
          simp [World.frozen?, hg5]
        have hw1 : IntKind.i64.wrap ((q : Int) + 1) = (q : Int) + 1 := by rw [IntKind.wrap_i64]; omega
        have hw2 : IntKind.i64.wrap ((p : Int) + 1) = (p : Int) + 1 := by rw [IntKind.wrap_i64]; omega
        have hdp : decide ((p : Int) < (l.length : Int)) = true := decide_eq_true (by omega)
        have hpl : p < l.length := by omega
        have hnot : ∀ (x : Bool) (w : World), (Op.unary .not (.bool x)).run Tryz.prog w = .ok (.bool (!x)) w := fun _ _ => rfl
        have HY := hid hy
        have HT := hid ht
        clear x1 x2 x3 x4 hu0 ht hy hgx HX1
        cases t with
        | true =>
          go_wp2_with (refine callCl 84 (.tmp 26) [.tmp 27] _ [pv y] [.pointer (some ⟨b, 0, none⟩)] rfl rfl rfl rfl entU1 _ HCl.out ?_; rintro r w5 ⟨rfl, hb5, y2, y3⟩; refine Or.inl ⟨_, rfl, ?_⟩; have HB5 := hid hb5; clear hb5 HCl)
          go_roundw
          case rel => exact ⟨p, q + 1, rfl, by go_num, HF.out.skip HB5.out hlt HT.out.symm⟩
          case measure => simp [intOf]; omega
        | false =>
          go_wp2_with (refine callCl 84 (.tmp 26) [.tmp 27] _ [pv y] [.pointer (some ⟨b, 0, none⟩)] rfl rfl rfl rfl entU1 _ HCl.out ?_; rintro r w5 ⟨rfl, hb5, y2, y3⟩; refine Or.inl ⟨_, rfl, ?_⟩; have HB5 := hid hb5; clear hb5 HCl)
          go_roundw
          case rel =>
            have hK := HF.out.keep HB5.out hlt HT.out.symm hb3
            rw [← HY.out] at hK
            exact ⟨p + 1, q + 1, by go_num, by go_num, hK⟩
          case measure => simp [intOf]; omega
      · obtain rfl : q = l.length := by omega
        have hd : decide ((l.length : Int) < (l.length : Int)) = false := by simp
        obtain ⟨f1, f2, f3⟩ := HF.out.fin HSg.out hb3
        obtain ⟨W2, hW2⟩ : ∃ W2, W2 = wx.setCells g (o + p) (zps (l.length - p)) := ⟨_, rfl⟩
        rw [← hW2] at f1 f2 f3
        have HFin : Hid (DlC S w (.slice (some ⟨g, o, none⟩) l.length cap) (flt l c) (.returned (.slice (some ⟨g, o, none⟩) p cap)) W2) := by
          have hl : p = (flt l c).length := by have := HF.out.len; rw [List.take_length] at this; exact this
          refine ⟨_, rfl, f2, ?_⟩
          rw [← hl]; exact f3
        have hpl : p ≤ l.length := by omega
        have hpc : p ≤ cap := by omega
        have hpn : ¬ (cap = p) := by omega
        clear f2 f3 hW2 HF
        go_wp2
        go_ret
        exact HFin.out
end Go.Proofs.YtdehlnaoehjehaaGreatDoor
