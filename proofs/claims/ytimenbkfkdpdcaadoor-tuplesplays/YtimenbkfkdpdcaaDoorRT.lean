/-
  Proved here: the document's table in memory (RTab); its Drop leaves the rules of other numbers. Condition: fewer than 2 to 31 rules.
-/
import Derived.Test.YtimenbkfkdpdcaaDoorBS
namespace Go.Proofs.YtimenbkfkdpdcaaDoor
open Go.RowKit

/-- A rule of the document's table: its number, the rule. -/
structure Ie where
  k : Int
  x : RuV
def ic (e : Ie) : Array Value := #[.int .i64 e.k] ++ rvc e.x
def ics (l : List Ie) : List Value := l.flatMap fun e => (ic e).toList
theorem ic_size (e : Ie) : (ic e).size = 26 := by simp [ic, rvc_size]
theorem ic_len (e : Ie) : (ic e).toList.length = 26 := by rw [Array.length_toList, ic_size]
theorem ics_app (a b : List Ie) : ics (a ++ b) = ics a ++ ics b := by simp [ics]
theorem ics_one (e : Ie) : ics [e] = (ic e).toList := by simp [ics]
theorem ics_len : ∀ l : List Ie, (ics l).length = l.length * 26
  | [] => rfl
  | q :: l => by
    have := ics_len l
    rw [show ics (q :: l) = (ic q).toList ++ ics l from rfl, List.length_append, ic_len, this, List.length_cons]; omega
theorem ics_at : ∀ (l : List Ie) (j i : Nat) (hj : j < l.length), i < 26 → (ics l)[j * 26 + i]? = (ic l[j])[i]?
  | q :: l, 0, i, _, hi => by
    rw [show ics (q :: l) = (ic q).toList ++ ics l from rfl, List.getElem?_append_left (by rw [ic_len]; omega)]
    simp
  | q :: l, j + 1, i, hj, hi => by
    rw [show ics (q :: l) = (ic q).toList ++ ics l from rfl, List.getElem?_append_right (by rw [ic_len]; omega), ic_len, show (j + 1) * 26 + i - 26 = j * 26 + i by omega]
    exact ics_at l j i (by simpa using hj) hi
theorem ic_id (e : Ie) : (ic e)[0]? = some (.int .i64 e.k) := by
  unfold ic
  rw [Array.getElem?_append_left (by simp)]; rfl
theorem ic_rule (e : Ie) (i : Nat) : (ic e)[i + 1]? = (rvc e.x)[i]? := by
  unfold ic
  rw [Array.getElem?_append_right (by simp)]; simp
theorem ic_one {e : Ie} (h : e.x.cp.oneCell' = true) : (ic e).all (·.oneCell') = true := by
  unfold ic
  rw [Array.all_append, rvc_one h]; simp [Value.oneCell']
theorem sizeIN (e : Ie) : (Tryd.prog.info? 64).map (·.size) = some (ic e).size := by rw [ic_size]; kernel_rfl
theorem infoIN : (Tryd.prog.info? 64).map (fun i => (i.zero, i.size, i.bytes)) = some (some (.agg (ic ⟨0, ⟨0, zf, nilS, 0⟩⟩)), 26, 224) := by kernel_rfl
/-- The document's table. -/
structure RTab (S : Nat → Prop) (w : World) (g : Nat) (L : List Ie) (last : Int) : Prop where
  sg : S g
  ex : ∃ vl, w.heap[g]? = some (.cells #[vl, .int .i64 last] 28 (0, 0)) ∧ Rw (fun b => S b ∧ b ≠ g) 26 64 w vl L.length (ics L)
  one : ∀ e ∈ L, e.x.cp.oneCell' = true
theorem RTab.carry {S T : Nat → Prop} {w w' : World} {g : Nat} {L : List Ie} {last : Int} (h : RTab S w g L last) (hc : ∀ b, b < w.heap.size → S b → T b ∧ w'.heap[b]? = w.heap[b]?) : RTab T w' g L last := by
  obtain ⟨vl, h1, h2⟩ := h.ex
  have hg := hc g (Array.getElem?_eq_some_iff.1 h1).1 h.sg
  exact ⟨hg.1, ⟨vl, hg.2.trans h1, h2.carry fun b hb hS => ⟨⟨(hc b hb hS.1).1, hS.2⟩, (hc b hb hS.1).2⟩⟩, h.one⟩
def rmI (L : List Ie) (id : Int) : List Ie := L.filter fun e => !(e.k == id)
theorem rmI_take {L : List Ie} {id : Int} {q : Nat} (hq : q < L.length) : rmI (L.take (q + 1)) id = rmI (L.take q) id ++ if (L[q].k == id) = true then [] else [L[q]] := by
  rw [List.take_add_one, List.getElem?_eq_getElem hq]
  unfold rmI
  rw [List.filter_append]
  cases h : (L[q].k == id) <;> simp [h]
theorem rmI_le (L : List Ie) (id : Int) : (rmI L id).length ≤ L.length := List.length_filter_le _ _
/-- What the document's Drop leaves. -/
def RdP (S : Nat → Prop) (w : World) (g : Nat) (L : List Ie) (last id : Int) (e : Ending) (w' : World) : Prop := e = .returned (.bool (decide ((rmI L id).length < L.length))) ∧ Only S w w' ∧ RTab S w' g (rmI L id) last
set_option maxHeartbeats 3200000 in
set_option maxRecDepth 100000 in
theorem rdrop_any {S : Nat → Prop} (w : World) (g : Nat) (L : List Ie) (last id : Int) (h : RTab S w g L last) (hf : Fresh S w) (hn : L.length < 2147483640) :
    Calls Tryd.prog 11 #[pv g, .int .i64 id] w (RdP S w g L last id) := by
  obtain ⟨vl, hg, hR⟩ := h.ex
  obtain ⟨ao, cap, rfl⟩ := hR.form
  have hgl := (Array.getElem?_eq_some_iff.1 hg).1
  obtain ⟨c0, c1, cf⟩ := cells_two hg
  have H := hid h
  have HG := hid hg
  have HR := hid hR
  have HF := hid hf
  clear h hg hR hf
  go_enter Tryd.func11, Tryd.ntmps11
  go_upto_region 3 with fail
  go_loopw [5, 6] (fun v i wr => ∃ q : Nat, q ≤ L.length ∧ i = .int .i64 q ∧ Below w.heap.size w wr ∧ Rw (fun b => w.heap.size ≤ b) 26 64 wr v (rmI (L.take q) id).length (ics (rmI (L.take q) id))) (fun _ i _ => L.length - (intOf i).toNat)
  case atStart => exact ⟨0, by omega, rfl, Below.refl _ _, Rw.nil _ _ _ _⟩
  case round =>
    obtain ⟨q, hq, rfl, hlow, hRl⟩ := hrel
    obtain ⟨al, cl, rfl⟩ := hRl.form
    generalize wr = wx at *
    have HLo := hid hlow
    have HRl := hid hRl
    obtain ⟨n0, hn0⟩ : ∃ n0, n0 = (rmI (L.take q) id).length := ⟨_, rfl⟩
    have hle : n0 ≤ q := by have := rmI_le (L.take q) id; rw [List.length_take] at this; omega
    rw [← hn0]
    have HN0 := hid hn0
    have HRl' : Hid (Rw (fun b => w.heap.size ≤ b) 26 64 wx (.slice al n0 cl) n0 (ics (rmI (L.take q) id))) := by show Rw _ _ _ _ _ _ _; rw [hn0]; exact hRl
    clear hn0
    have k0 : wx.cell? ⟨g, 0, none⟩ = some (.slice ao L.length cap) := by rw [hlow.cell (p := ⟨g, 0, none⟩) hgl]; exact c0
    clear hlow hRl
    by_cases hlt : q < L.length
    · have hd : decide ((q : Int) < (L.length : Int)) = true := decide_eq_true (by omega)
      rcases HR.out with ⟨hx, ⟨_, hz0⟩ | ⟨b, o, cap', cur, he, hb1, hb2, hb3, hb4, hb5⟩⟩
      · omega
      obtain ⟨rfl, rfl⟩ : ao = some ⟨b, o, none⟩ ∧ cap = cap' := by simpa using he
      obtain ⟨y, hy⟩ : ∃ y : Ie, y = L[q] := ⟨_, rfl⟩
      have hbl := (Array.getElem?_eq_some_iff.1 hb2).1
      have hbx : wx.heap[b]? = some (.cells cur 64 (0, 0)) := (HLo.out.block b hbl).trans hb2
      have hcy : ∀ i, i < 26 → wx.cell? ⟨b, o + q * 26 + i, none⟩ = (ic y)[i]? := fun i hi => by
        rw [cell_of_row _ _ _ _ _ _ hbx, show o + q * 26 + i = o + (q * 26 + i) by omega, cells_at hb5 (by omega), ics_at L q i hlt hi, hy]
      have d0 : wx.cell? ⟨b, o + q * 26, none⟩ = some (.int .i64 y.k) := by have := hcy 0 (by omega); rw [ic_id] at this; exact this
      have hry : wx.rangeAt b (o + q * 26) (ic y).toList := range_of fun i hi => hcy i (by rw [ic_size] at hi; exact hi)
      have hone : (ic y).all (·.oneCell') = true := ic_one (H.out.one y (hy ▸ List.getElem_mem hlt))
      have h1c : ∀ z ∈ (ic y).toList, z.oneCell' = true := fun z hz => Array.all_eq_true'.1 hone z (by simpa using hz)
      have HRy := hid hry
      have H1c := hid h1c
      have HTk := hid (rmI_take (id := id) hlt)
      rw [← hy] at HTk
      have hw1 : IntKind.i64.wrap ((q : Int) + 1) = (q : Int) + 1 := by rw [IntKind.wrap_i64]; omega
      obtain ⟨yk, hyk⟩ : ∃ k, k = y.k := ⟨_, rfl⟩
      rw [← hyk] at d0 HTk
      obtain ⟨c, hc⟩ : ∃ c, c = (yk == id) := ⟨_, rfl⟩
      have hbne : (yk != id) = !c := by rw [hc]; rfl
      rw [← hc] at HTk
      clear hx he hb1 hb2 hb3 hb4 hb5 hbx hcy hy hone hyk hry h1c hc
      cases c with
      | true =>
        go_wp2
        go_roundw
        case rel => exact ⟨q + 1, by omega, by go_num, HLo.out, by rw [HTk.out, if_pos rfl, List.append_nil, ← HN0.out]; exact HRl'.out⟩
        case measure => simp [intOf]; omega
      | false =>
        have HNw : Hid (∀ j z, (ic y).toList[j]? = some z → (wx.alloc (.cells (ic y) 64)).cell? (Addr.add ⟨wx.heap.size, 0, none⟩ j) = some z) := fun j z hz => by
          rw [Addr.add_lit, Nat.zero_add, cell_of_row _ _ _ _ _ _ (heap_alloc_new _ _), ← hz]; simp
        have HR2 : Hid (Rw (fun b => w.heap.size ≤ b) 26 64 (wx.alloc (.cells (ic y) 64)) (.slice al n0 cl) n0 (ics (rmI (L.take q) id))) := HRl'.out.carry fun b hb hS => ⟨hS, heap_alloc_old _ _ hb⟩
        have HB2 : Hid (Below w.heap.size w (wx.alloc (.cells (ic y) 64))) := HLo.out.alloc HLo.out.size _
        obtain ⟨iR, hiR, hiz, his, -⟩ := info_parts infoIN
        go_upto_region 6 with fail
        go_upto_region 4 with (first
          | (refine ldMid 64 (.tmp 33) rfl rfl b (o + q * 26) rfl (ic y) _ Tryd.underlying64 rfl (sizeIN _) HRy.out ?_)
          | (refine bldSl 26 64 (.tmp 34) rfl rfl (ic y) rfl Tryd.underlying26 iR _ 26 hiR hiz his (ic_size y) (by omega) (by omega) ?_)
          | (at_builtin; refine appRw (S := fun b => w.heap.size ≤ b) (k := 26) (t := 64) (n := n0) (m := 1) (c := 1) (xs := ics (rmI (L.take q) id)) (us := (ic y).toList) (ad := ⟨wx.heap.size, 0, none⟩) (.tmp 27) (.tmp 35) 26 rfl rfl rfl rfl Tryd.underlying26 infoIN (ic_size _) (by omega) (by omega) HR2.out (ic_len y) HNw.out H1c.out (by omega) (Or.inl (by omega)) ?_
             intro v3 w3 A3 R3
             have HR3 := hid (R3 _ HR2.out)
             have HA3 := hid A3
             obtain ⟨s3, k3, rfl⟩ : ∃ s3 k3, v3 = .slice s3 (n0 + 1) k3 := (R3 _ HR2.out).form
             clear A3 R3))
        go_wp2
        go_roundw
        case rel =>
          refine ⟨q + 1, by omega, by go_num, ?_, ?_⟩
          · exact HB2.out.trans ((HA3.out.only (S := fun b => w.heap.size ≤ b) (fun k hk => Nat.le_trans HB2.out.size hk) (fun k hk => HR2.out.own k hk)).below fun k hk => hk)
          · rw [HTk.out, if_neg (by simp), ics_app, ics_one, List.length_append, ← HN0.out]
            refine HR3.out.carry fun b _ hS => ⟨?_, rfl⟩
            rcases hS with hS | hS
            · exact hS
            · exact Nat.le_trans HB2.out.size hS
        case measure => simp [intOf]; omega
    · obtain rfl : q = L.length := by omega
      have hd : decide ((L.length : Int) < (L.length : Int)) = false := by simp
      have hgx : wx.heap[g]? = some (.cells #[.slice ao L.length cap, .int .i64 last] 28 (0, 0)) := (HLo.out.block g hgl).trans HG.out
      have kf : wx.frozen? ⟨g, 0, none⟩ = false := by simp [World.frozen?, hgx]
      have HFin : Hid (RdP S w g L last id (.returned (.bool (decide (n0 < L.length)))) (wx.setCell ⟨g, 0, none⟩ (.slice al n0 cl))) := by
        have hn1 := HN0.out
        have hr1 := HRl'.out
        rw [List.take_length] at hn1 hr1
        have hfr : ∀ b, w.heap.size ≤ b → S b := HF.out
        refine ⟨by rw [← hn1], (Only.of HLo.out HF.out).setCell (p := ⟨g, 0, none⟩) H.out.sg _, H.out.sg, ⟨.slice al n0 cl, by rw [heap_setCell_same wx g 0 _ _ _ hgx]; rfl, ?_⟩, fun e he => H.out.one e (List.mem_filter.1 he).1⟩
        rw [← hn1]
        exact hr1.carry fun b _ hS => ⟨⟨hfr b hS, by omega⟩, heap_setCell_other wx ⟨g, 0, none⟩ b _ (by show b ≠ g; omega)⟩
      clear HRl' HN0 hgx HLo HRl
      go_wp2
      go_ret
      exact HFin.out
end Go.Proofs.YtimenbkfkdpdcaaDoor
