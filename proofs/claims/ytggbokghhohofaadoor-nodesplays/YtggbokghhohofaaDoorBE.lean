/-
  Proved here: slices.Clone at settings and copyRows of package nodes: the rows anew. Conditions: the rows lie where they are said to; fewer than a million rows, of fewer than 2 to 31 settings each.
-/
import Derived.Test.YtggbokghhohofaaDoorBD
namespace Go.Proofs.YtggbokghhohofaaDoor
open Go.RowKit
set_option maxRecDepth 100000

theorem clone_any {T : Nat → Prop} (w : World) (v : Value) (r : List Ac) (h : Acs T w v r) (hn : r.length < 2147483648) : Calls Tryd.prog 46 #[v] w fun e w' => ∃ v', e = .returned v' ∧ Below w.heap.size w w' ∧ Rw (fun b => w.heap.size ≤ b) 3 54 w' v' r.length (acL r) := by
  obtain ⟨ao, cap, rfl, hcap, -, h0, h1⟩ := id h
  have hq : ∀ (w : World) (a : Option Addr) (n c n' c' : Nat), (binOp .eql 52 (.slice a n c) (.slice none n' c')).run Tryd.prog w = .ok (.bool a.isNone) w := fun w a n c n' c' => Lib.run_eql_slice_nil w _ _ a n c n' c' Tryd.underlying52
  cases ao with
  | none =>
    obtain rfl : r = [] := by
      by_cases hne : r = []
      · exact hne
      · obtain ⟨b, o, -, e, -⟩ := h1 hne; cases e
    clear h h1
    go_enter Tryd.func46, Tryd.ntmps46
    go_wp2
    go_ret
    exact ⟨_, rfl, Below.refl _ _, Rw.nil _ _ _ _⟩
  | some a =>
    have hal : Below w.heap.size w (w.alloc (.cells #[] 54)) := (Below.refl _ _).alloc (Nat.le_refl _) _
    have HA := hid ((h.on hal).src)
    have HE : Hid (Rw (fun b => w.heap.size ≤ b) 3 54 (w.alloc (.cells #[] 54)) (.slice (some ⟨w.heap.size, 0, none⟩) 0 0) 0 []) := rw_empty _ _ _ _ (Nat.le_refl _)
    have HL := hid hal
    clear h h1 h0 hal
    go_enter Tryd.func46, Tryd.ntmps46
    go_wp2_with (refine appAll (v := .slice (some ⟨w.heap.size, 0, none⟩) 0 0) (S := fun b => w.heap.size ≤ b) (k := 3) (t := 54) (n := 0) (m := r.length) (c := cap) (xs := []) (us := acL r) (ao := some a) (.tmp 5) (.tmp 6) 52 rfl rfl rfl rfl Tryd.underlying52 infACT rfl (by omega) (by omega) HE.out (acL_len r) HA.out.2 (acL_all r) (by omega) ?_; intro v5 w1 hap hrw; have HAP := hid hap; have HRW := hid hrw; clear hap hrw)
    go_ret
    refine ⟨v5, rfl, HL.out.trans ⟨HAP.out.os, HAP.out.tape, HAP.out.output, HAP.out.size, fun k hk => HAP.out.block k (by simp; omega) (by simp [Value.ownBlock]; omega)⟩, ?_⟩
    have := HRW.out
    rw [Nat.zero_add, List.nil_append] at this
    exact this.carry fun b _ hS => ⟨by have := HL.out.size; omega, rfl⟩
set_option maxHeartbeats 6400000 in
theorem copyRows_any {T : Nat → Prop} (w : World) (v : Value) (L : List (List Ac)) (h : Cps T w v L) (hTl : ∀ b, T b → b < w.heap.size) (hn : L.length ≤ 1000000) (hr : ∀ r ∈ L, r.length < 2147483648) :
    Calls Tryd.prog 31 #[v] w fun e w' => ∃ v', e = .returned v' ∧ Below w.heap.size w w' ∧ Cps (fun b => w.heap.size ≤ b) w' v' L := by
  obtain ⟨ao, cap, rfl, hcap⟩ := h.form
  have hlen := h.len
  have HA := hid h
  have HR := hid hr
  have HS0 : Hid (LrS w [] nilS w) := ⟨Below.refl _ _, Rw.nil _ _ _ _, fun x hx => by cases hx⟩
  clear h hr
  go_enter Tryd.func31, Tryd.ntmps31
  go_upto_region 3 with fail
  go_loopw [3, 8] (fun vv i wr => ∃ (j : Nat) (d : List Rv) (v4 : Value), v4 = vv ∧ i = .int .i64 ((j : Nat) : Int) ∧ j ≤ L.length ∧ d.length = j ∧ Hid (d.map (·.2) = L.take j) ∧ Hid (LrS w d v4 wr)) (fun _ i _ => L.length - (intOf i).toNat)
  case atStart => exact ⟨0, [], _, rfl, rfl, Nat.zero_le _, rfl, by show _ = _; simp, HS0.out⟩
  case round =>
    clear HS0
    obtain ⟨j, d, v4, rfl, rfl, hj1, hdj, HD, HS⟩ := hrel
    by_cases hj : j < L.length
    · obtain ⟨b, o, u, rfl, hTb, hu, hAc⟩ := HA.out.cell1 j hj
      have hd : decide ((j : Int) < (L.length : Int)) = true := by simp; omega
      have hjc : j < cap := by omega
      have hw3 : IntKind.i64.wrap ((j : Int) + 1) = (j : Int) + 1 := by rw [IntKind.wrap_i64]; omega
      have hu1 : wr.cell? ⟨b, o + j, none⟩ = some u := (cell_same (HS.out.low.block _ (hTl b hTb))).trans hu
      have hAc1 : Acs T wr u L[j] := hAc.carry fun b hb hTb => ⟨hTb, HS.out.low.block b hb⟩
      have hrl := HR.out _ (List.getElem_mem hj)
      have HFit := hid hAc1.fit
      have HTk : Hid (L.take (j + 1) = L.take j ++ [L[j]]) := by show _ = _; simp
      have HC := hid (clone_any wr u L[j] hAc1 hrl)
      generalize L[j] = r at HTk hrl HFit HC
      clear hu hAc hAc1
      go_upto_region 5 with fail
      have hz := HS.out.low.size
      have hdl : d.length < 2147483647 := by omega
      go_wp2_with (first
        | (go_at_call 46; refine (HC.out).mono ?_; rintro e w2 ⟨v2, rfl, hb, hrw⟩; have HQ := hid (And.intro hb hrw); clear hb hrw HC hu1;
           have HS2 := hid (HS.out.more HQ.out.1);
           have hU : Acs (fun b => w.heap.size ≤ b ∧ v4.ownBlock ≠ some b) w2 v2 r := (acs_of HQ.out.2 HFit.out (by omega)).carry fun b hb hS => ⟨⟨by omega, fun e => by have := HS.out.rw.ownLt b e; omega⟩, rfl⟩;
           have hv2 := hU.form; obtain ⟨a2, c2, hvv, -⟩ := hv2; subst hvv;
           have hal : Below w2.heap.size w2 (w2.alloc (.cells #[.slice a2 r.length c2] 52)) := (Below.refl _ _).alloc (Nat.le_refl _) _;
           have HS4 := hid (HS2.out.more hal);
           have HU4 := hid (hU.on hal);
           have HC4 : Hid (∀ (i : Nat) (x : Value), ([Value.slice a2 r.length c2] : List Value)[i]? = some x → (w2.alloc (.cells #[.slice a2 r.length c2] 52)).cell? (Addr.add ⟨w2.heap.size, 0, none⟩ i) = some x) := (fun i x hx => by rw [Addr.add_lit, Nat.zero_add, cell_of_row _ _ _ _ _ _ (heap_alloc_new _ _), ← hx]; simp);
           clear hal hU HS2 HQ HS)
        | (refine appRw (v := v4) (S := fun b => w.heap.size ≤ b) (k := 1) (t := 52) (n := d.length) (m := 1) (c := 1) (xs := d.map (·.1)) (us := [.slice a2 r.length c2]) (ad := ⟨w2.heap.size, 0, none⟩) (.tmp 12) (.tmp 15) 31 rfl rfl rfl rfl Tryd.underlying31 infACTS rfl (by omega) (by omega) HS4.out.rw (by simp) HC4.out (by intro x hx; obtain rfl := List.mem_singleton.1 hx; rfl) (by omega) (Or.inl (by omega)) ?_; intro v6 w6 hap hrw; have HS6 := hid (HS4.out.app _ _ HU4.out hap hrw); clear hap hrw HS4 HU4 HC4))
      have HD2 : Hid ((d ++ [((Value.slice a2 r.length c2, r) : Rv)]).map (·.2) = L.take (j + 1)) := by show _ = _; rw [HTk.out, List.map_append, HD.out]; rfl
      go_roundw
      case rel => exact ⟨j + 1, d ++ [(.slice a2 r.length c2, r)], v6, rfl, by rw [show (((j + 1 : Nat) : Nat) : Int) = (j : Int) + 1 by omega], hj, by simp [hdj], HD2, HS6⟩
      case measure => simp [intOf]; omega
    · have hd : decide ((j : Int) < (L.length : Int)) = false := by simp; omega
      obtain rfl : j = L.length := by omega
      go_wp2
      go_ret
      have hdm := HD.out
      rw [List.take_length] at hdm
      refine ⟨v4, rfl, HS.out.low, ?_⟩
      rw [← hdm]
      exact cps_rv HS.out.rw (fun x hx => (HS.out.ac x hx).carry fun b _ hS => ⟨hS.1, rfl⟩) (by omega)
end Go.Proofs.YtggbokghhohofaaDoor
