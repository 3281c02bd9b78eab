/-
  Proved here: Held and New of package cache; slices.Index of nil. No condition beyond fewer than 2 to 31 places.
-/
import Derived.Test.YtpmdgockiblkaaaCM
namespace Go.Proofs.Ytpmdgockiblkaaa
open Go.RowKit Go.Maps

theorem countP_take {α : Type} (p : α → Bool) {l : List α} {q : Nat} {x : α} (h : l[q]? = some x) : (l.take (q + 1)).countP p = (l.take q).countP p + if p x then 1 else 0 := by
  rw [List.take_add_one, h, List.countP_append]; simp [List.countP_cons]
set_option maxHeartbeats 1600000 in
set_option maxRecDepth 100000 in
theorem held_any {S : Nat → Prop} (w : World) (v : Value) (c : Cs) (h : Ca S w v c) (hn : c.es.length < 2147483640) :
    Calls Try.prog 17 #[v] w fun r w' => r = .returned (.int .i64 (heldS c : Nat)) ∧ Below w.heap.size w w' := by
  obtain ⟨g, bm, n, G, bp, cur, q, rfl, hM⟩ := h
  obtain ⟨c0, -, -, c3⟩ := hM.cells
  obtain ⟨now, hnow⟩ : ∃ z, z = c.now := ⟨_, rfl⟩
  obtain ⟨L, hL⟩ : ∃ z, z = c.es.length := ⟨_, rfl⟩
  rw [← hL] at c3 hn
  rw [← hnow] at c0
  have HM := hid hM
  have hgl := (Array.getElem?_eq_some_iff.1 hM.hg).1
  have HE : Hid (heldS c = (c.es.take L).countP (hl1 now)) := by show _ = _; rw [hL, List.take_length, hnow]; rfl
  rw [HE.out]
  have HL := hid hL
  clear hM hL hnow
  go_enter Try.func17, Try.ntmps17
  go_upto_region 5 with fail
  go_loopw [3, 13] (fun u i wr => ∃ k : Nat, k ≤ L ∧ i = .int .i64 k ∧ u = .int .i64 ((c.es.take k).countP (hl1 now) : Nat) ∧ Below w.heap.size w wr) (fun _ i _ => L - (intOf i).toNat)
  case atStart => exact ⟨0, by omega, rfl, by simp, Below.refl _ _⟩
  case round =>
    obtain ⟨k, hk, rfl, rfl, hlow⟩ := hrel
    generalize wr = wx at *
    have HLo := hid hlow
    have k0 : wx.cell? ⟨g, 0, none⟩ = some (.int .i64 now) := by rw [hlow.cell (p := ⟨g, 0, none⟩) hgl]; exact c0
    clear hlow
    by_cases hlt : k < L
    · have hd : decide ((k : Int) < (L : Int)) = true := decide_eq_true (by omega)
      have hkl : k < c.es.length := by rw [← HL.out]; exact hlt
      obtain ⟨o, ho⟩ : ∃ o, c.es[k]? = some o := ⟨_, List.getElem?_eq_getElem hkl⟩
      have hpl : wx.cell? ⟨bp, k, none⟩ = some (ptr q k o) := by
        rw [HLo.out.cell (p := ⟨bp, k, none⟩) (Array.getElem?_eq_some_iff.1 HM.out.hp).1]; exact HM.out.place ho
      have HCt := hid (countP_take (hl1 now) ho)
      have hle : (c.es.take k).countP (hl1 now) ≤ k := Nat.le_trans List.countP_le_length (by simp; omega)
      obtain ⟨m, hm⟩ : ∃ m, m = (c.es.take k).countP (hl1 now) := ⟨_, rfl⟩
      rw [← hm] at HCt hle
      rw [← hm]
      have hw1 : IntKind.i64.wrap ((k : Int) + 1) = (k : Int) + 1 := by rw [IntKind.wrap_i64]; omega
      have hw2 : IntKind.i64.wrap ((m : Int) + 1) = (m : Int) + 1 := by rw [IntKind.wrap_i64]; omega
      clear hm
      cases o with
      | none =>
        have hpl' : wx.cell? ⟨bp, k, none⟩ = some (.pointer none) := hpl
        have HCt' : Hid ((c.es.take (k + 1)).countP (hl1 now) = m) := HCt.out
        clear hpl HCt
        go_wp2
        go_roundw
        case rel => exact ⟨k + 1, by omega, by go_num, by rw [HCt'.out], HLo.out⟩
        case measure => simp [intOf]; omega
      | some e =>
        have hpl' : wx.cell? ⟨bp, k, none⟩ = some (pv (q k)) := hpl
        obtain ⟨-, he, -, -⟩ := HM.out.ent ho
        obtain ⟨y, hy⟩ : ∃ y, y = e.gen := ⟨_, rfl⟩
        have hqe : wx.cell? ⟨q k, 12, none⟩ = some (.int .i64 y) := by
          rw [HLo.out.cell (p := ⟨q k, 12, none⟩) (Array.getElem?_eq_some_iff.1 (HM.out.en k e ho).2).1, hy]; exact he
        obtain ⟨p, hp⟩ : ∃ p, p = q k := ⟨_, rfl⟩
        rw [← hp] at hpl' hqe
        obtain ⟨b, hb⟩ : ∃ b, b = (y != now) := ⟨_, rfl⟩
        have HC : Hid (Calls Try.prog 20 #[pv g, pv p] wx fun r w' => r = .returned (.bool b) ∧ Below w.heap.size w w') := (old_any wx g p now y k0 hqe).mono fun r w' ⟨h1, h2⟩ => ⟨by rw [hb]; exact h1, HLo.out.trans (h2.mono HLo.out.size)⟩
        have HCt' : Hid ((c.es.take (k + 1)).countP (hl1 now) = m + if b then 0 else 1) := by
          show _ = _
          rw [HCt.out, hb, hy]
          show m + (if decide (e.gen = now) = true then 1 else 0) = _
          by_cases e1 : e.gen = now <;> simp [e1, bne]
        clear hpl HCt he hy hp hb k0 hqe
        cases b with
        | true =>
          go_wp2_with (go_at_call 20; refine (HC.out).mono ?_; rintro r w5 ⟨rfl, hb5⟩; have HB5 := hid hb5; clear hb5)
          go_roundw
          case rel => exact ⟨k + 1, by omega, by go_num, by rw [HCt'.out]; rfl, HB5.out⟩
          case measure => simp [intOf]; omega
        | false =>
          go_wp2_with (go_at_call 20; refine (HC.out).mono ?_; rintro r w5 ⟨rfl, hb5⟩; have HB5 := hid hb5; clear hb5)
          go_roundw
          case rel => exact ⟨k + 1, by omega, by go_num, by rw [HCt'.out]; go_num, HB5.out⟩
          case measure => simp [intOf]; omega
    · obtain rfl : k = L := by omega
      have hd : decide ((k : Int) < (k : Int)) = false := by simp
      go_wp2
      go_ret
      exact ⟨rfl, HLo.out⟩
set_option maxRecDepth 100000 in
/-- slices.Index of nil: the first free place. -/
theorem index_any {S : Nat → Prop} (w : World) (g : Nat) (c : Cs) (bm n : Nat) (G : Lit → Option Value) (bp : Nat) (cur : Array Value) (q : Nat → Nat) (h : CaM S w g c bm n G bp cur q) (hn : c.es.length < 2147483640) (i : Nat) (hi : c.es.findIdx? Option.isNone = some i) :
    Calls Try.prog 24 #[.slice (some ⟨bp, 0, none⟩) c.es.length c.es.length, .pointer none] w fun r w' => r = .returned (.int .i64 (i : Nat)) ∧ w' = w := by
  have hfa := free_at hi
  have hil : i < c.es.length := (List.getElem?_eq_some_iff.1 hfa.1).1
  have HF := hid hfa
  have HM := hid h
  obtain ⟨L, hL⟩ : ∃ z, z = c.es.length := ⟨_, rfl⟩
  rw [← hL]
  rw [← hL] at hn hil
  clear h hi hfa hL
  go_enter Try.func24, Try.ntmps24
  go_upto_region 2 with fail
  go_loopw [8] (fun j wr => ∃ k : Nat, k ≤ i ∧ j = .int .i64 k ∧ wr = w) (fun j _ => L - (intOf j).toNat)
  case atStart => exact ⟨0, by omega, rfl, rfl⟩
  case round =>
    obtain ⟨k, hk, rfl, rfl⟩ := hrel
    have hd : decide ((k : Int) < (L : Int)) = true := decide_eq_true (by omega)
    have hw1 : IntKind.i64.wrap ((k : Int) + 1) = (k : Int) + 1 := by rw [IntKind.wrap_i64]; omega
    by_cases hlt : k < i
    · obtain ⟨e, he⟩ := HF.out.2 k hlt
      have hpl : wr.cell? ⟨bp, k, none⟩ = some (pv (q k)) := HM.out.place he
      obtain ⟨p, hp⟩ : ∃ p, p = q k := ⟨_, rfl⟩
      rw [← hp] at hpl
      clear he hp
      have hbo : (binOp .eql 51 (.pointer none) (pv p)).run Try.prog wr = .ok (.bool false) wr := by
        first | rfl | (simp [go_sem]; done) | (unfold binOp; simp [go_sem])
      go_wp2
      go_roundw
      case rel => exact ⟨k + 1, by omega, by go_num, trivial⟩
      case measure => simp [intOf]; omega
    · obtain rfl : k = i := by omega
      have hpl : wr.cell? ⟨bp, k, none⟩ = some (.pointer none) := HM.out.place HF.out.1
      go_wp2
      go_ret
      exact ⟨rfl, rfl⟩
end Go.Proofs.Ytpmdgockiblkaaa
