/-
  Proved here: the laws' looks whether two lists are the same (ports, Copies) say true of two readings of one list. No condition.
-/
import Derived.Test.YtllbbbfkdgjffaaGreatDoorBL
namespace Go.Proofs.YtllbbbfkdgjffaaGreatDoor
open Go.RowKit

theorem still_trans {w a b : World} (h : Only (fun _ => False) w a) (k : Only (fun _ => False) a b) : Only (fun _ => False) w b := h.trans k
theorem Lst.cell {α : Type} {T : Nat → Prop} {k : Nat} {R : World → (Nat → Option Value) → α → Prop} {w : World} {ao : Option Addr} {n cap : Nat} {l : List α} (h : Lst T k R w (.slice ao n cap) l) (j : Nat) (hj : j < l.length) : ∃ b o, ao = some ⟨b, o, none⟩ ∧ T b ∧ R w (fun i => w.cell? ⟨b, o + j * k + i, none⟩) l[j] := by
  obtain ⟨ao', cap', he, -, -, -, h5⟩ := h
  obtain ⟨b, o, hT, rfl, hc⟩ := h5 (fun e => by rw [e] at hj; simp at hj)
  simp only [Value.slice.injEq] at he
  obtain ⟨rfl, -, -⟩ := he
  exact ⟨b, o, rfl, hT, hc j hj⟩
set_option maxHeartbeats 800000 in
set_option maxRecDepth 100000 in
theorem lports_same {T T' : Nat → Prop} {w : World} {v v' : Value} {l : List Int} (h : Shs T w v l) (h' : Shs T' w v' l) :
    Calls Tryz.prog 27 #[v, v'] w fun e w' => e = .returned (.bool true) ∧ Only (fun _ => False) w w' := by
  obtain ⟨ao, cap, rfl, hcap⟩ := h.form
  obtain ⟨ao', cap', rfl, hcap'⟩ := h'.form
  have hlen := h.len
  have H := hid h
  have H' := hid h'
  clear h h'
  go_enter Tryz.func27, Tryz.ntmps27
  go_wp2
  go_loopw [13] (fun i wr => ∃ j : Nat, j ≤ l.length ∧ i = .int .i64 j ∧ Only (fun _ => False) w wr) (fun i _ => l.length - (intOf i).toNat)
  case atStart => exact ⟨0, by omega, rfl, Only.refl _ _⟩
  case round =>
    obtain ⟨j, hj, rfl, ho⟩ := hrel
    by_cases hlt : j < l.length
    · obtain ⟨b, o, rfl, -, f0, -⟩ := H.out.cell j hlt
      obtain ⟨b', o', rfl, -, f0', -⟩ := H'.out.cell j hlt
      simp only [Nat.add_zero, Nat.mul_one] at f0 f0'
      rw [← cell_same (ho.block b (by simp))] at f0
      rw [← cell_same (ho.block b' (by simp))] at f0'
      generalize l[j] = x at f0 f0'
      have HO := hid ho
      clear ho
      go_wp2
      go_region
      go_wp2
      go_roundw
      case rel => exact ⟨j + 1, by omega, by go_num, HO.out.drew⟩
      case measure => simp [intOf]; omega
    · obtain rfl : j = l.length := by omega
      have HO := hid ho
      clear ho
      go_wp2
      go_ret
      exact ⟨rfl, HO.out⟩
set_option maxHeartbeats 1600000 in
set_option maxRecDepth 100000 in
theorem lcopies_same {T T' : Nat → Prop} {w : World} {v v' : Value} {l : List (List Ac)} (h : Cps T w v l) (h' : Cps T' w v' l) :
    Calls Tryz.prog 43 #[v, v'] w fun e w' => e = .returned (.bool true) ∧ Only (fun _ => False) w w' := by
  obtain ⟨ao, cap, rfl, hcap⟩ := h.form
  obtain ⟨ao', cap', rfl, hcap'⟩ := h'.form
  have hlen := h.len
  have H := hid h
  have H' := hid h'
  clear h h'
  go_enter Tryz.func43, Tryz.ntmps43
  go_wp2
  go_loopw [14] (fun i wr => ∃ j : Nat, j ≤ l.length ∧ i = .int .i64 j ∧ Only (fun _ => False) w wr) (fun i _ => l.length - (intOf i).toNat)
  case atStart => exact ⟨0, by omega, rfl, Only.refl _ _⟩
  case round =>
    obtain ⟨j, hj, rfl, ho⟩ := hrel
    obtain ⟨y, rfl⟩ : ∃ y, y = wr := ⟨_, rfl⟩
    by_cases hlt : j < l.length
    · obtain ⟨b, o, rfl, -, u, f0, hu⟩ := H.out.cell j hlt
      obtain ⟨b', o', rfl, -, u', f0', hu'⟩ := H'.out.cell j hlt
      simp only [Nat.add_zero, Nat.mul_one] at f0 f0'
      rw [← cell_same (ho.block b (by simp))] at f0
      rw [← cell_same (ho.block b' (by simp))] at f0'
      have HO := hid ho
      generalize l[j] = x at hu hu'
      obtain ⟨a1, c1, rfl, hc1⟩ := hu.form
      obtain ⟨a2, c2, rfl, hc2⟩ := hu'.form
      have hxl := hu.len
      have HU := hid hu
      have HU' := hid hu'
      have HF := hid f0
      have HF' := hid f0'
      clear hu hu' ho
      go_wp2
      go_region
      go_wp2
      go_loopw [33] (fun i w2 => ∃ k : Nat, k ≤ x.length ∧ i = .int .i64 k ∧ Only (fun _ => False) y w2) (fun i _ => x.length - (intOf i).toNat)
      case atStart => exact ⟨0, by omega, rfl, (Only.refl _ _).drew⟩
      case round =>
        obtain ⟨k, hk, rfl, ho⟩ := hrel
        by_cases hkt : k < x.length
        · obtain ⟨p, q, rfl, -, g0, g1, g2, hfit⟩ := HU.out.cell k hkt
          obtain ⟨p', q', rfl, -, g0', g1', g2', -⟩ := HU'.out.cell k hkt
          have hoo := HO.out.trans ho
          have k0 : wr.cell? ⟨p, q + k * 3, none⟩ = _ := (cell_same (hoo.block p (by simp))).trans g0
          have k1 : wr.cell? ⟨p, q + k * 3 + 1, none⟩ = _ := (cell_same (hoo.block p (by simp))).trans g1
          have k2 : wr.cell? ⟨p, q + k * 3 + 2, none⟩ = _ := (cell_same (hoo.block p (by simp))).trans g2
          have k0' : wr.cell? ⟨p', q' + k * 3, none⟩ = _ := (cell_same (hoo.block p' (by simp))).trans g0'
          have k1' : wr.cell? ⟨p', q' + k * 3 + 1, none⟩ = _ := (cell_same (hoo.block p' (by simp))).trans g1'
          have k2' : wr.cell? ⟨p', q' + k * 3 + 2, none⟩ = _ := (cell_same (hoo.block p' (by simp))).trans g2'
          rw [← cell_same (ho.block b (by simp))] at f0
          rw [← cell_same (ho.block b' (by simp))] at f0'
          have HO2 := hid ho
          clear ho hoo g0 g1 g2 g0' g1' g2' HF HF'
          generalize x[k] = z at k0 k1 k2 k0' k1' k2' hfit
          go_wp2
          go_region
          go_wp2
          go_roundw
          case rel => exact ⟨k + 1, by omega, by go_num, HO2.out.drew⟩
          case measure => simp [intOf]; omega
        · obtain rfl : k = x.length := by omega
          have HO2 := hid (HO.out.trans ho)
          clear ho
          go_wp2
          go_roundw
          case rel => exact ⟨j + 1, by omega, by go_num, HO2.out⟩
          case measure => simp [intOf]; omega
    · obtain rfl : j = l.length := by omega
      have HO := hid ho
      clear ho
      go_wp2
      go_ret
      exact ⟨rfl, HO.out⟩
end Go.Proofs.YtllbbbfkdgjffaaGreatDoor
