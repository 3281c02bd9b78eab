/-
  Proved here: FrameSpoilt's body returns true for every packet, place and byte; no old memory turns. Conditions: the widths' table holds its eleven numbers; no number of the header is negative; the byte is a byte.
-/
import Derived.Test.YtgjglbailgeneaaDoorX4
import Derived.Test.YtgjglbailgeneaaDoorL2
namespace Go.Proofs.YtgjglbailgeneaaDoor
open Go.RowKit

theorem ethL_length (h : Nat → Int) : (ethL h).length = if h 3 = 0 then 14 else 18 := by
  unfold ethL tagL
  split <;> simp [dg_len]
theorem ip_len {h : Nat → Int} {bs : List Int} (k2 : h 2 = 2048) : (ethL h).length + 20 ≤ (pktL h bs).length := by
  unfold pktL ipL
  rw [if_neg (by omega), if_pos k2]
  simp only [List.length_append, headL_len]
  omega
theorem pkt_len {h : Nat → Int} {bs : List Int} (c : Can h bs) : (pktL h bs).length ≤ 2000 := by
  have h1 := ethL_len h
  have h2 := c.short
  have h3 := ipL_len h (ahead h + bs.length)
  have h4 := ahead_bd h
  unfold pktL
  rw [List.length_append]
  split
  · rw [arpL_len]; omega
  · split
    · rw [List.length_append]; omega
    · omega
/-- A place among twenty. -/
theorem place (at' : Int) : ∃ i : Nat, i < 20 ∧ (at'.tmod 20 + 20).tmod 20 = i ∧ -20 < at'.tmod 20 ∧ at'.tmod 20 < 20 := by
  have h1 : -20 < at'.tmod 20 ∧ at'.tmod 20 < 20 := by
    rcases Int.le_total 0 at' with h | h
    · rw [Int.tmod_eq_emod_of_nonneg h]; omega
    · have := Int.neg_tmod at' 20
      have h2 : (-at').tmod 20 = (-at') % 20 := Int.tmod_eq_emod_of_nonneg (by omega)
      omega
  refine ⟨((at'.tmod 20 + 20).tmod 20).toNat, ?_, ?_, h1.1, h1.2⟩
  · rw [Int.tmod_eq_emod_of_nonneg (by omega)]; omega
  · rw [Int.tmod_eq_emod_of_nonneg (by omega)]; omega
theorem owned_some {base : Nat} {w : World} {v : Value} {xs : List Int} (h : Owns base w v xs) (hp : 0 < xs.length) : ∃ g cap, v = .slice (some ⟨g, 0, none⟩) xs.length cap ∧ base ≤ g ∧ xs.length ≤ cap := by
  rcases h.2 with ⟨_, h0⟩ | ⟨g, cap, cur, rfl, h1, h2, h3, _⟩
  · omega
  · exact ⟨g, cap, rfl, h1, h3⟩

set_option maxHeartbeats 3200000 in
/-- FrameSpoilt. -/
theorem spoilt_any (B : Nat) (h : Nat → Int) (vb : Value) (bs : List Int) (x b : Int) (w : World) (hs : Sl B w vb bs) (hB : B ≤ w.heap.size) (hw : Tab w) (h0 : ∀ k, 0 ≤ h k ∧ h k < 18446744073709551616) (hby0 : 0 ≤ b ∧ b ≤ 255) :
    Calls Tryd.prog 6 #[pv h vb, .int .i64 x, .int .u8 b] w fun e w' => e = .returned (.bool true) ∧ Below w.heap.size w w' := by
  have h0' : ∀ k, 0 ≤ h k := fun k => (h0 k).1
  have hby : 0 ≤ b ∧ b < 256 := by omega
  have hiB := hs.isB
  have hwpos := hw.pos
  have hl0 : Below w.heap.size w (w.alloc (.cells (prow h vb) 27)) := (Below.refl _ _).alloc (Nat.le_refl _) _
  have hP0 : Hid (PBlk (w.alloc (.cells (prow h vb) 27)) w.heap.size h vb) := PBlk.new _ _ _
  have hS0 : Hid (Sl B (w.alloc (.cells (prow h vb) 27)) vb bs) := hs.on (hl0.mono hB)
  have hT0 : Hid (Tab (w.alloc (.cells (prow h vb) 27))) := hw.on hl0
  clear hs hw h0 hby0
  go_enter Tryd.func6, Tryd.ntmps6
  go_wp2_with (refine ld27 (.tmp 3) rfl _ rfl rfl h vb hP0.out ?_)
  go_fit (build_any B h vb bs _ hT0.out (Nat.le_trans hB hl0.size) hS0.out)
  rintro e w1 ⟨v1, rfl, hb1, hO1⟩
  have hl1 : Hid (Below w.heap.size w w1) := hl0.trans (hb1.mono hl0.size)
  have hT1 : Hid (Tab w1) := hT0.out.on hb1
  have hP1 : Hid (PBlk w1 w.heap.size h vb) := hP0.out.on hb1
  have c2 := hP1.out.cell 2 (by omega)
  clear hP0 hS0 hT0 hb1
  by_cases hE : bErr h bs = 0
  · have cn := can_of h0' hiB hE
    rw [can_out cn] at hO1
    rw [hE]
    by_cases hk : h 2 = 2048
    · have hdk : (h 2 != 2048) = false := by simp [hk]
      by_cases hb0 : b = 0
      · have hdb : (b == 0) = true := by simp [hb0]
        clear hb0 hk hE cn hO1
        go_wp2_with fail
        go_fit (wakes_any w1 hT1.out)
        rintro e w8 ⟨rfl, hb8⟩
        have hl8 := hl1.out.trans (hb8.mono hl1.out.size)
        clear hb8
        go_wp2
        go_ret
        exact ⟨rfl, hl8⟩
      · have hdb : (b == 0) = false := by simp [hb0]
        have hpl := ip_len (bs := bs) hk
        have hol := pkt_len cn
        have hoB := can_isB cn
        by_cases hv3 : h 3 = 0
        · have hel : (ethL h).length = 14 := by rw [ethL_length]; simp [hv3]
          rw [hel] at hpl
          obtain ⟨i, hi, hq, hq1, hq2⟩ := place x
          have hsp := fun v h0 h1 hne => spoilt cn hk i hi v h0 h1 hne
          rw [hel] at hsp
          obtain ⟨l, hl⟩ : ∃ l, l = pktL h bs := ⟨_, rfl⟩
          rw [← hl] at hO1 hpl hsp hoB hol
          obtain ⟨g, cap, rfl, hg, hcap⟩ := owned_some hO1 (by omega)
          obtain ⟨y, hy⟩ : ∃ y, y = l.getD (14 + i) 0 := ⟨_, rfl⟩
          have hyb := hoB.at (14 + i)
          rw [← hy] at hyb
          have hc : w1.cell? ⟨g, 14 + i, none⟩ = some (.int .u8 y) := by
            rw [hO1.cellAt (14 + i) (by omega), List.getElem?_map, hy, List.getD_eq_getElem?_getD, List.getElem?_eq_getElem (by omega)]; rfl
          have hz : w1.frozen? ⟨g, 14 + i, none⟩ = false := hO1.frozenAt _
          obtain ⟨hx1, hx2⟩ := xor8 hyb hby
          obtain ⟨z, hzz⟩ : ∃ z, z = bits .xor .u8 y b := ⟨_, rfl⟩
          rw [← hzz] at hx1 hx2
          have hres : prE (l.set (14 + i) z) = 30 := hsp z hx1.1 hx1.2 (by rw [← hy]; exact hx2 hb0)
          have hO2 : Owns (w.alloc (.cells (prow h vb) 27)).heap.size (w1.setCell ⟨g, 14 + i, none⟩ (.int .u8 z)) (.slice (some ⟨g, 0, none⟩) l.length cap) (l.set (14 + i) z) := by
            have q := (hO1.stored (14 + i) (.int .u8 z)).1
            unfold Owns
            rw [List.map_set, List.length_set]; exact q
          have hS2 := Sl.own hO2 (by rw [List.length_set]; omega) (hoB.set (14 + i) hx1.1 hx1.2)
          have hgs : w.heap.size ≤ g := by have := hg; simp at this; omega
          have HS2 : Hid (Sl w1.heap.size (w1.setCell ⟨g, 14 + i, none⟩ (.int .u8 z)) (.slice (some ⟨g, 0, none⟩) l.length cap) (l.set (14 + i) z)) := by
            rwa [show (w1.setCell ⟨g, 14 + i, none⟩ (.int .u8 z)).heap.size = w1.heap.size by simp [World.setCell]] at hS2
          have hl2 : Hid (Below w.heap.size w (w1.setCell ⟨g, 14 + i, none⟩ (.int .u8 z))) := hl1.out.setCell hgs _
          have hT2 : Hid (Tab (w1.setCell ⟨g, 14 + i, none⟩ (.int .u8 z))) := fun k hk => by
            rw [World.cell?_of_block (w := w1) (a := ⟨0, k, none⟩) (Below.heap_setCell _ _ _ _ (by simp; omega))]; exact hT1.out k hk
          have c3 := hP1.out.cell 3 (by omega)
          have hd3 : (h 3 != 0) = false := by simp [hv3]
          have HZ : Hid (z = bits .xor .u8 y b) := hzz
          have HP1 := hP1
          clear hsp hO2 hS2 hO1 hx1 hx2 hy hl hoB hzz hv3 cn hk hb0 hel
          have hzr : bits .xor .u8 y b = z := HZ.out.symm
          go_wp2_with fail
          go_fit (parse_any w1.heap.size _ (l.set (14 + i) z) _ HS2.out (by simp [World.setCell]) hT2.out)
          rintro e w3 ⟨vq, rfl, hb3, hO3⟩
          rw [hres]
          have hl3 : Hid (Below w.heap.size w w3) := hl2.out.trans (hb3.mono hl2.out.size)
          have hT3 : Hid (Tab w3) := hT2.out.on hb3
          clear hres hO3 hb3 HS2 hl2 hT2 hc hz c3 hzr HZ
          go_wp2_with fail
          go_fit (wakes_any w3 hT3.out)
          rintro e w8 ⟨rfl, hb8⟩
          have hl8 := hl3.out.trans (hb8.mono hl3.out.size)
          clear hb8
          go_wp2
          go_ret
          exact ⟨rfl, hl8⟩
        · have hel : (ethL h).length = 18 := by rw [ethL_length]; simp [hv3]
          rw [hel] at hpl
          obtain ⟨i, hi, hq, hq1, hq2⟩ := place x
          have hsp := fun v h0 h1 hne => spoilt cn hk i hi v h0 h1 hne
          rw [hel] at hsp
          obtain ⟨l, hl⟩ : ∃ l, l = pktL h bs := ⟨_, rfl⟩
          rw [← hl] at hO1 hpl hsp hoB hol
          obtain ⟨g, cap, rfl, hg, hcap⟩ := owned_some hO1 (by omega)
          obtain ⟨y, hy⟩ : ∃ y, y = l.getD (18 + i) 0 := ⟨_, rfl⟩
          have hyb := hoB.at (18 + i)
          rw [← hy] at hyb
          have hc : w1.cell? ⟨g, 18 + i, none⟩ = some (.int .u8 y) := by
            rw [hO1.cellAt (18 + i) (by omega), List.getElem?_map, hy, List.getD_eq_getElem?_getD, List.getElem?_eq_getElem (by omega)]; rfl
          have hz : w1.frozen? ⟨g, 18 + i, none⟩ = false := hO1.frozenAt _
          obtain ⟨hx1, hx2⟩ := xor8 hyb hby
          obtain ⟨z, hzz⟩ : ∃ z, z = bits .xor .u8 y b := ⟨_, rfl⟩
          rw [← hzz] at hx1 hx2
          have hres : prE (l.set (18 + i) z) = 30 := hsp z hx1.1 hx1.2 (by rw [← hy]; exact hx2 hb0)
          have hO2 : Owns (w.alloc (.cells (prow h vb) 27)).heap.size (w1.setCell ⟨g, 18 + i, none⟩ (.int .u8 z)) (.slice (some ⟨g, 0, none⟩) l.length cap) (l.set (18 + i) z) := by
            have q := (hO1.stored (18 + i) (.int .u8 z)).1
            unfold Owns
            rw [List.map_set, List.length_set]; exact q
          have hS2 := Sl.own hO2 (by rw [List.length_set]; omega) (hoB.set (18 + i) hx1.1 hx1.2)
          have hgs : w.heap.size ≤ g := by have := hg; simp at this; omega
          have HS2 : Hid (Sl w1.heap.size (w1.setCell ⟨g, 18 + i, none⟩ (.int .u8 z)) (.slice (some ⟨g, 0, none⟩) l.length cap) (l.set (18 + i) z)) := by
            rwa [show (w1.setCell ⟨g, 18 + i, none⟩ (.int .u8 z)).heap.size = w1.heap.size by simp [World.setCell]] at hS2
          have hl2 : Hid (Below w.heap.size w (w1.setCell ⟨g, 18 + i, none⟩ (.int .u8 z))) := hl1.out.setCell hgs _
          have hT2 : Hid (Tab (w1.setCell ⟨g, 18 + i, none⟩ (.int .u8 z))) := fun k hk => by
            rw [World.cell?_of_block (w := w1) (a := ⟨0, k, none⟩) (Below.heap_setCell _ _ _ _ (by simp; omega))]; exact hT1.out k hk
          have c3 := hP1.out.cell 3 (by omega)
          have hd3 : (h 3 != 0) = true := by simp [hv3]
          have HZ : Hid (z = bits .xor .u8 y b) := hzz
          have HP1 := hP1
          clear hsp hO2 hS2 hO1 hx1 hx2 hy hl hoB hzz hv3 cn hk hb0 hel
          have hzr : bits .xor .u8 y b = z := HZ.out.symm
          go_wp2_with fail
          go_fit (parse_any w1.heap.size _ (l.set (18 + i) z) _ HS2.out (by simp [World.setCell]) hT2.out)
          rintro e w3 ⟨vq, rfl, hb3, hO3⟩
          rw [hres]
          have hl3 : Hid (Below w.heap.size w w3) := hl2.out.trans (hb3.mono hl2.out.size)
          have hT3 : Hid (Tab w3) := hT2.out.on hb3
          clear hres hO3 hb3 HS2 hl2 hT2 hc hz c3 hzr HZ
          go_wp2_with fail
          go_fit (wakes_any w3 hT3.out)
          rintro e w8 ⟨rfl, hb8⟩
          have hl8 := hl3.out.trans (hb8.mono hl3.out.size)
          clear hb8
          go_wp2
          go_ret
          exact ⟨rfl, hl8⟩
    · have hdk : (h 2 != 2048) = true := by simp [hk]
      clear hk hE cn hO1
      go_wp2_with fail
      go_fit (wakes_any w1 hT1.out)
      rintro e w8 ⟨rfl, hb8⟩
      have hl8 := hl1.out.trans (hb8.mono hl1.out.size)
      clear hb8
      go_wp2
      go_ret
      exact ⟨rfl, hl8⟩
  · have hdE : (bErr h bs != 0) = true := by simp [hE]
    clear hE hO1
    go_wp2_with fail
    go_fit (wakes_any w1 hT1.out)
    rintro e w8 ⟨rfl, hb8⟩
    have hl8 := hl1.out.trans (hb8.mono hl1.out.size)
    clear hb8
    go_wp2
    go_ret
    exact ⟨rfl, hl8⟩
end Go.Proofs.YtgjglbailgeneaaDoor
