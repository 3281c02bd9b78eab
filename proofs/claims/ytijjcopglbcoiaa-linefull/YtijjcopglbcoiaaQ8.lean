/-
  Proved here: write of package line seals a datagram with as many of its messages as go in. Conditions: at most 32 messages, each of at most 8192 bytes; numbers below 2 to 32.
-/
import Derived.Test.YtijjcopglbcoiaaQ7
import Derived.Test.YtijjcopglbcoiaaS5
import Derived.Test.YtijjcopglbcoiaaD3
import Derived.Deep.CutBlock
namespace Go.Proofs.Ytijjcopglbcoiaa
open Go.RowKit Seal

/-- The room: block g holds the head's bytes hd and, from 14 on, the body's bytes bd; block b the datagram. -/
structure Rm (b g : Nat) (p c q : Nat) (vl : Value) (hd bd : List Int) (w wr : World) : Prop where
  below : Below w.heap.size w wr
  box : wr.heap[b]? = some (.cells (dgc p c q vl) 62 (0, 0))
  room : ∃ cur, wr.heap[g]? = some (.cells cur 79 (0, 0)) ∧ cur.size = 16384 ∧ (∀ i, i < hd.length → cur[i]? = some (.int .u8 (hd.getD i 0))) ∧ (∀ i, i < bd.length → cur[14 + i]? = some (.int .u8 (bd.getD i 0)))
  hl : hd.length ≤ 14
  bl : 14 + bd.length ≤ 16384
theorem getD_appb (a b : List Int) (i : Nat) (h : i < a.length) : (a ++ b).getD i 0 = a.getD i 0 := by
  simp only [List.getD_eq_getElem?_getD, List.getElem?_append_left h]
theorem getD_appb2 (a b : List Int) (i : Nat) (h : a.length ≤ i) : (a ++ b).getD i 0 = b.getD (i - a.length) 0 := by
  simp only [List.getD_eq_getElem?_getD, List.getElem?_append_right h]
theorem Rm.body {b g p c q : Nat} {vl : Value} {hd bd xs : List Int} {w wr wx : World} (h : Rm b g p c q vl hd bd w wr) (hg : w.heap.size ≤ g) (hb : b ≠ g) (k : Wr g (14 + bd.length) xs wr wx) (hs : 14 + bd.length + xs.length ≤ 16384) : Rm b g p c q vl hd (bd ++ xs) w wx := by
  obtain ⟨cur, e1, e2, e3, e4⟩ := h.room
  obtain ⟨cur', f1, f2, f3, f4⟩ := k.own cur 79 e1 (by omega)
  have := h.hl
  refine ⟨h.below.trans (k.only hg h.below.size), ?_, ⟨cur', f1, f2.trans e2, fun i hi => ?_, fun i hi => ?_⟩, h.hl, by rw [List.length_append]; omega⟩
  · rw [k.block b (Array.getElem?_eq_some_iff.1 h.box).1 hb]; exact h.box
  · rw [f3 i (Or.inl (by omega))]; exact e3 i hi
  · rw [List.length_append] at hi
    by_cases hlt : i < bd.length
    · rw [f3 (14 + i) (Or.inl (by omega)), e4 i hlt, getD_appb _ _ _ hlt]
    · have := f4 (i - bd.length) (by omega)
      rw [show 14 + bd.length + (i - bd.length) = 14 + i by omega] at this
      rw [this, getD_appb2 _ _ _ (by omega)]
theorem Rm.head {b g p c q : Nat} {vl : Value} {hd bd xs : List Int} {w wr wx : World} (h : Rm b g p c q vl hd bd w wr) (hg : w.heap.size ≤ g) (hb : b ≠ g) (k : Wr g (0 + hd.length) xs wr wx) (hs : hd.length + xs.length ≤ 14) : Rm b g p c q vl (hd ++ xs) bd w wx := by
  obtain ⟨cur, e1, e2, e3, e4⟩ := h.room
  obtain ⟨cur', f1, f2, f3, f4⟩ := k.own cur 79 e1 (by omega)
  refine ⟨h.below.trans (k.only hg h.below.size), ?_, ⟨cur', f1, f2.trans e2, fun i hi => ?_, fun i hi => ?_⟩, by rw [List.length_append]; omega, h.bl⟩
  · rw [k.block b (Array.getElem?_eq_some_iff.1 h.box).1 hb]; exact h.box
  · rw [List.length_append] at hi
    by_cases hlt : i < hd.length
    · rw [f3 i (Or.inl (by omega)), e3 i hlt, getD_appb _ _ _ hlt]
    · have := f4 (i - hd.length) (by omega)
      rw [show 0 + hd.length + (i - hd.length) = i by omega] at this
      rw [this, getD_appb2 _ _ _ (by omega)]
  · rw [f3 (14 + i) (Or.inr (by omega))]; exact e4 i hi
theorem Rm.sl {b g p c q : Nat} {vl : Value} {hd bd : List Int} {w wr : World} (h : Rm b g p c q vl hd bd w wr) (h14 : hd.length = 14) (hB : IsB (hd ++ bd)) : Sl wr.heap.size wr (.slice (some ⟨g, 0, none⟩) (14 + bd.length) 16384) (hd ++ bd) := by
  obtain ⟨cur, e1, e2, e3, e4⟩ := h.room
  have hl : (hd ++ bd).length = 14 + bd.length := by rw [List.length_append]; omega
  have hbl := h.bl
  refine ⟨some ⟨g, 0, none⟩, 16384, by rw [hl], by omega, by omega, hB, (fun h => by cases h), fun _ => ⟨g, 0, (Array.getElem?_eq_some_iff.1 e1).1, rfl, fun j hj => ?_⟩⟩
  rw [hl] at hj
  rw [Nat.zero_add, cell_of_row wr g _ cur 79 (0, 0) e1]
  by_cases hlt : j < hd.length
  · rw [e3 j hlt, getD_appb _ _ _ hlt]
  · have := e4 (j - 14) (by omega)
    rw [show 14 + (j - 14) = j by omega] at this
    rw [this, getD_appb2 _ _ _ (by omega), h14]
theorem Rm.big {b g p c q : Nat} {vl : Value} {hd bd : List Int} {w wr : World} (h : Rm b g p c q vl hd bd w wr) (hg : w.heap.size ≤ g) (hb : b ≠ g) (k x : Nat) (hk : k ≤ 4) (hs : hd.length + k ≤ 14) :
    Calls Try.prog 49 #[.slice (some ⟨g, 0, none⟩) hd.length 14, .int .i64 k, .int .u64 (x : Nat)] wr fun r w' => r = .returned (.slice (some ⟨g, 0, none⟩) (hd.length + k) 14) ∧ Rm b g p c q vl (hd ++ dg x k) bd w w' := by
  obtain ⟨cur, e1, e2, -⟩ := h.room
  refine (big_any g 0 hd.length 14 k x wr cur 79 e1 (by omega) hs hk).mono ?_
  rintro r w' ⟨rfl, hw⟩
  exact ⟨rfl, h.head hg hb hw (by rw [dg_len]; exact hs)⟩

set_option maxRecDepth 100000 in
set_option maxHeartbeats 1600000 in
theorem write_any (p c q : Nat) (vl : Value) (l : List (List Int)) (w : World) (hl : Ls (fun k => k < w.heap.size) w vl l) (hll : l.length ≤ 32) (hm : ∀ m ∈ l, m.length ≤ 8192) (hp : p < 4294967296) :
    Calls Try.prog 36 #[.agg (dgc p c q vl)] w fun r w' => ∃ v, r = .returned v ∧ Below w.heap.size w w' ∧ Owns w.heap.size w' v (dat (bodyOf p c q (wd 32 14 l))) := by
  have HB : Hid (AllB l) := hl.allB
  have HLs : Hid (Ls (fun k => k < w.heap.size) w vl l) := hl
  obtain ⟨lo, lc, rfl, -⟩ := hl
  obtain ⟨W, hW⟩ : ∃ W, W = (w.alloc (.cells (dgc p c q (.slice lo l.length lc)) 62)).alloc (.cells Try.zeroCells79 79) := ⟨_, rfl⟩
  have H0 : Hid (Rm w.heap.size (w.heap.size + 1) p c q (.slice lo l.length lc) [] [] w W) := by
    refine ⟨?_, ?_, ⟨Try.zeroCells79, ?_, Try.zeroCells79_size, fun i hi => by simp at hi, fun i hi => by simp at hi⟩, by simp, by simp⟩
    · rw [hW]; exact ((Below.refl _ _).alloc (Nat.le_refl _) _).alloc (by simp) _
    · rw [hW, heap_alloc_old _ _ (by simp)]; exact heap_alloc_new _ _
    · rw [hW]
      have := heap_alloc_new (w.alloc (.cells (dgc p c q (.slice lo l.length lc)) 62)) (.cells Try.zeroCells79 79)
      simpa using this
  have HW : Hid (W = (w.alloc (.cells (dgc p c q (.slice lo l.length lc)) 62)).alloc (.cells Try.zeroCells79 79)) := hW
  clear hW
  go_enter Try.func36, Try.ntmps36
  go_upto_region 2 with fail
  rw [← HW.out]
  clear HW
  obtain ⟨d0, d1, d2, d3, e0, e1, e2, e3⟩ := dg_cells H0.out.box
  go_upto_block 0 with fail
  go_cut [5, 6] (fun b n wx => ∃ j : Nat, j ≤ l.length ∧ b = .slice (some ⟨w.heap.size + 1, 14, none⟩) (flat (l.take j)).length 16370 ∧ n = .int .i64 j ∧ wd 32 14 l = l.take j ∧ Rm w.heap.size (w.heap.size + 1) p c q (.slice lo l.length lc) [] (flat (l.take j)) w wx)
  case first =>
    go_wp2
    go_loopw [5, 6, 8, 16] (fun b n m i wr => ∃ j : Nat, j ≤ l.length ∧ b = .slice (some ⟨w.heap.size + 1, 14, none⟩) (flat (l.take j)).length 16370 ∧ n = .int .i64 j ∧ i = .int .i64 j ∧ wd 32 14 l = l.take j ++ wd (32 - j) (sz l j) (l.drop j) ∧ Rm w.heap.size (w.heap.size + 1) p c q (.slice lo l.length lc) [] (flat (l.take j)) w wr) (fun _ _ _ i _ => l.length - (intOf i).toNat)
    case atStart => exact ⟨0, by omega, rfl, rfl, rfl, by simp [sz, flat], H0.out⟩
    case round =>
      obtain ⟨j, hj, rfl, rfl, rfl, hwd, hrm⟩ := hrel
      have HWD : Hid (wd 32 14 l = l.take j ++ wd (32 - j) (sz l j) (l.drop j)) := hwd
      have HRM : Hid (Rm w.heap.size (w.heap.size + 1) p c q (.slice lo l.length lc) [] (flat (l.take j)) w wr) := hrm
      have HSz : Hid (sz l j = 14 + (flat (l.take j)).length) := rfl
      clear hwd hrm d0 d1 d2 d3 e0 e1 e2 e3
      by_cases hlt : j < l.length
      · have HNx := take_snoc hlt
        obtain ⟨_, _, e9, -, -, -, h9⟩ := (HLs.out.carry (T := fun k => k < w.heap.size) fun k hk h => ⟨h, HRM.out.below.block k hk⟩)
        obtain ⟨b, o, hTb, e8, h7⟩ := h9 (fun e => by rw [e] at hlt; simp at hlt)
        obtain ⟨um, hum, hus⟩ := h7 j hlt
        simp only [Value.slice.injEq] at e9
        have e7 : lo = some ⟨b, o, none⟩ := e9.1.trans e8
        clear e9 h9 e8 h7
        subst e7
        obtain ⟨m, hmm⟩ : ∃ m, m = l.getD j [] := ⟨_, rfl⟩
        have hm8 : m.length ≤ 8192 := by rw [hmm]; exact hm _ (getD_mem hlt)
        have HM : Hid (m = l.getD j []) := hmm
        rw [← hmm] at hus
        have HNX : Hid (flat (l.take (j + 1)) = flat (l.take j) ++ (dg (m.length : Int) 2 ++ m)) := by
          show _ = _
          rw [HNx, flat_app, ← hmm]; simp [flat]
        obtain ⟨bd, hbd⟩ : ∃ bd, bd = flat (l.take j) := ⟨_, rfl⟩
        rw [← hbd] at HRM HNX HSz
        have HBD : Hid (bd = flat (l.take j)) := hbd
        have hbl := HRM.out.bl
        have HU6 : Hid (∀ wx, Below w.heap.size w wx → Sl w.heap.size wx um m) := by
          show ∀ _, _
          intro wx hbx
          exact hus.carry fun k _ hk => ⟨hk, (hbx.block k hk).trans (HRM.out.below.block k hk).symm⟩
        obtain ⟨ua, uc, rfl, -⟩ := hus
        clear hmm HNx hTb
        rw [← hbd]
        clear hbd
        by_cases hfit : 14 + bd.length + 2 + m.length ≤ 16384
        · have HW2 : Hid (wd 32 14 l = l.take (j + 1) ++ wd (32 - (j + 1)) (sz l (j + 1)) (l.drop (j + 1))) := by
            show _ = _
            rw [HWD.out, show 32 - j = (31 - j) + 1 by omega, wd_more hlt (by rw [HSz.out, ← HM.out]; exact hfit), take_snoc hlt, show 32 - (j + 1) = 31 - j by omega]
            simp
          have HBg : Hid (Calls Try.prog 49 #[.slice (some ⟨w.heap.size + 1, 14, none⟩) bd.length 16370, .int .i64 2, .int .u64 (m.length : Nat)] wr fun r w' => r = .returned (.slice (some ⟨w.heap.size + 1, 14, none⟩) (bd.length + 2) 16370) ∧ Rm w.heap.size (w.heap.size + 1) p c q (.slice (some ⟨b, o, none⟩) l.length lc) [] (bd ++ dg (m.length : Int) 2) w w') := by
            obtain ⟨cur, f1, f2, -⟩ := HRM.out.room
            refine (big_any (w.heap.size + 1) 14 bd.length 16370 2 m.length wr cur 79 f1 (by omega) (by omega) (by omega)).mono ?_
            rintro r w' ⟨rfl, hw⟩
            exact ⟨rfl, HRM.out.body (by omega) (by omega) hw (by rw [dg_len]; omega)⟩
          have hgf : decide ((16384 : Int) < 14 + (bd.length : Int) + 2 + (m.length : Int)) = false := by simp; omega
          go_wp2_with (first
            | (at_builtin; refine appWr (.tmp 33) (.tmp 34) rfl rfl rfl rfl HC5.out.1 (by rw [HC5.out.2]; decide) (bs := m) (by omega) HU5.out ?_; intro w6 hw6)
            | (go_at_call 49; refine (HBg.out).mono ?_; rintro r w5 ⟨rfl, h5⟩
               have H5 : Hid (Rm w.heap.size (w.heap.size + 1) p c q (.slice (some ⟨b, o, none⟩) l.length lc) [] (bd ++ dg (m.length : Int) 2) w w5) := h5
               obtain ⟨cur5, f1, f2, -⟩ := h5.room
               have HC5 : Hid (w5.heap[w.heap.size + 1]? = some (.cells cur5 79 (0, 0)) ∧ cur5.size = 16384) := ⟨f1, f2⟩
               have HU5 : Hid (Sl w.heap.size w5 (.slice ua m.length uc) m) := HU6.out w5 h5.below
               clear h5 f1 f2))
          have H6 : Hid (Rm w.heap.size (w.heap.size + 1) p c q (.slice (some ⟨b, o, none⟩) l.length lc) [] (flat (l.take (j + 1))) w w6) := by
            have hw := hw6
            rw [show 14 + (bd.length + 2) = 14 + (bd ++ dg (m.length : Int) 2).length by rw [List.length_append, dg_len]] at hw
            have := H5.out.body (by omega) (by omega) hw (by rw [List.length_append, dg_len]; omega)
            rw [List.append_assoc, ← HNX.out] at this
            exact this
          have HLn : Hid ((flat (l.take (j + 1))).length = bd.length + 2 + m.length) := by
            show _ = _
            rw [HNX.out, List.length_append, List.length_append, dg_len]; omega
          clear hw6
          go_wp2
          go_roundw
          case rel => exact ⟨j + 1, by omega, by rw [HLn.out], by go_num, by go_num, HW2.out, H6.out⟩
          case measure => simp [intOf]; omega
        · have HW2 : Hid (wd 32 14 l = l.take j) := by
            show _ = _
            rw [HWD.out, show 32 - j = (31 - j) + 1 by omega, wd_stop hlt (by rw [HSz.out, ← HM.out]; exact hfit), List.append_nil]
          have hgf : decide ((16384 : Int) < 14 + (bd.length : Int) + 2 + (m.length : Int)) = true := by simp; omega
          go_wp2
          go_meet
          case rel => exact ⟨j, hj, by rw [HBD.out], rfl, HW2.out, by rw [← HBD.out]; exact HRM.out⟩
      · obtain rfl : j = l.length := by omega
        have HW2 : Hid (wd 32 14 l = l.take l.length) := by
          show _ = _
          rw [HWD.out, List.drop_length, wd_nil, List.append_nil]
        go_wp2
        go_meet
        case rel => exact ⟨l.length, hj, rfl, rfl, HW2.out, HRM.out⟩
  case rest =>
    obtain ⟨j, hj, rfl, rfl, hwd, hrm⟩ := hcut
    have HWD : Hid (wd 32 14 l = l.take j) := hwd
    obtain ⟨bd, hbd⟩ : ∃ bd, bd = flat (l.take j) := ⟨_, rfl⟩
    rw [← hbd] at hrm ⊢
    have HBD : Hid (bd = flat (l.take j)) := hbd
    have H1 : Hid (Rm w.heap.size (w.heap.size + 1) p c q (.slice lo l.length lc) [] bd w wc) := hrm
    have HBg : Hid (∀ (wx : World) (hd : List Int) (n m k x : Nat), Rm w.heap.size (w.heap.size + 1) p c q (.slice lo l.length lc) hd bd w wx → hd.length = n → n + k = m → k ≤ 4 → m ≤ 14 → Calls Try.prog 49 #[.slice (some ⟨w.heap.size + 1, 0, none⟩) n 14, .int .i64 k, .int .u64 (x : Nat)] wx fun r w' => r = .returned (.slice (some ⟨w.heap.size + 1, 0, none⟩) m 14) ∧ Rm w.heap.size (w.heap.size + 1) p c q (.slice lo l.length lc) (hd ++ dg x k) bd w w') := by
      show ∀ _, _
      intro wx hd n m k x h hn hm hk hs
      subst hn hm
      exact h.big (by omega) (by omega) k x hk hs
    have HBY : Hid (IsB (bodyOf p c q (wd 32 14 l))) := bodyOf_isB (by rw [HWD.out]; exact HB.out.take j)
    have hbl := hrm.bl
    clear hwd hbd d0 d1 d2 d3 e0 e1 e2 e3
    obtain ⟨d0, d1, d2, d3, -⟩ := dg_cells hrm.box
    clear hrm
    go_upto_region 14 with (go_at_call 49; refine (HBg.out wc [] 0 4 4 p H1.out (by simp) rfl (by omega) (by omega)).mono ?_; rintro r w2 ⟨rfl, h2⟩; have H2 : Hid (Rm w.heap.size (w.heap.size + 1) p c q (.slice lo l.length lc) (dg p 4) bd w w2) := h2; clear h2)
    clear d0 d1 d2 d3 H1
    obtain ⟨d0, d1, d2, d3, -⟩ := dg_cells H2.out.box
    go_upto_region 15 with (go_at_call 49; refine (HBg.out w2 (dg p 4) 4 8 4 c H2.out (by simp [dg_len]) rfl (by omega) (by omega)).mono ?_; rintro r w3 ⟨rfl, h3⟩; have H3 : Hid (Rm w.heap.size (w.heap.size + 1) p c q (.slice lo l.length lc) (dg p 4 ++ dg c 4) bd w w3) := h3; clear h3)
    clear d0 d1 d2 d3 H2
    obtain ⟨d0, d1, d2, d3, -⟩ := dg_cells H3.out.box
    go_upto_region 16 with (go_at_call 49; refine (HBg.out w3 (dg p 4 ++ dg c 4) 8 12 4 q H3.out (by simp [dg_len]) rfl (by omega) (by omega)).mono ?_; rintro r w4 ⟨rfl, h4⟩; have H4 : Hid (Rm w.heap.size (w.heap.size + 1) p c q (.slice lo l.length lc) (dg p 4 ++ dg c 4 ++ dg q 4) bd w w4) := h4; clear h4)
    clear d0 d1 d2 d3 H3
    obtain ⟨d0, d1, d2, d3, -⟩ := dg_cells H4.out.box
    go_upto_region 17 with (go_at_call 49; refine (HBg.out w4 (dg p 4 ++ dg c 4 ++ dg q 4) 12 14 2 j H4.out (by simp [dg_len]) rfl (by omega) (by omega)).mono ?_; rintro r w5 ⟨rfl, h5⟩; have H5 : Hid (Rm w.heap.size (w.heap.size + 1) p c q (.slice lo l.length lc) (dg p 4 ++ dg c 4 ++ dg q 4 ++ dg j 2) bd w w5) := h5; clear h5)
    clear d0 d1 d2 d3 H4
    obtain ⟨d0, d1, d2, d3, -⟩ := dg_cells H5.out.box
    clear d0 d1 d2 d3 HBg
    have HE : Hid (dg (p : Int) 4 ++ dg c 4 ++ dg q 4 ++ dg j 2 ++ bd = bodyOf p c q (wd 32 14 l)) := by
      show _ = _
      have hjl : (l.take j).length = j := by rw [List.length_take]; omega
      unfold bodyOf
      rw [HWD.out, HBD.out, hjl]
      simp only [List.append_assoc]
    have hsl := H5.out.sl (by simp [dg_len]) (by rw [HE.out]; exact HBY.out)
    rw [HE.out] at hsl
    have hlen : (bodyOf p c q (wd 32 14 l)).length = 14 + bd.length := by
      rw [← HE.out]; simp [dg_len]; omega
    have HSL := seal_any w5.heap.size _ _ w5 hsl (Nat.le_refl _)
    rw [show seE (bodyOf p c q (wd 32 14 l)) = 0 from if_neg (by omega), show seL (bodyOf p c q (wd 32 14 l)) = dat (bodyOf p c q (wd 32 14 l)) from if_neg (by omega)] at HSL
    have HSL' : Hid (Calls Try.prog 50 #[.slice (some ⟨w.heap.size + 1, 0, none⟩) (14 + bd.length) 16384] w5 fun r w' => ∃ v', r = .returned (.tuple #[v', .int .i64 0]) ∧ Below w5.heap.size w5 w' ∧ Owns w5.heap.size w' v' (dat (bodyOf p c q (wd 32 14 l)))) := HSL
    have hbI : (14 : Int) + (bd.length : Int) ≤ 16384 := by omega
    have hbJ : (0 : Int) ≤ 14 + (bd.length : Int) := by omega
    have hbN : ((14 : Int) + (bd.length : Int)).toNat = 14 + bd.length := by omega
    clear HSL hsl hlen
    go_wp2_with (go_at_call 50; refine (HSL'.out).mono ?_; rintro r w6 ⟨v6, rfl, hb6, ho6⟩)
    go_ret
    exact ⟨v6, rfl, H5.out.below.trans (hb6.mono H5.out.below.size), Joins.ownsRow_le ho6 H5.out.below.size⟩
end Go.Proofs.Ytijjcopglbcoiaa
