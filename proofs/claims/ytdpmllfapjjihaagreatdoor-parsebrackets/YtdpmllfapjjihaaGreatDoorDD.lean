/-
  Proved here: dotted of the document's answers: four numbers with dots between. Conditions: the place is within the text.
-/
import Derived.Test.YtdpmllfapjjihaaGreatDoorDC
namespace Go.Proofs.YtdpmllfapjjihaaGreatDoor
open Go.RowKit
set_option maxRecDepth 100000

theorem rv_bad (s : ByteArray) (a e c : Nat) (h : c ≠ 0) : rv s a ⟨0, e, 0, c⟩ = dV wZ c a (s.extract a e) := by unfold rv; rw [if_neg h]
theorem dot_bad {s : ByteArray} {i k n : Nat} (hi : i < 4) (h : 0 < i) (hb : bt s k ≠ 46) : dot s (4 - i) k n = ⟨0, k, 0, 150⟩ := by
  obtain ⟨f, hf⟩ : ∃ f, 4 - i = f + 1 := ⟨3 - i, by omega⟩
  rw [hf, dot, if_neg (by omega), if_neg hb]
theorem dot_one {s : ByteArray} {i k n : Nat} (hi : i < 4) : ∀ kk, (i = 0 ∧ kk = k) ∨ (0 < i ∧ bt s k = 46 ∧ kk = k + 1) → dot s (4 - i) k n = if badP s kk then ⟨0, rE isD s kk, 0, 150⟩ else dot s (4 - (i + 1)) (rE isD s kk) (n * 256 + dcv s kk) := by
  intro kk h
  obtain ⟨f, hf⟩ : ∃ f, 4 - i = f + 1 := ⟨3 - i, by omega⟩
  rw [hf, dot, show 4 - (i + 1) = f by omega]
  rcases h with ⟨rfl, rfl⟩ | ⟨h1, h2, rfl⟩
  · rw [if_pos (by omega)]
  · rw [if_neg (by omega), if_pos h2]
theorem rv_form (s : ByteArray) (a : Nat) (f : Fd) : ∃ x c a' t, rv s a f = dV x c a' t := by
  unfold rv; split
  · exact ⟨_, _, _, _, rfl⟩
  · exact ⟨_, _, _, _, rfl⟩
theorem Rc.drew {w : World} {x : Wd} {c a : Nat} {t : ByteArray} {W : World} (h : Rc w x c a t W) : Rc w x c a t W.drew := ⟨h.low.drew, h.b1, h.b2⟩
/-- A struct stored, as a step of a drawn region. -/
theorem ready_st {md : Region.Mode} {ops : Array Oper} {Q : Exit → Act → World → Prop} {S : World → Prop} {fuel : Nat} {listed : Array Bool} {a : Act} {w : World} (i : Nat) (o : Oper) (hr : Region.ready md ops listed = [i]) (ho : ops[i]? = some o) (ty : TypeId) (x y : Operand) (hop : o.op = .store ty x y) (hg : o.guard = none)
    (g : Nat) (cs : Array Value) (hx : a.eval x = .pointer (some ⟨g, 0, none⟩)) (hy : a.eval y = .agg cs) (t : TypeId) (zs : Array Value) (hgb : w.heap[g]? = some (.cells zs t (0, 0))) (hi : (Tryz.prog.info? ty).map (·.size) = some cs.size) (hz : zs.size = cs.size) (h1 : cs.all (·.oneCell') = true)
    (hk : S (w.setRow g cs) ∧ wpAnyH Tryz.prog md ops Q S fuel (listed.setIfInBounds i true) (a.put o.dst undef) (w.setRow g cs)) : wpAnyH Tryz.prog md ops Q S (fuel + 1) listed a w := by
  refine ready_one i o hr ho ?_
  have hw : Region.wanted o (yielded ops a.tmps) = true := by simp [Region.wanted, hg]
  rw [if_pos hw]
  exact wp_store_row ty x y hop g cs hx hy t zs hgb hi hz h1 hk
set_option maxHeartbeats 6400000 in
theorem dotted_any (s : ByteArray) (a : Nat) (ha : a ≤ s.size) (hs : s.size ≤ 65536) (w : World) :
    Calls Tryz.prog 82 #[.string s, .int .i64 a] w fun r w' => r = .returned (rv s a (dot s 4 a 0)) ∧ Below w.heap.size w w' := by
  have HZ := hid (Rc.new w)
  obtain ⟨W0, hW0⟩ : ∃ W0, W0 = (w.alloc (.cells (wdc wZ) 56)).alloc (.cells (dfc 0 0 ⟨#[]⟩) 37) := ⟨_, rfl⟩
  have HE : Hid ((w.alloc (.cells #[.int .i8 0, .string ⟨#[]⟩, .int .u64 0, .int .i64 0] 56)).alloc (.cells #[.int .i64 0, .int .i64 0, .string ⟨#[]⟩] 37) = W0) := hW0.symm
  rw [← hW0] at HZ
  clear hW0
  obtain ⟨R, hR⟩ : ∃ R, R = dot s 4 a 0 := ⟨_, rfl⟩
  have HR0 := hid hR
  rw [← hR]
  clear hR
  go_enter Tryz.func82, Tryz.ntmps82
  go_upto_region 5 with fail
  rw [HE.out]
  clear HE
  go_loop [6, 7, 8, 9] (fun vn vk vg vi => ∃ (z : Int) (k : Nat) (g : Bool) (i : Nat), vn = .int .u64 z ∧ vk = .int .i64 k ∧ vg = .bool g ∧ vi = .int .i64 i ∧ i ≤ 4 ∧ k ≤ s.size ∧ a ≤ k ∧ Hid ((g = true ∧ ∃ n : Nat, z = n ∧ n < 256 ^ i ∧ dot s (4 - i) k n = R) ∨ (g = false ∧ R = ⟨0, k, 0, 150⟩))) (fun _ _ _ vi => 4 - (intOf vi).toNat)
  case atStart => exact ⟨0, a, true, 0, rfl, rfl, rfl, rfl, by omega, ha, Nat.le_refl _, Or.inl ⟨rfl, 0, rfl, by decide, HR0.out.symm⟩⟩
  case round =>
    obtain ⟨z, k, g, i, rfl, rfl, rfl, rfl, hi, hk, hak, HQ⟩ := hrel
    rcases HQ.out with ⟨rfl, n, rfl, hn, hd⟩ | ⟨rfl, hd⟩
    · by_cases hl : i < 4
      · have g1 : decide ((i : Int) < 4) = true := by simp; omega
        have hwi : IntKind.i64.wrap ((i : Int) + 1) = (i : Int) + 1 := by rw [IntKind.wrap_i64]; omega
        by_cases h0 : i = 0
        · have g2 : decide ((0 : Int) < (i : Int)) = false := by simp; omega
          have g2n : decide (0 < i) = false := by simp; omega
          have HS : Hid (R = if badP s k then ⟨0, rE isD s k, 0, 150⟩ else dot s (4 - (i + 1)) (rE isD s k) (n * 256 + dcv s k)) := by
            show _ = _; rw [← hd]; exact dot_one hl k (.inl ⟨h0, rfl⟩)
          have hkk := hk
          have HI0 := hid h0
          clear h0
          have hge := rE_ge isD s k
          have hle := rE_le (p := isD) hkk
          have hal : ∀ j, k ≤ j → j < rE isD s k → isD (bt s j) = true := fun j h1 h2 => rE_all h1 h2
          have HRun := hid (fun W => run_any s k hkk hs W)
          have HDec := hid (fun W => ddecimal_any s k (rE isD s k) hge hle hal hs W)
          have hsz := size_ext (s := s) (a := k) hle
          have HIX := hid (fun (h : 0 < rE isD s k - k) W => run_ext s k (rE isD s k) 0 hle h W)
          have HBP : Hid (badP s k ↔ (rE isD s k = k ∨ 255 < dcv s k ∨ (1 < rE isD s k - k ∧ bt s k = 48))) := Iff.rfl
          have hNe : dcv s k = dn s (rE isD s k - k) k 0 := rfl
          obtain ⟨N, hN⟩ : ∃ N, N = dn s (rE isD s k - k) k 0 := ⟨_, rfl⟩
          rw [← hN] at hNe HDec
          rw [hNe] at HBP
          obtain ⟨e, he⟩ : ∃ e, e = rE isD s k := ⟨_, rfl⟩
          rw [← he] at hge hle HRun HDec hsz HIX HBP hN HS
          obtain ⟨D, hD⟩ : ∃ D, D = s.extract k e := ⟨_, rfl⟩
          rw [← hD] at HRun HDec hsz HIX
          obtain ⟨m, hm⟩ : ∃ m, m = e - k := ⟨_, rfl⟩
          rw [← hm] at hsz HIX
          rw [← hm] at hN
          have hwe : IntKind.i64.wrap ((k : Int) + (m : Int)) = (e : Int) := by rw [IntKind.wrap_i64]; omega
          have HPn := hid hn
          have hN0 : m = 0 → N = 0 := fun h => by rw [hN, h]; rfl
          have he1 : D.size = 0 → D = ⟨#[]⟩ := fun h => by
            have : D.data.size = 0 := h
            exact ByteArray.ext (Array.eq_empty_of_size_eq_zero this)
          have HBQ : Hid (badP s k ↔ (m = 0 ∨ 255 < N ∨ (1 < m ∧ bt s k = 48))) := by show _ ↔ _; rw [HBP.out]; omega
          have HN0 := hid hN0
          have HE1 := hid he1
          have HGe := hid hge
          have HNe := hid hNe
          have HMe := hid hm
          clear HBP hal hd hN hD he HQ hn hN0 he1 hge hm hNe
          by_cases hm0 : m = 0
          · obtain rfl : D = ⟨#[]⟩ := HE1.out (by omega)
            obtain rfl : N = 0 := HN0.out hm0
            have hdc : dcV 0 = .tuple #[.int .u64 0, .bool true] := rfl
            rw [hdc] at HDec
            have hb2 := HBQ.out.2 (.inl hm0)
            obtain rfl : e = k := by have := HMe.out; have := HGe.out; omega
            subst hm0
            clear HE1 HN0 HBQ
            have HB : Hid (R = ⟨0, e, 0, 150⟩) := by show _ = _; rw [HS.out, if_pos (hb2)]
            clear HS
            try clear hb2
            try clear hb
            go_wp2_with (first
              | (go_at_call 81; refine (HRun.out _).mono ?_; rintro e w5 ⟨rfl, hw⟩; obtain rfl := hw.symm)
              | (go_at_call 83; refine (HDec.out _).mono ?_; rintro e w5 ⟨rfl, hw⟩; obtain rfl := hw.symm))
            go_round
            case rel => exact ⟨_, e, false, i + 1, rfl, by go_num, rfl, by go_num, by omega, hle, by have := HGe.out; omega, Or.inr ⟨rfl, HB.out⟩⟩
            case measure => simp [intOf]; omega
          · have hDn : (D.toList == []) = false := by
              rw [Bool.eq_false_iff]; intro h
              have h' : D.toList = [] := eq_of_beq h
              rw [ByteArray.toList_eq] at h'
              have : D.size = 0 := by rw [Lib.size_eq, h']; rfl
              omega
            by_cases hN1 : N ≤ 18446744073709551615
            · have hdc : dcV N = .tuple #[.int .u64 (N : Int), .bool true] := by unfold dcV; rw [if_pos hN1]
              rw [hdc] at HDec
              by_cases hN2 : N ≤ 255
              · have g5 : decide ((N : Int) ≤ 255) = true := by simp; omega
                by_cases hm1 : m = 1
                · have g6 : ((m : Int) == 1) = true := by simp; omega
                  have g6n : (m == 1) = true := by simp; omega
                  have hnb : ¬ badP s k := fun h => by have := HBQ.out.1 h; omega
                  have HM1 := hid hm1
                  clear hm1
                  have HB : Hid (dot s (4 - (i + 1)) e (n * 256 + N) = R) := by show _ = _; rw [HS.out, if_neg (hnb), HNe.out]
                  have HP : Hid (n * 256 + N < 256 ^ (i + 1)) := by show _ < _; have := HPn.out; rw [Nat.pow_succ]; omega
                  have hn24 : n < 16777216 := pow_i (i := i) (by omega) HPn.out
                  have hsh := shl8 hn24
                  have hor := or8 hn24 (show N < 256 by omega)
                  obtain ⟨M, hM⟩ : ∃ M, M = n * 256 + N := ⟨_, rfl⟩
                  rw [← hM] at HB HP hor
                  generalize n * 256 = m8 at hsh hor
                  clear HS hM
                  try clear hnb
                  try clear hb
                  go_wp2_with (first
                    | (go_at_call 81; refine (HRun.out _).mono ?_; rintro e w5 ⟨rfl, hw⟩; obtain rfl := hw.symm)
                    | (go_at_call 83; refine (HDec.out _).mono ?_; rintro e w5 ⟨rfl, hw⟩; obtain rfl := hw.symm))
                  go_round
                  case rel => exact ⟨M, e, true, i + 1, rfl, by go_num, rfl, by go_num, by omega, hle, by have := HGe.out; omega, Or.inl ⟨rfl, M, rfl, HP.out, HB.out⟩⟩
                  case measure => simp [intOf]; omega
                · have g6 : ((m : Int) == 1) = false := by simp; omega
                  have g6n : (m == 1) = false := by simp; omega
                  have hix : ∀ W, (Instr.index 9 (.string D) (.int .i64 0)).run Tryz.prog W = .ok (.int .u8 ((bt s k : Nat) : Int)) W := fun W => HIX.out (by omega) W
                  by_cases hb : bt s k = 48
                  · have hb2 := HBQ.out.2 (.inr (.inr ⟨by omega, hb⟩))
                    rw [hb] at hix
                    have HB : Hid (R = ⟨0, e, 0, 150⟩) := by show _ = _; rw [HS.out, if_pos (hb2)]
                    clear HS
                    try clear hb2
                    try clear hb
                    go_wp2_with (first
                      | (go_at_call 81; refine (HRun.out _).mono ?_; rintro e w5 ⟨rfl, hw⟩; obtain rfl := hw.symm)
                      | (go_at_call 83; refine (HDec.out _).mono ?_; rintro e w5 ⟨rfl, hw⟩; obtain rfl := hw.symm))
                    go_round
                    case rel => exact ⟨_, e, false, i + 1, rfl, by go_num, rfl, by go_num, by omega, hle, by have := HGe.out; omega, Or.inr ⟨rfl, HB.out⟩⟩
                    case measure => simp [intOf]; omega
                  · have g7 : (((bt s k : Nat) : Int) == 48) = false := by simp; omega
                    have g8 : (((bt s k : Nat) : Int) != 48) = true := by simp; omega
                    have hnb : ¬ badP s k := fun h => by have := HBQ.out.1 h; omega
                    generalize bt s k = c at hix g7 g8
                    have HB : Hid (dot s (4 - (i + 1)) e (n * 256 + N) = R) := by show _ = _; rw [HS.out, if_neg (hnb), HNe.out]
                    have HP : Hid (n * 256 + N < 256 ^ (i + 1)) := by show _ < _; have := HPn.out; rw [Nat.pow_succ]; omega
                    have hn24 : n < 16777216 := pow_i (i := i) (by omega) HPn.out
                    have hsh := shl8 hn24
                    have hor := or8 hn24 (show N < 256 by omega)
                    obtain ⟨M, hM⟩ : ∃ M, M = n * 256 + N := ⟨_, rfl⟩
                    rw [← hM] at HB HP hor
                    generalize n * 256 = m8 at hsh hor
                    clear HS hM
                    try clear hnb
                    try clear hb
                    go_wp2_with (first
                      | (go_at_call 81; refine (HRun.out _).mono ?_; rintro e w5 ⟨rfl, hw⟩; obtain rfl := hw.symm)
                      | (go_at_call 83; refine (HDec.out _).mono ?_; rintro e w5 ⟨rfl, hw⟩; obtain rfl := hw.symm))
                    go_round
                    case rel => exact ⟨M, e, true, i + 1, rfl, by go_num, rfl, by go_num, by omega, hle, by have := HGe.out; omega, Or.inl ⟨rfl, M, rfl, HP.out, HB.out⟩⟩
                    case measure => simp [intOf]; omega
              · have g5 : decide ((N : Int) ≤ 255) = false := by simp; omega
                have hb2 := HBQ.out.2 (.inr (.inl (by omega)))
                have HB : Hid (R = ⟨0, e, 0, 150⟩) := by show _ = _; rw [HS.out, if_pos (hb2)]
                clear HS
                try clear hb2
                try clear hb
                go_wp2_with (first
                  | (go_at_call 81; refine (HRun.out _).mono ?_; rintro e w5 ⟨rfl, hw⟩; obtain rfl := hw.symm)
                  | (go_at_call 83; refine (HDec.out _).mono ?_; rintro e w5 ⟨rfl, hw⟩; obtain rfl := hw.symm))
                go_round
                case rel => exact ⟨_, e, false, i + 1, rfl, by go_num, rfl, by go_num, by omega, hle, by have := HGe.out; omega, Or.inr ⟨rfl, HB.out⟩⟩
                case measure => simp [intOf]; omega
            · have hdc : dcV N = .tuple #[.int .u64 0, .bool false] := by unfold dcV; rw [if_neg hN1]
              rw [hdc] at HDec
              have hb2 := HBQ.out.2 (.inr (.inl (by omega)))
              have HB : Hid (R = ⟨0, e, 0, 150⟩) := by show _ = _; rw [HS.out, if_pos (hb2)]
              clear HS
              try clear hb2
              try clear hb
              go_wp2_with (first
                | (go_at_call 81; refine (HRun.out _).mono ?_; rintro e w5 ⟨rfl, hw⟩; obtain rfl := hw.symm)
                | (go_at_call 83; refine (HDec.out _).mono ?_; rintro e w5 ⟨rfl, hw⟩; obtain rfl := hw.symm))
              go_round
              case rel => exact ⟨_, e, false, i + 1, rfl, by go_num, rfl, by go_num, by omega, hle, by have := HGe.out; omega, Or.inr ⟨rfl, HB.out⟩⟩
              case measure => simp [intOf]; omega
        · have g2 : decide ((0 : Int) < (i : Int)) = true := by simp; omega
          have g2n : decide (0 < i) = true := by simp; omega
          by_cases hc : bt s k = 46
          · have hin : k < s.size := in_of_bt (by rw [hc]; decide)
            have g4 : decide ((s.size : Int) ≤ (k : Int)) = false := by simp; omega
            have hix0 := run_bt s k hin W0
            rw [hc, show ((46 : Nat) : Int) = 46 from rfl] at hix0
            obtain ⟨kk, hkd⟩ : ∃ kk, kk = k + 1 := ⟨_, rfl⟩
            have hwk : IntKind.i64.wrap ((k : Int) + 1) = ((kk : Nat) : Int) := by rw [IntKind.wrap_i64]; omega
            have HS : Hid (R = if badP s kk then ⟨0, rE isD s kk, 0, 150⟩ else dot s (4 - (i + 1)) (rE isD s kk) (n * 256 + dcv s kk)) := by
              show _ = _; rw [← hd]; exact dot_one hl kk (.inr ⟨by omega, hc, hkd⟩)
            have hkk : kk ≤ s.size := by omega
            have hakk : a ≤ kk := by omega
            have HI0 := hid h0
            clear h0 hc hkd
            have hge := rE_ge isD s kk
            have hle := rE_le (p := isD) hkk
            have hal : ∀ j, kk ≤ j → j < rE isD s kk → isD (bt s j) = true := fun j h1 h2 => rE_all h1 h2
            have HRun := hid (fun W => run_any s kk hkk hs W)
            have HDec := hid (fun W => ddecimal_any s kk (rE isD s kk) hge hle hal hs W)
            have hsz := size_ext (s := s) (a := kk) hle
            have HIX := hid (fun (h : 0 < rE isD s kk - kk) W => run_ext s kk (rE isD s kk) 0 hle h W)
            have HBP : Hid (badP s kk ↔ (rE isD s kk = kk ∨ 255 < dcv s kk ∨ (1 < rE isD s kk - kk ∧ bt s kk = 48))) := Iff.rfl
            have hNe : dcv s kk = dn s (rE isD s kk - kk) kk 0 := rfl
            obtain ⟨N, hN⟩ : ∃ N, N = dn s (rE isD s kk - kk) kk 0 := ⟨_, rfl⟩
            rw [← hN] at hNe HDec
            rw [hNe] at HBP
            obtain ⟨e, he⟩ : ∃ e, e = rE isD s kk := ⟨_, rfl⟩
            rw [← he] at hge hle HRun HDec hsz HIX HBP hN HS
            obtain ⟨D, hD⟩ : ∃ D, D = s.extract kk e := ⟨_, rfl⟩
            rw [← hD] at HRun HDec hsz HIX
            obtain ⟨m, hm⟩ : ∃ m, m = e - kk := ⟨_, rfl⟩
            rw [← hm] at hsz HIX
            rw [← hm] at hN
            have hwe : IntKind.i64.wrap ((kk : Int) + (m : Int)) = (e : Int) := by rw [IntKind.wrap_i64]; omega
            have HPn := hid hn
            have hN0 : m = 0 → N = 0 := fun h => by rw [hN, h]; rfl
            have he1 : D.size = 0 → D = ⟨#[]⟩ := fun h => by
              have : D.data.size = 0 := h
              exact ByteArray.ext (Array.eq_empty_of_size_eq_zero this)
            have HBQ : Hid (badP s kk ↔ (m = 0 ∨ 255 < N ∨ (1 < m ∧ bt s kk = 48))) := by show _ ↔ _; rw [HBP.out]; omega
            have HN0 := hid hN0
            have HE1 := hid he1
            have HGe := hid hge
            have HNe := hid hNe
            have HMe := hid hm
            clear HBP hal hd hN hD he HQ hn hN0 he1 hge hm hNe
            by_cases hm0 : m = 0
            · obtain rfl : D = ⟨#[]⟩ := HE1.out (by omega)
              obtain rfl : N = 0 := HN0.out hm0
              have hdc : dcV 0 = .tuple #[.int .u64 0, .bool true] := rfl
              rw [hdc] at HDec
              have hb2 := HBQ.out.2 (.inl hm0)
              obtain rfl : e = kk := by have := HMe.out; have := HGe.out; omega
              subst hm0
              clear HE1 HN0 HBQ
              have HB : Hid (R = ⟨0, e, 0, 150⟩) := by show _ = _; rw [HS.out, if_pos (hb2)]
              clear HS
              try clear hb2
              try clear hb
              go_wp2_with (first
                | (go_at_call 81; refine (HRun.out _).mono ?_; rintro e w5 ⟨rfl, hw⟩; obtain rfl := hw.symm)
                | (go_at_call 83; refine (HDec.out _).mono ?_; rintro e w5 ⟨rfl, hw⟩; obtain rfl := hw.symm))
              go_round
              case rel => exact ⟨_, e, false, i + 1, rfl, by go_num, rfl, by go_num, by omega, hle, by have := HGe.out; omega, Or.inr ⟨rfl, HB.out⟩⟩
              case measure => simp [intOf]; omega
            · have hDn : (D.toList == []) = false := by
                rw [Bool.eq_false_iff]; intro h
                have h' : D.toList = [] := eq_of_beq h
                rw [ByteArray.toList_eq] at h'
                have : D.size = 0 := by rw [Lib.size_eq, h']; rfl
                omega
              by_cases hN1 : N ≤ 18446744073709551615
              · have hdc : dcV N = .tuple #[.int .u64 (N : Int), .bool true] := by unfold dcV; rw [if_pos hN1]
                rw [hdc] at HDec
                by_cases hN2 : N ≤ 255
                · have g5 : decide ((N : Int) ≤ 255) = true := by simp; omega
                  by_cases hm1 : m = 1
                  · have g6 : ((m : Int) == 1) = true := by simp; omega
                    have g6n : (m == 1) = true := by simp; omega
                    have hnb : ¬ badP s kk := fun h => by have := HBQ.out.1 h; omega
                    have HM1 := hid hm1
                    clear hm1
                    have HB : Hid (dot s (4 - (i + 1)) e (n * 256 + N) = R) := by show _ = _; rw [HS.out, if_neg (hnb), HNe.out]
                    have HP : Hid (n * 256 + N < 256 ^ (i + 1)) := by show _ < _; have := HPn.out; rw [Nat.pow_succ]; omega
                    have hn24 : n < 16777216 := pow_i (i := i) (by omega) HPn.out
                    have hsh := shl8 hn24
                    have hor := or8 hn24 (show N < 256 by omega)
                    obtain ⟨M, hM⟩ : ∃ M, M = n * 256 + N := ⟨_, rfl⟩
                    rw [← hM] at HB HP hor
                    generalize n * 256 = m8 at hsh hor
                    clear HS hM
                    try clear hnb
                    try clear hb
                    go_wp2_with (first
                      | (go_at_call 81; refine (HRun.out _).mono ?_; rintro e w5 ⟨rfl, hw⟩; obtain rfl := hw.symm)
                      | (go_at_call 83; refine (HDec.out _).mono ?_; rintro e w5 ⟨rfl, hw⟩; obtain rfl := hw.symm))
                    go_round
                    case rel => exact ⟨M, e, true, i + 1, rfl, by go_num, rfl, by go_num, by omega, hle, by have := HGe.out; omega, Or.inl ⟨rfl, M, rfl, HP.out, HB.out⟩⟩
                    case measure => simp [intOf]; omega
                  · have g6 : ((m : Int) == 1) = false := by simp; omega
                    have g6n : (m == 1) = false := by simp; omega
                    have hix : ∀ W, (Instr.index 9 (.string D) (.int .i64 0)).run Tryz.prog W = .ok (.int .u8 ((bt s kk : Nat) : Int)) W := fun W => HIX.out (by omega) W
                    by_cases hb : bt s kk = 48
                    · have hb2 := HBQ.out.2 (.inr (.inr ⟨by omega, hb⟩))
                      rw [hb] at hix
                      have HB : Hid (R = ⟨0, e, 0, 150⟩) := by show _ = _; rw [HS.out, if_pos (hb2)]
                      clear HS
                      try clear hb2
                      try clear hb
                      go_wp2_with (first
                        | (go_at_call 81; refine (HRun.out _).mono ?_; rintro e w5 ⟨rfl, hw⟩; obtain rfl := hw.symm)
                        | (go_at_call 83; refine (HDec.out _).mono ?_; rintro e w5 ⟨rfl, hw⟩; obtain rfl := hw.symm))
                      go_round
                      case rel => exact ⟨_, e, false, i + 1, rfl, by go_num, rfl, by go_num, by omega, hle, by have := HGe.out; omega, Or.inr ⟨rfl, HB.out⟩⟩
                      case measure => simp [intOf]; omega
                    · have g7 : (((bt s kk : Nat) : Int) == 48) = false := by simp; omega
                      have g8 : (((bt s kk : Nat) : Int) != 48) = true := by simp; omega
                      have hnb : ¬ badP s kk := fun h => by have := HBQ.out.1 h; omega
                      generalize bt s kk = c at hix g7 g8
                      have HB : Hid (dot s (4 - (i + 1)) e (n * 256 + N) = R) := by show _ = _; rw [HS.out, if_neg (hnb), HNe.out]
                      have HP : Hid (n * 256 + N < 256 ^ (i + 1)) := by show _ < _; have := HPn.out; rw [Nat.pow_succ]; omega
                      have hn24 : n < 16777216 := pow_i (i := i) (by omega) HPn.out
                      have hsh := shl8 hn24
                      have hor := or8 hn24 (show N < 256 by omega)
                      obtain ⟨M, hM⟩ : ∃ M, M = n * 256 + N := ⟨_, rfl⟩
                      rw [← hM] at HB HP hor
                      generalize n * 256 = m8 at hsh hor
                      clear HS hM
                      try clear hnb
                      try clear hb
                      go_wp2_with (first
                        | (go_at_call 81; refine (HRun.out _).mono ?_; rintro e w5 ⟨rfl, hw⟩; obtain rfl := hw.symm)
                        | (go_at_call 83; refine (HDec.out _).mono ?_; rintro e w5 ⟨rfl, hw⟩; obtain rfl := hw.symm))
                      go_round
                      case rel => exact ⟨M, e, true, i + 1, rfl, by go_num, rfl, by go_num, by omega, hle, by have := HGe.out; omega, Or.inl ⟨rfl, M, rfl, HP.out, HB.out⟩⟩
                      case measure => simp [intOf]; omega
                · have g5 : decide ((N : Int) ≤ 255) = false := by simp; omega
                  have hb2 := HBQ.out.2 (.inr (.inl (by omega)))
                  have HB : Hid (R = ⟨0, e, 0, 150⟩) := by show _ = _; rw [HS.out, if_pos (hb2)]
                  clear HS
                  try clear hb2
                  try clear hb
                  go_wp2_with (first
                    | (go_at_call 81; refine (HRun.out _).mono ?_; rintro e w5 ⟨rfl, hw⟩; obtain rfl := hw.symm)
                    | (go_at_call 83; refine (HDec.out _).mono ?_; rintro e w5 ⟨rfl, hw⟩; obtain rfl := hw.symm))
                  go_round
                  case rel => exact ⟨_, e, false, i + 1, rfl, by go_num, rfl, by go_num, by omega, hle, by have := HGe.out; omega, Or.inr ⟨rfl, HB.out⟩⟩
                  case measure => simp [intOf]; omega
              · have hdc : dcV N = .tuple #[.int .u64 0, .bool false] := by unfold dcV; rw [if_neg hN1]
                rw [hdc] at HDec
                have hb2 := HBQ.out.2 (.inr (.inl (by omega)))
                have HB : Hid (R = ⟨0, e, 0, 150⟩) := by show _ = _; rw [HS.out, if_pos (hb2)]
                clear HS
                try clear hb2
                try clear hb
                go_wp2_with (first
                  | (go_at_call 81; refine (HRun.out _).mono ?_; rintro e w5 ⟨rfl, hw⟩; obtain rfl := hw.symm)
                  | (go_at_call 83; refine (HDec.out _).mono ?_; rintro e w5 ⟨rfl, hw⟩; obtain rfl := hw.symm))
                go_round
                case rel => exact ⟨_, e, false, i + 1, rfl, by go_num, rfl, by go_num, by omega, hle, by have := HGe.out; omega, Or.inr ⟨rfl, HB.out⟩⟩
                case measure => simp [intOf]; omega
          · have hd2 := dot_bad (s := s) (n := n) hl (by omega) hc
            rw [hd2] at hd
            have HV : Hid (rv s a R = dV wZ 150 a (s.extract a k)) := by show _ = _; rw [← hd]; exact rv_bad _ _ _ _ (by decide)
            by_cases hin : k < s.size
            · have g4 : decide ((s.size : Int) ≤ (k : Int)) = false := by simp; omega
              have hix0 := run_bt s k hin W0
              have g5 : (((bt s k : Nat) : Int) == 46) = false := by simp; omega
              have g6 : (((bt s k : Nat) : Int) != 46) = true := by simp; omega
              clear hd hd2 HQ hc
              go_upto_region 17 with fail
              have hak1 : decide ((a : Int) ≤ ((k : Nat) : Int)) = true := by simp; omega
              refine wp_region_held_drew (S := (fun _ => True)) (by kernel_rfl) trivial (fun hHeld => ?_)
              refine wpAnyH_take (i := 0) (v := ?_) rfl (by kernel_rfl) (by kernel_rfl) (by kernel_rfl) (fun _ _ _ h => h) (Or.inl ⟨by rfl, ?_⟩) hHeld ?_
              rotate_left
              · intro w' hSw
                clear hSw
                go_simp
                first | done | with_reducible rfl
              simp only [Act.put, List.getElem_toArray, List.getElem_cons_zero, List.setIfInBounds_toArray, List.set_cons_zero, List.set_cons_succ]
              refine wpAnyH_take (i := 1) (v := ?_) rfl (by kernel_rfl) (by kernel_rfl) (by kernel_rfl) (fun _ _ _ h => h) (Or.inl ⟨by rfl, ?_⟩) hHeld ?_
              rotate_left
              · intro w' hSw
                clear hSw
                go_simp
                first | done | with_reducible rfl
              simp only [Act.put, List.getElem_toArray, List.getElem_cons_succ, List.getElem_cons_zero, List.setIfInBounds_toArray, List.set_cons_zero, List.set_cons_succ]
              refine wpAnyH_take (i := 2) (v := ?_) rfl (by kernel_rfl) (by kernel_rfl) (by kernel_rfl) (fun _ _ _ h => h) (Or.inl ⟨by rfl, ?_⟩) hHeld ?_
              rotate_left
              · intro w' hSw
                clear hSw
                go_simp
                first | done | with_reducible rfl
              simp only [Act.put, List.getElem_toArray, List.getElem_cons_succ, List.getElem_cons_zero, List.setIfInBounds_toArray, List.set_cons_zero, List.set_cons_succ]
              refine wpAnyH_take (i := 3) (v := ?_) rfl (by kernel_rfl) (by kernel_rfl) (by kernel_rfl) (fun _ _ _ h => h) (Or.inl ⟨by rfl, ?_⟩) hHeld ?_
              rotate_left
              · intro w' hSw
                clear hSw
                go_simp
                first | done | with_reducible rfl
              simp only [Act.put, List.getElem_toArray, List.getElem_cons_succ, List.getElem_cons_zero, List.setIfInBounds_toArray, List.set_cons_zero, List.set_cons_succ]
              refine wpAnyH_take (i := 4) (v := ?_) rfl (by kernel_rfl) (by kernel_rfl) (by kernel_rfl) (fun _ _ _ h => h) (Or.inl ⟨by rfl, ?_⟩) hHeld ?_
              rotate_left
              · intro w' hSw
                clear hSw
                go_simp
                first | done | with_reducible rfl
              simp only [Act.put, List.getElem_toArray, List.getElem_cons_succ, List.getElem_cons_zero, List.setIfInBounds_toArray, List.set_cons_zero, List.set_cons_succ]
              refine wpAnyH_take (i := 5) (v := ?_) rfl (by kernel_rfl) (by kernel_rfl) (by kernel_rfl) (fun _ _ _ h => h) (Or.inl ⟨by rfl, ?_⟩) hHeld ?_
              rotate_left
              · intro w' hSw
                clear hSw
                go_simp
                first | done | with_reducible rfl
              simp only [Act.put, List.getElem_toArray, List.getElem_cons_succ, List.getElem_cons_zero, List.setIfInBounds_toArray, List.set_cons_zero, List.set_cons_succ]
              refine wpAnyH_take (i := 6) (v := ?_) rfl (by kernel_rfl) (by kernel_rfl) (by kernel_rfl) (fun _ _ _ h => h) (Or.inl ⟨by rfl, ?_⟩) hHeld ?_
              rotate_left
              · intro w' hSw
                clear hSw
                go_simp
                first | done | with_reducible rfl
              simp only [Act.put, List.getElem_toArray, List.getElem_cons_succ, List.getElem_cons_zero, List.setIfInBounds_toArray, List.set_cons_zero, List.set_cons_succ]
              refine ready_st 7 _ (by kernel_rfl) rfl 56 (.tmp 4) (.tmp 72) rfl rfl w.heap.size (wdc wZ) rfl rfl 56 _ HZ.out.drew.b1 (szW _) rfl (wd1a _) ?_
              refine ⟨trivial, ?_⟩
              simp only [Act.put, List.getElem_toArray, List.getElem_cons_succ, List.getElem_cons_zero]
              refine ready_st 8 _ (by kernel_rfl) rfl 37 (.tmp 5) (.tmp 78) rfl rfl (w.heap.size + 1) (dfc 150 a (s.extract a k)) rfl rfl 37 _ (HZ.out.drew.set1 wZ).b2 (szF _ _ _) rfl (df1 _ _ _) ?_
              refine ⟨trivial, ?_⟩
              simp only [Act.put, List.getElem_toArray, List.getElem_cons_succ, List.getElem_cons_zero]
              refine wpAnyH_done (by kernel_rfl) ?_ _
              try simp only [Exit.then]
              go_wp2
              try simp only [Exit.inBlock, Exit.then]
              exact bodyPost_ret (v := dV wZ 150 a (s.extract a k)) (results_cc Tryz.results82 _ ((HZ.out.drew.set1 wZ).set2 150 a (s.extract a k)) rfl rfl) rfl ⟨by rw [HV.out], ((HZ.out.drew.set1 wZ).set2 150 a (s.extract a k)).low⟩
            · have g4 : decide ((s.size : Int) ≤ (k : Int)) = true := by simp; omega
              clear hd hd2 HQ hc
              go_upto_region 17 with fail
              have hak1 : decide ((a : Int) ≤ ((k : Nat) : Int)) = true := by simp; omega
              refine wp_region_held_drew (S := (fun _ => True)) (by kernel_rfl) trivial (fun hHeld => ?_)
              refine wpAnyH_take (i := 0) (v := ?_) rfl (by kernel_rfl) (by kernel_rfl) (by kernel_rfl) (fun _ _ _ h => h) (Or.inl ⟨by rfl, ?_⟩) hHeld ?_
              rotate_left
              · intro w' hSw
                clear hSw
                go_simp
                first | done | with_reducible rfl
              simp only [Act.put, List.getElem_toArray, List.getElem_cons_zero, List.setIfInBounds_toArray, List.set_cons_zero, List.set_cons_succ]
              refine wpAnyH_take (i := 1) (v := ?_) rfl (by kernel_rfl) (by kernel_rfl) (by kernel_rfl) (fun _ _ _ h => h) (Or.inl ⟨by rfl, ?_⟩) hHeld ?_
              rotate_left
              · intro w' hSw
                clear hSw
                go_simp
                first | done | with_reducible rfl
              simp only [Act.put, List.getElem_toArray, List.getElem_cons_succ, List.getElem_cons_zero, List.setIfInBounds_toArray, List.set_cons_zero, List.set_cons_succ]
              refine wpAnyH_take (i := 2) (v := ?_) rfl (by kernel_rfl) (by kernel_rfl) (by kernel_rfl) (fun _ _ _ h => h) (Or.inl ⟨by rfl, ?_⟩) hHeld ?_
              rotate_left
              · intro w' hSw
                clear hSw
                go_simp
                first | done | with_reducible rfl
              simp only [Act.put, List.getElem_toArray, List.getElem_cons_succ, List.getElem_cons_zero, List.setIfInBounds_toArray, List.set_cons_zero, List.set_cons_succ]
              refine wpAnyH_take (i := 3) (v := ?_) rfl (by kernel_rfl) (by kernel_rfl) (by kernel_rfl) (fun _ _ _ h => h) (Or.inl ⟨by rfl, ?_⟩) hHeld ?_
              rotate_left
              · intro w' hSw
                clear hSw
                go_simp
                first | done | with_reducible rfl
              simp only [Act.put, List.getElem_toArray, List.getElem_cons_succ, List.getElem_cons_zero, List.setIfInBounds_toArray, List.set_cons_zero, List.set_cons_succ]
              refine wpAnyH_take (i := 4) (v := ?_) rfl (by kernel_rfl) (by kernel_rfl) (by kernel_rfl) (fun _ _ _ h => h) (Or.inl ⟨by rfl, ?_⟩) hHeld ?_
              rotate_left
              · intro w' hSw
                clear hSw
                go_simp
                first | done | with_reducible rfl
              simp only [Act.put, List.getElem_toArray, List.getElem_cons_succ, List.getElem_cons_zero, List.setIfInBounds_toArray, List.set_cons_zero, List.set_cons_succ]
              refine wpAnyH_take (i := 5) (v := ?_) rfl (by kernel_rfl) (by kernel_rfl) (by kernel_rfl) (fun _ _ _ h => h) (Or.inl ⟨by rfl, ?_⟩) hHeld ?_
              rotate_left
              · intro w' hSw
                clear hSw
                go_simp
                first | done | with_reducible rfl
              simp only [Act.put, List.getElem_toArray, List.getElem_cons_succ, List.getElem_cons_zero, List.setIfInBounds_toArray, List.set_cons_zero, List.set_cons_succ]
              refine wpAnyH_take (i := 6) (v := ?_) rfl (by kernel_rfl) (by kernel_rfl) (by kernel_rfl) (fun _ _ _ h => h) (Or.inl ⟨by rfl, ?_⟩) hHeld ?_
              rotate_left
              · intro w' hSw
                clear hSw
                go_simp
                first | done | with_reducible rfl
              simp only [Act.put, List.getElem_toArray, List.getElem_cons_succ, List.getElem_cons_zero, List.setIfInBounds_toArray, List.set_cons_zero, List.set_cons_succ]
              refine ready_st 7 _ (by kernel_rfl) rfl 56 (.tmp 4) (.tmp 72) rfl rfl w.heap.size (wdc wZ) rfl rfl 56 _ HZ.out.drew.b1 (szW _) rfl (wd1a _) ?_
              refine ⟨trivial, ?_⟩
              simp only [Act.put, List.getElem_toArray, List.getElem_cons_succ, List.getElem_cons_zero]
              refine ready_st 8 _ (by kernel_rfl) rfl 37 (.tmp 5) (.tmp 78) rfl rfl (w.heap.size + 1) (dfc 150 a (s.extract a k)) rfl rfl 37 _ (HZ.out.drew.set1 wZ).b2 (szF _ _ _) rfl (df1 _ _ _) ?_
              refine ⟨trivial, ?_⟩
              simp only [Act.put, List.getElem_toArray, List.getElem_cons_succ, List.getElem_cons_zero]
              refine wpAnyH_done (by kernel_rfl) ?_ _
              try simp only [Exit.then]
              go_wp2
              try simp only [Exit.inBlock, Exit.then]
              exact bodyPost_ret (v := dV wZ 150 a (s.extract a k)) (results_cc Tryz.results82 _ ((HZ.out.drew.set1 wZ).set2 150 a (s.extract a k)) rfl rfl) rfl ⟨by rw [HV.out], ((HZ.out.drew.set1 wZ).set2 150 a (s.extract a k)).low⟩
      · obtain rfl : i = 4 := by omega
        have g1 : decide (((4 : Nat) : Int) < 4) = false := by decide
        have HV : Hid (rv s a R = rv s a (cls s k n)) := by show _ = _; rw [← hd]; rfl
        have HC := hid (fun W => closed_any s a k n hak hk hs W)
        obtain ⟨x, c, a', t, hrv⟩ := rv_form s a (cls s k n)
        rw [hrv] at HC HV
        clear hd HQ hl hrv
        go_wp2_with (first
          | (go_at_call 80; refine (HC.out _).mono ?_; rintro e W2 ⟨rfl, hb2⟩; have HZ2 := hid (HZ.out.on hb2); clear hb2)
          | (refine stRow 56 (.tmp 4) (.tmp 88) rfl rfl w.heap.size (wdc x) rfl rfl 56 _ HZ2.out.b1 (szW _) rfl (wd1a _) ?_)
          | (refine stRow 37 (.tmp 5) (.tmp 89) rfl rfl (w.heap.size + 1) (dfc c a' t) rfl rfl 37 _ (HZ2.out.set1 x).b2 (szF _ _ _) rfl (df1 _ _ _) ?_))
        try simp only [Exit.inBlock, Exit.then]
        exact bodyPost_ret (v := dV x c a' t) (results_cc Tryz.results82 _ ((HZ2.out.set1 x).set2 c a' t) rfl rfl) rfl ⟨by rw [HV.out], ((HZ2.out.set1 x).set2 c a' t).low⟩
    · have HV : Hid (rv s a R = dV wZ 150 a (s.extract a k)) := by show _ = _; rw [hd]; exact rv_bad _ _ _ _ (by decide)
      clear hd HQ
      cases g1 : decide ((i : Int) < 4) with
      | true =>
        go_upto_region 17 with fail
        have hak1 : decide ((a : Int) ≤ ((k : Nat) : Int)) = true := by simp; omega
        refine wp_region_held_drew (S := (fun _ => True)) (by kernel_rfl) trivial (fun hHeld => ?_)
        refine wpAnyH_take (i := 0) (v := ?_) rfl (by kernel_rfl) (by kernel_rfl) (by kernel_rfl) (fun _ _ _ h => h) (Or.inl ⟨by rfl, ?_⟩) hHeld ?_
        rotate_left
        · intro w' hSw
          clear hSw
          go_simp
          first | done | with_reducible rfl
        simp only [Act.put, List.getElem_toArray, List.getElem_cons_zero, List.setIfInBounds_toArray, List.set_cons_zero, List.set_cons_succ]
        refine wpAnyH_take (i := 1) (v := ?_) rfl (by kernel_rfl) (by kernel_rfl) (by kernel_rfl) (fun _ _ _ h => h) (Or.inl ⟨by rfl, ?_⟩) hHeld ?_
        rotate_left
        · intro w' hSw
          clear hSw
          go_simp
          first | done | with_reducible rfl
        simp only [Act.put, List.getElem_toArray, List.getElem_cons_succ, List.getElem_cons_zero, List.setIfInBounds_toArray, List.set_cons_zero, List.set_cons_succ]
        refine wpAnyH_take (i := 2) (v := ?_) rfl (by kernel_rfl) (by kernel_rfl) (by kernel_rfl) (fun _ _ _ h => h) (Or.inl ⟨by rfl, ?_⟩) hHeld ?_
        rotate_left
        · intro w' hSw
          clear hSw
          go_simp
          first | done | with_reducible rfl
        simp only [Act.put, List.getElem_toArray, List.getElem_cons_succ, List.getElem_cons_zero, List.setIfInBounds_toArray, List.set_cons_zero, List.set_cons_succ]
        refine wpAnyH_take (i := 3) (v := ?_) rfl (by kernel_rfl) (by kernel_rfl) (by kernel_rfl) (fun _ _ _ h => h) (Or.inl ⟨by rfl, ?_⟩) hHeld ?_
        rotate_left
        · intro w' hSw
          clear hSw
          go_simp
          first | done | with_reducible rfl
        simp only [Act.put, List.getElem_toArray, List.getElem_cons_succ, List.getElem_cons_zero, List.setIfInBounds_toArray, List.set_cons_zero, List.set_cons_succ]
        refine wpAnyH_take (i := 4) (v := ?_) rfl (by kernel_rfl) (by kernel_rfl) (by kernel_rfl) (fun _ _ _ h => h) (Or.inl ⟨by rfl, ?_⟩) hHeld ?_
        rotate_left
        · intro w' hSw
          clear hSw
          go_simp
          first | done | with_reducible rfl
        simp only [Act.put, List.getElem_toArray, List.getElem_cons_succ, List.getElem_cons_zero, List.setIfInBounds_toArray, List.set_cons_zero, List.set_cons_succ]
        refine wpAnyH_take (i := 5) (v := ?_) rfl (by kernel_rfl) (by kernel_rfl) (by kernel_rfl) (fun _ _ _ h => h) (Or.inl ⟨by rfl, ?_⟩) hHeld ?_
        rotate_left
        · intro w' hSw
          clear hSw
          go_simp
          first | done | with_reducible rfl
        simp only [Act.put, List.getElem_toArray, List.getElem_cons_succ, List.getElem_cons_zero, List.setIfInBounds_toArray, List.set_cons_zero, List.set_cons_succ]
        refine wpAnyH_take (i := 6) (v := ?_) rfl (by kernel_rfl) (by kernel_rfl) (by kernel_rfl) (fun _ _ _ h => h) (Or.inl ⟨by rfl, ?_⟩) hHeld ?_
        rotate_left
        · intro w' hSw
          clear hSw
          go_simp
          first | done | with_reducible rfl
        simp only [Act.put, List.getElem_toArray, List.getElem_cons_succ, List.getElem_cons_zero, List.setIfInBounds_toArray, List.set_cons_zero, List.set_cons_succ]
        refine ready_st 7 _ (by kernel_rfl) rfl 56 (.tmp 4) (.tmp 72) rfl rfl w.heap.size (wdc wZ) rfl rfl 56 _ HZ.out.drew.b1 (szW _) rfl (wd1a _) ?_
        refine ⟨trivial, ?_⟩
        simp only [Act.put, List.getElem_toArray, List.getElem_cons_succ, List.getElem_cons_zero]
        refine ready_st 8 _ (by kernel_rfl) rfl 37 (.tmp 5) (.tmp 78) rfl rfl (w.heap.size + 1) (dfc 150 a (s.extract a k)) rfl rfl 37 _ (HZ.out.drew.set1 wZ).b2 (szF _ _ _) rfl (df1 _ _ _) ?_
        refine ⟨trivial, ?_⟩
        simp only [Act.put, List.getElem_toArray, List.getElem_cons_succ, List.getElem_cons_zero]
        refine wpAnyH_done (by kernel_rfl) ?_ _
        try simp only [Exit.then]
        go_wp2
        try simp only [Exit.inBlock, Exit.then]
        exact bodyPost_ret (v := dV wZ 150 a (s.extract a k)) (results_cc Tryz.results82 _ ((HZ.out.drew.set1 wZ).set2 150 a (s.extract a k)) rfl rfl) rfl ⟨by rw [HV.out], ((HZ.out.drew.set1 wZ).set2 150 a (s.extract a k)).low⟩
      | false =>
        go_upto_region 17 with fail
        have hak1 : decide ((a : Int) ≤ ((k : Nat) : Int)) = true := by simp; omega
        refine wp_region_held_drew (S := (fun _ => True)) (by kernel_rfl) trivial (fun hHeld => ?_)
        refine wpAnyH_take (i := 0) (v := ?_) rfl (by kernel_rfl) (by kernel_rfl) (by kernel_rfl) (fun _ _ _ h => h) (Or.inl ⟨by rfl, ?_⟩) hHeld ?_
        rotate_left
        · intro w' hSw
          clear hSw
          go_simp
          first | done | with_reducible rfl
        simp only [Act.put, List.getElem_toArray, List.getElem_cons_zero, List.setIfInBounds_toArray, List.set_cons_zero, List.set_cons_succ]
        refine wpAnyH_take (i := 1) (v := ?_) rfl (by kernel_rfl) (by kernel_rfl) (by kernel_rfl) (fun _ _ _ h => h) (Or.inl ⟨by rfl, ?_⟩) hHeld ?_
        rotate_left
        · intro w' hSw
          clear hSw
          go_simp
          first | done | with_reducible rfl
        simp only [Act.put, List.getElem_toArray, List.getElem_cons_succ, List.getElem_cons_zero, List.setIfInBounds_toArray, List.set_cons_zero, List.set_cons_succ]
        refine wpAnyH_take (i := 2) (v := ?_) rfl (by kernel_rfl) (by kernel_rfl) (by kernel_rfl) (fun _ _ _ h => h) (Or.inl ⟨by rfl, ?_⟩) hHeld ?_
        rotate_left
        · intro w' hSw
          clear hSw
          go_simp
          first | done | with_reducible rfl
        simp only [Act.put, List.getElem_toArray, List.getElem_cons_succ, List.getElem_cons_zero, List.setIfInBounds_toArray, List.set_cons_zero, List.set_cons_succ]
        refine wpAnyH_take (i := 3) (v := ?_) rfl (by kernel_rfl) (by kernel_rfl) (by kernel_rfl) (fun _ _ _ h => h) (Or.inl ⟨by rfl, ?_⟩) hHeld ?_
        rotate_left
        · intro w' hSw
          clear hSw
          go_simp
          first | done | with_reducible rfl
        simp only [Act.put, List.getElem_toArray, List.getElem_cons_succ, List.getElem_cons_zero, List.setIfInBounds_toArray, List.set_cons_zero, List.set_cons_succ]
        refine wpAnyH_take (i := 4) (v := ?_) rfl (by kernel_rfl) (by kernel_rfl) (by kernel_rfl) (fun _ _ _ h => h) (Or.inl ⟨by rfl, ?_⟩) hHeld ?_
        rotate_left
        · intro w' hSw
          clear hSw
          go_simp
          first | done | with_reducible rfl
        simp only [Act.put, List.getElem_toArray, List.getElem_cons_succ, List.getElem_cons_zero, List.setIfInBounds_toArray, List.set_cons_zero, List.set_cons_succ]
        refine wpAnyH_take (i := 5) (v := ?_) rfl (by kernel_rfl) (by kernel_rfl) (by kernel_rfl) (fun _ _ _ h => h) (Or.inl ⟨by rfl, ?_⟩) hHeld ?_
        rotate_left
        · intro w' hSw
          clear hSw
          go_simp
          first | done | with_reducible rfl
        simp only [Act.put, List.getElem_toArray, List.getElem_cons_succ, List.getElem_cons_zero, List.setIfInBounds_toArray, List.set_cons_zero, List.set_cons_succ]
        refine wpAnyH_take (i := 6) (v := ?_) rfl (by kernel_rfl) (by kernel_rfl) (by kernel_rfl) (fun _ _ _ h => h) (Or.inl ⟨by rfl, ?_⟩) hHeld ?_
        rotate_left
        · intro w' hSw
          clear hSw
          go_simp
          first | done | with_reducible rfl
        simp only [Act.put, List.getElem_toArray, List.getElem_cons_succ, List.getElem_cons_zero, List.setIfInBounds_toArray, List.set_cons_zero, List.set_cons_succ]
        refine ready_st 7 _ (by kernel_rfl) rfl 56 (.tmp 4) (.tmp 72) rfl rfl w.heap.size (wdc wZ) rfl rfl 56 _ HZ.out.drew.b1 (szW _) rfl (wd1a _) ?_
        refine ⟨trivial, ?_⟩
        simp only [Act.put, List.getElem_toArray, List.getElem_cons_succ, List.getElem_cons_zero]
        refine ready_st 8 _ (by kernel_rfl) rfl 37 (.tmp 5) (.tmp 78) rfl rfl (w.heap.size + 1) (dfc 150 a (s.extract a k)) rfl rfl 37 _ (HZ.out.drew.set1 wZ).b2 (szF _ _ _) rfl (df1 _ _ _) ?_
        refine ⟨trivial, ?_⟩
        simp only [Act.put, List.getElem_toArray, List.getElem_cons_succ, List.getElem_cons_zero]
        refine wpAnyH_done (by kernel_rfl) ?_ _
        try simp only [Exit.then]
        go_wp2
        try simp only [Exit.inBlock, Exit.then]
        exact bodyPost_ret (v := dV wZ 150 a (s.extract a k)) (results_cc Tryz.results82 _ ((HZ.out.drew.set1 wZ).set2 150 a (s.extract a k)) rfl rfl) rfl ⟨by rw [HV.out], ((HZ.out.drew.set1 wZ).set2 150 a (s.extract a k)).low⟩
end Go.Proofs.YtdpmllfapjjihaaGreatDoor
