/-
  Proved here: numberAt and wordAt of package scan find the word at a place as the document says. No old memory turns. Conditions: strconv's errors are some; the kinds of numbers lie in their block; the place is within the text.
-/
import Derived.Test.YtbbankcmeanjaaaGreatDoorQ7
namespace Go.Proofs.YtbbankcmeanjaaaGreatDoor
set_option maxRecDepth 100000
open Go.RowKit
set_option maxRecDepth 100000

/-- the i-th kind of numbers -/
def kk (s : ByteArray) (a : Nat) : Nat → Option Fd
  | 0 => k6 s a
  | 1 => kx s a
  | 2 => k4 s a
  | _ => kd s a
def fin (s : ByteArray) (f : Fd) : Fd := if f.c = 0 ∧ isN (bt s f.e) = true then ⟨0, f.e, 0, 150⟩ else f
def na (s : ByteArray) (a : Nat) : Option Fd := ((k6 s a).orElse fun _ => (kx s a).orElse fun _ => (k4 s a).orElse fun _ => kd s a).map (fin s)
theorem kind_i {s : ByteArray} {a kb b0 b1 b2 bc b3 : Nat} {W : World} (hk : Kn s kb b0 b1 b2 bc b3 W) (ht : Tab W) (ha : a ≤ s.size) (hs : s.size ≤ 65536) {i : Nat} (hi : i < 4) :
    ∃ (f : FuncId) (caps : List Value), W.cell? ⟨kb, i, none⟩ = some (.func (.func f) #[] caps.toArray) ∧ (∀ (args : Array Value) w, (callFunc f args).run Tryz.prog w = .ok (.enter f args) w) ∧
      Calls Tryz.prog f ([Value.int .i64 (a : Int)] ++ caps).toArray W fun e w' => e = .returned (kdV (kk s a i)) ∧ Below W.heap.size W w' := by
  rcases (show i = 0 ∨ i = 1 ∨ i = 2 ∨ i = 3 by omega) with rfl | rfl | rfl | rfl
  · exact ⟨36, [ptr b0], hk.k0, fun _ _ => rfl, six_any s a b0 W hk.s0 ha hs⟩
  · exact ⟨39, [ptr b1], hk.k1, fun _ _ => rfl, hexadecimal_any s a b1 W hk.s1 ha hs⟩
  · exact ⟨43, [ptr bc, ptr b2], hk.k2, fun _ _ => rfl, fourParts_any s a b2 bc W ht hk.cp ha hs⟩
  · exact ⟨47, [ptr b3], hk.k3, fun _ _ => rfl, decimal_any s a b3 W ht hk.s3 ha hs⟩
theorem na_some {s : ByteArray} {a i : Nat} {f : Fd} (hi : i < 4) (h0 : ∀ j, j < i → kk s a j = none) (h : kk s a i = some f) : na s a = some (fin s f) := by
  unfold na
  rcases (show i = 0 ∨ i = 1 ∨ i = 2 ∨ i = 3 by omega) with rfl | rfl | rfl | rfl
  · rw [show k6 s a = some f from h]; rfl
  · rw [show k6 s a = none from h0 0 (by omega), show kx s a = some f from h]; rfl
  · rw [show k6 s a = none from h0 0 (by omega), show kx s a = none from h0 1 (by omega), show k4 s a = some f from h]; rfl
  · rw [show k6 s a = none from h0 0 (by omega), show kx s a = none from h0 1 (by omega), show k4 s a = none from h0 2 (by omega), show kd s a = some f from h]; rfl
theorem na_none {s : ByteArray} {a : Nat} (h0 : ∀ j, j < 4 → kk s a j = none) : na s a = none := by
  unfold na
  rw [show k6 s a = none from h0 0 (by omega), show kx s a = none from h0 1 (by omega), show k4 s a = none from h0 2 (by omega), show kd s a = none from h0 3 (by omega)]; rfl
/-- where the search for a number is -/
structure Np (s : ByteArray) (kb b0 b1 b2 bc b3 : Nat) (w W : World) : Prop where
  rz : Rz w w.heap.size ⟨0, 0, 0, 0⟩ W
  kn : Kn s kb b0 b1 b2 bc b3 W
  tb : Tab W
theorem Np.on {s : ByteArray} {kb b0 b1 b2 bc b3 : Nat} {w W W' : World} (h : Np s kb b0 b1 b2 bc b3 w W) (hb : Below W.heap.size W W') : Np s kb b0 b1 b2 bc b3 w W' := ⟨h.rz.on hb, h.kn.on hb, h.tb.on hb⟩
theorem kk_le {s : ByteArray} {a i : Nat} {f : Fd} (ha : a ≤ s.size) (h : kk s a i = some f) : f.e ≤ s.size ∧ f.c < 256 := by
  have hd : ∀ k, k ≤ s.size → rE isD s k ≤ s.size := fun k hk => rE_le hk
  have hdot : ∀ f k n, k ≤ s.size → (dotR s f k n).e ≤ s.size ∧ (dotR s f k n).c < 256 := by
    intro f
    induction f with
    | zero => intro k n hk; exact ⟨hk, (show 0 < 256 by decide)⟩
    | succ f ih =>
      intro k n hk
      rw [dotR]
      split
      · split
        · exact ⟨hd k hk, by simp⟩
        · exact ih _ _ (hd k hk)
      · split
        · rename_i hc
          have hk1 : k + 1 ≤ s.size := in_of_bt (by rw [hc]; decide)
          split
          · exact ⟨hd _ hk1, by simp⟩
          · exact ih _ _ (hd _ hk1)
        · exact ⟨hk, by simp⟩
  rcases (show i = 0 ∨ i = 1 ∨ i = 2 ∨ 3 ≤ i by omega) with rfl | rfl | rfl | hi
  · have h' : k6 s a = some f := h
    unfold k6 at h'
    cases hp : pr s a with
    | none => rw [hp] at h'; exact absurd h' (by simp)
    | some n => rw [hp] at h'; simp at h'; subst h'; exact ⟨pr_in hp, by simp⟩
  · have h' : kx s a = some f := h
    unfold kx at h'
    split at h'
    · rename_i hc
      have hin : a + 1 < s.size := in_of_bt (by rw [hc.2]; decide)
      have hle := rE_le (p := isH) (s := s) (k := a + 2) (by omega)
      split at h'
      · simp at h'; subst h'; exact ⟨hle, by simp⟩
      · simp at h'; subst h'; exact ⟨hle, by simp⟩
    · exact absurd h' (by simp)
  · have h' : k4 s a = some f := h
    unfold k4 at h'
    split at h'
    · simp at h'; subst h'; exact hdot _ _ _ ha
    · exact absurd h' (by simp)
  · have h' : kd s a = some f := by
      match i, hi with
      | i + 3, _ => exact h
    unfold kd at h'
    split at h'
    · exact absurd h' (by simp)
    · split at h'
      · simp at h'; subst h'; exact ⟨hd a ha, by simp⟩
      · split at h'
        · simp at h'; subst h'; exact ⟨hd a ha, by simp⟩
        · simp at h'; subst h'; exact ⟨hd a ha, by simp⟩
set_option maxHeartbeats 3200000 in
theorem numberAt_any (s : ByteArray) (a kb b0 b1 b2 bc b3 cp : Nat) (w : World) (hk : Kn s kb b0 b1 b2 bc b3 w) (ht : Tab w) (ha : a ≤ s.size) (hs : s.size ≤ 65536) :
    Calls Tryz.prog 20 #[.string s, .int .i64 a, .slice (some ⟨kb, 0, none⟩) 4 cp] w fun e w' => e = .returned (kdV (na s a)) ∧ Below w.heap.size w w' := by
  have HL0 : Hid (Np s kb b0 b1 b2 bc b3 w (w.alloc (.cells (fdc ⟨0, 0, 0, 0⟩) 45))) := ⟨Rz.new w, hk.on (Rz.new w).low, ht.on (Rz.new w).low⟩
  obtain ⟨W0, hW0⟩ : ∃ W0, W0 = w.alloc (.cells (fdc ⟨0, 0, 0, 0⟩) 45) := ⟨_, rfl⟩
  have HW0 : Hid (w.alloc (.cells #[.int .i8 0, .int .i64 0, .int .u64 0, .int .i64 0] 45) = W0) := hW0.symm
  rw [← hW0] at HL0
  clear hW0 hk ht
  go_enter Tryz.func20, Tryz.ntmps20
  go_upto_region 1 with fail
  rw [HW0.out]
  clear HW0
  go_upto_region 2 with fail
  go_loopw [14] (fun vi wr => ∃ i : Nat, vi = .int .i64 i ∧ i ≤ 4 ∧ Hid (∀ j, j < i → kk s a j = none) ∧ Hid (Np s kb b0 b1 b2 bc b3 w wr)) (fun vi _ => 4 - (intOf vi).toNat)
  case atStart => exact ⟨0, rfl, by omega, fun j hj => absurd hj (by omega), HL0.out⟩
  case round =>
    clear HL0
    obtain ⟨i, rfl, hi, HN, HL⟩ := hrel
    by_cases hl : i < 4
    · have g1 : decide ((i : Int) < 4) = true := by simp; omega
      have hw1 : IntKind.i64.wrap ((i : Int) + 1) = (i : Int) + 1 := by rw [IntKind.wrap_i64]; omega
      obtain ⟨f, caps, hc, hE, hC⟩ := kind_i HL.out.kn HL.out.tb ha hs hl
      have HE := hid hE
      have HC := hid hC
      clear hE hC
      cases hq : kk s a i with
      | none =>
        rw [hq] at HC
        have HN2 : Hid (∀ j, j < i + 1 → kk s a j = none) := fun j hj => by
          by_cases e : j = i
          · subst e; exact hq
          · exact HN.out j (by omega)
        clear HN hq
        go_wp2_with (refine callC f (.tmp 19) [.tmp 20] _ [.int .i64 (a : Int)] caps rfl rfl rfl rfl HE.out _ HC.out ?_; rintro r W2 ⟨rfl, hb2⟩; have HL2 := hid (HL.out.on hb2); refine Or.inl ⟨_, rfl, ?_⟩; clear HC hb2 hc)
        have HL3 := hid (HL2.out.on ((Below.refl _ _).alloc (Nat.le_refl _) (.cells (fdc ⟨0, 0, 0, 0⟩) 45)))
        refine ⟨?_, ?_⟩
        · exact ⟨i + 1, by go_num, by omega, HN2, HL3⟩
        · simp [intOf]; omega
      | some fd =>
        rw [hq] at HC
        have HS := hid (na_some hl HN.out hq)
        obtain ⟨hfe, hfc⟩ := kk_le ha hq
        clear HN hq
        obtain ⟨k, e, n, c⟩ := fd
        replace hfe : e ≤ s.size := hfe
        replace hfc : c < 256 := hfc
        have HI := hid (fun W => isNameByte_any (bt s e) W)
        by_cases hc0 : c = 0
        · subst hc0
          by_cases hes : e < s.size
          · have g2 : decide ((e : Int) < (s.size : Int)) = true := by simp; omega
            have hix := run_bt s e hes
            cases hN : isN (bt s e) with
            | true =>
              have HF : Hid (na s a = some ⟨0, e, 0, 150⟩) := by show _ = _; rw [HS.out, fin, if_pos ⟨rfl, hN⟩]
              rw [hN] at HI
              generalize bt s e = cb at hix HI
              have HW := hid (wrong_any e 150)
              clear HS hN hfc
              go_wp2_with (first
                | (refine callC f (.tmp 19) [.tmp 20] _ [.int .i64 (a : Int)] caps rfl rfl rfl rfl HE.out _ HC.out ?_; rintro r W2 ⟨rfl, hb2⟩; have HL2 := hid (HL.out.on hb2); have HL3 := hid (HL2.out.on ((Below.refl _ _).alloc (Nat.le_refl _) (.cells (fdc ⟨k, e, n, 0⟩) 45))); refine Or.inl ⟨_, rfl, ?_⟩; clear HC hb2 hc)
                | (go_at_call 21; refine (HI.out _).mono ?_; rintro r w' ⟨rfl, hw⟩; obtain rfl := hw.symm)
                | (go_at_call 41; refine (HW.out _).mono ?_; rintro r W4 ⟨rfl, hb4⟩; have HL4 := hid (HL3.out.on hb4); clear hb4 HW)
                | (refine stRow 45 (.tmp 6) (.tmp 46) rfl rfl w.heap.size (fdc ⟨0, e, 0, 150⟩) rfl rfl 45 _ HL4.out.rz.blk (fd4 _) rfl (fd1 _) ?_))
              try simp only [Exit.inBlock, Exit.then]
              refine bodyPost_ret (v := kdV (some ⟨0, e, 0, 150⟩)) (results_ct Tryz.results20 _ _ w.heap.size ⟨0, e, 0, 150⟩ rfl ?_) rfl ?_
              · exact (HL4.out.rz.set _).blk
              · exact ⟨by rw [HF.out], (HL4.out.rz.set _).low⟩
            | false =>
              have HF : Hid (na s a = some ⟨k, e, n, 0⟩) := by show _ = _; rw [HS.out, fin, if_neg (by intro h; rw [hN] at h; exact absurd h.2 (by decide))]
              rw [hN] at HI
              generalize bt s e = cb at hix HI
              clear HS hN hfc
              go_wp2_with (first
                | (refine callC f (.tmp 19) [.tmp 20] _ [.int .i64 (a : Int)] caps rfl rfl rfl rfl HE.out _ HC.out ?_; rintro r W2 ⟨rfl, hb2⟩; have HL2 := hid (HL.out.on hb2); have HL3 := hid (HL2.out.on ((Below.refl _ _).alloc (Nat.le_refl _) (.cells (fdc ⟨k, e, n, 0⟩) 45))); refine Or.inl ⟨_, rfl, ?_⟩; clear HC hb2 hc)
                | (go_at_call 21; refine (HI.out _).mono ?_; rintro r w' ⟨rfl, hw⟩; obtain rfl := hw.symm)
                | (refine stRow 45 (.tmp 6) (.tmp 48) rfl rfl w.heap.size (fdc ⟨k, e, n, 0⟩) rfl rfl 45 _ HL3.out.rz.blk (fd4 _) rfl (fd1 _) ?_))
              try simp only [Exit.inBlock, Exit.then]
              refine bodyPost_ret (v := kdV (some ⟨k, e, n, 0⟩)) (results_ct Tryz.results20 _ _ w.heap.size ⟨k, e, n, 0⟩ rfl ?_) rfl ?_
              · exact (HL3.out.rz.set _).blk
              · exact ⟨by rw [HF.out], (HL3.out.rz.set _).low⟩
          · have g2 : decide ((e : Int) < (s.size : Int)) = false := by simp; omega
            have HF : Hid (na s a = some ⟨k, e, n, 0⟩) := by show _ = _; rw [HS.out, fin, if_neg (by intro h; replace h : isN (bt s e) = true := h.2; rw [bt_out hes] at h; exact absurd h (by decide))]
            clear HS hfc HI
            go_wp2_with (first
              | (refine callC f (.tmp 19) [.tmp 20] _ [.int .i64 (a : Int)] caps rfl rfl rfl rfl HE.out _ HC.out ?_; rintro r W2 ⟨rfl, hb2⟩; have HL2 := hid (HL.out.on hb2); have HL3 := hid (HL2.out.on ((Below.refl _ _).alloc (Nat.le_refl _) (.cells (fdc ⟨k, e, n, 0⟩) 45))); refine Or.inl ⟨_, rfl, ?_⟩; clear HC hb2 hc)
              | (refine stRow 45 (.tmp 6) (.tmp 48) rfl rfl w.heap.size (fdc ⟨k, e, n, 0⟩) rfl rfl 45 _ HL3.out.rz.blk (fd4 _) rfl (fd1 _) ?_))
            try simp only [Exit.inBlock, Exit.then]
            refine bodyPost_ret (v := kdV (some ⟨k, e, n, 0⟩)) (results_ct Tryz.results20 _ _ w.heap.size ⟨k, e, n, 0⟩ rfl ?_) rfl ?_
            · exact (HL3.out.rz.set _).blk
            · exact ⟨by rw [HF.out], (HL3.out.rz.set _).low⟩
        · have g2 : (((c : Nat) : Int) == 0) = false := by simp; omega
          have HF : Hid (na s a = some ⟨k, e, n, c⟩) := by show _ = _; rw [HS.out, fin, if_neg (fun h => hc0 h.1)]
          clear HS HI
          go_wp2_with (first
            | (refine callC f (.tmp 19) [.tmp 20] _ [.int .i64 (a : Int)] caps rfl rfl rfl rfl HE.out _ HC.out ?_; rintro r W2 ⟨rfl, hb2⟩; have HL2 := hid (HL.out.on hb2); have HL3 := hid (HL2.out.on ((Below.refl _ _).alloc (Nat.le_refl _) (.cells (fdc ⟨k, e, n, c⟩) 45))); refine Or.inl ⟨_, rfl, ?_⟩; clear HC hb2 hc)
            | (refine stRow 45 (.tmp 6) (.tmp 48) rfl rfl w.heap.size (fdc ⟨k, e, n, c⟩) rfl rfl 45 _ HL3.out.rz.blk (fd4 _) rfl (fd1 _) ?_))
          try simp only [Exit.inBlock, Exit.then]
          refine bodyPost_ret (v := kdV (some ⟨k, e, n, c⟩)) (results_ct Tryz.results20 _ _ w.heap.size ⟨k, e, n, c⟩ rfl ?_) rfl ?_
          · exact (HL3.out.rz.set _).blk
          · exact ⟨by rw [HF.out], (HL3.out.rz.set _).low⟩
    · obtain rfl : i = 4 := by omega
      have g1 : decide ((4 : Int) < 4) = false := by decide
      have HS := hid (na_none HN.out)
      clear HN
      go_wp2_with (refine stRow 45 (.tmp 6) (.tmp 50) rfl rfl w.heap.size (fdc ⟨0, 0, 0, 0⟩) rfl rfl 45 _ HL.out.rz.blk (fd4 _) rfl (fd1 _) ?_)
      try simp only [Exit.inBlock, Exit.then]
      refine bodyPost_ret (v := kdV none) (results_ct Tryz.results20 _ _ w.heap.size ⟨0, 0, 0, 0⟩ rfl ?_) rfl ?_
      · exact (HL.out.rz.set _).blk
      · exact ⟨by rw [HS.out], (HL.out.rz.set _).low⟩
end Go.Proofs.YtbbankcmeanjaaaGreatDoor
