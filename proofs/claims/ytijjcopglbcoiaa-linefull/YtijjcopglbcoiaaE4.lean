/-
  Proved here: the document's split answers what 'spl' says. Condition: at least 14 bytes.
-/
import Derived.Test.YtijjcopglbcoiaaE3
import Derived.Deep.DeepCutAuto
namespace Go.Proofs.Ytijjcopglbcoiaa
open Go.RowKit Seal

/-- An append to a row of slices, in a walk. -/
theorem appSp {ops : Array Oper} {rest : List Oper} {o : Oper} {a : Act} {w : World} {Q : Exit → Act → World → Prop} (s x : Operand) (ho : o.op = .call { callee := .builtin .append, args := #[s, x], argTypes := #[30, 30] })
    (hw : Region.wanted o (yielded ops a.tmps) = true) {S T : Nat → Prop} {v u : Value} {ll : List (List Int)} {m : List Int} {b : Nat} (hs : a.eval s = v) (hx : a.eval x = .slice (some ⟨b, 0, none⟩) 1 1) (h : Sp S T w v ll) (hu : SlC T w u m) (hd : ∀ k, v.ownBlock = some k → ¬ T k) (hl : ll.length < 2147483648) (hb : w.cell? ⟨b, 0, none⟩ = some u)
    (hK : ∀ v' w', Apd w v w' → Sp (fun k => S k ∨ w.heap.size ≤ k) T w' v' (ll ++ [m]) → wpList Try.prog ops Q rest (a.put o.dst v') w') : wpList Try.prog ops Q (o :: rest) a w := by
  obtain ⟨v', w', hr, h1, h2⟩ := run_sp_app (ty := o.type) h hu hd hl hb
  unfold wpList
  rw [if_pos hw]
  refine Or.inl ?_
  unfold Oper.wp execOp
  simp only [ho, resolve, invoke, builtin, Sem.run_bind, Sem.run_pure, Result.andThen_ok, List.map_toArray, List.map_cons, List.map_nil, hs, hx, hr]
  exact hK v' w' h1 h2

theorem SlC.cutif {S : Nat → Prop} {w : World} {b o n cap : Nat} {bs : List Int} (h : SlC S w (.slice (some ⟨b, o, none⟩) n cap) bs) (i m : Nat) (hi : i + m ≤ bs.length) : SlC S w (.slice (if cap = i then some ⟨b, o, none⟩ else some ⟨b, o + i, none⟩) m (cap - i)) ((bs.drop i).take m) := by
  have hc : bs.length ≤ cap := by
    obtain ⟨_, _, e, h1, _⟩ := h
    simp only [Value.slice.injEq] at e
    omega
  by_cases h0 : cap = i
  · have hm : m = 0 := by omega
    subst hm
    rw [if_pos h0]
    exact ⟨some ⟨b, o, none⟩, cap - i, by simp, by simp, by simp, by simpa using IsB.nil, (fun h => by simp at h), fun hne => absurd (by simp) hne⟩
  · rw [if_neg h0]
    exact h.cut i m (cap - i) hi (by omega)
theorem sp_short {n a : Nat} {bs : List Int} (h : bs.length < a + 2) : sp (n + 1) (bs.drop a) = none := by
  unfold sp; rw [if_pos (by rw [List.length_drop]; omega)]
theorem sp_bad {n a : Nat} {bs : List Int} (h : ¬ bs.length < a + 2) (h2 : 8192 < fld bs a 2 ∨ (bs.length : Int) < a + 2 + fld bs a 2) : sp (n + 1) (bs.drop a) = none := by
  have h2' : 8192 < num ((bs.drop a).take 2) ∨ (bs.length : Int) < a + 2 + num ((bs.drop a).take 2) := h2
  unfold sp; rw [if_neg (by rw [List.length_drop]; omega), if_pos (by rw [List.length_drop]; omega)]
theorem sp_good {n a : Nat} {bs : List Int} {k : Nat} (hk : fld bs a 2 = k) (h : ¬ bs.length < a + 2) (h1 : k ≤ 8192) (h2 : a + 2 + k ≤ bs.length) : sp (n + 1) (bs.drop a) = (sp n (bs.drop (a + 2 + k))).map (((bs.drop (a + 2)).take k) :: ·) := by
  have hk' : num ((bs.drop a).take 2) = k := hk
  conv => lhs; unfold sp
  rw [hk', if_neg (by rw [List.length_drop]; omega), if_neg (by rw [List.length_drop]; omega), Int.toNat_natCast, List.drop_drop, List.drop_drop, show a + (2 + k) = a + 2 + k by omega]
theorem map_cons_app {o : Option (List (List Int))} {ms : List (List Int)} {x : List Int} : (o.map (x :: ·)).map (ms ++ ·) = o.map ((ms ++ [x]) ++ ·) := by
  cases o <;> simp

set_option maxRecDepth 100000 in
set_option maxHeartbeats 1600000 in
theorem rsplit_any (T : Nat → Prop) (v : Value) (bs : List Int) (w : World) (hs : SlC T w v bs) (h14 : 14 ≤ bs.length) :
    Calls Try.prog 40 #[v] w fun r w' => ∃ u, r = .returned (.tuple #[u, .bool (spl bs).isSome]) ∧ Below w.heap.size w w' ∧ ∀ l, spl bs = some l → Sp (fun k => w.heap.size ≤ k) (fun k => T k ∧ k < w.heap.size) w' u l := by
  have hlen := hs.len
  have hT : SlC (fun k => T k ∧ k < w.heap.size) w v bs := hs.carry fun k h1 h2 => ⟨⟨h2, h1⟩, rfl⟩
  have HS : Hid (SlC (fun k => T k ∧ k < w.heap.size) w v bs) := hT
  obtain ⟨ao, cap, rfl, hcap, _, hB, _, hcl⟩ := hT
  obtain ⟨b, o, _, rfl, _⟩ := hcl (fun e => by subst e; simp at h14)
  have HR : Hid (∀ (a : Nat) (w' : World), Below w.heap.size w w' → a + 2 ≤ bs.length → Calls Try.prog 41 #[.slice (some ⟨b, o, none⟩) bs.length cap, .int .i64 a, .int .i64 2] w' fun e w'' => e = .returned (.int .u32 (fld bs a 2)) ∧ w'' = w') := fun a w' hb ha => rread_any w.heap.size a 2 _ bs w' (HS.out.sl.on hb) (by omega) (by omega)
  have HB : Hid (IsB bs) := hB
  obtain ⟨n, hn⟩ : ∃ n : Nat, fld bs 12 2 = n := ⟨(fld bs 12 2).toNat, by have := (fld_bd hB 12 2).1; omega⟩
  have hn16 : n < 65536 := by
    have h := (fld_bd hB 12 2).2
    rw [hn] at h
    have e : (2 : Int) ^ (8 * 2) = 65536 := by decide
    omega
  have R0 := HR.out 12 w (Below.refl _ _) (by omega)
  rw [hn] at R0
  have HR0 : Hid (Calls Try.prog 41 #[.slice (some ⟨b, o, none⟩) bs.length cap, .int .i64 12, .int .i64 2] w fun e w'' => e = .returned (.int .u32 (n : Nat)) ∧ w'' = w) := R0
  have HN : Hid (fld bs 12 2 = n) := hn
  clear hs hcl hn R0 hB
  go_enter Try.func40, Try.ntmps40
  go_wp2_with (go_at_call 41; refine (HR0.out).mono ?_; rintro e w9 ⟨rfl, hw9⟩; rw [hw9]; clear hw9 w9)
  go_loopw [5, 6, 7, 8] (fun a l i s wr => ∃ (j k : Nat) (ms : List (List Int)), j ≤ n ∧ k ≤ bs.length ∧ i = .int .i64 j ∧ a = .int .i64 k ∧ ms.length = j ∧ Below w.heap.size w wr ∧ Sp (fun k => w.heap.size ≤ k) (fun k => T k ∧ k < w.heap.size) wr l ms ∧ sp n (bs.drop 14) = (sp (n - j) (bs.drop k)).map (ms ++ ·)) (fun _ _ i _ _ => n - (intOf i).toNat)
  case atStart => exact ⟨0, 14, [], by omega, h14, rfl, rfl, rfl, Below.refl _ _, Sp.nil _ _ _, by simp⟩
  case round =>
    obtain ⟨j, k, ms, hj, hk, rfl, rfl, hml, hlow, hsp, hrel⟩ := hrel
    have hml' : ms.length < 65536 := by omega
    have HL : Hid (Below w.heap.size w wr) := hlow
    have HP : Hid (Sp (fun k => w.heap.size ≤ k) (fun k => T k ∧ k < w.heap.size) wr u6 ms) := hsp
    have HX : Hid (sp n (bs.drop 14) = (sp (n - j) (bs.drop k)).map (ms ++ ·)) := hrel
    have HSr : Hid (SlC (fun k => T k ∧ k < w.heap.size) wr (.slice (some ⟨b, o, none⟩) bs.length cap) bs) := HS.out.carry fun k _ hk => ⟨hk, hlow.block k hk.2⟩
    have HSpl : Hid (spl bs = if 32 < n then none else sp n (bs.drop 14)) := by
      show _ = _
      unfold spl; rw [HN.out, Int.toNat_natCast]
      by_cases h : 32 < n
      · rw [if_pos h, if_pos (by omega)]
      · rw [if_neg h, if_neg (by omega)]
    have HM : Hid (ms.length = j) := hml
    clear hlow hsp hrel HR0 hml
    by_cases hlt : j < n
    · obtain ⟨q, hq⟩ : ∃ q, n - j = q + 1 := ⟨n - j - 1, by omega⟩
      have HQ : Hid (n - j = q + 1) := hq
      clear hq
      by_cases h2 : bs.length < k + 2
      · have HNo : Hid (spl bs = none) := by
          show _ = _
          rw [HSpl.out, HX.out, HQ.out, sp_short h2]; simp
        clear HX HSpl HQ
        go_wp2
        go_ret2
        exact ⟨nilS, by rw [HNo.out]; rfl, HL.out, fun l e => by rw [HNo.out] at e; cases e⟩
      · have hm0 := (fld_bd HB.out k 2)
        obtain ⟨m, hm⟩ : ∃ m : Nat, fld bs k 2 = m := ⟨(fld bs k 2).toNat, by have := hm0.1; omega⟩
        have hm16 : m < 65536 := by
          have h := hm0.2
          rw [hm] at h
          have e : (2 : Int) ^ (8 * 2) = 65536 := by decide
          omega
        have HRk : Hid (Calls Try.prog 41 #[.slice (some ⟨b, o, none⟩) bs.length cap, .int .i64 k, .int .i64 2] wr fun e w'' => e = .returned (.int .u32 (m : Nat)) ∧ w'' = wr) := by
          have := HR.out k wr HL.out (by omega)
          rw [hm] at this
          exact this
        have HMM : Hid (fld bs k 2 = m) := hm
        clear hm0 hm
        by_cases h3 : 8192 < m
        · have HNo : Hid (spl bs = none) := by
            show _ = _
            rw [HSpl.out, HX.out, HQ.out, sp_bad h2 (by rw [HMM.out]; omega)]; simp
          clear HX HSpl HQ
          go_wp2_with (go_at_call 41; refine (HRk.out).mono ?_; rintro e w9 ⟨rfl, hw9⟩; rw [hw9]; clear hw9 w9)
          go_ret2
          exact ⟨nilS, by rw [HNo.out]; rfl, HL.out, fun l e => by rw [HNo.out] at e; cases e⟩
        · by_cases h4 : bs.length < k + 2 + m
          · have HNo : Hid (spl bs = none) := by
              show _ = _
              rw [HSpl.out, HX.out, HQ.out, sp_bad h2 (by rw [HMM.out]; omega)]; simp
            clear HX HSpl HQ
            go_wp2_with (go_at_call 41; refine (HRk.out).mono ?_; rintro e w9 ⟨rfl, hw9⟩; rw [hw9]; clear hw9 w9)
            go_ret2
            exact ⟨nilS, by rw [HNo.out]; rfl, HL.out, fun l e => by rw [HNo.out] at e; cases e⟩
          · go_upto_region 13 with (go_at_call 41; refine (HRk.out).mono ?_; rintro e w9 ⟨rfl, hw9⟩; rw [hw9]; clear hw9 w9)
            have HO2 : Hid (Below w.heap.size w (wr.alloc (.cells #[.slice (if cap = k + 2 then some ⟨b, o, none⟩ else some ⟨b, o + (k + 2), none⟩) m (cap - (k + 2))] 31))) := HL.out.trans (((Below.refl _ _).alloc (Nat.le_refl _) _).mono HL.out.size)
            have HP2 : Hid (Sp (fun k => w.heap.size ≤ k) (fun k => T k ∧ k < w.heap.size) (wr.alloc (.cells #[.slice (if cap = k + 2 then some ⟨b, o, none⟩ else some ⟨b, o + (k + 2), none⟩) m (cap - (k + 2))] 31)) u6 ms) := HP.out.carry (fun k hk h => ⟨h, heap_alloc_old _ _ hk⟩) (fun k hk h => ⟨h, heap_alloc_old _ _ hk⟩)
            have HS2 : Hid (SlC (fun k => T k ∧ k < w.heap.size) (wr.alloc (.cells #[.slice (if cap = k + 2 then some ⟨b, o, none⟩ else some ⟨b, o + (k + 2), none⟩) m (cap - (k + 2))] 31)) (.slice (if cap = k + 2 then some ⟨b, o, none⟩ else some ⟨b, o + (k + 2), none⟩) m (cap - (k + 2))) ((bs.drop (k + 2)).take m)) := (HSr.out.cutif (k + 2) m (by omega)).carry (fun k hk h => ⟨h, heap_alloc_old _ _ hk⟩)
            have HG : Hid (sp n (bs.drop 14) = (sp (n - (j + 1)) (bs.drop (k + 2 + m))).map ((ms ++ [(bs.drop (k + 2)).take m]) ++ ·)) := by
              show _ = _
              rw [HX.out, HQ.out, sp_good HMM.out h2 (by omega) (by omega), map_cons_app, show n - (j + 1) = q by have := HQ.out; omega]
            clear HX HSpl HQ HSr HP
            go_wp2_with (at_builtin; refine appSp (.tmp 38) (.tmp 45) rfl rfl rfl rfl HP2.out HS2.out (fun k hk ht => by have := HP2.out.own k hk; have := ht.2; omega) (by omega) (by rw [cell_of_row _ _ 0 _ _ _ (heap_alloc_new _ _)]; rfl) ?_; intro v' w' A' P')
            have hO := A'.only (S := fun k => w.heap.size ≤ k) (fun k hk => Nat.le_trans HO2.out.size hk) (fun k hk => HP2.out.own k hk)
            have HB' : Hid (Below w.heap.size w w') := HO2.out.trans (hO.below fun k hk => hk)
            have HP' : Hid (Sp (fun k => w.heap.size ≤ k) (fun k => T k ∧ k < w.heap.size) w' v' (ms ++ [(bs.drop (k + 2)).take m])) := P'.carry (fun k _ h => ⟨by rcases h with h | h; exact h; exact Nat.le_trans HO2.out.size h, rfl⟩) (fun k _ h => ⟨h, rfl⟩)
            go_roundw
            case rel => exact ⟨j + 1, k + 2 + m, _, by omega, by omega, by go_num, by go_num, by simp [HM.out], HB'.out, HP'.out, HG.out⟩
            case measure => simp [intOf]; omega
    · obtain rfl : j = n := by omega
      have HX2 : Hid (sp j (bs.drop 14) = (sp 0 (bs.drop k)).map (ms ++ ·)) := by
        show _ = _
        rw [HX.out, Nat.sub_self]
      clear HX HSr
      by_cases hk2 : k = bs.length
      · subst hk2
        have e0 : sp j (bs.drop 14) = some ms := by rw [HX2.out]; simp [sp]
        by_cases h32 : j ≤ 32
        · have HY : Hid (spl bs = some ms) := by show _ = _; rw [HSpl.out, if_neg (by omega), e0]
          have hd : decide ((j : Int) ≤ 32) = true := by simp; omega
          clear HX2 e0 HSpl
          go_wp2
          go_ret2
          exact ⟨u6, by rw [HY.out]; rfl, HL.out, fun l e => by rw [HY.out] at e; cases e; exact HP.out⟩
        · have HY : Hid (spl bs = none) := by show _ = _; rw [HSpl.out, if_pos (by omega)]
          have hd : decide ((j : Int) ≤ 32) = false := by simp; omega
          clear HX2 e0 HSpl
          go_wp2
          go_ret2
          exact ⟨u6, by rw [HY.out]; rfl, HL.out, fun l e => by rw [HY.out] at e; cases e⟩
      · have HY : Hid (spl bs = none) := by
          show _ = _
          rw [HSpl.out, HX2.out]
          have : sp 0 (bs.drop k) = none := by
            unfold sp
            rw [if_neg (fun e => by have := congrArg List.length e; rw [List.length_drop] at this; simp at this; omega)]
          rw [this]; simp
        have hd : ((k : Int) == (bs.length : Int)) = false := by simp; omega
        clear HX2 HSpl
        go_wp2
        go_ret2
        exact ⟨u6, by rw [HY.out]; rfl, HL.out, fun l e => by rw [HY.out] at e; cases e⟩
end Go.Proofs.Ytijjcopglbcoiaa
