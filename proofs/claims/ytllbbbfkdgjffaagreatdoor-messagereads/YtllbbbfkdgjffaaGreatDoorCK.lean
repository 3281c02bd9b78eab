/-
  Proved here: MessageBack's body says true. Conditions: the tables hold their numbers; the message's memory and the bytes' are old.
-/
/-
  Proved here: the document's Encode (of package tollbridgeref07) gives a message's bytes, or its error; no old memory turns. Conditions: the message's memory is old and as it says, its numbers of their types.
-/
/-
  Proved here: Check answers what Encode's error is; no old memory turns. Conditions: as for Encode.
-/
import Derived.Test.YtllbbbfkdgjffaaGreatDoorWK
import Derived.Test.YtllbbbfkdgjffaaGreatDoorDJ
import Derived.Test.YtllbbbfkdgjffaaGreatDoorOP
import Derived.Test.YtllbbbfkdgjffaaGreatDoorEN
namespace Go.Proofs.YtllbbbfkdgjffaaGreatDoor
open Go.RowKit

theorem de_cases (bs : List Int) : deE bs ≠ 0 ∨ (deE bs = 0 ∧ ∃ m, dec bs = some m ∧ deM bs = m ∧ 8 ≤ bs.length) := by
  cases hs : shE bs with
  | true => left; rw [(de_short hs).1]; decide
  | false =>
    have h8 : 8 ≤ bs.length := by have := of_decide_eq_false hs; omega
    cases hd : dec bs with
    | none => left; rw [(de_none hs hd).1]; decide
    | some m => exact Or.inr ⟨(de_some hs hd).1, m, rfl, (de_some hs hd).2, h8⟩
theorem sh_dec {bs : List Int} {m : Ms} (h8 : 8 ≤ bs.length) (h : dec bs = some m) : shE bs = false := by
  unfold dec at h
  split at h
  case isFalse => cases h
  case isTrue hc => exact decide_eq_false (by have := hc.2.2.2; omega)
theorem enE_zero {m : Ms} (h : enE m = 0) : okMs m = true ∧ (encMs m).length ≤ 8192 := by
  unfold enE at h
  split at h
  case isFalse => exact absurd h (by decide)
  case isTrue h1 =>
    split at h
    case isFalse => exact absurd h (by decide)
    case isTrue h2 => exact ⟨h1, h2⟩
set_option maxHeartbeats 3200000 in
set_option maxRecDepth 100000 in
theorem mback_any {T T' : Nat → Prop} {w : World} (m : Ms) (s : Sls) (v : Value) (raw : List Int) (hm : Mss T w m s) (hf : m.Fit) (hT : ∀ x, T x → x < w.heap.size) (hs : Hid (SlC T' w v raw)) (hT' : Hid (∀ x, T' x → x < w.heap.size)) (ht : Tab w) :
    Calls Tryz.prog 5 #[.agg (msc m s), v] w fun e w' => e = .returned (.bool true) ∧ Below w.heap.size w w' := by
  have hb1 : Below w.heap.size w (w.alloc (.cells (msc m s) 37)) := (Below.refl _ _).alloc (Nat.le_refl _) _
  have hm1 : MB (w.alloc (.cells (msc m s) 37)) w.heap.size m s := heap_alloc_new _ _
  have hz1 : (w.alloc (.cells (msc m s) 37)).heap.size = w.heap.size + 1 := by simp
  obtain ⟨W1, HW1⟩ : ∃ W, Hid (w.alloc (.cells (msc m s) 37) = W) := ⟨_, rfl⟩
  rw [HW1.out] at hb1 hm1 hz1
  have HTb := hid ht
  have HM1 := hid hm1
  have HE := hid (encode_any (T := T) m s W1 (hm.carry fun b hb h => ⟨h, hb1.block b hb⟩) hf (fun x hx => by have := hT x hx; omega) (ht.on hb1))
  have HB1 := hid hb1
  have HMs := hid hm
  clear hb1 hm1 hm ht
  obtain ⟨va, vc, rfl⟩ : ∃ va vc, v = .slice va raw.length vc := by obtain ⟨a, c, e, -⟩ := hs.out; exact ⟨a, c, e⟩
  by_cases he : enE m = 0
  · have hz := enE_zero he
    have hL : enL m = encMs m := (enE_good hz.1 hz.2).2
    have hdec := dec_enc hf hz.1 hz.2
    have h8 : 8 ≤ (encMs m).length := by simp [encMs, dg_len]; omega
    have hde := de_some (sh_dec h8 hdec) hdec
    rw [he, hL] at HE
    have HDe : Hid (∀ W v2 n, Below w.heap.size w W → n ≤ W.heap.size → Owns n W v2 (encMs m) → Calls Tryz.prog 11 #[v2] W fun e w' => Below W.heap.size W w' ∧ ∃ s, e = .returned (.tuple #[.agg (msc m s), .int .i64 0]) ∧ Mss (fun x => W.heap.size ≤ x ∧ x < w'.heap.size) w' m s) := by
      show ∀ _, _
      intro W v2 n hW _ hv
      have := decode_any (T := fun x => x < W.heap.size) (encMs m) v2 W (SlC.own hv (by have := hz.2; omega) (encMs_isB hf) (fun _ _ h => h)) (fun _ h => h) (HTb.out.on hW)
      rw [hde.1, hde.2] at this
      exact this
    clear hz hL hdec h8 hde he
    go_enter Tryz.func5, Tryz.ntmps5
    go_upto_region 2 with (first
      | (refine bxMs (.tmp 0) rfl rfl m s rfl W1 HW1 ?_)
      | (refine ldRow 37 (.tmp 2) rfl rfl w.heap.size rfl 37 (msc m s) _ Tryz.underlying37 rfl (sizeMs m s) HM1.out ?_)
      | (go_at_call 6; refine (HE.out).mono ?_; rintro e w2 ⟨hb, v2, rfl, hv⟩
         have HB2 := hid (HB1.out.trans (hb.mono HB1.out.size))
         have HA2 : Hid (MB w2 w.heap.size m s) := (hb.block _ (by omega)).trans HM1.out
         have hz2 := hb.size
         have HD2 := hid (HDe.out w2 v2 W1.heap.size HB2.out hz2 hv)
         clear hb hv))
    clear HM1 HE HDe HW1
    go_upto_region 4 with (first
      | (refine stNew 37 (.tmp 7) (.tmp 23) rfl rfl w3 37 (msc zMs zSl) (msc m s3) (by rw [← zero_ms0]) rfl rfl (sizeMs _ _) (by rw [msc_size, msc_size]) HOne3.out ?_
         generalize w3.alloc (.cells (msc m s3) 37) = V3 at HB3 HM3 HMA HSa ⊢)
      | (go_at_call 11; refine (HD2.out).mono ?_; rintro e w3 ⟨hb, s3, rfl, hm3⟩
         have hz3 := hb.size
         have HOne3 := hid hm3.one
         have HB3 := hid ((HB2.out.trans (hb.mono HB2.out.size)).alloc (by omega) (.cells (msc m s3) 37))
         have HM3 : Hid (MB (w3.alloc (.cells (msc m s3) 37)) w3.heap.size m s3) := heap_alloc_new _ _
         have HMA : Hid (MB (w3.alloc (.cells (msc m s3) 37)) w.heap.size m s) := (heap_alloc_old _ _ (by omega)).trans ((hb.block _ (by omega)).trans HA2.out)
         have HSa := hid (lsame_same (w := w3.alloc (.cells (msc m s3) 37)) m (HMs.out.carry (T' := T) fun k hk h => ⟨h, HB3.out.block k hk⟩) (hm3.carry (T' := fun _ => True) fun k hk _ => ⟨trivial, heap_alloc_old _ _ hk⟩))
         clear hb hm3))
    clear HD2 HA2 HOne3
    go_upto_region 6 with (first
      | (refine ldRow 37 (.tmp 7) rfl rfl w3.heap.size rfl 37 (msc m s3) _ Tryz.underlying37 rfl (sizeMs m s3) HM3.out ?_)
      | (refine ldRow 37 (.tmp 2) rfl rfl w.heap.size rfl 37 (msc m s) _ Tryz.underlying37 rfl (sizeMs m s) HMA.out ?_)
      | (go_at_call 13; refine (HSa.out).mono ?_; rintro e w4 ⟨rfl, hb⟩; have HB4 := hid (HB3.out.trans (hb.mono HB3.out.size)); clear hb))
    clear HM3 HMA HSa
    have HBV := hid HB4.out
    have hsz := HBV.out.size
    have hsV : SlC T' w4 (.slice va raw.length vc) raw := hs.out.carry fun k hk hT => ⟨hT, HBV.out.block k hk⟩
    have HD := hid (decode_any raw _ w4 hsV (fun x hx => by have := hT'.out x hx; omega) (HTb.out.on HBV.out))
    rcases de_cases raw with hne | ⟨h0, m2, hdec, hm2, h8⟩
    · have hq : (deE raw == 0) = false := beq_eq_false_iff_ne.2 hne
      have hq' : (deE raw != 0) = true := by rw [bne, hq]; rfl
      have HW : Hid (∀ W, Below w.heap.size w W → Calls Tryz.prog 10 #[] W fun e w' => e = .returned (.bool true) ∧ Below W.heap.size W w') := fun W hW => wakes_any W (HTb.out.on hW)
      generalize deE raw = x at HD hq hq'
      clear hsV
      go_wp2_with (first
        | (refine stNew 37 (.tmp 9) (.tmp 36) rfl rfl w5 37 (msc zMs zSl) (msc (deM raw) s5) (by rw [← zero_ms0]) rfl rfl (sizeMs _ _) (by rw [msc_size, msc_size]) HOne5.out ?_
           generalize w5.alloc (.cells (msc (deM raw) s5) 37) = V5 at HB5 ⊢)
        | (go_at_call 11; refine (HD.out).mono ?_; rintro e w5 ⟨hb, s5, rfl, hm5⟩
           have HOne5 := hid hm5.one
           have HB5 := hid ((HBV.out.trans (hb.mono hsz)).alloc (by have := hb.size; omega) (.cells (msc (deM raw) s5) 37))
           clear hb hm5)
        | (go_at_call 10; refine (HW.out _ HB5.out).mono ?_; rintro e w6 ⟨rfl, hb⟩; have HB6 := hid (HB5.out.trans (hb.mono HB5.out.size)); clear hb))
      go_ret
      exact ⟨rfl, HB6.out⟩
    · have hinv := dec_inv hsV.isB h8 hdec
      have hen := enE_good hinv.2.1 (by rw [hinv.1]; exact hinv.2.2.2)
      rw [hinv.1] at hen
      rw [h0, hm2] at HD
      have HW : Hid (∀ W, Below w.heap.size w W → Calls Tryz.prog 10 #[] W fun e w' => e = .returned (.bool true) ∧ Below W.heap.size W w') := fun W hW => wakes_any W (HTb.out.on hW)
      have HEn : Hid (∀ W s5, Below w.heap.size w W → Mss (fun x => x < W.heap.size) W m2 s5 → Calls Tryz.prog 6 #[.agg (msc m2 s5)] W fun e w' => Below W.heap.size W w' ∧ ∃ v, e = .returned (.tuple #[v, .int .i64 0]) ∧ Owns W.heap.size w' v raw) := by
        show ∀ _, _
        intro W s5 hW hM
        have := encode_any m2 s5 W hM hinv.2.2.1 (fun _ h => h) (HTb.out.on hW)
        rw [hen.1, hen.2] at this
        exact this
      have HLr := hid (And.intro hsV.len hsV.isB)
      have HSr : Hid (∀ W, Below w.heap.size w W → (convert 34 9 (.slice va raw.length vc)).run Tryz.prog W = .ok (.string (str raw)) W) := fun W hW => conv_sl (hs.out.carry (T := fun _ => True) fun k hk _ => ⟨trivial, hW.block k hk⟩).sl
      clear hsV hinv hen hdec h8
      go_wp2_with (first
        | (refine stNew 37 (.tmp 9) (.tmp 36) rfl rfl w5 37 (msc zMs zSl) (msc m2 s5) (by rw [← zero_ms0]) rfl rfl (sizeMs _ _) (by rw [msc_size, msc_size]) HOne5.out ?_
           generalize w5.alloc (.cells (msc m2 s5) 37) = V5 at HB5 HM5 HMs5 ⊢
           have HEc := hid (HEn.out V5 s5 HB5.out HMs5.out))
        | (refine ldRow 37 (.tmp 9) rfl rfl w5.heap.size rfl 37 (msc m2 s5) _ Tryz.underlying37 rfl (sizeMs m2 s5) HM5.out ?_)
        | (go_at_call 11; refine (HD.out).mono ?_; rintro e w5 ⟨hb, s5, rfl, hm5⟩
           have HOne5 := hid hm5.one
           have HB5 := hid ((HBV.out.trans (hb.mono hsz)).alloc (by have := hb.size; omega) (.cells (msc m2 s5) 37))
           have HM5 : Hid (MB (w5.alloc (.cells (msc m2 s5) 37)) w5.heap.size m2 s5) := heap_alloc_new _ _
           have HMs5 : Hid (Mss (fun x => x < (w5.alloc (.cells (msc m2 s5) 37)).heap.size) (w5.alloc (.cells (msc m2 s5) 37)) m2 s5) := hm5.carry fun k hk _ => ⟨by simp; omega, heap_alloc_old _ _ hk⟩
           clear hb hm5)
        | (go_at_call 6; refine (HEc.out).mono ?_; rintro e w6 ⟨hb, v6, rfl, hv6⟩
           have HB6 := hid (HB5.out.trans (hb.mono HB5.out.size))
           have cv1 := conv_sl (SlC.own (S := fun _ => True) hv6 HLr.out.1 HLr.out.2 (fun _ _ _ => trivial)).sl
           have cv2 := HSr.out w6 HB6.out
           clear hb hv6)
        | (go_at_call 10; refine (HW.out _ HB6.out).mono ?_; rintro e w7 ⟨rfl, hb⟩; have HB7 := hid (HB6.out.trans (hb.mono HB6.out.size)); clear hb))
      go_ret
      exact ⟨rfl, HB7.out⟩
  · have hq : (enE m == 0) = false := beq_eq_false_iff_ne.2 he
    generalize enE m = x at HE hq
    go_enter Tryz.func5, Tryz.ntmps5
    go_upto_region 6 with (first
      | (refine bxMs (.tmp 0) rfl rfl m s rfl W1 HW1 ?_)
      | (refine ldRow 37 (.tmp 2) rfl rfl w.heap.size rfl 37 (msc m s) _ Tryz.underlying37 rfl (sizeMs m s) HM1.out ?_)
      | (go_at_call 6; refine (HE.out).mono ?_; rintro e w2 ⟨hb, v2, rfl, hv⟩; have HB2 := hid (HB1.out.trans (hb.mono HB1.out.size)); clear hb hv))
    have HBV := hid HB2.out
    have hsz := HBV.out.size
    have hsV : SlC T' w2 (.slice va raw.length vc) raw := hs.out.carry fun k hk hT => ⟨hT, HBV.out.block k hk⟩
    have HD := hid (decode_any raw _ w2 hsV (fun x hx => by have := hT'.out x hx; omega) (HTb.out.on HBV.out))
    rcases de_cases raw with hne | ⟨h0, m2, hdec, hm2, h8⟩
    · have hq : (deE raw == 0) = false := beq_eq_false_iff_ne.2 hne
      have hq' : (deE raw != 0) = true := by rw [bne, hq]; rfl
      have HW : Hid (∀ W, Below w.heap.size w W → Calls Tryz.prog 10 #[] W fun e w' => e = .returned (.bool true) ∧ Below W.heap.size W w') := fun W hW => wakes_any W (HTb.out.on hW)
      generalize deE raw = x at HD hq hq'
      clear hsV
      go_wp2_with (first
        | (refine stNew 37 (.tmp 9) (.tmp 36) rfl rfl w5 37 (msc zMs zSl) (msc (deM raw) s5) (by rw [← zero_ms0]) rfl rfl (sizeMs _ _) (by rw [msc_size, msc_size]) HOne5.out ?_
           generalize w5.alloc (.cells (msc (deM raw) s5) 37) = V5 at HB5 ⊢)
        | (go_at_call 11; refine (HD.out).mono ?_; rintro e w5 ⟨hb, s5, rfl, hm5⟩
           have HOne5 := hid hm5.one
           have HB5 := hid ((HBV.out.trans (hb.mono hsz)).alloc (by have := hb.size; omega) (.cells (msc (deM raw) s5) 37))
           clear hb hm5)
        | (go_at_call 10; refine (HW.out _ HB5.out).mono ?_; rintro e w6 ⟨rfl, hb⟩; have HB6 := hid (HB5.out.trans (hb.mono HB5.out.size)); clear hb))
      go_ret
      exact ⟨rfl, HB6.out⟩
    · have hinv := dec_inv hsV.isB h8 hdec
      have hen := enE_good hinv.2.1 (by rw [hinv.1]; exact hinv.2.2.2)
      rw [hinv.1] at hen
      rw [h0, hm2] at HD
      have HW : Hid (∀ W, Below w.heap.size w W → Calls Tryz.prog 10 #[] W fun e w' => e = .returned (.bool true) ∧ Below W.heap.size W w') := fun W hW => wakes_any W (HTb.out.on hW)
      have HEn : Hid (∀ W s5, Below w.heap.size w W → Mss (fun x => x < W.heap.size) W m2 s5 → Calls Tryz.prog 6 #[.agg (msc m2 s5)] W fun e w' => Below W.heap.size W w' ∧ ∃ v, e = .returned (.tuple #[v, .int .i64 0]) ∧ Owns W.heap.size w' v raw) := by
        show ∀ _, _
        intro W s5 hW hM
        have := encode_any m2 s5 W hM hinv.2.2.1 (fun _ h => h) (HTb.out.on hW)
        rw [hen.1, hen.2] at this
        exact this
      have HLr := hid (And.intro hsV.len hsV.isB)
      have HSr : Hid (∀ W, Below w.heap.size w W → (convert 34 9 (.slice va raw.length vc)).run Tryz.prog W = .ok (.string (str raw)) W) := fun W hW => conv_sl (hs.out.carry (T := fun _ => True) fun k hk _ => ⟨trivial, hW.block k hk⟩).sl
      clear hsV hinv hen hdec h8
      go_wp2_with (first
        | (refine stNew 37 (.tmp 9) (.tmp 36) rfl rfl w5 37 (msc zMs zSl) (msc m2 s5) (by rw [← zero_ms0]) rfl rfl (sizeMs _ _) (by rw [msc_size, msc_size]) HOne5.out ?_
           generalize w5.alloc (.cells (msc m2 s5) 37) = V5 at HB5 HM5 HMs5 ⊢
           have HEc := hid (HEn.out V5 s5 HB5.out HMs5.out))
        | (refine ldRow 37 (.tmp 9) rfl rfl w5.heap.size rfl 37 (msc m2 s5) _ Tryz.underlying37 rfl (sizeMs m2 s5) HM5.out ?_)
        | (go_at_call 11; refine (HD.out).mono ?_; rintro e w5 ⟨hb, s5, rfl, hm5⟩
           have HOne5 := hid hm5.one
           have HB5 := hid ((HBV.out.trans (hb.mono hsz)).alloc (by have := hb.size; omega) (.cells (msc m2 s5) 37))
           have HM5 : Hid (MB (w5.alloc (.cells (msc m2 s5) 37)) w5.heap.size m2 s5) := heap_alloc_new _ _
           have HMs5 : Hid (Mss (fun x => x < (w5.alloc (.cells (msc m2 s5) 37)).heap.size) (w5.alloc (.cells (msc m2 s5) 37)) m2 s5) := hm5.carry fun k hk _ => ⟨by simp; omega, heap_alloc_old _ _ hk⟩
           clear hb hm5)
        | (go_at_call 6; refine (HEc.out).mono ?_; rintro e w6 ⟨hb, v6, rfl, hv6⟩
           have HB6 := hid (HB5.out.trans (hb.mono HB5.out.size))
           have cv1 := conv_sl (SlC.own (S := fun _ => True) hv6 HLr.out.1 HLr.out.2 (fun _ _ _ => trivial)).sl
           have cv2 := HSr.out w6 HB6.out
           clear hb hv6)
        | (go_at_call 10; refine (HW.out _ HB6.out).mono ?_; rintro e w7 ⟨rfl, hb⟩; have HB7 := hid (HB6.out.trans (hb.mono HB6.out.size)); clear hb))
      go_ret
      exact ⟨rfl, HB7.out⟩
end Go.Proofs.YtllbbbfkdgjffaaGreatDoor
namespace Go.Proofs.YtllbbbfkdgjffaaGreatDoor
open Go.RowKit

theorem not_big {m : Ms} (h : enE m = 0) : ¬ big m := fun hb => by
  have h1 := enE_big (enE_zero h).1 hb
  omega
set_option maxHeartbeats 3200000 in
set_option maxRecDepth 100000 in
theorem rencode_any {T : Nat → Prop} (m : Ms) (s : Sls) (w : World) (hs : Mss T w m s) (hf : m.Fit) (hT : ∀ x, T x → x < w.heap.size) :
    Calls Tryz.prog 7 #[.agg (msc m s)] w fun e w' => Below w.heap.size w w' ∧ ∃ v b, e = .returned (.tuple #[v, .int .i64 (enE m)]) ∧ w.heap.size ≤ b ∧ Owns b w' v (enL m) := by
  have hB := Bx.new hs
  obtain ⟨W1, HW1⟩ : ∃ W, Hid (w.alloc (.cells (msc m s) 37) = W) := ⟨_, rfl⟩
  rw [HW1.out] at hB
  obtain ⟨g, hg⟩ : ∃ g, g = w.heap.size := ⟨_, rfl⟩
  rw [← hg] at hB
  have HG := hid hg
  have HL := hid hB.mb
  have HC := hid (rcheck7_any m s W1 hB.ms hf (fun x hx => Nat.lt_of_lt_of_le (hT x hx) hB.low.size))
  have HO : Hid (∀ w2, Below W1.heap.size W1 w2 → Bx T w g m s w2) := fun w2 h2 => hB.on h2
  have HWd : Hid (enE m = 0 → ∀ x, Bx T w g m s x → Calls Tryz.prog 16 #[.agg (msc m s)] x fun e w' => Below w.heap.size w w' ∧ ∃ v b, e = .returned v ∧ w.heap.size ≤ b ∧ Owns b w' v (encMs m)) := fun h0 x hx => by
    have hn := not_big h0
    refine (rwords_any m s x hx.ms hf (fun y hy => Nat.lt_of_lt_of_le (hT y hy) hx.low.size) ?_ ?_ ?_ ?_ ?_ ?_).mono ?_
    · exact Nat.le_of_not_lt fun h => hn (Or.inl h)
    · exact Nat.le_of_not_lt fun h => hn (Or.inr (Or.inl h))
    · exact Nat.le_of_not_lt fun h => hn (Or.inr (Or.inr (Or.inl h)))
    · exact Nat.le_of_not_lt fun h => hn (Or.inr (Or.inr (Or.inr (Or.inl h))))
    · exact Nat.le_of_not_lt fun h => hn (Or.inr (Or.inr (Or.inr (Or.inr (Or.inl h)))))
    · exact fun h hm => Nat.le_of_not_lt fun h' => hn (Or.inr (Or.inr (Or.inr (Or.inr (Or.inr ⟨h, hm, h'⟩)))))
    · rintro e w' ⟨hb, b, v, h1, rfl, ho⟩
      exact ⟨hx.low.trans (hb.mono hx.low.size), v, b, rfl, Nat.le_trans hx.low.size h1, ho⟩
  have HEL : Hid (enL m = if enE m = 0 then encMs m else []) := rfl
  clear hg hB hs hf hT
  by_cases h0 : enE m = 0
  · have HWd' := hid (HWd.out h0)
    have HE : Hid (enL m = encMs m) := by show _ = _; rw [HEL.out, if_pos h0]
    rw [h0] at HC
    have H0 := hid h0
    clear h0 HWd HEL
    go_enter Tryz.func7, Tryz.ntmps7
    go_upto_region 1 with (refine bxMs (.tmp 0) rfl rfl m s rfl W1 HW1 ?_)
    rw [← HG.out]
    go_wp2_with (first
      | (refine ldRow 37 (.tmp 1) rfl rfl g rfl 37 (msc m s) _ Tryz.underlying37 rfl (sizeMs m s) HL.out ?_; clear HL)
      | (go_at_call 9; refine (HC.out).mono ?_; rintro e w2 ⟨rfl, hb2⟩; have HX2 := hid (HWd'.out w2 (HO.out w2 hb2)); have HL2 := hid (HO.out w2 hb2).mb; clear hb2 HC)
      | (refine ldRow 37 (.tmp 1) rfl rfl g rfl 37 (msc m s) _ Tryz.underlying37 rfl (sizeMs m s) HL2.out ?_)
      | (go_at_call 16; refine (HX2.out).mono ?_; rintro e w3 ⟨hb3, v, b, rfl, hvb, hov⟩; have HB3 := hid (And.intro hb3 (And.intro hvb hov)); clear hb3 hvb hov HX2))
    refine bodyPost_ret (results_tmp2 rfl _ _ _) rfl ?_
    exact ⟨HB3.out.1, _, b, by rw [H0.out]; rfl, HB3.out.2.1, by rw [HE.out]; exact HB3.out.2.2⟩
  · have HE : Hid (enL m = []) := by show _ = _; rw [HEL.out, if_neg h0]
    have hne : (enE m != 0) = true := by simpa using h0
    clear h0 HWd HEL
    generalize enE m = z at HC hne
    go_enter Tryz.func7, Tryz.ntmps7
    go_upto_region 1 with (refine bxMs (.tmp 0) rfl rfl m s rfl W1 HW1 ?_)
    rw [← HG.out]
    go_wp2_with (first
      | (refine ldRow 37 (.tmp 1) rfl rfl g rfl 37 (msc m s) _ Tryz.underlying37 rfl (sizeMs m s) HL.out ?_; clear HL)
      | (go_at_call 9; refine (HC.out).mono ?_; rintro e w2 ⟨rfl, hb2⟩; have HX2 := hid (HO.out w2 hb2).low; clear hb2 HC))
    refine bodyPost_ret (results_tmp2 rfl _ _ _) rfl ?_
    exact ⟨HX2.out, _, w.heap.size, rfl, Nat.le_refl _, by rw [HE.out]; exact Owns.isNil⟩
end Go.Proofs.YtllbbbfkdgjffaaGreatDoor
namespace Go.Proofs.YtllbbbfkdgjffaaGreatDoor
open Go.RowKit

set_option maxHeartbeats 800000 in
theorem check7_any {T : Nat → Prop} (m : Ms) (s : Sls) (w : World) (hs : Mss T w m s) (hf : m.Fit) (hT : ∀ x, T x → x < w.heap.size) (ht : Tab w) :
    Calls Tryz.prog 8 #[.agg (msc m s)] w fun e w' => Below w.heap.size w w' ∧ e = .returned (.int .i64 (enE m)) := by
  have hM1 : MB (w.alloc (.cells (msc m s) 37)) w.heap.size m s := heap_alloc_new _ _
  have hb := (Below.refl w.heap.size w).alloc (Nat.le_refl _) (.cells (msc m s) 37)
  have HE := hid (encode_any m s (w.alloc (.cells (msc m s) 37)) (hs.carry (T' := T) fun b hb' h => ⟨h, hb.block b hb'⟩) hf (fun x hx => by have := hT x hx; simp; omega) (ht.on hb))
  have HM := hid hM1
  have HB := hid hb
  clear hs hb hM1 ht
  go_enter Tryz.func8, Tryz.ntmps8
  go_wp2_with (first
    | (refine ldRow 37 (.tmp 1) rfl rfl w.heap.size rfl 37 (msc m s) _ Tryz.underlying37 rfl (sizeMs m s) HM.out ?_)
    | (go_at_call 6; refine (HE.out).mono ?_; rintro e w1 ⟨hb1, v, rfl, hw⟩; have HX := hid (HB.out.trans (hb1.mono HB.out.size)); clear hb1 hw))
  go_ret
  exact ⟨HX.out, rfl⟩
end Go.Proofs.YtllbbbfkdgjffaaGreatDoor
