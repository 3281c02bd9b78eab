/-
  Plain facts: what is read is written as it was: the bytes of a message that was read are the bytes that were read. No program is spoken of.
-/
/-
  Plain facts: a message's bytes are bytes; fewer of them, or one more, are no message. No program is spoken of.
-/
import Derived.Test.YtllbbbfkdgjffaaGreatDoorDE
namespace Go.Proofs.YtllbbbfkdgjffaaGreatDoor

theorem blank_z0 : blank zMs = true := by decide
theorem blank_z (x y : Int) : blank { zMs with ty := x, id := y } = true := blank_z0
theorem rdPs_inv {ty : Int} {m0' m : Ms} {r : List Int} (hB : IsB r) (hz : m0' = { zMs with ty := ty, id := m0'.id }) (hf : m0'.Fit) (h : rdPs true (pts ty) m0' r = some (m, [])) : r = (pts ty).flatMap (encF m) ∧ m.ty = ty ∧ m.id = m0'.id ∧ m.Fit ∧ (pts ty).all (okF m) = true ∧ blank ((pts ty).foldl clF m) = true := by
  rcases pts_cases ty with e | e | e | e | e | e | e <;> rw [e] at h ⊢ <;> simp only [rdPs, Option.bind_eq_some_iff, Option.some.injEq, Prod.mk.injEq] at h
  case inr.inr.inr.inr.inr.inr =>
    obtain ⟨rfl, rfl⟩ := h
    exact ⟨rfl, by rw [hz], rfl, hf, rfl, by rw [hz]; exact blank_z _ _⟩
  case inr.inr.inr.inr.inr.inl =>
    obtain ⟨⟨m1, r1⟩, h1, rfl, rfl⟩ := h
    obtain ⟨a1, a2, a3, a4, a5⟩ := rdF_inv hB h1
    refine ⟨by simpa using a1, by rw [a4, hz]; rfl, by rw [a4]; rfl, a5 hf, by simp [a3], ?_⟩
    rw [a4, hz]; exact blank_z _ _
  case inl =>
    obtain ⟨⟨m1, r1⟩, h1, ⟨m2, r2⟩, h2, ⟨m3, r3⟩, h3, rfl, rfl⟩ := h
    obtain ⟨a1, a2, a3, a4, a5⟩ := rdF_inv hB h1
    obtain ⟨b1, b2, b3, b4, b5⟩ := rdF_inv a2 h2
    obtain ⟨c1, c2, c3, c4, c5⟩ := rdF_inv b2 h3
    have k1 : encF m3 .sw = encF m1 .sw := by rw [c4, b4]; rfl
    have k2 : encF m3 .ps = encF m2 .ps := by rw [c4]; rfl
    refine ⟨?_, by rw [c4, b4, a4, hz]; rfl, by rw [c4, b4, a4]; rfl, c5 (b5 (a5 hf)), ?_, ?_⟩
    · rw [a1, b1, c1, ← k1, ← k2]; simp
    · simp [okF]
    · rw [c4, b4, a4, hz]; exact blank_z _ _
  all_goals
    obtain ⟨⟨m1, r1⟩, h1, ⟨m2, r2⟩, h2, rfl, rfl⟩ := h
    obtain ⟨a1, a2, a3, a4, a5⟩ := rdF_inv hB h1
    obtain ⟨b1, b2, b3, b4, b5⟩ := rdF_inv a2 h2
  case inr.inl =>
    have k1 : encF m2 .dw = encF m1 .dw := by rw [b4]; rfl
    have k2 : okF m2 .dw = okF m1 .dw := by rw [b4]; rfl
    exact ⟨by rw [a1, b1, ← k1]; simp, by rw [b4, a4, hz]; rfl, by rw [b4, a4]; rfl, b5 (a5 hf), by simp [b3, k2, a3], by rw [b4, a4, hz]; exact blank_z _ _⟩
  case inr.inr.inl =>
    have k1 : encF m2 .po = encF m1 .po := by rw [b4]; rfl
    exact ⟨by rw [a1, b1, ← k1]; simp, by rw [b4, a4, hz]; rfl, by rw [b4, a4]; rfl, b5 (a5 hf), by simp [okF], by rw [b4, a4, hz]; exact blank_z _ _⟩
  case inr.inr.inr.inl =>
    have k1 : encF m2 .mo = encF m1 .mo := by rw [b4]; rfl
    have k2 : okF m2 .mo = okF m1 .mo := by rw [b4]; rfl
    exact ⟨by rw [a1, b1, ← k1]; simp, by rw [b4, a4, hz]; rfl, by rw [b4, a4]; rfl, b5 (a5 hf), by simp [b3, k2, a3], by rw [b4, a4, hz]; exact blank_z _ _⟩
  case inr.inr.inr.inr.inl =>
    have k1 : encF m2 .po = encF m1 .po := by rw [b4]; rfl
    exact ⟨by rw [a1, b1, ← k1]; simp, by rw [b4, a4, hz]; rfl, by rw [b4, a4]; rfl, b5 (a5 hf), by simp [okF], by rw [b4, a4, hz]; exact blank_z _ _⟩
theorem m0_fit {bs : List Int} (hB : IsB bs) : (m0 bs).Fit := by
  have h1 := fld_bd hB 1 1
  have h4 := fld_bd hB 4 4
  have i16 : In16 0 := by unfold In16; decide
  have iB : InB 0 := by unfold InB; decide
  refine ⟨?_, ⟨h4.1, by have := h4.2; show fld bs 4 4 < 4294967296; simpa using this⟩, (by decide : (-128 : Int) ≤ 0 ∧ (0 : Int) < 128), ⟨(by decide : (-9223372036854775808 : Int) ≤ 0 ∧ (0 : Int) < 9223372036854775808), fun _ _ => iB, fun _ _ => rfl, by simp [m0, zMs, zRl], iB⟩, i16, i16, by simp [m0, zMs], by simp [m0, zMs], by simp [m0, zMs, IsB], by simp [m0, zMs], i16⟩
  show -128 ≤ i8 (fld bs 1 1) ∧ i8 (fld bs 1 1) < 128
  have h2 : fld bs 1 1 < 256 := by have := h1.2; simpa using this
  unfold i8
  split <;> omega
theorem fld_dg {bs : List Int} (hB : IsB bs) {a k : Nat} (h : a + k ≤ bs.length) : bs.drop a = dg (fld bs a k) k ++ bs.drop (a + k) := (tk_inv (hB.drop a) (tkd h)).1
/-- WHAT IS READ IS WRITTEN AS IT WAS. -/
theorem dec_inv {bs : List Int} {m : Ms} (hB : IsB bs) (h8 : 8 ≤ bs.length) (h : dec bs = some m) : encMs m = bs ∧ okMs m = true ∧ m.Fit ∧ bs.length ≤ 8192 := by
  unfold dec at h
  split at h
  case isFalse => cases h
  case isTrue hc =>
    obtain ⟨c1, c2, c3, c4⟩ := hc
    simp only [prs, Option.bind_eq_some_iff] at h
    obtain ⟨⟨m', r⟩, h1, h2⟩ := h
    split at h2
    case isFalse => cases h2
    case isTrue hr =>
      obtain rfl : r = [] := hr
      obtain rfl : m' = m := by simpa using h2
      obtain ⟨d1, d2, d3, d4, d5, d6⟩ := rdPs_inv (hB.drop 8) rfl (m0_fit hB) h1
      have hty := isTy_bd c3
      have hb1 := fld_bd hB 1 1
      have hb2 : fld bs 1 1 < 256 := by have := hb1.2; simpa using this
      have ht : fld bs 1 1 = tyOf bs := by
        have h0 := hty.1
        unfold tyOf i8 at h0 ⊢
        split at h0 <;> simp_all <;> omega
      have e0 : bs = dg (fld bs 0 1) 1 ++ bs.drop 1 := by have := fld_dg hB (a := 0) (k := 1) (by omega); simpa using this
      have e1 := fld_dg hB (a := 1) (k := 1) (by omega)
      have e2 := fld_dg hB (a := 2) (k := 2) (by omega)
      have e4 := fld_dg hB (a := 4) (k := 4) (by omega)
      have hbody : body m' = bs.drop 8 := by unfold body; rw [d2]; exact d1.symm
      refine ⟨?_, ?_, d4, c1⟩
      · have hlen : ((8 + (body m').length : Nat) : Int) = fld bs 2 2 := by rw [hbody, c4, List.length_drop]; omega
        unfold encMs
        rw [hlen, d2, d3, hbody, ← ht]
        show dg 1 1 ++ (dg (fld bs 1 1) 1 ++ (dg (fld bs 2 2) 2 ++ (dg (fld bs 4 4) 4 ++ bs.drop 8))) = bs
        rw [← e4, ← e2, ← e1, ← c2]
        exact e0.symm
      · unfold okMs rest
        rw [d2, c3, d6, d5]; rfl
end Go.Proofs.YtllbbbfkdgjffaaGreatDoor
namespace Go.Proofs.YtllbbbfkdgjffaaGreatDoor

theorem flat_isB {α : Type} {enc : α → List Int} : ∀ (l : List α), (∀ x ∈ l, IsB (enc x)) → IsB (l.flatMap enc)
  | [], _ => IsB.nil
  | x :: l, h => by
    rw [List.flatMap_cons]
    exact (h x List.mem_cons_self).app (flat_isB l fun y hy => h y (List.mem_cons_of_mem _ hy))
theorem encAc_isB (a : Ac) : IsB (encAc a) := (dg_isB _ _).app ((dg_isB _ _).app (dg_isB _ _))
theorem encCp_isB (l : List Ac) : IsB (encCp l) := (dg_isB _ _).app (flat_isB l fun x _ => encAc_isB x)
theorem fs_isB (m : Nat → Int) : ∀ k, IsB (fs m k)
  | 0 => IsB.nil
  | k + 1 => (fs_isB m k).app (by
    unfold ent
    split
    · exact IsB.nil
    · exact (dg_isB _ _).app (dg_isB _ _))
theorem encRl_isB (r : Rl) : IsB (encRl r) := (dg_isB _ _).app ((dg_isB _ _).app (((dg_isB _ _).app (fs_isB _ _)).app ((dg_isB _ _).app (flat_isB _ fun x _ => encCp_isB x))))
theorem encHd_isB (h : Hd) : IsB (encHd h) := (encRl_isB _).app ((dg_isB _ _).app (dg_isB _ _))
theorem encF_isB {m : Ms} (hf : m.Fit) (k : Fk) : IsB (encF m k) := by
  cases k
  case sw => exact dg_isB _ _
  case ps => exact (dg_isB _ _).app (flat_isB _ fun _ _ => dg_isB _ _)
  case ed => exact (dg_isB _ _).app (flat_isB _ fun _ _ => dg_isB _ _)
  case dw => exact dg_isB _ _
  case rl => exact encRl_isB _
  case po => exact dg_isB _ _
  case mo => exact dg_isB _ _
  case fr => exact (dg_isB _ _).app hf.fr
  case hs => exact (dg_isB _ _).app (flat_isB _ fun x _ => encHd_isB x)
  case up => exact dg_isB _ _
  case co => exact dg_isB _ _
theorem encMs_isB {m : Ms} (hf : m.Fit) : IsB (encMs m) :=
  (dg_isB _ _).app ((dg_isB _ _).app ((dg_isB _ _).app ((dg_isB _ _).app (flat_isB _ fun k _ => encF_isB hf k))))
theorem encMs_len (m : Ms) : (encMs m).length = 8 + (body m).length := by
  simp [encMs, dg_len]; omega
theorem fld_encMs {m : Ms} (h : (encMs m).length ≤ 8192) (r : List Int) : fld (encMs m ++ r) 2 2 = (encMs m).length := by
  have hl := encMs_len m
  unfold fld
  have e : ((encMs m ++ r).drop 2).take 2 = dg (8 + (body m).length : Nat) 2 := by
    unfold encMs
    simp [dg]
  rw [e, num_dg (by omega) (by rw [pw2]; omega), hl]
/-- FEWER BYTES ARE SHORT. -/
theorem de_cut {m : Ms} (h : (encMs m).length ≤ 8192) {k : Nat} (hk : k < (encMs m).length) : deE ((encMs m).take k) = 51 := by
  have hl := encMs_len m
  unfold deE
  rw [if_pos]
  by_cases h8 : k < 8
  · left; simp; omega
  · right
    have h0 := fld_encMs h []
    rw [List.append_nil] at h0
    have : fld ((encMs m).take k) 2 2 = fld (encMs m) 2 2 := by
      unfold fld
      rw [List.drop_take, List.take_take, Nat.min_eq_left (by omega)]
    rw [this, h0, List.length_take]
    omega
/-- MORE BYTES ARE NONE. -/
theorem de_more {m : Ms} (h : (encMs m).length ≤ 8192) (x : Int) : deE (encMs m ++ [x]) = 70 := by
  have hl := encMs_len m
  have h0 := fld_encMs h [x]
  have e : dec (encMs m ++ [x]) = none := by
    unfold dec
    rw [if_neg]
    rintro ⟨-, -, -, h4⟩
    rw [h0] at h4
    simp at h4
    omega
  unfold deE
  rw [if_neg (by rw [h0]; simp; omega), e]
end Go.Proofs.YtllbbbfkdgjffaaGreatDoor
