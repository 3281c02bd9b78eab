/-
  Proved here: the document's Seal and Open answer what 'seE', 'seL', 'opE', 'opL' say, for every bytes that a slice holds; no old memory turns. Condition: at most 2 to 92 less 4096 bytes.
-/
import Derived.Test.YtijjcopglbcoiaaR1
import Derived.Test.YtijjcopglbcoiaaC3
namespace Go.Proofs.Ytijjcopglbcoiaa
open Go.RowKit Seal

theorem sl_four (w : World) (n : Nat) : Sl (w.heap.size + 1) (w.alloc (.cells #[.int .u8 ((n : Int) % 256), .int .u8 ((n : Int) / 256 % 256), .int .u8 ((n : Int) / 65536 % 256), .int .u8 ((n : Int) / 16777216 % 256)] 5)) (.slice (some ⟨w.heap.size, 0, none⟩) 4 4) (four n) := sl_lit w (four n) (four_isB n) (by simp [four])

set_option maxHeartbeats 800000 in
/-- WHAT THE DOCUMENT's Seal ANSWERS. -/
theorem rseal_any (B : Nat) (v : Value) (bs : List Int) (w : World) (hs : Sl B w v bs) (hB : B ≤ w.heap.size) :
    Calls Try.prog 38 #[v] w fun e w' => ∃ v', e = .returned (.tuple #[v', .int .i64 (seE bs)]) ∧ Below w.heap.size w w' ∧ Owns w.heap.size w' v' (seL bs) := by
  have hlen := hs.len
  have HS : Hid (Sl B w v bs) := hs
  obtain ⟨ao, cap, rfl, _⟩ := hs
  by_cases hl : 16384 < bs.length
  · have hd : decide ((16384 : Int) < (bs.length : Int)) = true := by simp; omega
    have HE : Hid (seE bs = 3 ∧ seL bs = []) := by show _ ∧ _; simp [seE, seL, hl]
    clear HS hl
    go_enter Try.func38, Try.ntmps38
    go_wp2
    go_ret2
    exact ⟨nilS, by rw [HE.out.1]; rfl, Below.refl _ _, by rw [HE.out.2]; exact Owns.isNil⟩
  · have hd : decide ((16384 : Int) < (bs.length : Int)) = false := by simp; omega
    have HE : Hid (seE bs = 0 ∧ seL bs = bs ++ four (crc bs)) := by show _ ∧ _; simp [seE, seL, hl]
    have HO : Hid (Owns w.heap.size (w.alloc (.cells #[] 5)) (.slice (some ⟨w.heap.size, 0, none⟩) 0 0) []) := owns_empty w (Nat.le_refl _)
    have l1 : Below w.heap.size w (w.alloc (.cells #[] 5)) := (Below.refl _ _).alloc (Nat.le_refl _) _
    have HS1 : Hid (Sl B (w.alloc (.cells #[] 5)) (.slice ao bs.length cap) bs) := HS.out.on (l1.mono hB)
    have HL1 : Hid (Below w.heap.size w (w.alloc (.cells #[] 5))) := l1
    have HLEN : Hid (bs.length ≤ 16384) := by show _ ≤ _; omega
    obtain ⟨n, hn⟩ : ∃ n, n = crc bs := ⟨_, rfl⟩
    have HN : Hid (n = crc bs) := hn
    have HC : Hid (Calls Try.prog 51 #[.slice ao bs.length cap] w fun e w' => e = .returned (.int .u32 n) ∧ w' = w) := by
      have := rsum_any B _ bs w HS.out
      rw [← hn] at this
      exact this
    clear hl l1 hn HS
    go_enter Try.func38, Try.ntmps38
    go_wp2_with (first | (go_at_call 51; refine (HC.out).mono ?_; rintro e w' ⟨rfl, rfl⟩) | (at_builtin; refine app22 (.tmp 11) (.tmp 12) rfl rfl rfl rfl HO.out HS1.out (by simp) (by have := HLEN.out; simp; omega) ?_; intro v2 w2 X2) | (at_builtin; refine app22 (.tmp 14) (.tmp 26) rfl rfl rfl rfl (X2.own.alloc _) (sl_four w2 n) (Nat.le_trans (Nat.le_trans HL1.out.size X2.grown.size) (by simp)) (by have := HLEN.out; simp [four]; omega) ?_; intro v3 w3 X3))
    have X : Ext w'.heap.size (w'.alloc (.cells #[] 5)) (.slice (some ⟨w'.heap.size, 0, none⟩) 0 0) w3 v3 (bs ++ four n) := (show Ext w'.heap.size (w'.alloc (.cells #[] 5)) (.slice (some ⟨w'.heap.size, 0, none⟩) 0 0) w2 v2 bs from X2).trans (Ext.allocFirst X2.own X3)
    go_ret2
    exact ⟨v3, by rw [HE.out.1]; rfl, HL1.out.trans (X.below HO.out (by simp)), by rw [HE.out.2, ← HN.out]; exact X.own⟩

theorem opE_eq {bs : List Int} {k : Nat} (hk : bs.length = k + 4) : opE bs = if ((crc (bs.take k) : Nat) : Int) = bs.getD k 0 + bs.getD (k + 1) 0 * 256 + bs.getD (k + 2) 0 * 65536 + bs.getD (k + 3) 0 * 16777216 then 0 else 50 := by
  unfold opE tail4
  rw [if_neg (by omega), show bs.length - 4 = k by omega]
theorem opL_eq {bs : List Int} {k : Nat} (hk : bs.length = k + 4) (h : opE bs = 0) : opL bs = bs.take k := by
  unfold opL
  rw [if_pos h, show bs.length - 4 = k by omega]

set_option maxHeartbeats 1600000 in
/-- WHAT THE DOCUMENT's Open ANSWERS. -/
theorem ropen_any (B : Nat) (v : Value) (bs : List Int) (w : World) (hs : Sl B w v bs) (hB : B ≤ w.heap.size) :
    Calls Try.prog 39 #[v] w fun e w' => ∃ v', e = .returned (.tuple #[v', .int .i64 (opE bs)]) ∧ Below w.heap.size w w' ∧ Owns w.heap.size w' v' (opL bs) := by
  have hlen := hs.len
  have HS : Hid (Sl B w v bs) := hs
  obtain ⟨ao, cap, rfl, hcap, _, hI, _, q5⟩ := hs
  by_cases hl : bs.length < 4
  · have hd : decide ((bs.length : Int) < 4) = true := by simp; omega
    have HE : Hid (opE bs = 51 ∧ opL bs = []) := by show _ ∧ _; simp [opL, opE, hl]
    clear HS hl q5 hI
    go_enter Try.func39, Try.ntmps39
    go_wp2
    go_ret2
    exact ⟨nilS, by rw [HE.out.1]; rfl, Below.refl _ _, by rw [HE.out.2]; exact Owns.isNil⟩
  · obtain ⟨k, hk⟩ : ∃ k, bs.length = k + 4 := ⟨bs.length - 4, by omega⟩
    obtain ⟨b, o, _, rfl, hcl⟩ := q5 (fun e => by subst e; simp at hl)
    have x0 := hI.at k; have x1 := hI.at (k + 1); have x2 := hI.at (k + 2); have x3 := hI.at (k + 3)
    have c0 := hcl k (by omega); have c1 := hcl (k + 1) (by omega); have c2 := hcl (k + 2) (by omega); have c3 := hcl (k + 3) (by omega)
    have hE := opE_eq hk
    have hL := opL_eq hk
    have hP := HS.out.pre k (by omega)
    rw [hk] at hlen hcap ⊢
    generalize bs.getD k 0 = a at *
    generalize bs.getD (k + 1) 0 = b1 at *
    generalize bs.getD (k + 2) 0 = b2 at *
    generalize bs.getD (k + 3) 0 = b3 at *
    obtain ⟨n, hn⟩ : ∃ n, n = crc (bs.take k) := ⟨_, rfl⟩
    have HC : Hid (Calls Try.prog 51 #[.slice (some ⟨b, o, none⟩) k cap] w.drew fun e w' => e = .returned (.int .u32 n) ∧ w' = w.drew) := by
      have := rsum_any B _ (bs.take k) w.drew hP.drew
      rw [← hn] at this
      exact this
    rw [← hn] at hE
    have o1 : bits .or .u32 a (b1 * 256) = a + b1 * 256 := or32 8 x0.1 (by simpa using x0.2) (by omega) (by simp) (by omega)
    have o2 : bits .or .u32 (a + b1 * 256) (b2 * 65536) = a + b1 * 256 + b2 * 65536 := or32 16 (by omega) (by simp; omega) (by omega) (by simp) (by omega)
    have o3 : bits .or .u32 (a + b1 * 256 + b2 * 65536) (b3 * 16777216) = a + b1 * 256 + b2 * 65536 + b3 * 16777216 := or32 24 (by omega) (by simp; omega) (by omega) (by simp) (by omega)
    have HP : Hid (Sl B w (.slice (some ⟨b, o, none⟩) k cap) (bs.take k)) := hP
    have HEE : Hid (opE bs = if (n : Int) = a + b1 * 256 + b2 * 65536 + b3 * 16777216 then 0 else 50) := hE
    have HLL : Hid (opE bs = 0 → opL bs = bs.take k) := hL
    clear hE hL hP hn hcl q5 hI HS hk hl
    go_enter Try.func39, Try.ntmps39
    go_wp2
    go_region
    obtain ⟨N, hN⟩ : ∃ N, N = a + b1 * 256 + b2 * 65536 + b3 * 16777216 := ⟨_, rfl⟩
    rw [← hN] at HEE ⊢
    have l0 : Below w.heap.size w w.drew := (Below.refl _ _).drew
    have l1 : Below w.heap.size w (w.drew.alloc (.cells #[] 5)) := l0.alloc (Nat.le_refl _) _
    have HL1 : Hid (Below w.heap.size w (w.drew.alloc (.cells #[] 5))) := l1
    have HO : Hid (Owns w.heap.size (w.drew.alloc (.cells #[] 5)) (.slice (some ⟨w.heap.size, 0, none⟩) 0 0) []) := owns_empty w.drew (Nat.le_refl _)
    have HS1 : Hid (Sl B (w.drew.alloc (.cells #[] 5)) (.slice (some ⟨b, o, none⟩) k cap) (bs.take k)) := HP.out.on (l1.mono hB)
    have HK : Hid ((bs.take k).length ≤ 140737488355328) := by show _ ≤ _; rw [List.length_take]; omega
    by_cases hq : (n : Int) = N
    · have hd : ((n : Int) != N) = false := by simp [hq]
      have e0 : opE bs = 0 := by rw [HEE.out, if_pos hq]
      have HE : Hid (opE bs = 0 ∧ opL bs = bs.take k) := ⟨e0, HLL.out e0⟩
      clear hq e0 HEE HLL hN o1 o2 o3 c0 c1 c2 c3 x0 x1 x2 x3 l0 l1 HP
      go_wp2_with (first | (go_at_call 51; refine (HC.out).mono ?_; rintro e w' ⟨rfl, rfl⟩) | (at_builtin; refine app22 (.tmp 47) (.tmp 50) rfl rfl rfl rfl HO.out HS1.out (by simp) (by have := HK.out; simp only [List.length_nil]; omega) ?_; intro v2 w2 X2))
      go_ret2
      have X : Ext w.heap.size (w.drew.alloc (.cells #[] 5)) (.slice (some ⟨w.heap.size, 0, none⟩) 0 0) w2 v2 (bs.take k) := X2
      exact ⟨v2, by rw [HE.out.1]; rfl, HL1.out.trans (X.below HO.out (by simp)), by rw [HE.out.2]; exact X.own⟩
    · have hd : ((n : Int) != N) = true := by simp [hq]
      have e0 : opE bs = 50 := by rw [HEE.out, if_neg hq]
      have HE : Hid (opE bs = 50 ∧ opL bs = []) := ⟨e0, by unfold opL; rw [e0]; rfl⟩
      have HL0 : Hid (Below w.heap.size w w.drew) := l0
      clear hq e0 HEE HLL hN o1 o2 o3 c0 c1 c2 c3 x0 x1 x2 x3 l0 l1 HP HO HS1 HK HL1
      go_wp2_with (go_at_call 51; refine (HC.out).mono ?_; rintro e w' ⟨rfl, rfl⟩)
      go_ret2
      exact ⟨nilS, by rw [HE.out.1]; rfl, HL0.out, by rw [HE.out.2]; exact Owns.isNil⟩
end Go.Proofs.Ytijjcopglbcoiaa
