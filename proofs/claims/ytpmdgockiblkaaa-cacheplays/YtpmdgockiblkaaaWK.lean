/-
  Proved here: wakes of the statements says true. No condition.
-/
import Derived.Test.YtpmdgockiblkaaaWH
namespace Go.Proofs.Ytpmdgockiblkaaa
open Go.RowKit

/-- The hand is at a place. -/
def Hk (c : Cs) : Prop := (c.es ≠ [] → c.hand < c.es.length) ∧ c.es.length ≤ 1024
def k0 : Cs := newC 2
noncomputable def k1 : Cs := putS k0 h1 1
noncomputable def k2 : Cs := putS k1 h2 2
noncomputable def k3 : Cs := getS k2 h1
noncomputable def k4 : Cs := putS k3 h3 3
noncomputable def k5 : Cs := getS k4 h1
noncomputable def k6 : Cs := getS k5 h2
noncomputable def k7 : Cs := getS k6 h3
noncomputable def k8 : Cs := turnS k7
noncomputable def k9 : Cs := getS k8 h1
theorem k1_eq : k1 = ⟨0, 0, [some ⟨h1, 1, 0, false⟩, none]⟩ := by
  simp [k1, k0, newC, putS, fnd, List.findIdx?, List.findIdx?.go, isH, List.replicate]
theorem k2_eq : k2 = ⟨0, 0, [some ⟨h1, 1, 0, false⟩, some ⟨h2, 2, 0, false⟩]⟩ := by
  simp [k2, k1_eq, putS, fnd, List.findIdx?, List.findIdx?.go, isH, h12]
theorem k3_eq : k3 = ⟨0, 0, [some ⟨h1, 1, 0, true⟩, some ⟨h2, 2, 0, false⟩]⟩ ∧ getI k2 h1 = 1 ∧ getB k2 h1 = true := by
  simp [k3, k2_eq, getS, getI, getB, fnd, List.findIdx?, List.findIdx?.go, isH]
theorem k4_eq : k4 = ⟨0, 0, [some ⟨h1, 1, 0, false⟩, some ⟨h3, 3, 0, false⟩]⟩ := by
  have e1 : fr 0 [some ⟨h1, 1, 0, true⟩, some ⟨h2, 2, 0, false⟩] 0 = true := by simp [fr]
  have e2 : fr 0 [some ⟨h1, 1, 0, false⟩, some ⟨h2, 2, 0, false⟩] 1 = false := by simp [fr]
  have e3 : rn 0 [some ⟨h1, 1, 0, true⟩, some ⟨h2, 2, 0, false⟩] 0 = ([some ⟨h1, 1, 0, false⟩, some ⟨h2, 2, 0, false⟩], 1) := by
    rw [rn_go e1]
    exact rn_stop e2
  simp [k4, k3_eq.1, putS, fnd, List.findIdx?, List.findIdx?.go, isH, h13, h23, e3]
theorem k5_eq : k5 = ⟨0, 0, [some ⟨h1, 1, 0, true⟩, some ⟨h3, 3, 0, false⟩]⟩ ∧ getI k4 h1 = 1 ∧ getB k4 h1 = true := by
  simp [k5, k4_eq, getS, getI, getB, fnd, List.findIdx?, List.findIdx?.go, isH]
theorem k6_eq : k6 = k5 ∧ getB k5 h2 = false := by
  simp [k6, k5_eq.1, getS, getB, fnd, List.findIdx?, List.findIdx?.go, isH, h12, Ne.symm h23]
theorem k7_eq : k7 = ⟨0, 0, [some ⟨h1, 1, 0, true⟩, some ⟨h3, 3, 0, true⟩]⟩ ∧ getI k6 h3 = 3 ∧ getB k6 h3 = true := by
  simp [k7, k6_eq.1, k5_eq.1, getS, getI, getB, fnd, List.findIdx?, List.findIdx?.go, isH, h13]
theorem k9_eq : k9 = ⟨1, 0, [none, some ⟨h3, 3, 0, true⟩]⟩ ∧ getB k8 h1 = false := by
  simp [k9, k8, turnS, k7_eq.1, getS, getB, fnd, List.findIdx?, List.findIdx?.go, isH]
theorem k9_held : heldS k9 = 0 := by rw [k9_eq.1]; simp [heldS, hl1]
set_option maxHeartbeats 3200000 in
set_option maxRecDepth 100000 in
theorem wakes_any (w : World) : Calls Try.prog 8 #[] w fun e w' => e = .returned (.bool true) ∧ Below w.heap.size w w' := by
  obtain ⟨S, hS⟩ : ∃ S : Nat → Prop, S = fun b => w.heap.size ≤ b := ⟨_, rfl⟩
  have hlow : ∀ x, Only S w x → Below w.heap.size w x := fun x h => h.below fun k hk => by rw [hS] at hk; exact hk
  have hfr : ∀ x, Only S w x → Fresh S x := fun x h b hb => by rw [hS]; exact Nat.le_trans h.size hb
  have bel : ∀ x y, Only S w x → Below x.heap.size x y → Only S w y := fun x y h hb => h.trans (Only.of hb (hfr x h))
  have HN : Hid (Calls Try.prog 9 #[.int .i64 2] w fun r w' => ∃ g, r = .returned (pv g) ∧ Only S w w' ∧ Ca S w' (pv g) k0) := (new_any w 2 (by decide +kernel)).mono fun r w' ⟨v, h1, h2, h3⟩ => by
    obtain ⟨g, rfl⟩ := h3.form
    refine ⟨g, h1, bel w w' (Only.refl _ _) h2, ?_⟩
    rw [hS]
    have : newC (szN 2) = k0 := rfl
    rw [this] at h3
    exact h3
  have HH1 : Hid (∀ x v c, Only S w x → Ca S x v c → Calls Try.prog 19 #[.int .i64 1] x fun r y => r = .returned (hv h1.f) ∧ Only S w y ∧ Ca S y v c) := fun x v c hO hC => (head_1 x).mono fun r y ⟨a1, a2⟩ => ⟨a1, bel x y hO a2, hC.on a2⟩
  have HH2 : Hid (∀ x v c, Only S w x → Ca S x v c → Calls Try.prog 19 #[.int .i64 2] x fun r y => r = .returned (hv h2.f) ∧ Only S w y ∧ Ca S y v c) := fun x v c hO hC => (head_2 x).mono fun r y ⟨a1, a2⟩ => ⟨a1, bel x y hO a2, hC.on a2⟩
  have HH3 : Hid (∀ x v c, Only S w x → Ca S x v c → Calls Try.prog 19 #[.int .i64 3] x fun r y => r = .returned (hv h3.f) ∧ Only S w y ∧ Ca S y v c) := fun x v c hO hC => (head_3 x).mono fun r y ⟨a1, a2⟩ => ⟨a1, bel x y hO a2, hC.on a2⟩
  have HP : Hid (∀ x v c h id c', Only S w x → Ca S x v c → Hk c → putS c h id = c' → Calls Try.prog 13 #[v, hv h.f, .int .i64 id] x fun r y => r = .returned (.tuple #[]) ∧ Only S w y ∧ Ca S y v c') := fun x v c h id c' hO hC hk e => (put_any x v c h id hC (hfr x hO) (by have := hk.2; omega) hk.1).mono fun r y ⟨a1, a2, a3⟩ => ⟨a1, hO.trans a2, e ▸ a3⟩
  have HG : Hid (∀ x v c h c' i b, Only S w x → Ca S x v c → getS c h = c' → getI c h = i → getB c h = b → Calls Try.prog 11 #[v, hv h.f] x fun r y => r = .returned (.tuple #[.int .i64 i, .bool b]) ∧ Only S w y ∧ Ca S y v c') := fun x v c h c' i b hO hC e1 e2 e3 => (get_any x v c h hC (hfr x hO)).mono fun r y ⟨a1, a2, a3⟩ => ⟨by rw [← e2, ← e3]; exact a1, hO.trans a2, e1 ▸ a3⟩
  have HT : Hid (∀ x v c, Only S w x → Ca S x v c → 0 ≤ c.now ∧ c.now < 2147483648 → Calls Try.prog 15 #[v] x fun r y => r = .returned (.tuple #[]) ∧ Only S w y ∧ Ca S y v (turnS c)) := fun x v c hO hC hn => (turn_any x v c hC hn).mono fun r y ⟨a1, a2, a3⟩ => ⟨a1, hO.trans a2, a3⟩
  have HL : Hid (∀ x v, Only S w x → Ca S x v k9 → Calls Try.prog 17 #[v] x fun r y => r = .returned (.int .i64 0) ∧ Below w.heap.size w y) := fun x v hO hC => (held_any x v k9 hC (by rw [k9_eq.1]; show 2 < _; omega)).mono fun r y ⟨a1, a2⟩ => ⟨by rw [a1, k9_held]; rfl, hlow y (bel x y hO a2)⟩
  have q0 : Hk k0 := ⟨fun _ => by show 0 < 2; omega, by show 2 ≤ _; omega⟩
  have q1 : Hk k1 := by rw [k1_eq]; exact ⟨fun _ => by show 0 < 2; omega, by show 2 ≤ _; omega⟩
  have q3 : Hk k3 := by rw [k3_eq.1]; exact ⟨fun _ => by show 0 < 2; omega, by show 2 ≤ _; omega⟩
  have q7 : 0 ≤ k7.now ∧ k7.now < 2147483648 := by rw [k7_eq.1]; exact ⟨by show (0 : Int) ≤ 0; omega, by show (0 : Int) < _; omega⟩
  have HQ := hid (And.intro q0 (And.intro q1 (And.intro q3 q7)))
  clear q0 q1 q3 q7 hlow hfr bel hS
  go_enter Try.func8, Try.ntmps8
  go_upto_region 2 with (go_at_call 9; refine (HN.out).mono ?_; rintro r y0 ⟨g, rfl, hO0, hC0⟩; have HS0 := hid (And.intro hO0 hC0); clear hO0 hC0 HN)
  go_upto_region 3 with (first
    | (go_at_call 19; refine (HH1.out y0 _ _ HS0.out.1 HS0.out.2).mono ?_; rintro r x1 ⟨rfl, hO0, hC0⟩; have HS1 := hid (And.intro hO0 hC0); clear hO0 hC0 HS0)
    | (go_at_call 13; refine (HP.out x1 _ k0 h1 1 k1 HS1.out.1 HS1.out.2 HQ.out.1 rfl).mono ?_; rintro r y1 ⟨rfl, hO0, hC0⟩; have HS2 := hid (And.intro hO0 hC0); clear hO0 hC0 HS1))
  go_upto_region 4 with (first
    | (go_at_call 19; refine (HH2.out y1 _ _ HS2.out.1 HS2.out.2).mono ?_; rintro r x2 ⟨rfl, hO0, hC0⟩; have HS3 := hid (And.intro hO0 hC0); clear hO0 hC0 HS2)
    | (go_at_call 13; refine (HP.out x2 _ k1 h2 2 k2 HS3.out.1 HS3.out.2 HQ.out.2.1 rfl).mono ?_; rintro r y2 ⟨rfl, hO0, hC0⟩; have HS4 := hid (And.intro hO0 hC0); clear hO0 hC0 HS3))
  go_upto_region 5 with (first
    | (go_at_call 19; refine (HH1.out y2 _ _ HS4.out.1 HS4.out.2).mono ?_; rintro r x3 ⟨rfl, hO0, hC0⟩; have HS5 := hid (And.intro hO0 hC0); clear hO0 hC0 HS4)
    | (go_at_call 11; refine (HG.out x3 _ k2 h1 k3 1 true HS5.out.1 HS5.out.2 rfl k3_eq.2.1 k3_eq.2.2).mono ?_; rintro r y3 ⟨rfl, hO0, hC0⟩; have HS6 := hid (And.intro hO0 hC0); clear hO0 hC0 HS5))
  go_upto_region 6 with (first
    | (go_at_call 19; refine (HH3.out y3 _ _ HS6.out.1 HS6.out.2).mono ?_; rintro r x4 ⟨rfl, hO0, hC0⟩; have HS7 := hid (And.intro hO0 hC0); clear hO0 hC0 HS6)
    | (go_at_call 13; refine (HP.out x4 _ k3 h3 3 k4 HS7.out.1 HS7.out.2 HQ.out.2.2.1 rfl).mono ?_; rintro r y4 ⟨rfl, hO0, hC0⟩; have HS8 := hid (And.intro hO0 hC0); clear hO0 hC0 HS7))
  go_upto_region 7 with (first
    | (go_at_call 19; refine (HH1.out y4 _ _ HS8.out.1 HS8.out.2).mono ?_; rintro r x5 ⟨rfl, hO0, hC0⟩; have HS9 := hid (And.intro hO0 hC0); clear hO0 hC0 HS8)
    | (go_at_call 11; refine (HG.out x5 _ k4 h1 k5 1 true HS9.out.1 HS9.out.2 rfl k5_eq.2.1 k5_eq.2.2).mono ?_; rintro r y5 ⟨rfl, hO0, hC0⟩; have HT1 := hid (And.intro hO0 hC0); clear hO0 hC0 HS9))
  go_upto_region 8 with (first
    | (go_at_call 19; refine (HH2.out y5 _ _ HT1.out.1 HT1.out.2).mono ?_; rintro r x6 ⟨rfl, hO0, hC0⟩; have HT2 := hid (And.intro hO0 hC0); clear hO0 hC0 HT1)
    | (go_at_call 11; refine (HG.out x6 _ k5 h2 k6 _ false HT2.out.1 HT2.out.2 rfl rfl k6_eq.2).mono ?_; rintro r y6 ⟨rfl, hO0, hC0⟩; have HT3 := hid (And.intro hO0 hC0); clear hO0 hC0 HT2))
  go_upto_region 9 with (first
    | (go_at_call 19; refine (HH3.out y6 _ _ HT3.out.1 HT3.out.2).mono ?_; rintro r x7 ⟨rfl, hO0, hC0⟩; have HT4 := hid (And.intro hO0 hC0); clear hO0 hC0 HT3)
    | (go_at_call 11; refine (HG.out x7 _ k6 h3 k7 3 true HT4.out.1 HT4.out.2 rfl k7_eq.2.1 k7_eq.2.2).mono ?_; rintro r y7 ⟨rfl, hO0, hC0⟩; have HT5 := hid (And.intro hO0 hC0); clear hO0 hC0 HT4))
  go_upto_region 10 with (go_at_call 15; refine (HT.out y7 _ k7 HT5.out.1 HT5.out.2 HQ.out.2.2.2).mono ?_; rintro r y8 ⟨rfl, hO0, hC0⟩; have HT6 := hid (And.intro hO0 hC0); clear hO0 hC0 HT5)
  go_upto_region 11 with (first
    | (go_at_call 19; refine (HH1.out y8 _ k8 HT6.out.1 HT6.out.2).mono ?_; rintro r x8 ⟨rfl, hO0, hC0⟩; have HT7 := hid (And.intro hO0 hC0); clear hO0 hC0 HT6)
    | (go_at_call 11; refine (HG.out x8 _ k8 h1 k9 _ false HT7.out.1 HT7.out.2 rfl rfl k9_eq.2).mono ?_; rintro r y9 ⟨rfl, hO0, hC0⟩; have HT8 := hid (And.intro hO0 hC0); clear hO0 hC0 HT7))
  clear HH1 HH2 HH3 HP HG HT
  go_wp2_with (go_at_call 17; refine (HL.out y9 _ HT8.out.1 HT8.out.2).mono ?_; rintro r z9 ⟨rfl, hb⟩; have HB9 := hid hb; clear hb)
  go_ret
  exact ⟨rfl, HB9.out⟩
end Go.Proofs.Ytpmdgockiblkaaa
