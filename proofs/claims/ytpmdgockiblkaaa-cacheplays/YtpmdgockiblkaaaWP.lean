/-
  Proved here: CachePlays' body says true. No condition.
-/
import Derived.Test.YtpmdgockiblkaaaRS
import Derived.Test.YtpmdgockiblkaaaTL
namespace Go.Proofs.Ytpmdgockiblkaaa
open Go.RowKit

/-- The program's cache and the document's side by side; X: blocks that neither has. -/
structure Tw (w : World) (X : Nat → Prop) (W1 z : World) (g1 g2 : Nat) (c1 c2 : Cs) (B : Nat → Prop) : Prop where
  only : Only (fun b => w.heap.size ≤ b ∧ ¬ X b) W1 z
  le : w.heap.size ≤ W1.heap.size
  xl : ∀ b, X b → b < W1.heap.size
  bB : ∀ b, B b → w.heap.size ≤ b ∧ ¬ X b ∧ b < z.heap.size
  rc : Rc B z (pv g2) c2
  ca : Ca (fun b => w.heap.size ≤ b ∧ ¬ X b ∧ ¬ B b) z (pv g1) c1
def Tx (w : World) (X : Nat → Prop) (W1 z : World) (g1 g2 : Nat) (c1 c2 : Cs) : Prop := ∃ B, Tw w X W1 z g1 g2 c1 c2 B
section
variable {w : World} {X : Nat → Prop} {W1 z : World} {g1 g2 : Nat} {c1 c2 : Cs}
theorem Tx.prog (h : Tx w X W1 z g1 g2 c1 c2) : ∃ S, Fresh S z ∧ Ca S z (pv g1) c1 ∧ ∀ y c', Only S z y → Ca S y (pv g1) c' → Tx w X W1 y g1 g2 c' c2 := by
  obtain ⟨B, h⟩ := h
  have hs := h.only.size
  refine ⟨fun b => w.heap.size ≤ b ∧ ¬ X b ∧ ¬ B b, fun b hb => ⟨Nat.le_trans (Nat.le_trans h.le hs) hb, fun hx => by have := h.xl b hx; omega, fun hB => by have := (h.bB b hB).2.2; omega⟩, h.ca, fun y c' hO hC => ⟨B, h.only.trans (hO.mono fun b hb => ⟨hb.1, hb.2.1⟩), h.le, h.xl, fun b hB => ⟨(h.bB b hB).1, (h.bB b hB).2.1, Nat.lt_of_lt_of_le (h.bB b hB).2.2 hO.size⟩, h.rc.carry fun b _ hB => ⟨hB, hO.block b fun e => e.2.2 hB⟩, hC⟩⟩
theorem Tx.doc (h : Tx w X W1 z g1 g2 c1 c2) : ∃ T, Fresh T z ∧ Rc T z (pv g2) c2 ∧ ∀ y c', Only T z y → Rc T y (pv g2) c' → Tx w X W1 y g1 g2 c1 c' := by
  obtain ⟨B, h⟩ := h
  have hs := h.only.size
  refine ⟨fun b => B b ∨ z.heap.size ≤ b, fun b hb => Or.inr hb, h.rc.carry fun b _ hB => ⟨Or.inl hB, rfl⟩, fun y c' hO hC => ⟨fun b => (B b ∨ z.heap.size ≤ b) ∧ b < y.heap.size, ?_, h.le, h.xl, ?_, hC.carry fun b hb hB => ⟨⟨hB, hb⟩, rfl⟩, h.ca.carry fun b hb hS => ⟨⟨hS.1, hS.2.1, fun e => ?_⟩, hO.block b fun e => ?_⟩⟩⟩
  · refine h.only.trans (hO.mono fun b hb => ?_)
    rcases hb with hb | hb
    · exact ⟨(h.bB b hb).1, (h.bB b hb).2.1⟩
    · exact ⟨Nat.le_trans (Nat.le_trans h.le hs) hb, fun hx => by have := h.xl b hx; omega⟩
  · rintro b ⟨hb | hb, hl⟩
    · exact ⟨(h.bB b hb).1, (h.bB b hb).2.1, hl⟩
    · exact ⟨Nat.le_trans (Nat.le_trans h.le hs) hb, fun hx => by have := h.xl b hx; omega, hl⟩
  · rcases e.1 with e | e
    · exact hS.2.2 e
    · omega
  · rcases e with e | e
    · exact hS.2.2 e
    · omega
theorem Tx.on (h : Tx w X W1 z g1 g2 c1 c2) {y : World} (hb : Below z.heap.size z y) : Tx w X W1 y g1 g2 c1 c2 := by
  obtain ⟨S, h1, h2, h3⟩ := h.prog
  exact h3 y c1 (Only.of hb h1) (h2.on hb)
theorem Tx.start {y1 y2 : World} (h1 : Below w.heap.size w y1) (hC : Ca (fun b => w.heap.size ≤ b) y1 (pv g1) c1) (h2 : Below y1.heap.size y1 y2) (hR : Rc (fun b => y1.heap.size ≤ b) y2 (pv g2) c2) : Tx w (fun _ => False) w y2 g1 g2 c1 c2 := by
  have hs := h1.size
  refine ⟨fun b => y1.heap.size ≤ b ∧ b < y2.heap.size, ?_, Nat.le_refl _, (fun b h => h.elim), fun b hb => ⟨Nat.le_trans hs hb.1, id, hb.2⟩, hR.carry fun b hb hS => ⟨⟨hS, hb⟩, rfl⟩, hC.carry fun b hb hS => ⟨⟨hS, id, fun e => by omega⟩, h2.block b hb⟩⟩
  exact Only.mono ((Only.of h1 fun b hb => hb).trans (Only.of h2 fun b hb => Nat.le_trans hs hb)) fun b hb => ⟨hb, id⟩
theorem Tx.take {wx : World} (h : Tx w (fun _ => False) w wx g1 g2 c1 c2) (o : Obj) : Tx w (fun b => b = wx.heap.size) (wx.alloc o) (wx.alloc o) g1 g2 c1 c2 := by
  obtain ⟨B, h⟩ := h
  have hb : Below wx.heap.size wx (wx.alloc o) := (Below.refl _ _).alloc (Nat.le_refl _) _
  refine ⟨B, Only.refl _ _, Nat.le_trans h.only.size hb.size, fun b e => by rw [e]; simp, fun b hB => ⟨(h.bB b hB).1, fun e => by have := (h.bB b hB).2.2; omega, Nat.lt_of_lt_of_le (h.bB b hB).2.2 hb.size⟩, h.rc.on hb, h.ca.carry fun b hb' hS => ⟨⟨hS.1, fun e => by omega, hS.2.2⟩, hb.block b hb'⟩⟩
theorem Tx.back {wx : World} {o : Obj} (h : Tx w (fun b => b = wx.heap.size) (wx.alloc o) z g1 g2 c1 c2) (h0 : Only (fun b => w.heap.size ≤ b ∧ ¬ False) w wx) : Tx w (fun _ => False) w z g1 g2 c1 c2 := by
  obtain ⟨B, h⟩ := h
  have hb : Below wx.heap.size wx (wx.alloc o) := (Below.refl _ _).alloc (Nat.le_refl _) _
  refine ⟨B, (h0.trans (Only.of hb fun b hb' => ⟨Nat.le_trans h0.size hb', id⟩)).trans (h.only.mono fun b hb' => ⟨hb'.1, id⟩), Nat.le_refl _, (fun b h => h.elim), fun b hB => ⟨(h.bB b hB).1, id, (h.bB b hB).2.2⟩, h.rc, h.ca.carry fun b _ hS => ⟨⟨hS.1, id, hS.2.2⟩, rfl⟩⟩
theorem Tx.below (h : Tx w (fun _ => False) w z g1 g2 c1 c2) : Only (fun b => w.heap.size ≤ b ∧ ¬ False) w z ∧ Below w.heap.size w z := by
  obtain ⟨B, h⟩ := h
  exact ⟨h.only, h.only.below fun k hk => hk.1⟩
theorem Tx.kept {xb : Nat} (h : Tx w (fun b => b = xb) W1 z g1 g2 c1 c2) : z.heap[xb]? = W1.heap[xb]? := by
  obtain ⟨B, h⟩ := h
  exact h.only.block _ fun e => e.2 rfl
end
/-- An act's cells. -/
def acs (x : Ac) : Array Value := #[.int .i64 x.k] ++ row 11 x.h.f ++ #[.int .i64 x.id]
theorem acs_size (x : Ac) : (acs x).size = 13 := by simp [acs, row_size]
theorem acs_one (x : Ac) : (acs x).all (·.oneCell') = true := by
  unfold acs
  rw [Array.all_append, Array.all_append, row_one]; simp [Value.oneCell']
theorem sizeACT (x : Ac) : (Try.prog.info? 32).map (·.size) = some (acs x).size := by rw [acs_size]; kernel_rfl
theorem acs_0 (x : Ac) : (acs x)[0]? = some (.int .i64 x.k) := by
  unfold acs
  rw [Array.append_assoc, Array.getElem?_append_left (by simp)]; rfl
theorem acs_h (x : Ac) (k : Nat) (hk : k < 11) : (acs x)[1 + k]? = some (.int .u64 (x.h.f k)) := by
  unfold acs
  rw [Array.append_assoc, Array.getElem?_append_right (by simp), Array.getElem?_append_left (by simp [row_size]; omega)]
  rw [show 1 + k - (#[Value.int .i64 x.k] : Array Value).size = k by simp, row_at 11 _ k hk]
theorem acs_12 (x : Ac) : (acs x)[12]? = some (.int .i64 x.id) := by
  unfold acs
  rw [Array.getElem?_append_right (by simp [row_size])]
  simp [row_size]
theorem Ha.all {b p : Nat} {x : Ac} {w : World} (h : Ha b p x.k x.h.f x.id w) : w.rangeAt b p (acs x).toList := range_of fun i hi => by
  rw [acs_size] at hi
  by_cases e0 : i = 0
  · subst e0; rw [acs_0]; exact h.c0
  · by_cases e1 : i < 12
    · obtain ⟨j, rfl⟩ : ∃ j, i = 1 + j := ⟨i - 1, by omega⟩
      rw [acs_h _ _ (by omega), ← Nat.add_assoc]
      exact h.rA j _ (by
        have := row_at 11 x.h.f j (by omega)
        simpa using this)
    · obtain rfl : i = 12 := by omega
      rw [acs_12]; exact h.ci
theorem acs_blk {b : Nat} {x : Ac} {w : World} (h : w.heap[b]? = some (.cells (acs x) 32 (0, 0))) : Ha b 0 x.k x.h.f x.id w :=
  ⟨by rw [cell_of_row _ _ _ _ _ _ h]; exact acs_0 x, range_of fun i hi => by
    rw [row_size] at hi
    rw [Nat.zero_add, cell_of_row _ _ _ _ _ _ h, acs_h _ _ hi, row_at 11 _ _ hi], by rw [cell_of_row _ _ _ _ _ _ h]; exact acs_12 x⟩
set_option maxHeartbeats 12800000 in
set_option maxRecDepth 100000 in
theorem plays_any (w : World) (v : Value) (size : Int) (l : List Ac) (hs : (Lit.int .i64 size).wf = true) (hl : Lst (fun b => b < w.heap.size) 13 RAc w v l) : Calls Try.prog 3 #[.int .i64 size, v] w fun e w' => e = .returned (.bool true) ∧ Below w.heap.size w w' := by
  obtain ⟨ao, cap, rfl, hcap⟩ := hl.form
  have HLs : Hid (∀ z, Below w.heap.size w z → ∀ q (hq : q < l.length), ∃ b o, ao = some ⟨b, o, none⟩ ∧ Ha b (o + q * 13) l[q].k l[q].h.f l[q].id z) := fun z hO q hq => by
    obtain ⟨b, o, cap', e1, _, hbl, hr⟩ := hl.act hq
    simp at e1
    exact ⟨b, o, e1.1, (hr q hq).on (hO.block b hbl)⟩
  obtain ⟨N, hN⟩ : ∃ N, N = szN size := ⟨_, rfl⟩
  have hN1 : N ≤ 1024 := by rw [hN]; exact szN_le size
  have HN1 : Hid (Calls Try.prog 9 #[.int .i64 size] w fun r y => ∃ g, r = .returned (pv g) ∧ Below w.heap.size w y ∧ Ca (fun b => w.heap.size ≤ b) y (pv g) (newC N)) := (new_any w size hs).mono fun r y ⟨v, a1, a2, a3⟩ => by
    obtain ⟨g, rfl⟩ := a3.form
    rw [← hN] at a3
    exact ⟨g, a1, a2, a3⟩
  have HN2 : Hid (∀ z, Calls Try.prog 10 #[.int .i64 size] z fun r y => ∃ g, r = .returned (pv g) ∧ Below z.heap.size z y ∧ Rc (fun b => z.heap.size ≤ b) y (pv g) (newC N)) := fun z => (rnew_any z size).mono fun r y ⟨v, a1, a2, a3⟩ => by
    obtain ⟨g, rfl⟩ := a3.form
    rw [← hN] at a3
    exact ⟨g, a1, a2, a3⟩
  have HG1 : Hid (∀ X W1 z g1 g2 c1 c2 x, Tx w X W1 z g1 g2 c1 c2 → Calls Try.prog 11 #[pv g1, hv (Hdr.f x)] z fun r y => r = .returned (.tuple #[.int .i64 (getI c1 x), .bool (getB c1 x)]) ∧ Tx w X W1 y g1 g2 (getS c1 x) c2) := fun X W1 z g1 g2 c1 c2 x h => by
    obtain ⟨S, a1, a2, a3⟩ := h.prog
    exact (get_any z _ c1 x a2 a1).mono fun r y ⟨b1, b2, b3⟩ => ⟨b1, a3 y _ b2 b3⟩
  have HG2 : Hid (∀ X W1 z g1 g2 c1 c2 x, c2.es.length ≤ 1024 → Tx w X W1 z g1 g2 c1 c2 → Calls Try.prog 12 #[pv g2, hv (Hdr.f x)] z fun r y => r = .returned (.tuple #[.int .i64 (getI c2 x), .bool (getB c2 x)]) ∧ Tx w X W1 y g1 g2 c1 (getS c2 x)) := fun X W1 z g1 g2 c1 c2 x hk h => by
    obtain ⟨S, a1, a2, a3⟩ := h.doc
    exact (rget_any z _ c2 x a2 a1 (by omega)).mono fun r y ⟨b1, b2, b3⟩ => ⟨b1, a3 y _ b2 b3⟩
  have HP1 : Hid (∀ X W1 z g1 g2 c1 c2 x id, Hk c1 → Tx w X W1 z g1 g2 c1 c2 → Calls Try.prog 13 #[pv g1, hv (Hdr.f x), .int .i64 id] z fun r y => r = .returned (.tuple #[]) ∧ Tx w X W1 y g1 g2 (putS c1 x id) c2) := fun X W1 z g1 g2 c1 c2 x id hk h => by
    obtain ⟨S, a1, a2, a3⟩ := h.prog
    exact (put_any z _ c1 x id a2 a1 (by have := hk.2; omega) hk.1).mono fun r y ⟨b1, b2, b3⟩ => ⟨b1, a3 y _ b2 b3⟩
  have HP2 : Hid (∀ X W1 z g1 g2 c1 c2 x id, Hk c2 → Tx w X W1 z g1 g2 c1 c2 → Calls Try.prog 14 #[pv g2, hv (Hdr.f x), .int .i64 id] z fun r y => r = .returned (.tuple #[]) ∧ Tx w X W1 y g1 g2 c1 (putS c2 x id)) := fun X W1 z g1 g2 c1 c2 x id hk h => by
    obtain ⟨S, a1, a2, a3⟩ := h.doc
    exact (rput_any z _ c2 x id a2 a1 (by have := hk.2; omega) hk.1).mono fun r y ⟨b1, b2, b3⟩ => ⟨b1, a3 y _ b2 b3⟩
  have HT1 : Hid (∀ X W1 z g1 g2 c1 c2, 0 ≤ c1.now ∧ c1.now < 2147483648 → Tx w X W1 z g1 g2 c1 c2 → Calls Try.prog 15 #[pv g1] z fun r y => r = .returned (.tuple #[]) ∧ Tx w X W1 y g1 g2 (turnS c1) c2) := fun X W1 z g1 g2 c1 c2 hk h => by
    obtain ⟨S, a1, a2, a3⟩ := h.prog
    exact (turn_any z _ c1 a2 hk).mono fun r y ⟨b1, b2, b3⟩ => ⟨b1, a3 y _ b2 b3⟩
  have HT2 : Hid (∀ X W1 z g1 g2 c1 c2, 0 ≤ c2.now ∧ c2.now < 2147483648 → Tx w X W1 z g1 g2 c1 c2 → Calls Try.prog 16 #[pv g2] z fun r y => r = .returned (.tuple #[]) ∧ Tx w X W1 y g1 g2 c1 (turnS c2)) := fun X W1 z g1 g2 c1 c2 hk h => by
    obtain ⟨S, a1, a2, a3⟩ := h.doc
    exact (rturn_any z _ c2 a2 hk).mono fun r y ⟨b1, b2, b3⟩ => ⟨b1, a3 y _ b2 b3⟩
  have HH1 : Hid (∀ X W1 z g1 g2 c1 c2, c1.es.length ≤ 1024 → Tx w X W1 z g1 g2 c1 c2 → Calls Try.prog 17 #[pv g1] z fun r y => r = .returned (.int .i64 (heldS c1 : Nat)) ∧ Tx w X W1 y g1 g2 c1 c2) := fun X W1 z g1 g2 c1 c2 hk h => by
    obtain ⟨S, a1, a2, a3⟩ := h.prog
    exact (held_any z _ c1 a2 (by omega)).mono fun r y ⟨b1, b2⟩ => ⟨b1, h.on b2⟩
  have HH2 : Hid (∀ X W1 z g1 g2 c1 c2, c2.es.length ≤ 1024 → Tx w X W1 z g1 g2 c1 c2 → Calls Try.prog 18 #[pv g2] z fun r y => r = .returned (.int .i64 (heldS c2 : Nat)) ∧ Tx w X W1 y g1 g2 c1 c2) := fun X W1 z g1 g2 c1 c2 hk h => by
    obtain ⟨S, a1, a2, a3⟩ := h.doc
    exact (rheld_any z _ c2 a2 (by omega)).mono fun r y ⟨b1, b2⟩ => ⟨b1, h.on b2⟩
  have HW : Hid (∀ z, Below w.heap.size w z → Calls Try.prog 8 #[] z fun e w' => e = .returned (.bool true) ∧ Below w.heap.size w w') := fun z hO => (wakes_any z).mono fun r y ⟨a1, a2⟩ => ⟨a1, hO.trans (a2.mono hO.size)⟩
  have hlen := hl.len
  clear hl hcap hs hN
  go_enter Try.func3, Try.ntmps3
  go_upto_region 1 with fail
  by_cases h300 : 300 < l.length
  · have hd : decide ((300 : Int) < (l.length : Int)) = true := decide_eq_true (by omega)
    have HWk := hid (HW.out w (Below.refl _ _))
    clear HW HP1 HP2 HG1 HG2 HN1 HN2 HLs HT1 HT2 HH1 HH2
    go_wp2_with (go_at_call 8; refine (HWk.out).mono ?_; rintro r y7 ⟨rfl, hb7⟩; have HB7 := hid hb7; clear hb7)
    go_ret
    exact ⟨rfl, HB7.out⟩
  · have hd : decide ((300 : Int) < (l.length : Int)) = false := decide_eq_false (by omega)
    go_upto_region 4 with (go_at_call 9; refine (HN1.out).mono ?_; rintro r y0 ⟨g1, rfl, hO0, hC0⟩; have HS0 := hid (And.intro hO0 hC0); clear hO0 hC0 HN1)
    have HN3 := hid (HN2.out y0)
    clear HN2
    go_upto_region 6 with (go_at_call 10; refine (HN3.out).mono ?_; rintro r y1 ⟨g2, rfl, hO1, hC1⟩; have HT0 := hid (Tx.start HS0.out.1 HS0.out.2 hO1 hC1); clear hO1 hC1 HN3 HS0)
    go_loopw [7] (fun i wr => ∃ k : Nat, k ≤ l.length ∧ i = .int .i64 k ∧ ∃ c, Tx w (fun _ => False) w wr g1 g2 c c ∧ Hk c ∧ 0 ≤ c.now ∧ c.now ≤ (k : Int)) (fun i _ => l.length - (intOf i).toNat)
    case atStart => exact ⟨0, by omega, rfl, _, HT0.out, Hk.new N hN1, Int.le_refl _, Int.le_refl _⟩
    case round =>
      obtain ⟨k, hk, rfl, c, hR⟩ := hrel
      generalize wr = wx at *
      have HR := hid hR
      clear hR HT0
      by_cases hlt : k < l.length
      · have hdk : decide ((k : Int) < (l.length : Int)) = true := decide_eq_true (by omega)
        obtain ⟨b, o, hao, hA⟩ := HLs.out wx HR.out.1.below.2 k hlt
        subst hao
        obtain ⟨x, hx⟩ : ∃ x, x = l[k] := ⟨_, rfl⟩
        rw [← hx] at hA
        have HRx := hid hA.all
        have hw1 : IntKind.i64.wrap ((k : Int) + 1) = (k : Int) + 1 := by rw [IntKind.wrap_i64]; omega
        obtain ⟨W1, hW1⟩ : ∃ W1, W1 = wx.alloc (.cells (acs x) 32) := ⟨_, rfl⟩
        obtain ⟨xb, hxb⟩ : ∃ xb, xb = wx.heap.size := ⟨_, rfl⟩
        have hX1 : W1.heap[xb]? = some (.cells (acs x) 32 (0, 0)) := by rw [hW1, hxb]; exact heap_alloc_new _ _
        have hT1 : Tx w (fun b => b = xb) W1 W1 g1 g2 c c := by rw [hW1, hxb]; exact HR.out.1.take _
        have HBk : Hid (∀ z c', Tx w (fun b => b = xb) W1 z g1 g2 c' c' → Tx w (fun _ => False) w z g1 g2 c' c') := fun z c' h => by
          rw [hW1, hxb] at h
          exact h.back HR.out.1.below.1
        have HKp : Hid (∀ z c1 c2, Tx w (fun b => b = xb) W1 z g1 g2 c1 c2 → Ha xb 0 x.k x.h.f x.id z) := fun z c1 c2 h => acs_blk (h.kept.trans hX1)
        have HT1' := hid hT1
        have HW1 := hid hW1
        have HXb := hid hxb
        have HC1 := hid (HKp.out W1 c c hT1)
        obtain ⟨xk, hxk⟩ : ∃ z, z = x.k := ⟨_, rfl⟩
        obtain ⟨xf, hxf⟩ : ∃ z, z = x.h.f := ⟨_, rfl⟩
        obtain ⟨xi, hxi⟩ : ∃ z, z = x.id := ⟨_, rfl⟩
        have HKq : Hid (∀ z c1 c2, Tx w (fun b => b = xb) W1 z g1 g2 c1 c2 → Ha xb 0 xk xf xi z) := fun z c1 c2 h => by rw [hxk, hxf, hxi]; exact HKp.out z c1 c2 h
        have HXX := hid (And.intro hxk (And.intro hxf hxi))
        clear hA hx hW1 hX1 hT1 hxk hxf hxi HKp HC1 hxb
        go_upto_region 9 with (first
          | (refine ldMid 32 (.tmp 29) rfl rfl b (o + k * 13) rfl (acs x) _ Try.underlying32 rfl (sizeACT x) HRx.out ?_)
          | (refine stNew 32 (.tmp 8) (.tmp 30) rfl rfl wx 32 _ (acs x) rfl rfl rfl (sizeACT x) (by rw [acs_size]; rfl) (acs_one x) ?_))
        rw [← HW1.out, ← HXb.out]
        clear HW1 HXb HRx HLs
        have c0 := (HKq.out _ _ _ HT1'.out).c0
        have ci := (HKq.out _ _ _ HT1'.out).ci
        have HRA : Hid (W1.rangeAt xb 1 (row 11 xf).toList) := (HKq.out _ _ _ HT1'.out).rA
        by_cases t0 : xk = 0
        · clear HP1 HP2 HT1 HT2
          obtain rfl : xk = 0 := t0
          have HGa := hid (HG1.out _ _ _ _ _ _ _ x.h HT1'.out)
          have HGb : Hid (∀ y, Tx w (fun b => b = xb) W1 y g1 g2 (getS c x.h) c → Calls Try.prog 12 #[pv g2, hv xf] y fun r y => r = .returned (.tuple #[.int .i64 (getI c x.h), .bool (getB c x.h)]) ∧ Tx w (fun b => b = xb) W1 y g1 g2 (getS c x.h) (getS c x.h)) := fun y h => by rw [HXX.out.2.1]; exact HG2.out _ _ _ _ _ _ _ x.h HR.out.2.1.2 h
          rw [← HXX.out.2.1] at HGa
          obtain ⟨gi, hgi⟩ : ∃ z, z = getI c x.h := ⟨_, rfl⟩
          obtain ⟨gb, hgb⟩ : ∃ z, z = getB c x.h := ⟨_, rfl⟩
          rw [← hgi, ← hgb] at HGa HGb
          have hbn : (gi != gi) = false := by simp [bne]
          have HZk := hid (HR.out.2.1.get x.h)
          clear hgi hgb
          go_upto_region 12 with (first
            | (refine ldMid 30 (.tmp 37) rfl rfl xb 1 rfl (row 11 xf) _ Try.underlying30 rfl (sizeH xf) HRA.out ?_)
            | (go_at_call 11; refine (HGa.out).mono ?_; rintro r y2 ⟨rfl, h2⟩; have HY2 := hid h2; have HRB := hid (HKq.out _ _ _ h2).rA; have HGc := hid (HGb.out y2 h2); clear h2 HGa HGb))
          go_upto_region 13 with (first
            | (refine ldMid 30 (.tmp 44) rfl rfl xb 1 rfl (row 11 xf) _ Try.underlying30 rfl (sizeH xf) HRB.out ?_)
            | (go_at_call 12; refine (HGc.out).mono ?_; rintro r y3 ⟨rfl, h3⟩; have HZ := hid h3; clear h3 HGc))
          cases gb with
          | true =>
            go_upto_region 21 with fail
            obtain ⟨m, hm⟩ : ∃ m, m = heldS (getS c x.h) := ⟨_, rfl⟩
            have HHa := hid (HH1.out _ _ _ _ _ _ _ HZk.out.2 HZ.out)
            have HHb : Hid (∀ y, Tx w (fun b => b = xb) W1 y g1 g2 (getS c x.h) (getS c x.h) → Calls Try.prog 18 #[pv g2] y fun r y => r = .returned (.int .i64 (m : Nat)) ∧ Tx w (fun b => b = xb) W1 y g1 g2 (getS c x.h) (getS c x.h)) := fun y h => by rw [hm]; exact HH2.out _ _ _ _ _ _ _ HZk.out.2 h
            rw [← hm] at HHa
            have hbm : ((m : Int) != (m : Int)) = false := by simp [bne]
            clear hm HH1 HH2
            go_wp2_with (first
              | (go_at_call 17; refine (HHa.out).mono ?_; rintro r q1 ⟨rfl, hq1⟩; have HHc := hid (HHb.out q1 hq1); clear hq1 HHa HHb)
              | (go_at_call 18; refine (HHc.out).mono ?_; rintro r q2 ⟨rfl, hq2⟩; have HQ2 := hid hq2; clear hq2 HHc))
            go_roundw
            case rel => exact ⟨k + 1, by omega, by go_num, _, HBk.out q2 _ HQ2.out, HZk.out, by rw [(get_len c x.h).2.1]; exact HR.out.2.2.1, by rw [(get_len c x.h).2.1]; have := HR.out.2.2.2; omega⟩
            case measure => simp [intOf]; omega
          | false =>
            go_upto_region 21 with fail
            obtain ⟨m, hm⟩ : ∃ m, m = heldS (getS c x.h) := ⟨_, rfl⟩
            have HHa := hid (HH1.out _ _ _ _ _ _ _ HZk.out.2 HZ.out)
            have HHb : Hid (∀ y, Tx w (fun b => b = xb) W1 y g1 g2 (getS c x.h) (getS c x.h) → Calls Try.prog 18 #[pv g2] y fun r y => r = .returned (.int .i64 (m : Nat)) ∧ Tx w (fun b => b = xb) W1 y g1 g2 (getS c x.h) (getS c x.h)) := fun y h => by rw [hm]; exact HH2.out _ _ _ _ _ _ _ HZk.out.2 h
            rw [← hm] at HHa
            have hbm : ((m : Int) != (m : Int)) = false := by simp [bne]
            clear hm HH1 HH2
            go_wp2_with (first
              | (go_at_call 17; refine (HHa.out).mono ?_; rintro r q1 ⟨rfl, hq1⟩; have HHc := hid (HHb.out q1 hq1); clear hq1 HHa HHb)
              | (go_at_call 18; refine (HHc.out).mono ?_; rintro r q2 ⟨rfl, hq2⟩; have HQ2 := hid hq2; clear hq2 HHc))
            go_roundw
            case rel => exact ⟨k + 1, by omega, by go_num, _, HBk.out q2 _ HQ2.out, HZk.out, by rw [(get_len c x.h).2.1]; exact HR.out.2.2.1, by rw [(get_len c x.h).2.1]; have := HR.out.2.2.2; omega⟩
            case measure => simp [intOf]; omega
        · by_cases t1 : xk = 1
          · clear HG1 HG2 HT1 HT2
            obtain rfl : xk = 1 := t1
            have HPa := hid (HP1.out _ _ _ _ _ _ _ x.h x.id HR.out.2.1 HT1'.out)
            have HPb : Hid (∀ y, Tx w (fun b => b = xb) W1 y g1 g2 (putS c x.h x.id) c → Calls Try.prog 14 #[pv g2, hv xf, .int .i64 xi] y fun r y => r = .returned (.tuple #[]) ∧ Tx w (fun b => b = xb) W1 y g1 g2 (putS c x.h x.id) (putS c x.h x.id)) := fun y h => by rw [HXX.out.2.1, HXX.out.2.2]; exact HP2.out _ _ _ _ _ _ _ x.h x.id HR.out.2.1 h
            rw [← HXX.out.2.1] at HPa
            have HPa' : Hid (Calls Try.prog 13 #[pv g1, hv xf, .int .i64 xi] W1 fun r y => r = .returned (.tuple #[]) ∧ Tx w (fun b => b = xb) W1 y g1 g2 (putS c x.h x.id) c) := by show Calls _ _ _ _ _; rw [HXX.out.2.2]; exact HPa.out
            have HZk := hid (HR.out.2.1.put x.h x.id)
            clear HPa
            go_upto_region 17 with (first
              | (refine ldMid 30 (.tmp 60) rfl rfl xb 1 rfl (row 11 xf) _ Try.underlying30 rfl (sizeH xf) HRA.out ?_)
              | (go_at_call 13; refine (HPa'.out).mono ?_; rintro r y2 ⟨rfl, h2⟩; have HRB := hid (HKq.out _ _ _ h2).rA; have ci2 := (HKq.out _ _ _ h2).ci; have HPc := hid (HPb.out y2 h2); clear h2 HPa' HPb))
            go_upto_region 21 with (first
              | (refine ldMid 30 (.tmp 66) rfl rfl xb 1 rfl (row 11 xf) _ Try.underlying30 rfl (sizeH xf) HRB.out ?_)
              | (go_at_call 14; refine (HPc.out).mono ?_; rintro r y3 ⟨rfl, h3⟩; have HZ := hid h3; clear h3 HPc))
            obtain ⟨m, hm⟩ : ∃ m, m = heldS (putS c x.h x.id) := ⟨_, rfl⟩
            have HHa := hid (HH1.out _ _ _ _ _ _ _ HZk.out.2 HZ.out)
            have HHb : Hid (∀ y, Tx w (fun b => b = xb) W1 y g1 g2 (putS c x.h x.id) (putS c x.h x.id) → Calls Try.prog 18 #[pv g2] y fun r y => r = .returned (.int .i64 (m : Nat)) ∧ Tx w (fun b => b = xb) W1 y g1 g2 (putS c x.h x.id) (putS c x.h x.id)) := fun y h => by rw [hm]; exact HH2.out _ _ _ _ _ _ _ HZk.out.2 h
            rw [← hm] at HHa
            have hbm : ((m : Int) != (m : Int)) = false := by simp [bne]
            clear hm HH1 HH2
            go_wp2_with (first
              | (go_at_call 17; refine (HHa.out).mono ?_; rintro r q1 ⟨rfl, hq1⟩; have HHc := hid (HHb.out q1 hq1); clear hq1 HHa HHb)
              | (go_at_call 18; refine (HHc.out).mono ?_; rintro r q2 ⟨rfl, hq2⟩; have HQ2 := hid hq2; clear hq2 HHc))
            go_roundw
            case rel => exact ⟨k + 1, by omega, by go_num, _, HBk.out q2 _ HQ2.out, HZk.out, by rw [(put_len c x.h x.id).2]; exact HR.out.2.2.1, by rw [(put_len c x.h x.id).2]; have := HR.out.2.2.2; omega⟩
            case measure => simp [intOf]; omega
          · by_cases t2 : xk = 2
            · clear HG1 HG2 HP1 HP2
              obtain rfl : xk = 2 := t2
              have hnb : 0 ≤ c.now ∧ c.now < 2147483648 := ⟨HR.out.2.2.1, by have := HR.out.2.2.2; omega⟩
              have HTa := hid (HT1.out _ _ _ _ _ _ _ hnb HT1'.out)
              have HTb : Hid (∀ y, Tx w (fun b => b = xb) W1 y g1 g2 (turnS c) c → Calls Try.prog 16 #[pv g2] y fun r y => r = .returned (.tuple #[]) ∧ Tx w (fun b => b = xb) W1 y g1 g2 (turnS c) (turnS c)) := fun y h => HT2.out _ _ _ _ _ _ _ hnb h
              have HZk := hid HR.out.2.1.turn
              clear hnb
              go_upto_region 20 with (go_at_call 15; refine (HTa.out).mono ?_; rintro r y2 ⟨rfl, h2⟩; have HTc := hid (HTb.out y2 h2); clear h2 HTa HTb)
              go_upto_region 21 with (go_at_call 16; refine (HTc.out).mono ?_; rintro r y3 ⟨rfl, h3⟩; have HZ := hid h3; clear h3 HTc)
              obtain ⟨m, hm⟩ : ∃ m, m = heldS (turnS c) := ⟨_, rfl⟩
              have HHa := hid (HH1.out _ _ _ _ _ _ _ HZk.out.2 HZ.out)
              have HHb : Hid (∀ y, Tx w (fun b => b = xb) W1 y g1 g2 (turnS c) (turnS c) → Calls Try.prog 18 #[pv g2] y fun r y => r = .returned (.int .i64 (m : Nat)) ∧ Tx w (fun b => b = xb) W1 y g1 g2 (turnS c) (turnS c)) := fun y h => by rw [hm]; exact HH2.out _ _ _ _ _ _ _ HZk.out.2 h
              rw [← hm] at HHa
              have hbm : ((m : Int) != (m : Int)) = false := by simp [bne]
              clear hm HH1 HH2
              go_wp2_with (first
                | (go_at_call 17; refine (HHa.out).mono ?_; rintro r q1 ⟨rfl, hq1⟩; have HHc := hid (HHb.out q1 hq1); clear hq1 HHa HHb)
                | (go_at_call 18; refine (HHc.out).mono ?_; rintro r q2 ⟨rfl, hq2⟩; have HQ2 := hid hq2; clear hq2 HHc))
              go_roundw
              case rel => exact ⟨k + 1, by omega, by go_num, _, HBk.out q2 _ HQ2.out, HZk.out, by show 0 ≤ c.now + 1; have := HR.out.2.2.1; omega, by show c.now + 1 ≤ _; have := HR.out.2.2.2; omega⟩
              case measure => simp [intOf]; omega
            · clear HG1 HG2 HP1 HP2 HT1 HT2
              have e0 : (xk == 0) = false := beq_eq_false_iff_ne.2 t0
              have e1 : (xk == 1) = false := beq_eq_false_iff_ne.2 t1
              have e2 : (xk == 2) = false := beq_eq_false_iff_ne.2 t2
              have HZ := HT1'
              have HZk := hid HR.out.2.1
              clear t0 t1 t2
              go_upto_region 21 with fail
              obtain ⟨m, hm⟩ : ∃ m, m = heldS (c) := ⟨_, rfl⟩
              have HHa := hid (HH1.out _ _ _ _ _ _ _ HZk.out.2 HZ.out)
              have HHb : Hid (∀ y, Tx w (fun b => b = xb) W1 y g1 g2 (c) (c) → Calls Try.prog 18 #[pv g2] y fun r y => r = .returned (.int .i64 (m : Nat)) ∧ Tx w (fun b => b = xb) W1 y g1 g2 (c) (c)) := fun y h => by rw [hm]; exact HH2.out _ _ _ _ _ _ _ HZk.out.2 h
              rw [← hm] at HHa
              have hbm : ((m : Int) != (m : Int)) = false := by simp [bne]
              clear hm HH1 HH2
              go_wp2_with (first
                | (go_at_call 17; refine (HHa.out).mono ?_; rintro r q1 ⟨rfl, hq1⟩; have HHc := hid (HHb.out q1 hq1); clear hq1 HHa HHb)
                | (go_at_call 18; refine (HHc.out).mono ?_; rintro r q2 ⟨rfl, hq2⟩; have HQ2 := hid hq2; clear hq2 HHc))
              go_roundw
              case rel => exact ⟨k + 1, by omega, by go_num, _, HBk.out q2 _ HQ2.out, HZk.out, HR.out.2.2.1, by have := HR.out.2.2.2; omega⟩
              case measure => simp [intOf]; omega
      · obtain rfl : k = l.length := by omega
        have hdk : decide ((l.length : Int) < (l.length : Int)) = false := by simp
        have HWk := hid (HW.out wx HR.out.1.below.2)
        clear HW HP1 HP2 HG1 HG2 HLs HT1 HT2 HH1 HH2
        go_wp2_with (go_at_call 8; refine (HWk.out).mono ?_; rintro r y7 ⟨rfl, hb7⟩; have HB7 := hid hb7; clear hb7)
        go_ret
        exact ⟨rfl, HB7.out⟩
end Go.Proofs.Ytpmdgockiblkaaa
