/-
  Proved here: the reader's methods pol and pred, and all of the grammar together: what is read is what 'ps' tells. Conditions: the reader stands at one of its words; no word has more than 65536 bytes.
-/
import Derived.Test.YtoncogkamlgjhaaGreatDoorFBB
namespace Go.Proofs.YtoncogkamlgjhaaGreatDoor
set_option maxRecDepth 100000
open Go.RowKit
set_option maxRecDepth 100000

/-- a box with the reader's address -/
structure Bx (B r : Nat) (w : World) : Prop where
  blk : w.heap[B]? = some (.cells #[ptr r] 73 (0, 0))
theorem Bx.lt {B r : Nat} {w : World} (h : Bx B r w) : B < w.heap.size := (Array.getElem?_eq_some_iff.1 h.blk).1
theorem Bx.cell {B r : Nat} {w : World} (h : Bx B r w) : w.cell? ⟨B, 0, none⟩ = some (ptr r) := (cell_of_row _ _ _ _ _ _ h.blk).trans rfl
theorem RdP.frm {l : List Wd} {r m : Nat} {ws : Value} {R : Rd Tm} {W W0 w' : World} {e : Ending} (h : RdP l r m ws R W0 e w') (hb : Below W.heap.size W W0) : RdP l r m ws R W e w' := by
  have ho : Only (Rn r W) W w' := (Only.of hb (S := Rn r W) fun _ hk => Or.inr hk).thn h.1
  cases R with
  | bad j => exact ⟨ho, h.2⟩
  | ok t j =>
    obtain ⟨cs, h1, -, h2, h3⟩ := h.isOk
    exact ⟨ho, cs, h1, h2, tm_on h3 fun b _ hS => ⟨Nat.le_trans hb.size hS, rfl⟩⟩

set_option maxHeartbeats 3200000 in
theorem pol1_any {l : List Wd} {r m : Nat} {ws : Value} {i B : Nat} {W : World} (h : RdM l r m ws i W) (hi : i < l.length) (hb : l.length ≤ 100000) (hcl : Cl l) (hB : Bx B r W) (_hBr : B ≠ r) (part : Nat → Rd Tm) (hpa : Adv l part)
    (hS : ∀ j w, RdM l r m ws j w → i ≤ j → j < l.length → Calls Tryz.prog 58 #[ptr r] w (RdP l r m ws (part j) w)) : Calls Tryz.prog 57 #[ptr B] W (RdP l r m ws (jn l 9 Ssemi part i) W) := by
  have HI0 := hid (InS.new h)
  obtain ⟨W1, hW1⟩ : ∃ W1, W1 = W.alloc (.cells (tmc 0 0 0 nilS) 26) := ⟨_, rfl⟩
  rw [← hW1] at HI0
  have HE : Hid (W.alloc (.cells #[.int .i8 0, .int .i8 0, .int .u64 0, .slice none 0 0] 26) = W1) := hW1.symm
  have hcB : W1.cell? ⟨B, 0, none⟩ = some (ptr r) := by rw [hW1]; exact ((cell_same (heap_alloc_old _ _ hB.lt)).trans hB.cell)
  have HC := hid (joined_any HI0.out.rd hi hb hcl 9 Ssemi (by decide) part hpa (f := 58) (fi := #[ptr r]) (ca := #[]) ⟨rfl, rfl, fun _ => rfl⟩ (fun _ => True) trivial (fun _ _ _ _ => trivial) (fun j w a b c _ => hS j w a b c))
  have hmf : ∀ (fn : Fn) (first cap : Array Value) (w : World), (Instr.makeFunc fn first cap).run Tryz.prog w = .ok (.func fn first cap) w := fun _ _ _ _ => rfl
  clear h hS hcl hW1 hpa hB
  go_enter Tryz.func57, Tryz.ntmps57
  go_upto_region 1 with fail
  rw [show W.alloc (.cells #[.int .i8 0, .int .i8 0, .int .u64 0, .slice none 0 0] 26) = W1 from HE.out]
  clear HE
  generalize hR : jn l 9 Ssemi part i = R at HC ⊢
  cases R with
  | bad j =>
    go_wp2_with (go_at_call 56; refine (HC.out).mono ?_; intro e w3 h9; obtain ⟨rfl, a1, a2⟩ := h9.isBad; have HX := hid (HI0.out.bad a1 a2); clear a1 a2 h9)
    exact ⟨rfl, HX.out⟩
  | ok t j =>
    go_wp2_with (first
      | (go_at_call 56; refine (HC.out).mono ?_; intro e w3 h9; obtain ⟨cs, rfl, a1, a2, a3⟩ := h9.isOk; have HI3 := hid (HI0.out.thn a1 a2); have HT3 := hid (HI0.out.tm a3); clear a1 a2 a3 h9)
      | (refine stRow 26 (.tmp 1) (.tmp 5) rfl rfl W.heap.size cs rfl rfl 26 _ HI3.out.res HT3.out.info (by rw [HT3.out.size]; rfl) HT3.out.one ?_))
    have hF := HI3.out.fin HT3.out
    exact bodyPost_ret (res_tm Tryz.results57 _ _ W.heap.size _ HT3.out.info rfl hF.1) rfl (by rw [hR]; exact hF.2)
set_option maxHeartbeats 3200000 in
theorem pol_any {l : List Wd} {r m : Nat} {ws : Value} {i : Nat} {W : World} (h : RdM l r m ws i W) (hi : i < l.length) (hb : l.length ≤ 100000) (hcl : Cl l) (part : Nat → Rd Tm) (hpa : Adv l part)
    (hS : ∀ j w, RdM l r m ws j w → i ≤ j → j < l.length → Calls Tryz.prog 58 #[ptr r] w (RdP l r m ws (part j) w)) : Calls Tryz.prog 29 #[ptr r] W (RdP l r m ws (jn l 8 Splus (jn l 9 Ssemi part) i) W) := by
  have hlt := h.lt
  obtain ⟨W0, hW0⟩ : ∃ W0, W0 = W.alloc (.cells #[ptr r] 73) := ⟨_, rfl⟩
  have hb0 : Below W.heap.size W W0 := by rw [hW0]; exact (Below.refl _ _).alloc (Nat.le_refl _) _
  have hz0 : W0.heap.size = W.heap.size + 1 := by rw [hW0]; simp
  have hB0 : Bx W.heap.size r W0 := by rw [hW0]; exact ⟨heap_alloc_new _ _⟩
  have h0 := h.on hb0
  have HI0 := hid (InS.new h0)
  obtain ⟨W1, hW1⟩ : ∃ W1, W1 = W0.alloc (.cells (tmc 0 0 0 nilS) 26) := ⟨_, rfl⟩
  rw [← hW1] at HI0
  have HE : Hid ((W.alloc (.cells #[ptr r] 73)).alloc (.cells #[.int .i8 0, .int .i8 0, .int .u64 0, .slice none 0 0] 26) = W1) := by rw [← hW0]; exact hW1.symm
  have hB1 : Bx W.heap.size r W1 := by rw [hW1]; exact ⟨(heap_alloc_old _ _ hB0.lt).trans hB0.blk⟩
  have hcB := hB1.cell
  have hz1 : W1.heap.size = W.heap.size + 2 := by rw [hW1]; simp [hz0]
  have HC := hid (joined_any HI0.out.rd hi hb hcl 8 Splus (by decide) (jn l 9 Ssemi part) (jn_adv hcl _ (by decide) hpa) (f := 57) (fi := #[]) (ca := #[ptr W.heap.size]) ⟨rfl, rfl, fun _ => rfl⟩ (Bx W.heap.size r) hB1 (fun w w' hw ho => ⟨(ho.block _ (by rintro (e | e) <;> omega)).trans hw.blk⟩) (fun j w a b c d => pol1_any a c hb hcl d (by omega) part hpa (fun k w' a' b' c' => hS k w' a' (by omega) c')))
  have hmf : ∀ (fn : Fn) (first cap : Array Value) (w : World), (Instr.makeFunc fn first cap).run Tryz.prog w = .ok (.func fn first cap) w := fun _ _ _ _ => rfl
  have HB0 := hid hb0
  clear h hS hcl hW1 hpa hB1 hB0 hb0 hW0 h0
  go_enter Tryz.func29, Tryz.ntmps29
  go_upto_region 1 with fail
  rw [show (W.alloc (.cells #[ptr r] 73)).alloc (.cells #[.int .i8 0, .int .i8 0, .int .u64 0, .slice none 0 0] 26) = W1 from HE.out]
  clear HE
  generalize hR : jn l 8 Splus (jn l 9 Ssemi part) i = R at HC ⊢
  cases R with
  | bad j =>
    go_wp2_with (go_at_call 56; refine (HC.out).mono ?_; intro e w3 h9; obtain ⟨rfl, a1, a2⟩ := h9.isBad; have HX := hid (HI0.out.bad a1 a2); clear a1 a2 h9)
    exact ⟨rfl, HX.out.frm HB0.out⟩
  | ok t j =>
    go_wp2_with (first
      | (go_at_call 56; refine (HC.out).mono ?_; intro e w3 h9; obtain ⟨cs, rfl, a1, a2, a3⟩ := h9.isOk; have HI3 := hid (HI0.out.thn a1 a2); have HT3 := hid (HI0.out.tm a3); clear a1 a2 a3 h9)
      | (refine stRow 26 (.tmp 2) (.tmp 5) rfl rfl (W.heap.size + 1) cs rfl rfl 26 _ (by rw [← hz0]; exact HI3.out.res) HT3.out.info (by rw [HT3.out.size]; rfl) HT3.out.one ?_))
    have hF := HI3.out.fin HT3.out
    rw [hz0] at hF
    exact bodyPost_ret (res_tm Tryz.results29 _ _ (W.heap.size + 1) _ HT3.out.info rfl hF.1) rfl (by rw [hR]; exact hF.2.frm HB0.out)

set_option maxHeartbeats 3200000 in
theorem pred1_any {l : List Wd} {r m : Nat} {ws : Value} {i B : Nat} {W : World} (h : RdM l r m ws i W) (hi : i < l.length) (hb : l.length ≤ 100000) (hcl : Cl l) (hB : Bx B r W) (_hBr : B ≠ r) (part : Nat → Rd Tm) (hpa : Adv l part)
    (hS : ∀ j w, RdM l r m ws j w → i ≤ j → j < l.length → Calls Tryz.prog 61 #[ptr r] w (RdP l r m ws (part j) w)) : Calls Tryz.prog 60 #[ptr B] W (RdP l r m ws (jn l 4 Sand part i) W) := by
  have HI0 := hid (InS.new h)
  obtain ⟨W1, hW1⟩ : ∃ W1, W1 = W.alloc (.cells (tmc 0 0 0 nilS) 26) := ⟨_, rfl⟩
  rw [← hW1] at HI0
  have HE : Hid (W.alloc (.cells #[.int .i8 0, .int .i8 0, .int .u64 0, .slice none 0 0] 26) = W1) := hW1.symm
  have hcB : W1.cell? ⟨B, 0, none⟩ = some (ptr r) := by rw [hW1]; exact ((cell_same (heap_alloc_old _ _ hB.lt)).trans hB.cell)
  have HC := hid (joined_any HI0.out.rd hi hb hcl 4 Sand (by decide) part hpa (f := 61) (fi := #[ptr r]) (ca := #[]) ⟨rfl, rfl, fun _ => rfl⟩ (fun _ => True) trivial (fun _ _ _ _ => trivial) (fun j w a b c _ => hS j w a b c))
  have hmf : ∀ (fn : Fn) (first cap : Array Value) (w : World), (Instr.makeFunc fn first cap).run Tryz.prog w = .ok (.func fn first cap) w := fun _ _ _ _ => rfl
  clear h hS hcl hW1 hpa hB
  go_enter Tryz.func60, Tryz.ntmps60
  go_upto_region 1 with fail
  rw [show W.alloc (.cells #[.int .i8 0, .int .i8 0, .int .u64 0, .slice none 0 0] 26) = W1 from HE.out]
  clear HE
  generalize hR : jn l 4 Sand part i = R at HC ⊢
  cases R with
  | bad j =>
    go_wp2_with (go_at_call 56; refine (HC.out).mono ?_; intro e w3 h9; obtain ⟨rfl, a1, a2⟩ := h9.isBad; have HX := hid (HI0.out.bad a1 a2); clear a1 a2 h9)
    exact ⟨rfl, HX.out⟩
  | ok t j =>
    go_wp2_with (first
      | (go_at_call 56; refine (HC.out).mono ?_; intro e w3 h9; obtain ⟨cs, rfl, a1, a2, a3⟩ := h9.isOk; have HI3 := hid (HI0.out.thn a1 a2); have HT3 := hid (HI0.out.tm a3); clear a1 a2 a3 h9)
      | (refine stRow 26 (.tmp 1) (.tmp 5) rfl rfl W.heap.size cs rfl rfl 26 _ HI3.out.res HT3.out.info (by rw [HT3.out.size]; rfl) HT3.out.one ?_))
    have hF := HI3.out.fin HT3.out
    exact bodyPost_ret (res_tm Tryz.results60 _ _ W.heap.size _ HT3.out.info rfl hF.1) rfl (by rw [hR]; exact hF.2)
set_option maxHeartbeats 3200000 in
theorem pred_any {l : List Wd} {r m : Nat} {ws : Value} {i : Nat} {W : World} (h : RdM l r m ws i W) (hi : i < l.length) (hb : l.length ≤ 100000) (hcl : Cl l) (part : Nat → Rd Tm) (hpa : Adv l part)
    (hS : ∀ j w, RdM l r m ws j w → i ≤ j → j < l.length → Calls Tryz.prog 61 #[ptr r] w (RdP l r m ws (part j) w)) : Calls Tryz.prog 33 #[ptr r] W (RdP l r m ws (jn l 5 Sor (jn l 4 Sand part) i) W) := by
  have hlt := h.lt
  obtain ⟨W0, hW0⟩ : ∃ W0, W0 = W.alloc (.cells #[ptr r] 73) := ⟨_, rfl⟩
  have hb0 : Below W.heap.size W W0 := by rw [hW0]; exact (Below.refl _ _).alloc (Nat.le_refl _) _
  have hz0 : W0.heap.size = W.heap.size + 1 := by rw [hW0]; simp
  have hB0 : Bx W.heap.size r W0 := by rw [hW0]; exact ⟨heap_alloc_new _ _⟩
  have h0 := h.on hb0
  have HI0 := hid (InS.new h0)
  obtain ⟨W1, hW1⟩ : ∃ W1, W1 = W0.alloc (.cells (tmc 0 0 0 nilS) 26) := ⟨_, rfl⟩
  rw [← hW1] at HI0
  have HE : Hid ((W.alloc (.cells #[ptr r] 73)).alloc (.cells #[.int .i8 0, .int .i8 0, .int .u64 0, .slice none 0 0] 26) = W1) := by rw [← hW0]; exact hW1.symm
  have hB1 : Bx W.heap.size r W1 := by rw [hW1]; exact ⟨(heap_alloc_old _ _ hB0.lt).trans hB0.blk⟩
  have hcB := hB1.cell
  have hz1 : W1.heap.size = W.heap.size + 2 := by rw [hW1]; simp [hz0]
  have HC := hid (joined_any HI0.out.rd hi hb hcl 5 Sor (by decide) (jn l 4 Sand part) (jn_adv hcl _ (by decide) hpa) (f := 60) (fi := #[]) (ca := #[ptr W.heap.size]) ⟨rfl, rfl, fun _ => rfl⟩ (Bx W.heap.size r) hB1 (fun w w' hw ho => ⟨(ho.block _ (by rintro (e | e) <;> omega)).trans hw.blk⟩) (fun j w a b c d => pred1_any a c hb hcl d (by omega) part hpa (fun k w' a' b' c' => hS k w' a' (by omega) c')))
  have hmf : ∀ (fn : Fn) (first cap : Array Value) (w : World), (Instr.makeFunc fn first cap).run Tryz.prog w = .ok (.func fn first cap) w := fun _ _ _ _ => rfl
  have HB0 := hid hb0
  clear h hS hcl hW1 hpa hB1 hB0 hb0 hW0 h0
  go_enter Tryz.func33, Tryz.ntmps33
  go_upto_region 1 with fail
  rw [show (W.alloc (.cells #[ptr r] 73)).alloc (.cells #[.int .i8 0, .int .i8 0, .int .u64 0, .slice none 0 0] 26) = W1 from HE.out]
  clear HE
  generalize hR : jn l 5 Sor (jn l 4 Sand part) i = R at HC ⊢
  cases R with
  | bad j =>
    go_wp2_with (go_at_call 56; refine (HC.out).mono ?_; intro e w3 h9; obtain ⟨rfl, a1, a2⟩ := h9.isBad; have HX := hid (HI0.out.bad a1 a2); clear a1 a2 h9)
    exact ⟨rfl, HX.out.frm HB0.out⟩
  | ok t j =>
    go_wp2_with (first
      | (go_at_call 56; refine (HC.out).mono ?_; intro e w3 h9; obtain ⟨cs, rfl, a1, a2, a3⟩ := h9.isOk; have HI3 := hid (HI0.out.thn a1 a2); have HT3 := hid (HI0.out.tm a3); clear a1 a2 a3 h9)
      | (refine stRow 26 (.tmp 2) (.tmp 5) rfl rfl (W.heap.size + 1) cs rfl rfl 26 _ (by rw [← hz0]; exact HI3.out.res) HT3.out.info (by rw [HT3.out.size]; rfl) HT3.out.one ?_))
    have hF := HI3.out.fin HT3.out
    rw [hz0] at hF
    exact bodyPost_ret (res_tm Tryz.results33 _ _ (W.heap.size + 1) _ HT3.out.info rfl hF.1) rfl (by rw [hR]; exact hF.2.frm HB0.out)

/-- ALL OF THE GRAMMAR. -/
theorem ps_any {l : List Wd} {r m : Nat} {ws : Value} (hb : l.length ≤ 100000) (hcl : Cl l) (hts : ∀ k, (wat l k).t.size ≤ 65536) : ∀ n,
    (∀ j w, RdM l r m ws j w → l.length - j ≤ n → j < l.length → Calls Tryz.prog 29 #[ptr r] w (RdP l r m ws ((ps l n).pol j) w)) ∧
    (∀ j w, RdM l r m ws j w → l.length - j ≤ n → j < l.length → Calls Tryz.prog 33 #[ptr r] w (RdP l r m ws ((ps l n).pred j) w)) ∧
    (∀ j w, RdM l r m ws j w → l.length - j ≤ n → j < l.length → Calls Tryz.prog 61 #[ptr r] w (RdP l r m ws ((ps l n).nt j) w))
  | 0 => ⟨fun j w _ h1 h2 => by omega, fun j w _ h1 h2 => by omega, fun j w _ h1 h2 => by omega⟩
  | n + 1 => by
    obtain ⟨h1, h2, h3⟩ := ps_any hb hcl hts n
    obtain ⟨a1, a2, a3⟩ := ps_adv hcl n
    have hN : ∀ j w, RdM l r m ws j w → l.length - j ≤ n + 1 → j < l.length → Calls Tryz.prog 61 #[ptr r] w (RdP l r m ws (notF l (ps l n).pred (ps l n).nt j) w) := fun j w hw hj hl =>
      not_any hw hl hb hcl hts _ _ a2 (fun k w' b1 b2 b3 => h3 k w' b1 (by omega) b3) (fun k w' b1 b2 b3 => h2 k w' b1 (by omega) b3)
    have hA : ∀ j w, RdM l r m ws j w → l.length - j ≤ n + 1 → j < l.length → Calls Tryz.prog 82 #[ptr r] w (RdP l r m ws (atomF l (ps l n).pol (ps l n).pred j) w) := fun j w hw hj hl =>
      atom_any hw hl hb hcl hts _ _ a2 a1 (fun k w' b1 b2 b3 => h1 k w' b1 (by omega) b3) (fun k w' b1 b2 b3 => h2 k w' b1 (by omega) b3)
    have hS : ∀ j w, RdM l r m ws j w → l.length - j ≤ n + 1 → j < l.length → Calls Tryz.prog 58 #[ptr r] w (RdP l r m ws (starF l (atomF l (ps l n).pol (ps l n).pred) j) w) := fun j w hw hj hl =>
      star_any hw hl hb hcl _ (atomF_adv hcl a1 a2) (fun w' hw' => hA j w' hw' hj hl)
    exact ⟨fun j w hw hj hl => pol_any hw hl hb hcl _ (starF_adv hcl (atomF_adv hcl a1 a2)) (fun k w' b1 b2 b3 => hS k w' b1 (by omega) b3),
      fun j w hw hj hl => pred_any hw hl hb hcl _ (notF_adv hcl a2 a3) (fun k w' b1 b2 b3 => hN k w' b1 (by omega) b3),
      hN⟩
end Go.Proofs.YtoncogkamlgjhaaGreatDoor
