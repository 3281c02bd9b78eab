/-
  Laws of our own: a region that draws its order and in the end writes a cell that it has read: what is held till one of its operations comes up. No condition.
-/
import Derived.Test.YtjallmncajhamaaDoorTG
namespace Go.Proofs.YtjallmncajhamaaDoor
open Go.RowKit

section
variable {md : Region.Mode} {ops : Array Oper} {Q : Exit → Act → World → Prop} {S T : World → Prop} {z : Nat}
/-- T is held while z has not come up -/
def Til (z : Nat) (T : World → Prop) (listed : Array Bool) (w : World) : Prop := listed.getD z true = true ∨ T w
/-- Whatever order: S behind every operation, T till z has come up. -/
def wpK (md : Region.Mode) (ops : Array Oper) (Q : Exit → Act → World → Prop) (S T : World → Prop) (z : Nat) : Nat → Array Bool → Act → World → Prop
  | 0, listed, a, w => Region.ready md ops listed = [] ∧ Q .normal a w
  | fuel + 1, listed, a, w => (Region.ready md ops listed = [] → Q .normal a w) ∧ ∀ i ∈ Region.ready md ops listed, wpOp Tryd.prog ops Q i (fun a' w' => (S w' ∧ Til z T (listed.setIfInBounds i true) w') ∧ wpK md ops Q S T z fuel (listed.setIfInBounds i true) a' w') a w
theorem wpK_any : ∀ (fuel : Nat) (listed : Array Bool) (a : Act) (w : World), wpK md ops Q S T z fuel listed a w → wpAnyH Tryd.prog md ops Q (fun _ => True) fuel listed a w
  | 0, _, _, _, h => h
  | fuel + 1, _, _, _, h => ⟨h.1, fun i hi => wpOp_mono (fun a' w' h' => ⟨trivial, wpK_any fuel _ a' w' h'.2⟩) (h.2 i hi)⟩
theorem getD_up {l : Array Bool} {i z : Nat} (h : l.getD z true = true) : (l.setIfInBounds i true).getD z true = true := by
  by_cases e : i = z
  · subst e
    by_cases hl : i < l.size
    · simp [Array.getD, hl]
    · simp [Array.getD, hl]
  · rw [getD_set_ne true e]; exact h
theorem Til.up {l : Array Bool} {w : World} (i : Nat) (h : Til z T l w) : Til z T (l.setIfInBounds i true) w := h.imp getD_up id
theorem wpK_first {U : World → Prop} {I : Array Bool → Prop} {i : Nat} {oi : Oper} {v : Value} (hi : ops[i]? = some oi) (hsel : ∀ (j : Nat) (o : Oper) cs b, ops[j]? = some o → o.op ≠ .select cs b)
    (hQ : ∀ c a w, Q (.panic c) (a.put oi.dst v) w → Q (.panic c) a w)
    (hiz : i ≠ z) (hU : ∀ l w, I l → S w → Til z T l w → U w) (hI : ∀ l j, I l → j ∈ Region.ready md ops l → l.getD i true = false → I (l.setIfInBounds j true)) :
    ∀ (fuel : Nat) (listed : Array Bool) (a : Act) (w : World),
      (∀ j oj, ops[j]? = some oj → j ≠ i → listed.getD j true = false → (∀ e ∈ oj.after, Region.binds md e = true → e.on ≠ i) → oi.apart ops oj = true) →
      i ∈ Region.ready md ops listed → I listed → YieldsIf Tryd.prog ops U oi v a → S w → Til z T listed w →
      wpK md ops Q S T z fuel (listed.setIfInBounds i true) (a.put oi.dst v) w → wpK md ops Q S T z (fuel + 1) listed a w := by
  intro fuel
  induction fuel with
  | zero =>
    intro listed a w _ hr hl hy hS hT H
    refine ⟨fun h => (by rw [h] at hr; cases hr), fun j hj => ?_⟩
    by_cases hji : j = i
    · subst hji; exact hy.wpOp hi (hU _ _ hl hS hT) ⟨⟨hS, hT.up _⟩, H⟩
    · have := ready_mono hj hji
      rw [H.1] at this
      cases this
  | succ fuel ih =>
    intro listed a w hfree hr hl hy hS hT H
    refine ⟨fun h => (by rw [h] at hr; cases hr), fun j hj => ?_⟩
    by_cases hji : j = i
    · subst hji; exact hy.wpOp hi (hU _ _ hl hS hT) ⟨⟨hS, hT.up _⟩, H⟩
    have hi0 := (mem_ready.1 hr).1
    have h1 := H.2 j (ready_mono hj hji)
    obtain ⟨hjun, oj, hoj, hall⟩ := mem_ready.1 hj
    have hnot : ∀ e ∈ oj.after, Region.binds md e = true → e.on ≠ i := fun e he hb heq => by
      have h1 := hall e he hb
      rw [heq] at h1
      rcases Nat.lt_or_ge i listed.size with h' | h'
      · simp [h'] at hi0 h1; rw [hi0] at h1; cases h1
      · simp [Array.getElem?_eq_none h'] at h1
    have h2 := wpOp_putIf hoj (hfree j oj hoj hji hjun hnot) (fun cs b => hsel i oi cs b hi) (fun cs b => hsel j oj cs b hoj) hQ hy h1
    have hfree' : ∀ k ok, ops[k]? = some ok → k ≠ i → (listed.setIfInBounds j true).getD k true = false → (∀ e ∈ ok.after, Region.binds md e = true → e.on ≠ i) → oi.apart ops ok = true := fun k ok hk hki hun hno => by
      refine hfree k ok hk hki ?_ hno
      by_cases hjk : j = k
      · subst hjk; exact hjun
      · rw [getD_set_ne true hjk] at hun; exact hun
    have hback : ∀ w', Til z T ((listed.setIfInBounds i true).setIfInBounds j true) w' → Til z T (listed.setIfInBounds j true) w' := fun w' h => by
      rcases h with h | h
      · rw [Array.setIfInBounds_comm _ _ (Ne.symm hji), getD_set_ne true hiz] at h
        exact Or.inl h
      · exact Or.inr h
    refine wpOp_mono (fun a' w' h3 => ?_) h2
    have hT' : Til z T (listed.setIfInBounds j true) w' := hback w' h3.2.1.2
    refine ⟨⟨h3.2.1.1, hT'⟩, ih (listed.setIfInBounds j true) a' w' hfree' (ready_mono hr (Ne.symm hji)) (hI _ _ hl hj hi0) h3.1 h3.2.1.1 hT' ?_⟩
    rw [Array.setIfInBounds_comm _ _ hji]
    exact h3.2.2
/-- z waits for i -/
def waitsFor (md : Region.Mode) (ops : Array Oper) (z i : Nat) : Bool := match ops[z]? with | some o => o.after.any fun e => Region.binds md e && (e.on == i) | none => false
variable {fuel : Nat} {listed : Array Bool} {a : Act} {w : World} {i : Nat} {oi : Oper} {v : Value}
theorem wpK_takeS (hi : ops[i]? = some oi) (hs : Region.noSelect ops = true) (hf : Region.free md ops listed i = true) (hr : (Region.ready md ops listed).contains i = true) (hiz : i ≠ z)
    (hQ : ∀ c a w, Q (.panic c) (a.put oi.dst v) w → Q (.panic c) a w) (hy : YieldsIf Tryd.prog ops S oi v a) (hS : S w ∧ Til z T listed w)
    (h : wpK md ops Q S T z fuel (listed.setIfInBounds i true) (a.put oi.dst v) w) : wpK md ops Q S T z (fuel + 1) listed a w :=
  wpK_first (I := fun _ => True) (U := S) hi (Region.noSelect_spec hs) hQ hiz (fun _ _ _ h _ => h) (fun _ _ _ _ _ => trivial) fuel listed a w (Region.free_spec hi hf) (by simpa using hr) trivial hy hS.1 hS.2 h
theorem wpK_takeT (hi : ops[i]? = some oi) (hs : Region.noSelect ops = true) (hf : Region.free md ops listed i = true) (hr : (Region.ready md ops listed).contains i = true) (hiz : i ≠ z) (hw : waitsFor md ops z i = true) (hz : listed.getD z true = false)
    (hQ : ∀ c a w, Q (.panic c) (a.put oi.dst v) w → Q (.panic c) a w) (hy : YieldsIf Tryd.prog ops (fun w => S w ∧ T w) oi v a) (hS : S w ∧ Til z T listed w)
    (h : wpK md ops Q S T z fuel (listed.setIfInBounds i true) (a.put oi.dst v) w) : wpK md ops Q S T z (fuel + 1) listed a w := by
  refine wpK_first (I := fun l => l.getD z true = false) (U := fun w => S w ∧ T w) hi (Region.noSelect_spec hs) hQ hiz (fun l w' hl h1 h2 => ⟨h1, h2.resolve_left (by rw [hl]; decide)⟩) (fun l j hl hj hil => ?_) fuel listed a w (Region.free_spec hi hf) (by simpa using hr) hz hy hS.1 hS.2 h
  by_cases hjz : j = z
  · subst hjz
    obtain ⟨-, o, ho, hall⟩ := mem_ready.1 hj
    unfold waitsFor at hw
    rw [ho] at hw
    simp only [Array.any_eq_true', Bool.and_eq_true, beq_iff_eq] at hw
    obtain ⟨e, he, hb, hon⟩ := hw
    have h1 := hall e he hb
    rw [hon] at h1
    rcases Nat.lt_or_ge i l.size with h' | h'
    · simp [h'] at hil h1; rw [hil] at h1; cases h1
    · simp [Array.getElem?_eq_none h'] at h1
  · rw [getD_set_ne true hjz]; exact hl
theorem kn1 (i : Nat) (o : Oper) (hr : Region.ready md ops listed = [i]) (ho : ops[i]? = some o) (h : Sp ops Q o a w fun a' w' => (S w' ∧ Til z T (listed.setIfInBounds i true) w') ∧ wpK md ops Q S T z fuel (listed.setIfInBounds i true) a' w') : wpK md ops Q S T z (fuel + 1) listed a w := by
  refine ⟨fun h0 => (by rw [hr] at h0; cases h0), ?_⟩
  rw [hr]
  intro j hj
  obtain rfl : j = i := by simpa using hj
  unfold wpOp
  rw [ho]
  show if Region.wanted o (yielded ops a.tmps) = true then _ else _
  rw [if_pos h.want]
  exact Or.inl h.wp
theorem wpK_done (hr : Region.ready md ops listed = []) (h : Q .normal a w) : ∀ fuel, wpK md ops Q S T z fuel listed a w
  | 0 => ⟨hr, h⟩
  | _ + 1 => ⟨fun _ => h, by rw [hr]; simp⟩
theorem wpK_begin {id : Nat} (S T : World → Prop) (z : Nat) (hm : Tryd.prog.follows .mixedOrders = true) (hS : S w.drew) (hT : T w.drew)
    (h : S w.drew ∧ Til z T (Array.replicate ops.size false) w.drew → wpK .any ops Q S T z ops.size (Array.replicate ops.size false) a w.drew) : (Code.region id ops true).wp Tryd.prog Q a w :=
  wp_region_held hm (wpK_any _ _ _ _ (h ⟨hS, Or.inr hT⟩))
end
end Go.Proofs.YtjallmncajhamaaDoor
