/-
  Proved here: Copied makes copies in memory of their own that are the same. Condition: fewer than a million copies and actions.
-/
import Derived.Test.YtejmobkfanejbaaDoorX2
namespace Go.Proofs.YtejmobkfanejbaaDoor
open Go.RowKit

/-- Where Copied is, k lists done. -/
structure Cpd (w : World) (c : List (List Ac)) (k : Nat) (v : Value) (wr : World) : Prop where
  low : Below w.heap.size w wr
  rw : ∃ us, Rw (fun b => w.heap.size ≤ b) 1 45 wr v k us ∧ ∀ j, j < k → ∀ (hc : j < c.length), ∃ u, us[j]? = some u ∧ Acs (fun b => w.heap.size ≤ b ∧ v.ownBlock ≠ some b) wr u c[j]
/-- One list more. -/
theorem Cpd.next {w : World} {c : List (List Ac)} {k : Nat} {v : Value} {wr : World} (q : Cpd w c k v wr) (hk : k < c.length) (u : Value) (w1 : World) (hb1 : Below wr.heap.size wr w1) (hA : Acs (fun b => wr.heap.size ≤ b) w1 u c[k]) {v' : Value} {w2 : World}
    (hA2 : Apd (w1.alloc (.cells #[u] 45)) v w2) (us : List Value) (hR2 : ∀ S, Rw S 1 45 (w1.alloc (.cells #[u] 45)) v k us → Rw (fun b => S b ∨ (w1.alloc (.cells #[u] 45)).heap.size ≤ b) 1 45 w2 v' (k + 1) (us ++ [u])) (hus : Rw (fun b => w.heap.size ≤ b) 1 45 wr v k us) (hac : ∀ j, j < k → ∀ (hc : j < c.length), ∃ u, us[j]? = some u ∧ Acs (fun b => w.heap.size ≤ b ∧ v.ownBlock ≠ some b) wr u c[j]) : Cpd w c (k + 1) v' w2 := by
  have hs := q.low.size
  have hal : Below w1.heap.size w1 (w1.alloc (.cells #[u] 45)) := (Below.refl _ _).alloc (Nat.le_refl _) _
  generalize w1.alloc (.cells #[u] 45) = W at *
  have hbW : Below wr.heap.size wr W := hb1.trans (hal.mono hb1.size)
  have hself : Rw (fun j => (w.heap.size ≤ j ∧ j < wr.heap.size) ∧ v.ownBlock = some j) 1 45 W v k us := (hus.carry (T := fun j => w.heap.size ≤ j ∧ j < wr.heap.size) (w' := W) fun b hb hS => ⟨⟨hS, hb⟩, hbW.block b hb⟩).self
  have hR := hR2 _ hself
  have hown : ∀ b, v.ownBlock = some b → b < wr.heap.size := fun b hb => hus.ownLt b hb
  have hkeep : ∀ b, b < W.heap.size → v.ownBlock ≠ some b → w2.heap[b]? = W.heap[b]? := fun b hb hne => hA2.block b hb hne
  have hlow : Below w.heap.size w w2 := by
    have h1 : Below w.heap.size w W := q.low.trans (hbW.mono hs)
    refine h1.trans ((hA2.only (S := fun b => w.heap.size ≤ b) (fun j hj => Nat.le_trans h1.size hj) (fun j hj => hself.own j hj |>.1.1)).below fun j hj => hj)
  have hv' : ∀ b, v'.ownBlock = some b → v.ownBlock = some b ∨ W.heap.size ≤ b := fun b hb => (hR.own b hb).imp (fun h => h.2) id
  refine ⟨hlow, us ++ [u], hR.carry fun b _ hS => ⟨?_, rfl⟩, fun j hj hc => ?_⟩
  · rcases hS with hS | hS
    · exact hS.1.1
    · exact Nat.le_trans hs (Nat.le_trans hbW.size hS)
  · have hul : us.length = k := by have := hus.len; omega
    by_cases hjk : j < k
    · obtain ⟨x, hx, hX⟩ := hac j hjk hc
      refine ⟨x, by rw [List.getElem?_append_left (by omega)]; exact hx, Acs.carry (fun b hb hT => ⟨⟨hT.1, fun e => ?_⟩, ?_⟩) hX⟩
      · rw [hkeep b (by have := hbW.size; omega) hT.2, hbW.block b hb]
      · rcases hv' b e with h | h
        · exact hT.2 h
        · have := hbW.size; omega
    · obtain rfl : j = k := by omega
      refine ⟨u, by rw [List.getElem?_append_right (by omega)]; simp [hul], Acs.carry (fun b hb hT => ⟨⟨by omega, fun e => ?_⟩, ?_⟩) hA⟩
      · rw [hkeep b (by have := hal.size; omega) (fun e => by have := hown b e; omega), hal.block b hb]
      · rcases hv' b e with h | h
        · have := hown b h; omega
        · have := hal.size; omega
set_option maxHeartbeats 6400000 in
set_option maxRecDepth 100000 in
theorem copied_any {T : Nat → Prop} {w : World} {v : Value} {c : List (List Ac)} (h : Cps T w v c) (hn : c.length < 1000000) (hm : cnt c < 1000000) :
    Calls Tryd.prog 13 #[v] w fun e w' => ∃ v', e = .returned v' ∧ Below w.heap.size w w' ∧ (Cps (fun b => w.heap.size ≤ b) w' v' c ∧ ∃ us, Rw (fun b => w.heap.size ≤ b) 1 45 w' v' c.length us ∧ ∀ j (hj : j < c.length), ∃ u, us[j]? = some u ∧ Acs (fun b => w.heap.size ≤ b ∧ v'.ownBlock ≠ some b) w' u c[j]) := by
  obtain ⟨ao, cap, rfl, -⟩ := h.form
  have H := hid h
  clear h
  go_enter Tryd.func13, Tryd.ntmps13
  go_upto_region 3 with fail
  go_loopw [3, 4] (fun s i wr => ∃ (k : Nat) (s' : Value), k ≤ c.length ∧ i = .int .i64 k ∧ s' = s ∧ Cpd w c k s' wr) (fun _ i _ => c.length - (intOf i).toNat)
  case atStart => exact ⟨0, _, by omega, rfl, rfl, Below.refl _ _, [], Rw.nil _ _ _ _, fun j hj => by omega⟩
  case round =>
    obtain ⟨k, s, hk, rfl, rfl, hq⟩ := hrel
    generalize wr = wx at *
    by_cases hlt : k < c.length
    · have hkl : decide ((k : Int) < (c.length : Int)) = true := decide_eq_true (by omega)
      obtain ⟨b, o, a1, c1, rfl, f0, -, -, hu⟩ := H.out.at hq.low hlt
      have hyl : c[k].length < 1000000 := by have := cnt_mem hlt; omega
      obtain ⟨us, hus, hac⟩ := hq.rw
      have hb0 : Below wx.heap.size wx (wx.alloc (.cells #[] 48)) := (Below.refl _ _).alloc (Nat.le_refl _) _
      have hu0 := Acs.on hu hb0
      have HSrc := hid (Acs.src hu0)
      have HFit := hid (Acs.fit hu)
      have HNx := hid (fun u w1 hb1 hA v' w2 hA2 hR2 => hq.next hlt u w1 hb1 hA (v' := v') (w2 := w2) hA2 us hR2 hus hac)
      have HUs := hid hus
      have HB0 := hid hb0
      obtain ⟨s3, k3, rfl⟩ := hus.form
      have hf1 : (wx.alloc (.cells #[] 48)).cell? ⟨b, o + k, none⟩ = some (.slice a1 c[k].length c1) := by rw [hb0.cell (p := ⟨b, o + k, none⟩) (cell_lt f0)]; exact f0
      clear hq hus hac hu hu0 hb0
      generalize c[k] = y at f0 hf1 hyl HSrc HFit HNx
      go_wp2_with (first
        | (at_builtin; refine appAll (v := .slice (some ⟨wx.heap.size, 0, none⟩) 0 0) (.tmp 12) (.tmp 16) 45 rfl rfl rfl rfl Tryd.underlying45 infoACT rfl (by omega) (by omega) (rw_empty (fun b => wx.heap.size ≤ b) 3 48 wx (Nat.le_refl _)) (acL_len y) HSrc.out.2 (acL_one y) (by omega) ?_
           intro u w1 hA1 hR1
           rw [Nat.zero_add, List.nil_append] at hR1
           have hb1 : Below wx.heap.size wx w1 := HB0.out.trans ((hA1.only (S := fun b => wx.heap.size ≤ b) (fun j hj => Nat.le_trans HB0.out.size hj) (fun j hj => by
             have e : wx.heap.size = j := by simpa [Value.ownBlock] using hj
             exact Nat.le_of_eq e)).below fun j hj => hj)
           have hAc := acs_of (hR1.carry (T := fun b => wx.heap.size ≤ b) fun b _ hS => ⟨hS.elim (fun h => h) (fun h => Nat.le_trans HB0.out.size h), rfl⟩) HFit.out (by omega)
           have HX := hid (HNx.out u w1 hb1 hAc)
           obtain ⟨s5, k5, rfl⟩ := hR1.form
           have HUw : Hid (Rw (fun _ => True) 1 45 (w1.alloc (.cells #[.slice s5 y.length k5] 45)) (.slice s3 k k3) k us) := HUs.out.carry fun b hb _ => ⟨trivial, by rw [Below.heap_alloc _ _ _ (by have := hb1.size; omega)]; exact hb1.block b hb⟩
           clear hA1 hR1 hb1 hAc HNx HSrc HFit)
        | (at_builtin; refine appRw (S := fun _ => True) (k := 1) (t := 45) (n := k) (m := 1) (c := 1) (xs := us) (us := [.slice s5 y.length k5]) (ad := ⟨w1.heap.size, 0, none⟩) (.tmp 11) (.tmp 18) 27 rfl rfl rfl rfl Tryd.underlying27 infoACTS rfl (by omega) (by omega) HUw.out rfl (fun j z hz => by
             obtain rfl : j = 0 := by have := (List.getElem?_eq_some_iff.1 hz).1; simp at this; omega
             rw [Addr.add_lit, Nat.zero_add, cell_of_row _ _ _ _ _ _ (heap_alloc_new _ _), ← hz]; rfl) (fun z hz => by simp at hz; subst hz; rfl) (by omega) (Or.inl (by omega)) ?_
           intro v2 w2 hA2 hR2
           have HQ := hid (HX.out v2 w2 hA2 hR2)
           obtain ⟨s6, k6, rfl⟩ := (hR2 _ HUw.out).form
           clear hA2 hR2 HX HUw))
      go_roundw
      case rel => exact ⟨k + 1, _, by omega, by go_num, rfl, HQ.out⟩
      case measure => simp [intOf]; omega
    · obtain rfl : k = c.length := by omega
      have hkl : decide ((c.length : Int) < (c.length : Int)) = false := by simp
      obtain ⟨us, hus, hac⟩ := hq.rw
      have HF : Hid (Below w.heap.size w wx ∧ (Cps (fun b => w.heap.size ≤ b) wx s c ∧ ∃ us, Rw (fun b => w.heap.size ≤ b) 1 45 wx s c.length us ∧ ∀ j (hj : j < c.length), ∃ u, us[j]? = some u ∧ Acs (fun b => w.heap.size ≤ b ∧ s.ownBlock ≠ some b) wx u c[j])) := by
        refine And.intro hq.low ⟨cps_of hus (fun j hj => ?_) (by omega) (fun b hb => hb), us, hus, fun j hj => hac j hj hj⟩
        obtain ⟨u, h1, h2⟩ := hac j hj hj
        exact ⟨u, h1, Acs.carry (fun b _ hT => ⟨hT.1, rfl⟩) h2⟩
      obtain ⟨s3, k3, rfl⟩ := hus.form
      clear hq hus hac
      go_wp2
      go_ret
      exact ⟨_, rfl, HF.out.1, HF.out.2⟩
end Go.Proofs.YtejmobkfanejbaaDoor
