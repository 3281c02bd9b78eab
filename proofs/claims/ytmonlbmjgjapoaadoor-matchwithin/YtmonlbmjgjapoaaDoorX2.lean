/-
  Proved here: the laws of matches on plain functions: what both hit, in any order, within, wide; each bit by itself. Condition: all numbers are of 64 bits.
-/
import Derived.Test.YtmonlbmjgjapoaaDoorX1
namespace Go.Proofs.YtmonlbmjgjapoaaDoor
open Go.RowKit

section
variable {a b c h : Nat → Int}
/-- The meeting is a match. -/
theorem or_ok (ha : Bd a) (hb : Bd b) (oa : mOk a = true) (ob : mOk b = true) : mOk (orF a b) = true := by
  rw [ok_iff (Bd.orF a b)]
  rw [ok_iff ha] at oa
  rw [ok_iff hb] at ob
  intro k hk
  simp only [bt_orF]
  refine ⟨fun i hi => by rw [(oa k hk).1 i hi, (ob k hk).1 i hi]; rfl, fun i => ?_⟩
  have h1 := (oa k hk).2 i
  have h2 := (ob k hk).2 i
  have key : ∀ va vb ma mb : Bool, (va && !ma) = false → (vb && !mb) = false → ((va || vb) && !(ma || mb)) = false := by decide
  exact key _ _ _ _ h1 h2
/-- It hits just what both hit. -/
theorem or_hit (ha : Bd a) (hb : Bd b) (hm : mtOk a b = true) : hit (orF a b) h = (hit a h && hit b h) := by
  obtain ⟨oa, ob, hc⟩ := (mtOk_iff a b).1 hm
  have oab := or_ok ha hb oa ob
  rw [Bool.eq_iff_iff, Bool.and_eq_true, hit_iff (Bd.orF a b), hit_iff ha, hit_iff hb]
  have ia := (ok_iff ha).1 oa
  have ib := (ok_iff hb).1 ob
  have key1 : ∀ x va vb ma mb : Bool, (va && !ma) = false → (vb && !mb) = false → ((va ^^ vb) && ma && mb) = false → (x && (ma || mb)) = (va || vb) → (x && ma) = va := by decide
  have key2 : ∀ x va vb ma mb : Bool, (va && !ma) = false → (vb && !mb) = false → ((va ^^ vb) && ma && mb) = false → (x && (ma || mb)) = (va || vb) → (x && mb) = vb := by decide
  have key3 : ∀ x va vb ma mb : Bool, (x && ma) = va → (x && mb) = vb → (x && (ma || mb)) = (va || vb) := by decide
  simp only [bt_orF]
  constructor
  · rintro ⟨_, hh⟩
    exact ⟨⟨oa, fun k hk i => key1 _ _ _ _ _ ((ia k hk).2 i) ((ib k hk).2 i) (hc k hk i) (hh k hk i)⟩, ob, fun k hk i => key2 _ _ _ _ _ ((ia k hk).2 i) ((ib k hk).2 i) (hc k hk i) (hh k hk i)⟩
  · rintro ⟨⟨_, h1⟩, _, h2⟩
    exact ⟨oab, fun k hk i => key3 _ _ _ _ _ (h1 k hk i) (h2 k hk i)⟩
/-- Where there is none, no header is hit by both. -/
theorem none_hit (ha : Bd a) (hb : Bd b) (hm : mtOk a b = false) : (hit a h && hit b h) = false := by
  rw [Bool.eq_false_iff]
  intro hh
  rw [Bool.and_eq_true, hit_iff ha, hit_iff hb] at hh
  obtain ⟨⟨oa, h1⟩, ob, h2⟩ := hh
  have : mtOk a b = true := (mtOk_iff a b).2 ⟨oa, ob, fun k hk i => by
    have key : ∀ x va vb ma mb : Bool, (x && ma) = va → (x && mb) = vb → ((va ^^ vb) && ma && mb) = false := by decide
    exact key _ _ _ _ _ (h1 k hk i) (h2 k hk i)⟩
  rw [this] at hm
  cases hm
/-- A header turned to a match's bits. -/
def turned (h m : Nat → Int) (n : Nat) : Nat → Int := fun k => if k < n then bits .or .u64 (bits .andNot .u64 (h k) (m (11 + k))) (m k) else h k
theorem bt_turned (h m : Nat → Int) (k i : Nat) (hk : k < 11) : bt (turned h m 11 k) i = (bt (h k) i && !bt (m (11 + k)) i || bt (m k) i) := by
  unfold turned
  rw [if_pos hk, bt_or, bt_andNot]
theorem turned_zero (h m : Nat → Int) : turned h m 0 = h := by
  funext k
  unfold turned
  rw [if_neg (by omega)]
theorem turned_step (h m : Nat → Int) (k : Nat) : upd (turned h m k) k (bits .or .u64 (bits .andNot .u64 (h k) (m (11 + k))) (m k)) = turned h m (k + 1) := by
  funext j
  by_cases e : j = k
  · subst e
    rw [upd_same]; unfold turned; rw [if_pos (by omega)]
  · rw [upd_other _ _ _ _ e]
    unfold turned
    by_cases h1 : j < k
    · rw [if_pos h1, if_pos (by omega)]
    · rw [if_neg h1, if_neg (by omega)]
theorem turned_at (h m : Nat → Int) (k : Nat) : turned h m k k = h k := by
  unfold turned; rw [if_neg (by omega)]
theorem Bd.turned (hh : Bd h) (m : Nat → Int) : Bd (turned h m 11) := fun k => by
  unfold YtmonlbmjgjapoaaDoor.turned
  by_cases e : k < 11
  · rw [if_pos e]; exact inB_or _ _
  · rw [if_neg e]; exact hh k
theorem turned_hit (ha : Bd a) (oa : mOk a = true) : hit a (turned h a 11) = true := by
  rw [hit_iff ha]
  refine ⟨oa, fun k hk i => ?_⟩
  rw [bt_turned _ _ _ _ hk]
  have key : ∀ x v m : Bool, (v && !m) = false → ((x && !m || v) && m) = v := by decide
  exact key _ _ _ (((ok_iff ha).1 oa k hk).2 i)
theorem both_hit (ha : Bd a) (hb : Bd b) (hm : mtOk a b = true) : hit a (turned h (orF a b) 11) = true ∧ hit b (turned h (orF a b) 11) = true := by
  obtain ⟨oa, ob, _⟩ := (mtOk_iff a b).1 hm
  have := turned_hit (h := h) (Bd.orF a b) (or_ok ha hb oa ob)
  rw [or_hit ha hb hm, Bool.and_eq_true] at this
  exact this

/-- Meeting goes both ways. -/
theorem mtOk_comm (a b : Nat → Int) : mtOk a b = mtOk b a := by
  rw [Bool.eq_iff_iff, mtOk_iff, mtOk_iff]
  have key : ∀ va vb ma mb : Bool, ((va ^^ vb) && ma && mb) = false → ((vb ^^ va) && mb && ma) = false := by decide
  constructor
  · rintro ⟨x, y, z⟩
    exact ⟨y, x, fun k hk i => key _ _ _ _ (z k hk i)⟩
  · rintro ⟨x, y, z⟩
    exact ⟨y, x, fun k hk i => key _ _ _ _ (z k hk i)⟩
theorem mt_comm (a b : Nat → Int) : eqM (mt a b) (mt b a) = true := by
  rw [eqM_bt (Bd.mt a b) (Bd.mt b a)]
  intro k _
  cases hm : mtOk a b
  · rw [mt_false hm, mt_false (by rw [mtOk_comm]; exact hm)]
    exact ⟨fun _ => rfl, fun _ => rfl⟩
  · rw [mt_true hm, mt_true (by rw [mtOk_comm]; exact hm)]
    simp only [bt_orF]
    exact ⟨fun i => Bool.or_comm _ _, fun i => Bool.or_comm _ _⟩
/-- With itself it is itself. -/
theorem mt_self (ha : Bd a) (oa : mOk a = true) : mtOk a a = true ∧ eqM (mt a a) a = true := by
  have h1 : mtOk a a = true := (mtOk_iff a a).2 ⟨oa, oa, fun k hk i => by
    have key : ∀ v m : Bool, ((v ^^ v) && m && m) = false := by decide
    exact key _ _⟩
  refine ⟨h1, ?_⟩
  rw [mt_true h1, eqM_bt (Bd.orF a a) ha]
  intro k _
  simp only [bt_orF, Bool.or_self]
  exact ⟨fun _ => trivial, fun _ => trivial⟩
theorem zf_ok : mOk zf = true := by
  rw [ok_iff Bd.zf]
  intro k _
  simp [zf, bt_zero]
/-- With the match that masks nothing it is the other one. -/
theorem mt_zero (ha : Bd a) (oa : mOk a = true) : mtOk a zf = true ∧ eqM (mt a zf) a = true := by
  have h1 : mtOk a zf = true := (mtOk_iff a zf).2 ⟨oa, zf_ok, fun k hk i => by simp [zf, bt_zero]⟩
  refine ⟨h1, ?_⟩
  rw [mt_true h1, eqM_bt (Bd.orF a zf) ha]
  intro k _
  simp [bt_orF, zf, bt_zero]
/-- Meeting goes in any order. -/
theorem mt_assoc_ok (ha : Bd a) (hb : Bd b) (hc : Bd c) : (mtOk a b && mtOk (mt a b) c) = (mtOk b c && mtOk a (mt b c)) := by
  rw [Bool.eq_iff_iff, Bool.and_eq_true, Bool.and_eq_true]
  have key : ∀ va vb vc ma mb mc : Bool, (va && !ma) = false → (vb && !mb) = false → (vc && !mc) = false → ((va ^^ vb) && ma && mb) = false → (((va || vb) ^^ vc) && (ma || mb) && mc) = false → ((vb ^^ vc) && mb && mc) = false ∧ ((va ^^ (vb || vc)) && ma && (mb || mc)) = false := by decide
  have key' : ∀ va vb vc ma mb mc : Bool, (va && !ma) = false → (vb && !mb) = false → (vc && !mc) = false → ((vb ^^ vc) && mb && mc) = false → ((va ^^ (vb || vc)) && ma && (mb || mc)) = false → ((va ^^ vb) && ma && mb) = false ∧ (((va || vb) ^^ vc) && (ma || mb) && mc) = false := by decide
  constructor
  · rintro ⟨h1, h2⟩
    rw [mt_true h1] at h2
    obtain ⟨oa, ob, x⟩ := (mtOk_iff a b).1 h1
    obtain ⟨_, oc, y⟩ := (mtOk_iff _ c).1 h2
    simp only [bt_orF] at y
    have K : ∀ k, k < 11 → ∀ i, _ := fun k hk i => key _ _ _ _ _ _ (((ok_iff ha).1 oa k hk).2 i) (((ok_iff hb).1 ob k hk).2 i) (((ok_iff hc).1 oc k hk).2 i) (x k hk i) (y k hk i)
    have h3 : mtOk b c = true := (mtOk_iff b c).2 ⟨ob, oc, fun k hk i => (K k hk i).1⟩
    refine ⟨h3, ?_⟩
    rw [mt_true h3]
    refine (mtOk_iff a _).2 ⟨oa, or_ok hb hc ob oc, fun k hk i => ?_⟩
    simp only [bt_orF]
    exact (K k hk i).2
  · rintro ⟨h1, h2⟩
    rw [mt_true h1] at h2
    obtain ⟨ob, oc, x⟩ := (mtOk_iff b c).1 h1
    obtain ⟨oa, _, y⟩ := (mtOk_iff a _).1 h2
    simp only [bt_orF] at y
    have K : ∀ k, k < 11 → ∀ i, _ := fun k hk i => key' _ _ _ _ _ _ (((ok_iff ha).1 oa k hk).2 i) (((ok_iff hb).1 ob k hk).2 i) (((ok_iff hc).1 oc k hk).2 i) (x k hk i) (y k hk i)
    have h3 : mtOk a b = true := (mtOk_iff a b).2 ⟨oa, ob, fun k hk i => (K k hk i).1⟩
    refine ⟨h3, ?_⟩
    rw [mt_true h3]
    refine (mtOk_iff _ c).2 ⟨or_ok ha hb oa ob, oc, fun k hk i => ?_⟩
    simp only [bt_orF]
    exact (K k hk i).2
theorem mt_assoc (ha : Bd a) (hb : Bd b) (hc : Bd c) (h : (mtOk a b && mtOk (mt a b) c) = true) : eqM (mt (mt a b) c) (mt a (mt b c)) = true := by
  have h' := h
  rw [mt_assoc_ok ha hb hc] at h'
  rw [Bool.and_eq_true] at h h'
  obtain ⟨h1, h2⟩ := h
  obtain ⟨h3, h4⟩ := h'
  rw [mt_true h2, mt_true h4, mt_true h1, mt_true h3, eqM_bt (Bd.orF _ _) (Bd.orF _ _)]
  intro k _
  simp only [bt_orF]
  exact ⟨fun i => Bool.or_assoc _ _ _, fun i => Bool.or_assoc _ _ _⟩

/-- Within just if the meeting is the one itself. -/
theorem und_mt (ha : Bd a) (hb : Bd b) : und a b = (mOk a && mOk b && mtOk a b && eqM (mt a b) a) := by
  rw [Bool.eq_iff_iff]
  simp only [Bool.and_eq_true]
  rw [und_iff hb]
  have k1 : ∀ va vb ma mb : Bool, (mb && !ma) = false → (va && mb) = vb → ((va ^^ vb) && ma && mb) = false := by decide
  have k2 : ∀ va vb mb : Bool, (va && mb) = vb → (va || vb) = va := by decide
  have k3 : ∀ ma mb : Bool, (mb && !ma) = false → (ma || mb) = ma := by decide
  have k4 : ∀ ma mb : Bool, (ma || mb) = ma → (mb && !ma) = false := by decide
  have k5 : ∀ va vb ma mb : Bool, (va && !ma) = false → (vb && !mb) = false → ((va ^^ vb) && ma && mb) = false → (va || vb) = va → (ma || mb) = ma → (va && mb) = vb := by decide
  constructor
  · rintro ⟨oa, ob, x⟩
    have hm : mtOk a b = true := (mtOk_iff a b).2 ⟨oa, ob, fun k hk i => k1 _ _ _ _ ((x k hk).1 i) ((x k hk).2 i)⟩
    refine ⟨⟨⟨oa, ob⟩, hm⟩, ?_⟩
    rw [mt_true hm, eqM_bt (Bd.orF a b) ha]
    intro k hk
    simp only [bt_orF]
    exact ⟨fun i => k2 _ _ _ ((x k hk).2 i), fun i => k3 _ _ ((x k hk).1 i)⟩
  · rintro ⟨⟨⟨oa, ob⟩, hm⟩, he⟩
    rw [mt_true hm, eqM_bt (Bd.orF a b) ha] at he
    simp only [bt_orF] at he
    obtain ⟨_, _, y⟩ := (mtOk_iff a b).1 hm
    exact ⟨oa, ob, fun k hk => ⟨fun i => k4 _ _ ((he k hk).2 i), fun i => k5 _ _ _ _ (((ok_iff ha).1 oa k hk).2 i) (((ok_iff hb).1 ob k hk).2 i) (y k hk i) ((he k hk).1 i) ((he k hk).2 i)⟩⟩
theorem und_hit (ha : Bd a) (hb : Bd b) (hu : und a b = true) (hh : hit a h = true) : hit b h = true := by
  obtain ⟨oa, ob, x⟩ := (und_iff hb).1 hu
  obtain ⟨_, y⟩ := (hit_iff ha).1 hh
  refine (hit_iff hb).2 ⟨ob, fun k hk i => ?_⟩
  have key : ∀ z va vb ma mb : Bool, (mb && !ma) = false → (va && mb) = vb → (z && ma) = va → (z && mb) = vb := by decide
  exact key _ _ _ _ _ ((x k hk).1 i) ((x k hk).2 i) (y k hk i)
theorem und_trans (hb : Bd b) (hc : Bd c) (h1 : und a b = true) (h2 : und b c = true) : und a c = true := by
  obtain ⟨oa, ob, x⟩ := (und_iff hb).1 h1
  obtain ⟨_, oc, y⟩ := (und_iff hc).1 h2
  refine (und_iff hc).2 ⟨oa, oc, fun k hk => ⟨fun i => ?_, fun i => ?_⟩⟩
  · have key : ∀ ma mb mc : Bool, (mb && !ma) = false → (mc && !mb) = false → (mc && !ma) = false := by decide
    exact key _ _ _ ((x k hk).1 i) ((y k hk).1 i)
  · have key : ∀ va vb vc mb mc : Bool, (va && mb) = vb → (mc && !mb) = false → (vb && mc) = vc → (va && mc) = vc := by decide
    exact key _ _ _ _ _ ((x k hk).2 i) ((y k hk).1 i) ((y k hk).2 i)
theorem und_anti (ha : Bd a) (hb : Bd b) (h1 : und a b = true) (h2 : und b a = true) : eqM a b = true := by
  obtain ⟨oa, ob, x⟩ := (und_iff hb).1 h1
  obtain ⟨_, _, y⟩ := (und_iff ha).1 h2
  rw [eqM_bt ha hb]
  intro k hk
  have k1 : ∀ ma mb : Bool, (mb && !ma) = false → (ma && !mb) = false → ma = mb := by decide
  have k2 : ∀ va vb ma mb : Bool, (va && !ma) = false → (vb && !mb) = false → (mb && !ma) = false → (ma && !mb) = false → (va && mb) = vb → va = vb := by decide
  exact ⟨fun i => k2 _ _ _ _ (((ok_iff ha).1 oa k hk).2 i) (((ok_iff hb).1 ob k hk).2 i) ((x k hk).1 i) ((y k hk).1 i) ((x k hk).2 i), fun i => k1 _ _ ((x k hk).1 i) ((y k hk).1 i)⟩
end
end Go.Proofs.YtmonlbmjgjapoaaDoor
