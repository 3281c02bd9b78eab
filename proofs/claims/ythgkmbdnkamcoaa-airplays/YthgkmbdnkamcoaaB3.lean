/-
  Plain facts: the document's air as data (rdoS), and that it is the program's, told (raOf). No program is spoken of.
-/
import Derived.Test.YthgkmbdnkamcoaaB2
namespace Go.Proofs.Ythgkmbdnkamcoaa

def oz : On := ⟨[], false⟩
def rplc (a : Ra) (at' : Int) : Nat := (at'.tmod a.l.length).toNat
def rpick (a : Ra) (at' : Int) : On := a.l.getD (rplc a at') oz
def rdoE (a : Ra) (what at' : Int) : Int := if bad what at' then 2 else if a.l.length = 0 then 5 else 0
def rchg (x : On) (k : Int) : On := if x.ch = true ∨ x.b.length = 0 then x else ⟨x.b.set (k.tmod x.b.length).toNat (x5a (x.b.getD (k.tmod x.b.length).toNat 0)), true⟩
def rdoG (a : Ra) (what at' : Int) : Ra :=
  if what = 0 then ⟨a.l.eraseIdx (rplc a at'), a.n ++ [(rpick a at').b]⟩
  else if what = 1 then ⟨a.l.eraseIdx (rplc a at'), a.n⟩
  else if what = 2 then ⟨a.l ++ [rpick a at'], a.n⟩
  else if what = 3 then ⟨a.l.set (rplc a at') (rchg (rpick a at') (at'.tdiv a.l.length)), a.n⟩
  else ⟨a.l.eraseIdx (rplc a at') ++ [rpick a at'], a.n⟩
def rdoS (a : Ra) (what at' : Int) : Ra := if rdoE a what at' = 0 then rdoG a what at' else a
/-- A datagram as the document holds it. -/
def onOf (d : Dg) : On := ⟨told d, d.ch⟩
def raOf (a : Ar) : Ra := ⟨a.row.map onOf, a.came.map told⟩
theorem ra_put (a : Ar) (b : List Int) : raOf (putS a b) = rputS (raOf a) b := by
  unfold raOf putS rputS onOf
  simp [told]
theorem ra_came (a : Ar) : raOf (cmS a) = rcmS (raOf a) := rfl
theorem ra_len (a : Ar) : (raOf a).l.length = a.row.length := by simp [raOf]
theorem ra_doE (a : Ar) (x y : Int) : rdoE (raOf a) x y = doE a x y := by unfold rdoE doE; rw [ra_len]
theorem ra_plc (a : Ar) (y : Int) : rplc (raOf a) y = plc a y := by unfold rplc plc; rw [ra_len]
theorem ra_chg (d : Dg) (k : Int) : onOf (chg d k) = rchg (onOf d) k := by
  unfold chg rchg
  have hl : (onOf d).b.length = d.b.length := told_len d
  by_cases h : d.ch = true ∨ d.b.length = 0
  · rw [if_pos h, if_pos (by rw [hl]; exact h)]
  · have hc : d.ch = false := by
      cases e : d.ch with
      | false => rfl
      | true => exact absurd (Or.inl e) h
    have ht : told d = d.b := by unfold told; rw [hc]; rfl
    rw [if_neg h, if_neg (by rw [hl]; exact h), hl]
    unfold onOf
    simp only [ht]
    unfold told
    rw [if_pos rfl]
theorem ra_pick {a : Ar} {y : Int} (h0 : 0 ≤ y) (hn : a.row.length ≠ 0) : rpick (raOf a) y = onOf (pick a y) := by
  have hp := plc_lt h0 hn
  unfold rpick pick
  rw [ra_plc]
  simp only [raOf, List.getD_eq_getElem?_getD, List.getElem?_map, List.getElem?_eq_getElem hp]
  rfl
theorem ra_do (a : Ar) (x y : Int) : raOf (doS a x y) = rdoS (raOf a) x y := by
  unfold doS rdoS
  rw [ra_doE]
  by_cases h : doE a x y = 0
  · rw [if_pos h, if_pos h]
    have h0 : 0 ≤ y ∧ a.row.length ≠ 0 := by
      unfold doE at h
      split at h
      · cases h
      · rename_i hb
        split at h
        · cases h
        · exact ⟨by unfold bad at hb; omega, by omega⟩
    have hp := ra_pick h0.1 h0.2
    have hl := ra_plc a y
    have hlen := ra_len a
    have er : (raOf a).l = a.row.map onOf := rfl
    have en : (raOf a).n = a.came.map told := rfl
    unfold doG rdoG
    rw [hp, hl, hlen, er, en]
    by_cases e0 : x = 0
    · rw [if_pos e0, if_pos e0]
      unfold raOf
      simp only [map_erase, List.map_append, List.map_cons, List.map_nil]
      rfl
    · rw [if_neg e0, if_neg e0]
      by_cases e1 : x = 1
      · rw [if_pos e1, if_pos e1]
        unfold raOf
        simp only [map_erase]
      · rw [if_neg e1, if_neg e1]
        by_cases e2 : x = 2
        · rw [if_pos e2, if_pos e2]
          unfold raOf
          simp only [List.map_append, List.map_cons, List.map_nil]
        · rw [if_neg e2, if_neg e2]
          by_cases e3 : x = 3
          · rw [if_pos e3, if_pos e3]
            unfold raOf
            simp only [List.map_set, ra_chg]
          · rw [if_neg e3, if_neg e3]
            unfold raOf
            simp only [map_erase, List.map_append, List.map_cons, List.map_nil]
  · rw [if_neg h, if_neg h]
end Go.Proofs.Ythgkmbdnkamcoaa
