/-
  Plain facts: an air's datagrams as data, what is done to them, what is told. No program is spoken of.
-/
import Derived.Test.YthgkmbdnkamcoaaL0
namespace Go.Proofs.Ythgkmbdnkamcoaa

structure Dg where
  b : List Int
  ch : Bool
  pl : Nat
/-- A byte turned about by 5a. -/
def x5a (x : Int) : Int := bits .xor .u8 x 90
def told (d : Dg) : List Int := if d.ch = true then d.b.set d.pl (x5a (d.b.getD d.pl 0)) else d.b
structure Ar where
  row : List Dg
  came : List Dg
def ar0 : Ar := ⟨[], []⟩
def putS (a : Ar) (b : List Int) : Ar := ⟨a.row ++ [⟨b, false, 0⟩], a.came⟩
def chg (d : Dg) (k : Int) : Dg := if d.ch = true ∨ d.b.length = 0 then d else ⟨d.b, true, (k.tmod d.b.length).toNat⟩
def bad (what at' : Int) : Prop := 4 < what ∨ at' < 0
instance (x y : Int) : Decidable (bad x y) := inferInstanceAs (Decidable (_ ∨ _))
def doE (a : Ar) (what at' : Int) : Int := if bad what at' then 2 else if a.row.length = 0 then 5 else 0
def plc (a : Ar) (at' : Int) : Nat := (at'.tmod a.row.length).toNat
def dz : Dg := ⟨[], false, 0⟩
def pick (a : Ar) (at' : Int) : Dg := a.row.getD (plc a at') dz
def doG (a : Ar) (what at' : Int) : Ar :=
  if what = 0 then ⟨a.row.eraseIdx (plc a at'), a.came ++ [pick a at']⟩
  else if what = 1 then ⟨a.row.eraseIdx (plc a at'), a.came⟩
  else if what = 2 then ⟨a.row ++ [pick a at'], a.came⟩
  else if what = 3 then ⟨a.row.set (plc a at') (chg (pick a at') (at'.tdiv a.row.length)), a.came⟩
  else ⟨a.row.eraseIdx (plc a at') ++ [pick a at'], a.came⟩
def doS (a : Ar) (what at' : Int) : Ar := if doE a what at' = 0 then doG a what at' else a
def cmS (a : Ar) : Ar := ⟨a.row, []⟩
/-- A datagram is well: bytes, and the changed place is one of them. -/
def Dg.Ok (d : Dg) : Prop := IsB d.b ∧ (d.ch = true → d.pl < d.b.length)
def Ar.Ok (a : Ar) : Prop := (∀ d ∈ a.row, d.Ok) ∧ ∀ d ∈ a.came, d.Ok
theorem plc_lt {a : Ar} {at' : Int} (h0 : 0 ≤ at') (hn : a.row.length ≠ 0) : plc a at' < a.row.length := by
  unfold plc
  have h1 := Int.tmod_nonneg (a.row.length : Int) h0
  have h2 := Int.tmod_lt_of_pos at' (show (0 : Int) < a.row.length by omega)
  omega
theorem x5a_bd {x : Int} (h0 : 0 ≤ x) (h1 : x < 256) : 0 ≤ x5a x ∧ x5a x < 256 ∧ x5a x ≠ x ∧ x5a (x5a x) = x := by
  have key : ∀ n : Fin 256, 0 ≤ x5a (n.val : Int) ∧ x5a (n.val : Int) < 256 ∧ x5a (n.val : Int) ≠ (n.val : Int) ∧ x5a (x5a (n.val : Int)) = (n.val : Int) := by decide +kernel
  have := key ⟨x.toNat, by omega⟩
  have e : ((x.toNat : Nat) : Int) = x := by omega
  simpa [e] using this
theorem told_len (d : Dg) : (told d).length = d.b.length := by
  unfold told; split <;> simp
theorem told_isB {d : Dg} (h : d.Ok) : IsB (told d) := by
  unfold told
  split
  · intro x hx
    rcases List.mem_or_eq_of_mem_set hx with hx | rfl
    · exact h.1 x hx
    · have := h.1.at d.pl
      have := x5a_bd this.1 this.2
      exact ⟨this.1, this.2.1⟩
  · exact h.1
theorem chg_ok {d : Dg} (h : d.Ok) (k : Int) (hk : 0 ≤ k) : (chg d k).Ok ∧ (chg d k).b = d.b := by
  unfold chg
  split
  · exact ⟨h, rfl⟩
  · rename_i hc
    refine ⟨⟨h.1, fun _ => ?_⟩, rfl⟩
    have h1 := Int.tmod_nonneg (d.b.length : Int) hk
    have h2 := Int.tmod_lt_of_pos k (show (0 : Int) < d.b.length by omega)
    simp only
    omega
theorem pick_mem {a : Ar} {at' : Int} (h0 : 0 ≤ at') (hn : a.row.length ≠ 0) : pick a at' ∈ a.row := by
  unfold pick
  rw [List.getD_eq_getElem?_getD, List.getElem?_eq_getElem (plc_lt h0 hn)]
  exact List.getElem_mem _
/-- What is there after something was done was there before, but for a change. -/
theorem doS_all {a : Ar} {P : Dg → Prop} (hr : ∀ d ∈ a.row, P d) (hc : ∀ d ∈ a.came, P d) (hg : ∀ d k, 0 ≤ k → P d → P (chg d k)) (what at' : Int) : (∀ d ∈ (doS a what at').row, P d) ∧ ∀ d ∈ (doS a what at').came, P d := by
  unfold doS
  split
  · rename_i hE
    have h0 : 0 ≤ at' ∧ a.row.length ≠ 0 := by
      unfold doE at hE
      split at hE
      · cases hE
      · rename_i hb
        split at hE
        · cases hE
        · exact ⟨by unfold bad at hb; omega, by omega⟩
    have hp := hr _ (pick_mem h0.1 h0.2)
    have he : ∀ d ∈ a.row.eraseIdx (plc a at'), P d := fun d hd => hr d (List.mem_of_mem_eraseIdx hd)
    have snoc : ∀ l : List Dg, (∀ d ∈ l, P d) → ∀ d ∈ l ++ [pick a at'], P d := fun l hl d hd => by
      rcases List.mem_append.1 hd with hd | hd
      · exact hl d hd
      · rw [List.mem_singleton.1 hd]; exact hp
    unfold doG
    split
    · exact ⟨he, snoc _ hc⟩
    · split
      · exact ⟨he, hc⟩
      · split
        · exact ⟨snoc _ hr, hc⟩
        · split
          · refine ⟨fun d hd => ?_, hc⟩
            rcases List.mem_or_eq_of_mem_set hd with hd | rfl
            · exact hr d hd
            · exact hg _ _ (Int.tdiv_nonneg h0.1 (Int.natCast_nonneg _)) hp
          · exact ⟨snoc _ he, hc⟩
  · exact ⟨hr, hc⟩
theorem Ar.Ok.put {a : Ar} (h : a.Ok) {b : List Int} (hb : IsB b) : (putS a b).Ok := by
  refine ⟨fun d hd => ?_, h.2⟩
  rcases List.mem_append.1 hd with hd | hd
  · exact h.1 d hd
  · rw [List.mem_singleton.1 hd]; exact ⟨hb, fun h => by cases h⟩
theorem Ar.Ok.done {a : Ar} (h : a.Ok) (what at' : Int) : (doS a what at').Ok := doS_all h.1 h.2 (fun _ k hk hd => (chg_ok hd k hk).1) what at'
theorem ar0_ok : ar0.Ok := ⟨(fun _ h => by cases h), (fun _ h => by cases h)⟩
/-- How many there are. -/
theorem doS_len (a : Ar) (what at' : Int) : (doS a what at').row.length ≤ a.row.length + 1 ∧ (doS a what at').came.length ≤ a.came.length + 1 := by
  unfold doS
  split
  · unfold doG
    have h1 := List.length_eraseIdx_le a.row (plc a at')
    split
    · exact ⟨by simp only; omega, by simp⟩
    · split
      · exact ⟨by simp only; omega, by simp⟩
      · split
        · exact ⟨by simp, by simp⟩
        · split
          · exact ⟨by simp, by simp⟩
          · exact ⟨by simp; omega, by simp⟩
  · exact ⟨by omega, by omega⟩
end Go.Proofs.Ythgkmbdnkamcoaa
