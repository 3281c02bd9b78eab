/-
  Plain facts: the header of a packet that asks or answers, its bytes, which packets ask or answer, what is read of them. No program is spoken of.
-/
import Derived.Test.YtioohgcaakcgaaaDoorU1
namespace Go.Proofs.YtioohgcaakcgaaaDoor
open Go.RowKit

/-- The header of a packet that asks or answers, out of its numbers. -/
def aH (s d f t : Int) : Nat → Int
  | 0 => s | 1 => d | 2 => 2054 | 4 => f | 5 => t | _ => 0
theorem aH_nn {s d f t : Int} (hs : 0 ≤ s) (hd : 0 ≤ d) (hf : 0 ≤ f) (ht : 0 ≤ t) : ∀ k, 0 ≤ aH s d f t k := by
  intro k; unfold aH; split <;> omega
/-- Both addresses have at most 48 bits. -/
def fit (s d : Int) : Bool := decide (s < 281474976710656) && decide (d < 281474976710656)
/-- Bounds of the four numbers. -/
structure Nums (s d f t : Int) : Prop where
  s0 : 0 ≤ s
  d0 : 0 ≤ d
  f0 : 0 ≤ f
  f1 : f < 4294967296
  t0 : 0 ≤ t
  t1 : t < 4294967296
theorem Nums.nn {s d f t : Int} (n : Nums s d f t) : ∀ k, 0 ≤ aH s d f t k := aH_nn n.s0 n.d0 n.f0 n.t0
theorem aH_ok {s d f t : Int} (n : Nums s d f t) : hOk (aH s d f t) = fit s d := by
  have h1 := n.f1
  have h2 := n.t1
  rw [Bool.eq_iff_iff, hOk_iff n.nn]
  simp [Vd, aH, fit]
  omega
theorem aH_err {s d f t op : Int} (n : Nums s d f t) (ho : op = 1 ∨ op = 2) : bErr (aH s d f t) [op] = if fit s d = true then 0 else 10 := by
  have hi : isOp [op] = true := by rcases ho with rfl | rfl <;> rfl
  unfold bErr
  rw [aH_ok n, hi]
  cases fit s d
  · simp
  · simp [ahead, show aH s d f t 2 = 2054 from rfl]
/-- The frame's bytes. -/
def frL (d s op f tg t : Int) : List Int := dg d 6 ++ (dg s 6 ++ (dg 2054 2 ++ (dg 1 2 ++ (dg 2048 2 ++ ([6, 4] ++ (dg op 2 ++ (dg s 6 ++ (dg f 4 ++ (dg tg 6 ++ dg t 4)))))))))
theorem dg_fix : dg 4429186564 6 = dg 1 2 ++ (dg 2048 2 ++ [6, 4]) := by decide
theorem frL_len (d s op f tg t : Int) : (frL d s op f tg t).length = 42 := by simp only [frL, List.length_append, dg_len]; rfl
theorem frL_isB (d s op f tg t : Int) : IsB (frL d s op f tg t) :=
  (dg_isB _ _).app ((dg_isB _ _).app ((dg_isB _ _).app ((dg_isB _ _).app ((dg_isB _ _).app ((isB_of (by decide)).app ((dg_isB _ _).app ((dg_isB _ _).app ((dg_isB _ _).app ((dg_isB _ _).app (dg_isB _ _))))))))))
theorem pkt_frL (s d f t op : Int) : pktL (aH s d f t) [op] = frL d s op f (if op = 1 then 0 else d) t := by
  have e2 : aH s d f t 2 = 2054 := rfl
  have e3 : aH s d f t 3 = 0 := rfl
  unfold pktL
  rw [if_pos e2]
  unfold ethL tagL arpL tgt
  rw [if_pos e3, e2, dg_fix]
  simp only [frL, List.append_assoc, List.nil_append, List.getD_cons_zero]
  rfl
theorem aH_out {s d f t op : Int} (n : Nums s d f t) (ho : op = 1 ∨ op = 2) : bOut (aH s d f t) [op] = if fit s d = true then frL d s op f (if op = 1 then 0 else d) t else [] := by
  unfold bOut
  rw [aH_err n ho, pkt_frL]
  cases fit s d <;> simp
/-- What build tells. -/
def blL (op s d f t : Int) : List Int := if fit s d = true then frL d s op f (if op = 1 then 0 else d) t else []
theorem aH_can {s d f t op : Int} (n : Nums s d f t) (ho : op = 1 ∨ op = 2) (hf : fit s d = true) : Can (aH s d f t) [op] :=
  can_of n.nn (IsB.cons (by omega) (by omega) IsB.nil) (by rw [aH_err n ho, if_pos hf])
/-- What is read of such a frame. -/
theorem aH_back {s d f t op : Int} (n : Nums s d f t) (ho : op = 1 ∨ op = 2) (hf : fit s d = true) (l : List Int) (hl : l = frL d s op f (if op = 1 then 0 else d) t) :
    prE l = 0 ∧ prB l = [op] ∧ ∀ k, k < 11 → prH l k = aH s d f t k := by
  subst hl
  obtain ⟨F, hF, hk⟩ := parse_build (aH_can n ho hf)
  rw [pkt_frL] at hF
  obtain ⟨e1, e2, e3⟩ := prE_some hF
  refine ⟨e1, e3, fun k hlt => ?_⟩
  rw [e2, hk k hlt]
  unfold bare
  split
  · rfl
  · have : k = 9 ∨ k = 10 := by omega
    rcases this with rfl | rfl <;> rfl

/-- A packet asks or answers. -/
def some4 (h : Nat → Int) (bs : List Int) : Bool := hOk h && (h 2 == 2054) && isOp bs
theorem bErr_some {h : Nat → Int} {bs : List Int} (h2 : h 2 = 2054) : (bErr h bs == 0) = some4 h bs := by
  unfold bErr some4
  cases h1 : hOk h
  · simp
  · cases h3 : isOp bs
    · simp [h2]
    · have hl : bs.length = 1 := by rcases isOp_one h3 with rfl | rfl <;> rfl
      simp [h2, ahead, hl]
theorem some4_not {h : Nat → Int} {bs : List Int} (h2 : ¬ h 2 = 2054) : some4 h bs = false := by simp [some4, h2]
/-- What Read tells: whether it asks, the address, the two numbers. -/
def rdA (h : Nat → Int) (bs : List Int) : Bool := some4 h bs && (bs.getD 0 0 == 1)
def rdN (h : Nat → Int) (bs : List Int) (k : Nat) : Int := if some4 h bs = true then h k else 0
theorem some4_parts {h : Nat → Int} {bs : List Int} (e : some4 h bs = true) : hOk h = true ∧ h 2 = 2054 ∧ (bs = [1] ∨ bs = [2]) := by
  simp only [some4, Bool.and_eq_true, beq_iff_eq] at e
  exact ⟨e.1.1, e.1.2, isOp_one e.2⟩
/-- What Answer tells: the error, the bytes. -/
def anOk (mac : Int) (h : Nat → Int) (bs : List Int) : Bool := rdA h bs && decide (mac < 281474976710656)
def anE (mac : Int) (h : Nat → Int) (bs : List Int) : Int := if anOk mac h bs = true then 0 else 30
def anL (mac : Int) (h : Nat → Int) (bs : List Int) : List Int := if anOk mac h bs = true then frL (h 0) mac 2 (h 5) (h 0) (h 4) else []
/-- What Ask tells. -/
def asL (mac f t : Int) : List Int := if mac < 281474976710656 then frL 281474976710655 mac 1 f 0 t else []
theorem asL_isB (mac f t : Int) : IsB (asL mac f t) := by
  unfold asL; split
  · exact frL_isB _ _ _ _ _ _
  · exact IsB.nil
theorem anL_isB (mac : Int) (h : Nat → Int) (bs : List Int) : IsB (anL mac h bs) := by
  unfold anL; split
  · exact frL_isB _ _ _ _ _ _
  · exact IsB.nil
theorem asL_len (mac f t : Int) : (asL mac f t).length ≤ 42 := by
  unfold asL; split
  · rw [frL_len]; omega
  · simp
theorem anL_len (mac : Int) (h : Nat → Int) (bs : List Int) : (anL mac h bs).length ≤ 42 := by
  unfold anL; split
  · rw [frL_len]; omega
  · simp
end Go.Proofs.YtioohgcaakcgaaaDoor
