/-
  Plain facts: an end of a line as a record, what Send, Tick, Take make of it, a datagram's bytes and how they are read; what was written is read. No program's function is spoken of.
-/
import Derived.Test.YtijjcopglbcoiaaC3
namespace Go.Proofs.Ytijjcopglbcoiaa
open Seal

/-- An end: its epoch; what was sent and is not got; how many are got, how many have come; what has come and was not told. -/
structure E where
  ep : Nat
  sent : List (List Int)
  got : Nat
  come : Nat
  new : List (List Int)

def E.mk0 (p : Nat) : E := ⟨p, [], 0, 0, []⟩
/-- What Send answers and makes. -/
def sdE (e : E) (b : List Int) : Int := if 8192 < b.length then 3 else if 4096 ≤ e.sent.length then 4 else 0
def sdS (e : E) (b : List Int) : E := if sdE e b = 0 then { e with sent := e.sent ++ [b] } else e
/-- The first messages that go into a datagram: at most k, s bytes are there already. -/
def wd : Nat → Nat → List (List Int) → List (List Int)
  | 0, _, _ => []
  | _ + 1, _, [] => []
  | k + 1, s, m :: r => if s + 2 + m.length ≤ 16384 then m :: wd k (s + 2 + m.length) r else []
def win (e : E) : List (List Int) := wd 32 14 e.sent
/-- Messages as bytes. -/
def flat : List (List Int) → List Int
  | [] => []
  | m :: r => dg m.length 2 ++ m ++ flat r
def bodyOf (p c g : Nat) (ms : List (List Int)) : List Int := dg p 4 ++ (dg c 4 ++ (dg g 4 ++ (dg ms.length 2 ++ flat ms)))
def body (e : E) : List Int := bodyOf e.ep e.come e.got (win e)
def dat (b : List Int) : List Int := b ++ four (crc b)
/-- What Tick tells. -/
def tkL (e : E) : List Int := dat (body e)
/-- Bytes as n messages. -/
def sp : Nat → List Int → Option (List (List Int))
  | 0, r => if r = [] then some [] else none
  | n + 1, r => if r.length < 2 then none else if 8192 < num (r.take 2) ∨ (r.length : Int) < 2 + num (r.take 2) then none else
      (sp n (r.drop (2 + (num (r.take 2)).toNat))).map ((r.drop 2).take (num (r.take 2)).toNat :: ·)
def fld (d : List Int) (a k : Nat) : Int := num ((d.drop a).take k)
def spl (d : List Int) : Option (List (List Int)) := if 32 < fld d 12 2 then none else sp (fld d 12 2).toNat (d.drop 14)
/-- Messages from the number f on come to an end. -/
def ad (e : E) (f : Nat) : List (List Int) → E
  | [] => e
  | m :: r => ad (if f = e.come then { e with new := e.new ++ [m], come := e.come + 1 } else e) (f + 1) r
def rs (e : E) (p : Nat) : E := if e.ep < p then E.mk0 p else e
def gt (e : E) (c : Nat) : E := if e.got < c ∧ c ≤ e.got + e.sent.length then { e with sent := e.sent.drop (c - e.got), got := c } else e
def hear (e : E) (p c f : Nat) (l : List (List Int)) : E := if p < e.ep then e else ad (gt (rs e p) c) f l
/-- What Take answers and makes. -/
def taE (b : List Int) : Int := if opE b = 0 then (if (opL b).length < 14 then 51 else if spl (opL b) = none then 70 else 0) else opE b
def taS (e : E) (b : List Int) : E := if taE b = 0 then hear e (fld (opL b) 0 4).toNat (fld (opL b) 4 4).toNat (fld (opL b) 8 4).toNat ((spl (opL b)).getD []) else e
def cmS (e : E) : E := { e with new := [] }

/-- All messages are bytes. -/
def AllB (l : List (List Int)) : Prop := ∀ m ∈ l, IsB m
theorem AllB.nil : AllB [] := fun _ h => by cases h
theorem AllB.cons {m : List Int} {l : List (List Int)} (h : IsB m) (hl : AllB l) : AllB (m :: l) := fun x hx => by
  rcases List.mem_cons.1 hx with rfl | hx
  · exact h
  · exact hl x hx
theorem AllB.app {a b : List (List Int)} (ha : AllB a) (hb : AllB b) : AllB (a ++ b) := fun x hx => by
  rcases List.mem_append.1 hx with hx | hx
  · exact ha x hx
  · exact hb x hx
theorem AllB.drop {l : List (List Int)} (h : AllB l) (k : Nat) : AllB (l.drop k) := fun x hx => h x (List.mem_of_mem_drop hx)
theorem AllB.take {l : List (List Int)} (h : AllB l) (k : Nat) : AllB (l.take k) := fun x hx => h x (List.mem_of_mem_take hx)
theorem wd_pre : ∀ (k s : Nat) (l : List (List Int)), wd k s l = l.take (wd k s l).length
  | 0, _, _ => by simp [wd]
  | _ + 1, _, [] => by simp [wd]
  | k + 1, s, m :: r => by
    unfold wd
    split
    · rw [List.length_cons, List.take_succ_cons, ← wd_pre k _ r]
    · simp
theorem wd_le : ∀ (k s : Nat) (l : List (List Int)), (wd k s l).length ≤ k
  | 0, _, _ => by simp [wd]
  | _ + 1, _, [] => by simp [wd]
  | k + 1, s, m :: r => by
    unfold wd
    split
    · rw [List.length_cons]; exact Nat.succ_le_succ (wd_le k _ r)
    · simp
theorem flat_len_cons (m : List Int) (r : List (List Int)) : (flat (m :: r)).length = 2 + m.length + (flat r).length := by
  simp [flat, dg_len]; omega
theorem wd_len : ∀ (k s : Nat) (l : List (List Int)), s ≤ 16384 → s + (flat (wd k s l)).length ≤ 16384
  | 0, _, _, h => by simp [wd, flat]; exact h
  | _ + 1, _, [], h => by simp [wd, flat]; exact h
  | k + 1, s, m :: r, h => by
    unfold wd
    split
    · rename_i h2
      have := wd_len k (s + 2 + m.length) r h2
      rw [flat_len_cons]; omega
    · simp [flat]; exact h
theorem win_le (e : E) : (win e).length ≤ 32 := wd_le _ _ _
theorem win_pre (e : E) : win e = e.sent.take (win e).length := wd_pre _ _ _
theorem bodyOf_len (p c g : Nat) (ms : List (List Int)) : (bodyOf p c g ms).length = 14 + (flat ms).length := by
  simp [bodyOf, dg_len]; omega
theorem body_len (e : E) : (body e).length ≤ 16384 := by
  unfold body; rw [bodyOf_len]; exact wd_len _ _ _ (by omega)
theorem flat_isB : ∀ {l : List (List Int)}, AllB l → IsB (flat l)
  | [], _ => IsB.nil
  | m :: _, h => ((dg_isB _ _).app (h m List.mem_cons_self)).app (flat_isB fun x hx => h x (List.mem_cons_of_mem _ hx))
theorem bodyOf_isB {p c g : Nat} {ms : List (List Int)} (h : AllB ms) : IsB (bodyOf p c g ms) := (dg_isB _ _).app ((dg_isB _ _).app ((dg_isB _ _).app ((dg_isB _ _).app (flat_isB h))))
theorem win_allB {e : E} (h : AllB e.sent) : AllB (win e) := by rw [win_pre]; exact h.take _
theorem dat_isB {b : List Int} (h : IsB b) : IsB (dat b) := h.app (four_isB _)
theorem dat_len (b : List Int) : (dat b).length = b.length + 4 := by simp [dat, four]
theorem tkL_isB {e : E} (h : AllB e.sent) : IsB (tkL e) := dat_isB (bodyOf_isB (win_allB h))
theorem tkL_len (e : E) : (tkL e).length ≤ 16388 := by have := body_len e; unfold tkL; rw [dat_len]; omega
theorem take_dg (n : Int) (k : Nat) (r : List Int) : (dg n k ++ r).take k = dg n k := by
  rw [List.take_append_of_le_length (by rw [dg_len]; exact Nat.le_refl _), List.take_of_length_le (by rw [dg_len]; exact Nat.le_refl _)]
theorem drop_dg (n : Int) (k : Nat) (r : List Int) : (dg n k ++ r).drop k = r := by
  rw [List.drop_append_of_le_length (by rw [dg_len]; exact Nat.le_refl _), List.drop_of_length_le (by rw [dg_len]; exact Nat.le_refl _)]; rfl
theorem num2 {n : Nat} (h : n < 65536) : num (dg (n : Int) 2) = n := num_dg (by omega) (by simp only [Nat.mul_comm]; omega)
theorem num4 {n : Nat} (h : n < 4294967296) : num (dg (n : Int) 4) = n := num_dg (by omega) (by simp only [Nat.mul_comm]; omega)
theorem sp_flat : ∀ {l : List (List Int)}, (∀ m ∈ l, m.length ≤ 8192) → sp l.length (flat l) = some l
  | [], _ => rfl
  | m :: r, h => by
    have hm := h m List.mem_cons_self
    have ih := sp_flat (l := r) fun x hx => h x (List.mem_cons_of_mem _ hx)
    have h1 : (flat (m :: r)).take 2 = dg m.length 2 := by
      show ((dg (m.length : Int) 2 ++ m) ++ flat r).take 2 = _
      rw [List.append_assoc, take_dg]
    have h2 : (flat (m :: r)).drop 2 = m ++ flat r := by
      show ((dg (m.length : Int) 2 ++ m) ++ flat r).drop 2 = _
      rw [List.append_assoc, drop_dg]
    have h3 : (flat (m :: r)).drop (2 + m.length) = flat r := by
      rw [← List.drop_drop, h2, List.drop_left]
    have hl := flat_len_cons m r
    rw [List.length_cons]
    unfold sp
    rw [h1, num2 (by omega), if_neg (by omega), if_neg (by omega), Int.toNat_natCast, h3, ih, h2, List.take_left]
    rfl
theorem spl_bodyOf {p c g : Nat} {ms : List (List Int)} (hl : ms.length ≤ 32) (hm : ∀ m ∈ ms, m.length ≤ 8192) : spl (bodyOf p c g ms) = some ms := by
  have e12 : (bodyOf p c g ms).drop 12 = dg ms.length 2 ++ flat ms := by
    unfold bodyOf
    rw [show (12 : Nat) = 4 + 4 + 4 from rfl, ← List.drop_drop, ← List.drop_drop, drop_dg, drop_dg, drop_dg]
  have e14 : (bodyOf p c g ms).drop 14 = flat ms := by
    rw [show (14 : Nat) = 12 + 2 from rfl, ← List.drop_drop, e12, drop_dg]
  unfold spl fld
  rw [e12, take_dg, num2 (by omega), if_neg (by omega), e14, Int.toNat_natCast, sp_flat hm]
theorem fld0 {p c g : Nat} {ms : List (List Int)} (h : p < 4294967296) : fld (bodyOf p c g ms) 0 4 = p := by
  unfold fld bodyOf; rw [List.drop_zero, take_dg, num4 h]
theorem fld4 {p c g : Nat} {ms : List (List Int)} (h : c < 4294967296) : fld (bodyOf p c g ms) 4 4 = c := by
  unfold fld bodyOf; rw [drop_dg, take_dg, num4 h]
theorem fld8 {p c g : Nat} {ms : List (List Int)} (h : g < 4294967296) : fld (bodyOf p c g ms) 8 4 = g := by
  unfold fld bodyOf; rw [show (8 : Nat) = 4 + 4 from rfl, ← List.drop_drop, drop_dg, drop_dg, take_dg, num4 h]
/-- A datagram that was written is read. -/
theorem take_dat {p c g : Nat} {ms : List (List Int)} (hB : AllB ms) (hl : ms.length ≤ 32) (hm : ∀ m ∈ ms, m.length ≤ 8192) (hp : p < 4294967296) (hc : c < 4294967296) (hg : g < 4294967296) (e : E) :
    taE (dat (bodyOf p c g ms)) = 0 ∧ taS e (dat (bodyOf p c g ms)) = hear e p c g ms := by
  have ho := open_seal (bodyOf_isB (p := p) (c := c) (g := g) hB)
  have hs := spl_bodyOf (p := p) (c := c) (g := g) hl hm
  have hlen := bodyOf_len p c g ms
  have h0 : taE (dat (bodyOf p c g ms)) = 0 := by
    unfold taE dat
    rw [ho.1, if_pos rfl, ho.2, if_neg (by omega), hs, if_neg (by simp)]
  refine ⟨h0, ?_⟩
  unfold taS
  rw [if_pos h0]
  unfold dat
  rw [ho.2, hs, fld0 hp, fld4 hc, fld8 hg]
  simp only [Int.toNat_natCast, Option.getD_some]
end Go.Proofs.Ytijjcopglbcoiaa
