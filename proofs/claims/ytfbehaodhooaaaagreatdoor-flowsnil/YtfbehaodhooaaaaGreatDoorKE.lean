/-
  Proved here: remove of package flows: the rules of a list are gone, their counts to their Cookies. Conditions: the list's rules are there, each once; fewer than 2 to 31 were added, and Cookies gone.
-/
import Derived.Test.YtfbehaodhooaaaaGreatDoorKD
namespace Go.Proofs.YtfbehaodhooaaaaGreatDoor
set_option maxRecDepth 100000
open Go.RowKit Go.Maps

/-- The rules but those of a list. -/
def rmL (es l : List Fe) : List Fe := l.foldl (fun es x => rmE es x.k) es
/-- What a list of rules has counted is gone. -/
def loL (G : Int → Option (Int × Int)) (l : List Fe) : Int → Option (Int × Int) := l.foldl (fun G x => adG G x.r.ck x.pk x.bt) G
theorem rmL_mem : ∀ {l es : List Fe} {x : Fe}, x ∈ rmL es l ↔ x ∈ es ∧ ∀ y ∈ l, x.k ≠ y.k
  | [], es, x => by simp [rmL]
  | a :: l, es, x => by
    have := rmL_mem (l := l) (es := rmE es a.k) (x := x)
    show x ∈ rmL (rmE es a.k) l ↔ _
    rw [this, rmE_mem]
    simp [and_assoc]
theorem rmL_snoc (es l : List Fe) (x : Fe) : rmL es (l ++ [x]) = rmE (rmL es l) x.k := by simp [rmL, List.foldl_append]
theorem loL_snoc (G : Int → Option (Int × Int)) (l : List Fe) (x : Fe) : loL G (l ++ [x]) = adG (loL G l) x.r.ck x.pk x.bt := by simp [loL, List.foldl_append]
/-- Where remove is, i rules being gone. -/
structure Rmv (S : Nat → Prop) (w : World) (g : Nat) (room ad : Int) (es : List Fe) (gs : List Ge) (l : List Fe) (i : Nat) (wr : World) : Prop where
  only : Only S w wr
  st : ∃ gs', Fl S wr g room ad (rmL es (l.take i)) gs' ∧ gfn gs' = loL (gfn gs) (l.take i) ∧ gs'.length ≤ gs.length + i
def RmP (S : Nat → Prop) (w : World) (g : Nat) (room ad : Int) (es : List Fe) (gs : List Ge) (l : List Fe) (e : Ending) (w' : World) : Prop :=
  e = .returned (.int .i64 (l.length : Nat)) ∧ Rmv S w g room ad es gs l l.length w'
theorem take_next {l : List Fe} {i : Nat} (hi : i < l.length) : l.take (i + 1) = l.take i ++ [l[i]] := by rw [List.take_add_one, List.getElem?_eq_getElem hi]; rfl
set_option maxHeartbeats 1600000 in
set_option maxRecDepth 100000 in
theorem remove_any {S R : Nat → Prop} (w : World) (g : Nat) (room ad : Int) (es : List Fe) (gs : List Ge) (h : Fl S w g room ad es gs) (hf : Fresh S w) (l : List Fe) (v : Value) (hR : Rw R 1 66 w v l.length (eps l)) (hRS : ∀ b, R b → ¬ S b) (hl : ∀ x ∈ l, x ∈ es) (hd : l.Pairwise fun a b => a.k ≠ b.k) (had : ad < 2147483640) (hgl : gs.length + l.length < 2147483648) :
    Calls Tryz.prog 31 #[pv g, v] w (RmP S w g room ad es gs l) := by
  obtain ⟨ao, cap, rfl⟩ := hR.form
  have HR := hid hR
  have HF0 : Hid (Rmv S w g room ad es gs l 0 w) := ⟨Only.refl _ _, gs, by simpa [rmL] using h, by simp [loL], by omega⟩
  have HL := hid (And.intro hl hd)
  have HD := hid hRS
  have HFr := hid hf
  have hlen : (l.length : Int) < 9223372036854775807 := by omega
  clear h hf hR hl hd hRS
  go_enter Tryz.func31, Tryz.ntmps31
  go_upto_region 2 with fail
  go_loopw [9] (fun i wr => ∃ k : Nat, k ≤ l.length ∧ i = .int .i64 k ∧ Rmv S w g room ad es gs l k wr) (fun i _ => l.length - (intOf i).toNat)
  case atStart => exact ⟨0, by omega, rfl, HF0.out⟩
  case round =>
    obtain ⟨k, hk, rfl, hrel⟩ := hrel
    generalize wr = wx at *
    have HV := hid hrel
    clear hrel HF0
    by_cases hlt : k < l.length
    · obtain ⟨x, hx⟩ : ∃ x, x = l[k] := ⟨_, rfl⟩
      have hxl : x ∈ l := hx ▸ List.getElem_mem hlt
      rcases HR.out with ⟨hxx, ⟨_, hz0⟩ | ⟨gl, o, cap', cur, he, hb1, hb2, hb3, hb4, hb5⟩⟩
      · omega
      obtain ⟨rfl, rfl⟩ : ao = some ⟨gl, o, none⟩ ∧ cap = cap' := by simpa using he
      have hgx : wx.heap[gl]? = some (.cells cur 66 (0, 0)) := (HV.out.only.block gl (HD.out gl hb1)).trans hb2
      have d0 : wx.cell? ⟨gl, o + k, none⟩ = some (pv x.p) := by
        rw [cell_of_row _ _ _ _ _ _ hgx]
        have := cells_at hb5 (j := k) (by omega)
        rw [eps_at l k hlt, ← hx] at this
        exact this
      obtain ⟨gs1, q1, q2, q3⟩ := HV.out.st
      have hxm : x ∈ rmL es (l.take k) := rmL_mem.2 ⟨HL.out.1 x hxl, fun y hy e => by
        obtain ⟨j, hj, rfl⟩ := List.getElem_of_mem hy
        rw [List.length_take] at hj
        rw [List.getElem_take] at e
        have := List.pairwise_iff_getElem.1 HL.out.2 j k (by omega) hlt (by omega)
        rw [← hx] at this
        exact this e.symm⟩
      have hfx : Fresh S wx := HFr.out.on HV.out.only.size
      have HLo := hid (lose_any wx g room ad _ gs1 q1 hfx x hxm (by omega))
      have HN : Hid (∀ w1 gs2, Only S wx w1 → Fl S w1 g room ad (rmL es (l.take k)) gs2 → gfn gs2 = adG (gfn gs1) x.r.ck x.pk x.bt → gs2.length ≤ gs1.length + 1 → Calls Tryz.prog 53 #[pv g, pv x.p] w1 fun e w2 => e = .returned (.tuple #[]) ∧ Rmv S w g room ad es gs l (k + 1) w2) := fun w1 gs2 hO1 hF1 hg1 hl1 =>
        (drop_any w1 g room ad _ gs2 hF1 (hfx.on hO1.size) x hxm had).mono fun e w2 ⟨h1, h2, h3⟩ => ⟨h1, (HV.out.only.trans hO1).trans h2, gs2, by rw [take_next hlt, ← hx, rmL_snoc]; exact h3, by rw [take_next hlt, ← hx, loL_snoc, hg1, q2], by omega⟩
      clear hxx he hb1 hb2 hb3 hb4 hb5 hgx q1 q2 q3 hxm hxl hx hfx
      go_wp2_with (first
        | (go_at_call 52; refine (HLo.out).mono ?_; rintro e w1 ⟨rfl, n1, gs2, n2, n3, n4⟩; have HNN := hid (HN.out w1 gs2 n1 n2 n3 n4); clear n1 n2 n3 n4 HLo)
        | (go_at_call 53; refine (HNN.out).mono ?_; rintro e w2 ⟨rfl, hv2⟩; have HV2 := hid hv2; clear hv2 HNN))
      go_roundw
      case rel => exact ⟨k + 1, by omega, by go_num, HV2.out⟩
      case measure => simp [intOf]; omega
    · obtain rfl : k = l.length := by omega
      go_wp2
      go_ret
      exact ⟨rfl, HV.out⟩
end Go.Proofs.YtfbehaodhooaaaaGreatDoor
