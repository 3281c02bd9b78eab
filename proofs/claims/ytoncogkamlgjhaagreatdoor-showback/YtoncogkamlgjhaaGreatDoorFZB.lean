/-
  Proved here: what Policy answers of a text, told apart, and that it stays. Condition: strconv's two errors are some.
-/
/-
  Proved here: wakes and ShowAgain of the statements say true. Conditions: the tables; the text is no longer than there can be.
-/
import Derived.Test.YtoncogkamlgjhaaGreatDoorFBL
import Derived.Test.YtoncogkamlgjhaaGreatDoorFZA
namespace Go.Proofs.YtoncogkamlgjhaaGreatDoor
set_option maxRecDepth 100000
open Go.RowKit
set_option maxRecDepth 100000

/-- What Policy answers, told apart. -/
theorem pol_ok {s : ByteArray} {p : Po} (w : World) (hT : Tab0 w) (hs : s.size ≤ 9223372036854775806) (hp : prs s = .ok p) : Calls Tryz.prog 6 #[.string s] w fun e w' => Below w.heap.size w w' ∧ ∃ cs, e = .returned (.tuple #[.agg cs, .nilIface]) ∧ PoV (fun b => w.heap.size ≤ b) w' p cs := by
  refine (policy_any s w hT hs).mono ?_
  intro e w' h
  unfold PlP at h
  rw [hp] at h
  exact h
theorem pol_no {s : ByteArray} {c a : Nat} {t : ByteArray} (w : World) (hT : Tab0 w) (hs : s.size ≤ 9223372036854775806) (hp : prs s = .no c a t) : Calls Tryz.prog 6 #[.string s] w fun e w' => Below w.heap.size w w' ∧ ∃ N, e = .returned (.tuple #[.agg #[.int .i8 0, .int .i8 0, .int .u64 0, .slice none 0 0, .slice none 0 0], .iface 54 (ptr N)]) ∧ w.heap.size ≤ N ∧ w'.heap[N]? = some (.cells (flc c a t) 56 (0, 0)) := by
  refine (policy_any s w hT hs).mono ?_
  intro e w' h
  unfold PlP at h
  rw [hp] at h
  exact h
theorem prs_all {s : ByteArray} {p : Po} (h : prs s = .ok p) : ∃ l, all s = .ok l := by
  unfold prs at h
  cases ha : all s with
  | ok l => exact ⟨l, rfl⟩
  | no c a t => rw [ha] at h; cases h
/-- what Policy told of a text, in memory -/
def Psd (s : ByteArray) (n : Nat) (cs : Array Value) (er : Value) (w : World) : Prop :=
  (∃ p, prs s = .ok p ∧ er = .nilIface ∧ n = p.qs.length ∧ PoV (fun _ => True) w p cs) ∨ (∃ N c a t, prs s = .no c a t ∧ er = .iface 54 (ptr N) ∧ w.heap[N]? = some (.cells (flc c a t) 56 (0, 0)))
theorem Psd.on {s : ByteArray} {n : Nat} {cs : Array Value} {er : Value} {w w' : World} (h : Psd s n cs er w) (hb : Below w.heap.size w w') : Psd s n cs er w' := by
  rcases h with ⟨p, h1, h2, h3, h4⟩ | ⟨N, c, a, t, h1, h2, h3⟩
  · exact Or.inl ⟨p, h1, h2, h3, h4.carry fun b hl _ => ⟨trivial, hb.block b hl⟩⟩
  · exact Or.inr ⟨N, c, a, t, h1, h2, (hb.block _ (Array.getElem?_eq_some_iff.1 h3).1).trans h3⟩
theorem pol_all (s : ByteArray) (w : World) (hT : Tab0 w) (hs : s.size ≤ 9223372036854775806) : Calls Tryz.prog 6 #[.string s] w fun e w' => Below w.heap.size w w' ∧ ∃ cs er ao n ca, e = .returned (.tuple #[.agg cs, er]) ∧ cs.size = 5 ∧ cs.all (·.oneCell') = true ∧ cs[4]? = some (.slice ao n ca) ∧ Psd s n cs er w' := by
  cases hp : prs s with
  | ok p =>
    refine (pol_ok w hT hs hp).mono ?_
    rintro e w' ⟨hb, cs, rfl, hpv⟩
    have hsz := hpv.size
    have hone := hpv.one
    have hpv' : PoV (fun _ => True) w' p cs := hpv.carry fun b _ _ => ⟨trivial, rfl⟩
    obtain ⟨ms, qv, xs, e1, h2, h3, -⟩ := hpv
    obtain ⟨ao, ca, rfl⟩ := h3.form
    refine ⟨hb, cs, .nilIface, ao, p.qs.length, ca, rfl, hsz, hone, ?_, Or.inl ⟨p, hp, rfl, rfl, hpv'⟩⟩
    rw [e1, Array.getElem?_append_right (by rw [h2.size]; decide), h2.size]
    rfl
  | no c a t =>
    refine (pol_no w hT hs hp).mono ?_
    rintro e w' ⟨hb, N, rfl, -, hN⟩
    exact ⟨hb, _, _, none, 0, 0, rfl, rfl, by kernel_rfl, rfl, Or.inr ⟨N, c, a, t, hp, rfl, hN⟩⟩
/-- a policy that was told, in a variable -/
structure PlS (s : ByteArray) (P n : Nat) (cs : Array Value) (er : Value) (w : World) : Prop where
  row : w.heap[P]? = some (.cells cs 29 (0, 0))
  told : Psd s n cs er w
theorem PlS.on {s : ByteArray} {P n : Nat} {cs : Array Value} {er : Value} {w w' : World} (h : PlS s P n cs er w) (hb : Below w.heap.size w w') : PlS s P n cs er w' :=
  ⟨(hb.block _ (Array.getElem?_eq_some_iff.1 h.row).1).trans h.row, h.told.on hb⟩
theorem PlS.new {s : ByteArray} {n : Nat} {cs : Array Value} {er : Value} {w : World} (h : Psd s n cs er w) : PlS s w.heap.size n cs er (w.alloc (.cells cs 29)) :=
  ⟨heap_alloc_new _ _, h.on ((Below.refl _ _).alloc (Nat.le_refl _) _)⟩
end Go.Proofs.YtoncogkamlgjhaaGreatDoor
namespace Go.Proofs.YtoncogkamlgjhaaGreatDoor
set_option maxRecDepth 100000
open Go.RowKit
set_option maxRecDepth 100000

mutual
theorem ti_inj : ∀ t t' : Tm, ti t = ti t' → t = t'
  | .mk op fd n ks, .mk op' fd' n' ks', h => by
    rw [ti, ti] at h
    injection h with h1 h2 h3 h4
    have := tis_inj ks ks' h4
    subst this
    rw [show op = op' by omega, show fd = fd' by omega, h3]
theorem tis_inj : ∀ ts ts' : List Tm, tis ts = tis ts' → ts = ts'
  | [], [], _ => rfl
  | [], t :: ts, h => by rw [tis, tis] at h; cases h
  | t :: ts, [], h => by rw [tis, tis] at h; cases h
  | t :: ts, t' :: ts', h => by
    rw [tis, tis] at h
    injection h with h1 h2
    rw [ti_inj t t' h1, tis_inj ts ts' h2]
end
theorem pi_inj {p q : Po} (h : pi p = pi q) : p = q := by
  obtain ⟨m, qs⟩ := p
  obtain ⟨m', qs'⟩ := q
  unfold pi at h
  injection h with h1 h2
  have hm := ti_inj _ _ h1
  have hq : ∀ a b : List Qy, (a.map fun q => (⟨q.nm, ti q.pd⟩ : Qi)) = b.map (fun q => ⟨q.nm, ti q.pd⟩) → a = b := by
    intro a
    induction a with
    | nil => intro b hb; cases b with
      | nil => rfl
      | cons y b => cases hb
    | cons x a ih => intro b hb; cases b with
      | nil => cases hb
      | cons y b =>
        rw [List.map_cons, List.map_cons] at hb
        injection hb with h3 h4
        injection h3 with h5 h6
        obtain ⟨xn, xp⟩ := x
        obtain ⟨yn, yp⟩ := y
        have h7 : xp = yp := ti_inj _ _ h6
        have h8 : xn = yn := h5
        rw [ih b h4, h7, h8]
  have h3 : m = m' := hm
  have h4 : qs = qs' := hq _ _ h2
  rw [h3, h4]
/-- a policy that is told -/
def okX (q : Po) : Prop := OkP q ∧ q.qs.length ≤ 32 ∧ (txt q).size ≤ 65536
theorem txt_po (q : Po) (cs : Array Value) (w : World) (h : PoV (fun b => b < w.heap.size) w q cs) (hT : TabS w) (hz : 9 ≤ w.heap.size) : Calls Tryz.prog 4 #[.agg cs] w fun e w' => Below w.heap.size w w' ∧ ((okX q ∧ e = .returned (.tuple #[.string (txt q), .int .i64 0])) ∨ (¬ okX q ∧ ∃ ec : Int, (ec == 0) = false ∧ e = .returned (.tuple #[.string ⟨#[]⟩, .int .i64 ec]))) := by
  refine (text_any (pi q) cs w (piV_of q cs h) hT hz).mono ?_
  rintro e w' ⟨hb, ⟨h1, rfl⟩ | ⟨q', he, h2, h3, h4⟩⟩
  · exact ⟨hb, Or.inr ⟨fun hx => h1 (okP_okI hx.1 hx.2.1), 170, by decide, rfl⟩⟩
  · obtain rfl := pi_inj he
    rcases h4 with ⟨h5, rfl⟩ | ⟨h5, rfl⟩
    · exact ⟨hb, Or.inr ⟨fun hx => by have := hx.2.2; omega, 3, by decide, rfl⟩⟩
    · exact ⟨hb, Or.inl ⟨⟨h2, h3, h5⟩, rfl⟩⟩
/-! what the document says of a short policy -/
abbrev tV : ByteArray := ⟨#[102, 105, 108, 116, 101, 114, 32, 112, 111, 114, 116, 61, 49, 59, 112, 111, 114, 116, 58, 61, 50, 43, 100, 114, 111, 112]⟩
abbrev pV : Po := ⟨ov 8 [ov 9 [ov 6 [.mk 2 9 1 []], .mk 7 9 2 []], ov 6 [ov 0 []]], []⟩
abbrev sV : ByteArray := ⟨#[102, 105, 108, 116, 101, 114, 32, 112, 111, 114, 116, 32, 61, 32, 49, 32, 59, 32, 112, 111, 114, 116, 32, 58, 61, 32, 50, 32, 43, 32, 100, 114, 111, 112, 10]⟩
theorem prs_V : prs tV = .ok pV := by kernel_rfl
theorem nb1 (n : Nat) (h : n < 10) : nbr 9 n = ⟨#[UInt8.ofNat (48 + n)]⟩ := by
  unfold nbr; rw [if_neg (by decide), if_neg (by decide), Lib.decDigits_one h]
theorem tks_V : tks pV.main = [tN Qfilter, tN Qport, tS Seq, tM 9 1, tS Ssemi, tN Qport, tS Sset, tM 9 2, tS Splus, tN Qdrop] := by
  simp [tks, tkk, tkF, Tm.op, ask, hld, sgT]
  rfl
theorem txt_V : txt pV = sV := by
  unfold txt allT
  rw [tks_V]
  unfold tM
  rw [nb1 1 (by decide), nb1 2 (by decide)]
  rfl
theorem okX_V : okX pV := by
  refine ⟨⟨by kernel_rfl, fun q hq => (by cases hq), fun q hq => (by cases hq), by kernel_rfl⟩, by decide, ?_⟩
  rw [txt_V]; decide
abbrev zq : Po := ⟨.mk 0 0 0 [], []⟩
theorem zq_v (w : World) : PoV (fun b => b < w.heap.size) w zq pz := ⟨tmc 0 0 0 nilS, nilS, [], rfl, TmV.leaf _ _ 0 0 0, Rw.nil _ _ _ _, rfl⟩
theorem zq_n : ¬ okX zq := fun h => by
  have h1 : okT false (.mk 0 0 0 []) = true := h.1.main
  have h2 : okT false (.mk 0 0 0 []) = false := by kernel_rfl
  rw [h2] at h1; cases h1
theorem txt_z (w : World) (hT : TabS w) (hz : 9 ≤ w.heap.size) : Calls Tryz.prog 4 #[.agg pz] w fun e w' => Below w.heap.size w w' ∧ e = .returned (.tuple #[.string ⟨#[]⟩, .int .i64 170]) := by
  refine (text_any (pi zq) pz w (piV_of zq pz (zq_v w)) hT hz).mono ?_
  rintro e w' ⟨hb, ⟨h1, rfl⟩ | ⟨q', he, h2, h3, h4⟩⟩
  · exact ⟨hb, rfl⟩
  · exfalso
    obtain rfl := pi_inj he
    have h1 : okT false (.mk 0 0 0 []) = true := h2.main
    have h2 : okT false (.mk 0 0 0 []) = false := by kernel_rfl
    rw [h2] at h1; cases h1
theorem row_rng7 {W : World} {P : Nat} {cs : Array Value} (h : W.heap[P]? = some (.cells cs 29 (0, 0))) : W.rangeAt P 0 cs.toList := fun j v hj => by
  rw [Nat.zero_add, cell_of_row _ _ _ _ _ _ h]; simpa using hj
set_option maxHeartbeats 3200000 in
theorem wwakes_any (w : World) (hT : TabS w) (hz : 9 ≤ w.heap.size) : Calls Tryz.prog 5 #[] w fun e w' => e = .returned (.bool true) ∧ Below w.heap.size w w' := by
  have HP := hid (pol_ok w hT.z (by decide) prs_V)
  have HT := hid hT
  clear hT
  go_enter Tryz.func5, Tryz.ntmps5
  go_upto_region 2 with (first
    | (go_at_call 6; refine (HP.out).mono ?_; rintro e W1 ⟨hb, cs, rfl, hv⟩; have HB1 := hid hb; have HV1 := hid hv; clear hb hv HP)
    | (refine stNew 29 (.tmp 1) (.tmp 9) rfl rfl W1 29 pz cs rfl rfl rfl HV1.out.info (by rw [HV1.out.size]; rfl) HV1.out.one ?_))
  have hb2 : Below w.heap.size w (W1.alloc (.cells cs 29)) := HB1.out.alloc HB1.out.size _
  have HB2 := hid hb2
  have HN2 : Hid ((W1.alloc (.cells cs 29)).heap[W1.heap.size]? = some (.cells cs 29 (0, 0))) := heap_alloc_new _ _
  have hv2 : PoV (fun b => b < (W1.alloc (.cells cs 29)).heap.size) (W1.alloc (.cells cs 29)) pV cs := HV1.out.carry fun b hb _ => ⟨by simp; omega, heap_alloc_old _ _ hb⟩
  have HTx : Hid (Calls Tryz.prog 4 #[.agg cs] (W1.alloc (.cells cs 29)) fun e w' => e = .returned (.tuple #[.string sV, .int .i64 0]) ∧ Below (W1.alloc (.cells cs 29)).heap.size (W1.alloc (.cells cs 29)) w') := (txt_po pV cs _ hv2 (HT.out.on hb2 hz) (by have := hb2.size; omega)).mono fun e w' ⟨h1, h2⟩ => by
    rcases h2 with ⟨-, h2⟩ | ⟨h2, -⟩
    · rw [txt_V] at h2; exact ⟨h2, h1⟩
    · exact absurd okX_V h2
  have HIn := hid HV1.out.info
  clear hb2 hv2 HB1 HV1
  generalize W1.alloc (.cells cs 29) = W2 at HB2 HN2 HTx ⊢
  have HTz : Hid (∀ W, Below w.heap.size w W → Calls Tryz.prog 4 #[.agg #[.int .i8 0, .int .i8 0, .int .u64 0, .slice none 0 0, .slice none 0 0]] W fun e w' => Below W.heap.size W w' ∧ e = .returned (.tuple #[.string ⟨#[]⟩, .int .i64 170])) := fun W hb => txt_z W (HT.out.on hb hz) (by have := hb.size; omega)
  go_upto_region 3 with (first
    | (refine ldRow 29 (.tmp 1) rfl rfl W1.heap.size rfl 29 cs _ Tryz.underlying29 rfl HIn.out HN2.out ?_)
    | (go_at_call 4; refine (HTx.out).mono ?_; rintro e W3 ⟨rfl, hw⟩; have HB3 := hid (HB2.out.trans (hw.mono HB2.out.size)); clear hw))
  have HTz3 := hid (HTz.out W3 HB3.out)
  clear HTx HN2 HTz
  go_wp2_with (go_at_call 4; refine (HTz3.out).mono ?_; rintro e W4 ⟨hw, rfl⟩; have HX := hid (HB3.out.trans (hw.mono HB3.out.size)); clear hw)
  go_ret
  exact ⟨rfl, HX.out⟩
end Go.Proofs.YtoncogkamlgjhaaGreatDoor
