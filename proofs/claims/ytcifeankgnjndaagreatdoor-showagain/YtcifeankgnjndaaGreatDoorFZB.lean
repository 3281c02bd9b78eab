/-
  Proved here: wakes and ShowAgain of the statements say true. Conditions: the tables; the text is no longer than there can be.
-/
import Derived.Test.YtcifeankgnjndaaGreatDoorFZA
import Derived.Test.YtcifeankgnjndaaGreatDoorFW6
namespace Go.Proofs.YtcifeankgnjndaaGreatDoor
set_option maxRecDepth 100000
open Go.RowKit
set_option maxRecDepth 100000

mutual
theorem ti_inj : ∀ t t' : Tm, ti t = ti t' → t = t'
  | .mk op fd n ks, .mk op' fd' n' ks', h => by
    rw [ti, ti] at h
    injection h with h1 h2 h3 h4
    have := tis_inj ks ks' h4
    subst this
    rw [show op = op' by omega, show fd = fd' by omega, h3]
theorem tis_inj : ∀ ts ts' : List Tm, tis ts = tis ts' → ts = ts'
  | [], [], _ => rfl
  | [], t :: ts, h => by rw [tis, tis] at h; cases h
  | t :: ts, [], h => by rw [tis, tis] at h; cases h
  | t :: ts, t' :: ts', h => by
    rw [tis, tis] at h
    injection h with h1 h2
    rw [ti_inj t t' h1, tis_inj ts ts' h2]
end
theorem pi_inj {p q : Po} (h : pi p = pi q) : p = q := by
  obtain ⟨m, qs⟩ := p
  obtain ⟨m', qs'⟩ := q
  unfold pi at h
  injection h with h1 h2
  have hm := ti_inj _ _ h1
  have hq : ∀ a b : List Qy, (a.map fun q => (⟨q.nm, ti q.pd⟩ : Qi)) = b.map (fun q => ⟨q.nm, ti q.pd⟩) → a = b := by
    intro a
    induction a with
    | nil => intro b hb; cases b with
      | nil => rfl
      | cons y b => cases hb
    | cons x a ih => intro b hb; cases b with
      | nil => cases hb
      | cons y b =>
        rw [List.map_cons, List.map_cons] at hb
        injection hb with h3 h4
        injection h3 with h5 h6
        obtain ⟨xn, xp⟩ := x
        obtain ⟨yn, yp⟩ := y
        have h7 : xp = yp := ti_inj _ _ h6
        have h8 : xn = yn := h5
        rw [ih b h4, h7, h8]
  have h3 : m = m' := hm
  have h4 : qs = qs' := hq _ _ h2
  rw [h3, h4]
/-- a policy that is told -/
def okX (q : Po) : Prop := OkP q ∧ q.qs.length ≤ 32 ∧ (txt q).size ≤ 65536
theorem txt_po (q : Po) (cs : Array Value) (w : World) (h : PoV (fun b => b < w.heap.size) w q cs) (hT : TabS w) (hz : 10 ≤ w.heap.size) : Calls Tryz.prog 15 #[.agg cs] w fun e w' => Below w.heap.size w w' ∧ ((okX q ∧ e = .returned (.tuple #[.string (txt q), .int .i64 0])) ∨ (¬ okX q ∧ ∃ ec : Int, (ec == 0) = false ∧ e = .returned (.tuple #[.string ⟨#[]⟩, .int .i64 ec]))) := by
  refine (text_any (pi q) cs w ((piV_iff q cs).2 h) hT hz).mono ?_
  rintro e w' ⟨hb, ⟨h1, rfl⟩ | ⟨q', he, h2, h3, h4⟩⟩
  · exact ⟨hb, Or.inr ⟨fun hx => h1 (okP_okI hx.1 hx.2.1), 170, by decide, rfl⟩⟩
  · obtain rfl := pi_inj he
    rcases h4 with ⟨h5, rfl⟩ | ⟨h5, rfl⟩
    · exact ⟨hb, Or.inr ⟨fun hx => by have := hx.2.2; omega, 3, by decide, rfl⟩⟩
    · exact ⟨hb, Or.inl ⟨⟨h2, h3, h5⟩, rfl⟩⟩
/-! what the document says of a short policy -/
abbrev tV : ByteArray := ⟨#[102, 105, 108, 116, 101, 114, 32, 112, 111, 114, 116, 61, 49, 59, 112, 111, 114, 116, 58, 61, 50, 43, 100, 114, 111, 112]⟩
abbrev pV : Po := ⟨ov 8 [ov 9 [ov 6 [.mk 2 9 1 []], .mk 7 9 2 []], ov 6 [ov 0 []]], []⟩
abbrev sV : ByteArray := ⟨#[102, 105, 108, 116, 101, 114, 32, 112, 111, 114, 116, 32, 61, 32, 49, 32, 59, 32, 112, 111, 114, 116, 32, 58, 61, 32, 50, 32, 43, 32, 100, 114, 111, 112, 10]⟩
theorem prs_V : prs tV = .ok pV := by kernel_rfl
theorem nb1 (n : Nat) (h : n < 10) : nbr 9 n = ⟨#[UInt8.ofNat (48 + n)]⟩ := by
  unfold nbr; rw [if_neg (by decide), if_neg (by decide), Lib.decDigits_one h]
theorem tks_V : tks pV.main = [tN Qfilter, tN Qport, tS Seq, tM 9 1, tS Ssemi, tN Qport, tS Sset, tM 9 2, tS Splus, tN Qdrop] := by
  simp [tks, tkk, tkF, Tm.op, ask, hld, sgT]
  rfl
theorem txt_V : txt pV = sV := by
  unfold txt allT
  rw [tks_V]
  unfold tM
  rw [nb1 1 (by decide), nb1 2 (by decide)]
  rfl
theorem okX_V : okX pV := by
  refine ⟨⟨by kernel_rfl, fun q hq => (by cases hq), fun q hq => (by cases hq), by kernel_rfl⟩, by decide, ?_⟩
  rw [txt_V]; decide
abbrev zq : Po := ⟨.mk 0 0 0 [], []⟩
theorem zq_v (w : World) : PoV (fun b => b < w.heap.size) w zq pz := ⟨tmc 0 0 0 nilS, nilS, [], rfl, TmV.leaf _ _ 0 0 0, Rw.nil _ _ _ _, rfl⟩
theorem zq_n : ¬ okX zq := fun h => by
  have h1 : okT false (.mk 0 0 0 []) = true := h.1.main
  have h2 : okT false (.mk 0 0 0 []) = false := by kernel_rfl
  rw [h2] at h1; cases h1
theorem txt_z (w : World) (hT : TabS w) (hz : 10 ≤ w.heap.size) : Calls Tryz.prog 15 #[.agg pz] w fun e w' => Below w.heap.size w w' ∧ e = .returned (.tuple #[.string ⟨#[]⟩, .int .i64 170]) := by
  refine (text_any (pi zq) pz w ((piV_iff zq pz).2 (zq_v w)) hT hz).mono ?_
  rintro e w' ⟨hb, ⟨h1, rfl⟩ | ⟨q', he, h2, h3, h4⟩⟩
  · exact ⟨hb, rfl⟩
  · exfalso
    obtain rfl := pi_inj he
    have h1 : okT false (.mk 0 0 0 []) = true := h2.main
    have h2 : okT false (.mk 0 0 0 []) = false := by kernel_rfl
    rw [h2] at h1; cases h1
theorem row_rng7 {W : World} {P : Nat} {cs : Array Value} (h : W.heap[P]? = some (.cells cs 30 (0, 0))) : W.rangeAt P 0 cs.toList := fun j v hj => by
  rw [Nat.zero_add, cell_of_row _ _ _ _ _ _ h]; simpa using hj
set_option maxHeartbeats 3200000 in
theorem wwakes_any (w : World) (hT : TabS w) (hz : 10 ≤ w.heap.size) : Calls Tryz.prog 16 #[] w fun e w' => e = .returned (.bool true) ∧ Below w.heap.size w w' := by
  have HP := hid (pol_ok w hT.z (by decide) prs_V)
  have HT := hid hT
  clear hT
  go_enter Tryz.func16, Tryz.ntmps16
  go_upto_region 2 with (first
    | (go_at_call 9; refine (HP.out).mono ?_; rintro e W1 ⟨hb, cs, rfl, hv⟩; have HB1 := hid hb; have HV1 := hid hv; clear hb hv HP)
    | (refine stNew 30 (.tmp 1) (.tmp 9) rfl rfl W1 30 pz cs rfl rfl rfl HV1.out.info (by rw [HV1.out.size]; rfl) HV1.out.one ?_))
  have hb2 : Below w.heap.size w (W1.alloc (.cells cs 30)) := HB1.out.alloc HB1.out.size _
  have HB2 := hid hb2
  have HN2 : Hid ((W1.alloc (.cells cs 30)).heap[W1.heap.size]? = some (.cells cs 30 (0, 0))) := heap_alloc_new _ _
  have hv2 : PoV (fun b => b < (W1.alloc (.cells cs 30)).heap.size) (W1.alloc (.cells cs 30)) pV cs := HV1.out.carry fun b hb _ => ⟨by simp; omega, heap_alloc_old _ _ hb⟩
  have HTx : Hid (Calls Tryz.prog 15 #[.agg cs] (W1.alloc (.cells cs 30)) fun e w' => e = .returned (.tuple #[.string sV, .int .i64 0]) ∧ Below (W1.alloc (.cells cs 30)).heap.size (W1.alloc (.cells cs 30)) w') := (txt_po pV cs _ hv2 (HT.out.on hb2 hz) (by have := hb2.size; omega)).mono fun e w' ⟨h1, h2⟩ => by
    rcases h2 with ⟨-, h2⟩ | ⟨h2, -⟩
    · rw [txt_V] at h2; exact ⟨h2, h1⟩
    · exact absurd okX_V h2
  have HIn := hid HV1.out.info
  clear hb2 hv2 HB1 HV1
  generalize W1.alloc (.cells cs 30) = W2 at HB2 HN2 HTx ⊢
  have HTz : Hid (∀ W, Below w.heap.size w W → Calls Tryz.prog 15 #[.agg #[.int .i8 0, .int .i8 0, .int .u64 0, .slice none 0 0, .slice none 0 0]] W fun e w' => Below W.heap.size W w' ∧ e = .returned (.tuple #[.string ⟨#[]⟩, .int .i64 170])) := fun W hb => txt_z W (HT.out.on hb hz) (by have := hb.size; omega)
  go_upto_region 3 with (first
    | (refine ldRow 30 (.tmp 1) rfl rfl W1.heap.size rfl 30 cs _ Tryz.underlying30 rfl HIn.out HN2.out ?_)
    | (go_at_call 15; refine (HTx.out).mono ?_; rintro e W3 ⟨rfl, hw⟩; have HB3 := hid (HB2.out.trans (hw.mono HB2.out.size)); clear hw))
  have HTz3 := hid (HTz.out W3 HB3.out)
  clear HTx HN2 HTz
  go_wp2_with (go_at_call 15; refine (HTz3.out).mono ?_; rintro e W4 ⟨hw, rfl⟩; have HX := hid (HB3.out.trans (hw.mono HB3.out.size)); clear hw)
  go_ret
  exact ⟨rfl, HX.out⟩
set_option maxHeartbeats 6400000 in
theorem again_any (s : ByteArray) (w : World) (hT : TabS w) (hz : 10 ≤ w.heap.size) (hs : s.size ≤ 9223372036854775806) : Calls Tryz.prog 7 #[.string s] w fun e w' => e = .returned (.bool true) ∧ Below w.heap.size w w' := by
  have HWk : Hid (∀ W, Below w.heap.size w W → Calls Tryz.prog 16 #[] W fun e w' => e = .returned (.bool true) ∧ Below W.heap.size W w') := fun W hb => wwakes_any W (hT.on hb hz) (by have := hb.size; omega)
  have HT := hid hT
  cases hp : prs s with
  | no c a t =>
    have HP := hid (pol_no w hT.z hs hp)
    clear hT hp
    go_enter Tryz.func7, Tryz.ntmps7
    go_upto_region 2 with (go_at_call 9; refine (HP.out).mono ?_; rintro e W1 ⟨hb, N, rfl, -, -⟩; have HB1 := hid hb; clear hb HP)
    have HB2 : Hid (Below w.heap.size w (W1.alloc (.cells #[.int .i8 0, .int .i8 0, .int .u64 0, .slice none 0 0, .slice none 0 0] 30))) := HB1.out.alloc HB1.out.size _
    clear HB1
    generalize W1.alloc (.cells #[.int .i8 0, .int .i8 0, .int .u64 0, .slice none 0 0, .slice none 0 0] 30) = W2 at HB2 ⊢
    have HW2 := hid (HWk.out W2 HB2.out)
    go_wp2_with (go_at_call 16; refine (HW2.out).mono ?_; rintro e w' ⟨rfl, hw⟩; have HX := hid (HB2.out.trans (hw.mono HB2.out.size)); clear hw)
    go_ret
    exact ⟨rfl, HX.out⟩
  | ok p =>
    have HP := hid (pol_ok w hT.z hs hp)
    have HFit : Hid (fitsB p = true) := by
      unfold prs at hp
      cases ha : all s with
      | no c x t => rw [ha] at hp; cases hp
      | ok l =>
        rw [ha] at hp
        replace hp : rdW l = .ok p := hp
        unfold rdW at hp
        cases hf : fil l with
        | bad j => rw [hf] at hp; cases hp
        | ok p' j =>
          rw [hf] at hp
          replace hp : (if fitsB p' = true then Ans.ok p' else .no 200 0 ⟨#[]⟩) = .ok p := hp
          split at hp
          · rename_i hfit; cases hp; exact hfit
          · cases hp
    clear hT hp
    go_enter Tryz.func7, Tryz.ntmps7
    go_upto_region 2 with (first
      | (go_at_call 9; refine (HP.out).mono ?_; rintro e W1 ⟨hb, cs, rfl, hv⟩; have HB1 := hid hb; have HV1 := hid hv; clear hb hv HP)
      | (refine stNew 30 (.tmp 3) (.tmp 12) rfl rfl W1 30 pz cs rfl rfl rfl HV1.out.info (by rw [HV1.out.size]; rfl) HV1.out.one ?_))
    have hb2 : Below w.heap.size w (W1.alloc (.cells cs 30)) := HB1.out.alloc HB1.out.size _
    have HB2 := hid hb2
    have HN2 : Hid ((W1.alloc (.cells cs 30)).heap[W1.heap.size]? = some (.cells cs 30 (0, 0))) := heap_alloc_new _ _
    have hv2 : PoV (fun b => b < (W1.alloc (.cells cs 30)).heap.size) (W1.alloc (.cells cs 30)) p cs := HV1.out.carry fun b hb _ => ⟨by simp; omega, heap_alloc_old _ _ hb⟩
    have HV2 := hid hv2
    have HTx := hid (txt_po p cs _ hv2 (HT.out.on hb2 hz) (by have := hb2.size; omega))
    have HIn := hid HV1.out.info
    clear hb2 hv2 HB1 HV1
    generalize W1.alloc (.cells cs 30) = W2 at HB2 HN2 HTx HV2 ⊢
    generalize W1.heap.size = P1 at HN2 ⊢
    by_cases hx : okX p
    · have HTy : Hid (Calls Tryz.prog 15 #[.agg cs] W2 fun e w' => e = .returned (.tuple #[.string (txt p), .int .i64 0]) ∧ Below W2.heap.size W2 w') := HTx.out.mono fun e w' ⟨h1, h2⟩ => by
        rcases h2 with ⟨-, h2⟩ | ⟨h2, -⟩
        · exact ⟨h2, h1⟩
        · exact absurd hx h2
      have HPT := hid (prs_txt hx.1 hx.2.2)
      have HTs : Hid ((txt p).size ≤ 65536) := hx.2.2
      have HXX := hid hx
      clear HTx hx
      generalize hst : txt p = st at HTy HPT HTs
      have HST := hid hst
      clear hst
      go_upto_region 7 with (first
        | (refine ldRow 30 (.tmp 3) rfl rfl P1 rfl 30 cs _ Tryz.underlying30 rfl HIn.out HN2.out ?_)
        | (go_at_call 15; refine (HTy.out).mono ?_; rintro e W3 ⟨rfl, hw⟩; have HB3 := hid (HB2.out.trans (hw.mono HB2.out.size)); have HN3 := hid ((hw.block _ (Array.getElem?_eq_some_iff.1 HN2.out).1).trans HN2.out); have HV3 := hid (HV2.out.carry (T := fun b => b < W3.heap.size) (w' := W3) fun b hb _ => ⟨Nat.lt_of_lt_of_le hb hw.size, hw.block b hb⟩); clear hw))
      clear HTy HN2 HV2 HB2
      have HP4 := hid (pol_ok W3 (HT.out.on HB3.out hz).z (by have := HTs.out; omega) HPT.out)
      go_upto_region 8 with (first
        | (go_at_call 9; refine (HP4.out).mono ?_; rintro e W4 ⟨hb, ds, rfl, hv⟩; have HB4 := hid hb; have HV4 := hid hv; clear hb hv HP4)
        | (refine stNew 30 (.tmp 7) (.tmp 32) rfl rfl W4 30 pz ds rfl rfl rfl HV4.out.info (by rw [HV4.out.size]; rfl) HV4.out.one ?_))
      have hb5 : Below W3.heap.size W3 (W4.alloc (.cells ds 30)) := HB4.out.alloc HB4.out.size _
      have HB5 := hid (HB3.out.trans (hb5.mono HB3.out.size))
      have HN5 : Hid ((W4.alloc (.cells ds 30)).heap[W4.heap.size]? = some (.cells ds 30 (0, 0))) := heap_alloc_new _ _
      have HM5 := hid ((hb5.block _ (Array.getElem?_eq_some_iff.1 HN3.out).1).trans HN3.out)
      have HV5 : Hid (PoV (fun b => b < (W4.alloc (.cells ds 30)).heap.size) (W4.alloc (.cells ds 30)) p ds) := HV4.out.carry fun b hb _ => ⟨by simp; omega, heap_alloc_old _ _ hb⟩
      have HU5 : Hid (PoV (fun _ => True) (W4.alloc (.cells ds 30)) p cs) := HV3.out.carry fun b hb _ => ⟨trivial, hb5.block b hb⟩
      have HTx5 := hid (txt_po p ds _ HV5.out (HT.out.on HB5.out hz) (by have := HB5.out.size; omega))
      have HIn5 := hid HV4.out.info
      clear hb5 HB4 HV4 HB3 HN3 HV3
      generalize W4.alloc (.cells ds 30) = W5 at HB5 HN5 HM5 HV5 HU5 HTx5 ⊢
      generalize W4.heap.size = P2 at HN5 ⊢
      have HTy5 : Hid (Calls Tryz.prog 15 #[.agg ds] W5 fun e w' => e = .returned (.tuple #[.string st, .int .i64 0]) ∧ Below W5.heap.size W5 w') := HTx5.out.mono fun e w' ⟨h1, h2⟩ => by
        rcases h2 with ⟨-, h2⟩ | ⟨h2, -⟩
        · rw [HST.out] at h2; exact ⟨h2, h1⟩
        · exact absurd HXX.out h2
      clear HTx5 HXX HST
      go_upto_region 9 with (first
        | (refine ldRow 30 (.tmp 7) rfl rfl P2 rfl 30 ds _ Tryz.underlying30 rfl HIn5.out HN5.out ?_)
        | (go_at_call 15; refine (HTy5.out).mono ?_; rintro e W6 ⟨rfl, hw⟩; have HW6 := hid hw; clear hw))
      have HB6 := hid (HB5.out.trans (HW6.out.mono HB5.out.size))
      have HN6 := hid ((HW6.out.block _ (Array.getElem?_eq_some_iff.1 HN5.out).1).trans HN5.out)
      have HM6 := hid ((HW6.out.block _ (Array.getElem?_eq_some_iff.1 HM5.out).1).trans HM5.out)
      have HSm := hid (bsame_any p cs ds W6 HFit.out (HU5.out.carry fun b hb _ => ⟨trivial, HW6.out.block b hb⟩) (HV5.out.carry fun b hb _ => ⟨trivial, HW6.out.block b hb⟩))
      clear HTy5 HN5 HM5 HV5 HU5 HB5 HW6 HPT HTs
      go_wp2_with (first
        | (refine ldRow 30 (.tmp 3) rfl rfl P1 rfl 30 cs _ Tryz.underlying30 rfl HIn.out HM6.out ?_)
        | (refine ldRow 30 (.tmp 7) rfl rfl P2 rfl 30 ds _ Tryz.underlying30 rfl HIn5.out HN6.out ?_)
        | (go_at_call 18; refine (HSm.out).mono ?_; rintro e W7 ⟨rfl, hw⟩; have HB7 := hid (HB6.out.trans (hw.mono HB6.out.size)); have HW7 := hid (HWk.out W7 HB7.out); clear hw)
        | (go_at_call 16; refine (HW7.out).mono ?_; rintro e w' ⟨rfl, hw⟩; have HX := hid (HB7.out.trans (hw.mono HB7.out.size)); clear hw))
      go_ret
      exact ⟨rfl, HX.out⟩
    · have HTy : Hid (Calls Tryz.prog 15 #[.agg cs] W2 fun e w' => (∃ ec : Int, (ec == 0) = false ∧ e = .returned (.tuple #[.string ⟨#[]⟩, .int .i64 ec])) ∧ Below W2.heap.size W2 w') := HTx.out.mono fun e w' ⟨h1, h2⟩ => by
        rcases h2 with ⟨h2, -⟩ | ⟨-, h2⟩
        · exact absurd h2 hx
        · exact ⟨h2, h1⟩
      clear HTx hx
      go_upto_region 5 with (first
        | (refine ldRow 30 (.tmp 3) rfl rfl P1 rfl 30 cs _ Tryz.underlying30 rfl HIn.out HN2.out ?_)
        | (go_at_call 15; refine (HTy.out).mono ?_; rintro e W3 ⟨⟨ec, hec, rfl⟩, hw⟩; have HB3 := hid (HB2.out.trans (hw.mono HB2.out.size)); have HW3 := hid (HWk.out W3 HB3.out); clear hw))
      clear HTy HN2 HV2 HB2
      go_wp2_with (go_at_call 16; refine (HW3.out).mono ?_; rintro e w' ⟨rfl, hw⟩; have HX := hid (HB3.out.trans (hw.mono HB3.out.size)); clear hw)
      go_ret
      exact ⟨rfl, HX.out⟩
end Go.Proofs.YtcifeankgnjndaaGreatDoor
