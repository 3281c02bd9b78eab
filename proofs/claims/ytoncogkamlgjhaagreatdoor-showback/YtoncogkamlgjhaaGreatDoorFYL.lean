/-
  Proved here: line of package show tells a term's words in a line. Conditions: the tables.
-/
/-
  Proved here: Text of package show tells a policy's text, or why it has none. Conditions: the tables; the policy lies in old memory.
-/
import Derived.Test.YtoncogkamlgjhaaGreatDoorFYJ
import Derived.Test.YtoncogkamlgjhaaGreatDoorFYE
namespace Go.Proofs.YtoncogkamlgjhaaGreatDoor
set_option maxRecDepth 100000
open Go.RowKit Go.Lib
set_option maxRecDepth 100000

/-! lengths -/
structure PT (P : Tk → Prop) : Prop where
  nm : ∀ f, f ≤ 10 → P (tN (fnm f))
  mm : ∀ f n, f ≤ 10 → n < 2 ^ wdt f → P (tM f n)
  sg : ∀ q ∈ [Seq, Sset, Sand, Sor, Splus, Ssemi, Slp, Srp, Snot, Sstar], P (tS q)
  kw : ∀ q ∈ [Qfalse, Qtrue, Qid, Qdrop, Qfilter], P (tN q)
theorem pA {P : Tk → Prop} (hP : PT P) {a : Nat} {k : Tm} (h : ∀ x ∈ tks k, P x) : ∀ x ∈ tkA a k, P x := by
  intro x hx
  unfold tkA at hx
  split at hx
  · exact h x hx
  · rcases List.mem_cons.1 hx with rfl | hx
    · exact hP.sg _ (by simp)
    · rcases List.mem_append.1 hx with hx | hx
      · exact h x hx
      · rw [List.mem_singleton.1 hx]; exact hP.sg _ (by simp)
theorem pK {P : Tk → Prop} (hP : PT P) {op : Nat} (hs : op = 4 ∨ op = 5 ∨ op = 8 ∨ op = 9) : ∀ {b : Bool} {ks : List Tm}, (∀ k ∈ ks, ∀ x ∈ tks k, P x) → ∀ x ∈ tkk op b ks, P x
  | b, [], _, x, hx => by rw [tkk_nil] at hx; cases hx
  | true, k :: ks, h, x, hx => by
    rw [tkk_cons] at hx
    rcases List.mem_append.1 hx with hx | hx
    · exact pA hP (h k (List.mem_cons_self ..)) x hx
    · exact pK hP hs (b := false) (fun k' hk' => h k' (List.mem_cons_of_mem _ hk')) x hx
  | false, k :: ks, h, x, hx => by
    rw [tkk_more] at hx
    rcases List.mem_cons.1 hx with rfl | hx
    · rcases hs with rfl | rfl | rfl | rfl <;> exact hP.sg _ (by simp [sgT])
    · rcases List.mem_append.1 hx with hx | hx
      · exact pA hP (h k (List.mem_cons_self ..)) x hx
      · exact pK hP hs (b := false) (fun k' hk' => h k' (List.mem_cons_of_mem _ hk')) x hx
mutual
theorem p_tks {P : Tk → Prop} (hP : PT P) : ∀ (t : Tm) (b : Bool), okT b t = true → ∀ x ∈ tks t, P x
  | .mk op fd n ks, b, h => by
    obtain ⟨h1, h2, h3⟩ := okT_shape h
    have hK := p_tkl hP ks _ h2
    rcases h3 with ⟨ho, hf, hn, rfl⟩ | ⟨rfl, rfl, ⟨ho, rfl⟩ | ⟨ho, k, rfl⟩ | ⟨ho, k1, k2, r, rfl⟩⟩
    · intro x hx
      have e : tks (.mk op fd n []) = [tN (fnm fd), tS (sgT op), tM fd n] := by
        rw [tks]
        rcases ho with rfl | rfl <;> rfl
      rw [e] at hx
      simp only [List.mem_cons, List.not_mem_nil, or_false] at hx
      rcases hx with rfl | rfl | rfl
      · exact hP.nm _ hf
      · rcases ho with rfl | rfl <;> exact hP.sg _ (by simp [sgT])
      · exact hP.mm _ _ hf hn
    · have : op = 0 ∨ op = 1 := by omega
      intro x hx
      rcases this with rfl | rfl
      · rw [show tks (.mk 0 0 0 []) = [tN Qfalse] by rw [tks]; rfl, List.mem_singleton] at hx
        subst hx; exact hP.kw _ (by simp)
      · rw [show tks (.mk 1 0 0 []) = [tN Qtrue] by rw [tks]; rfl, List.mem_singleton] at hx
        subst hx; exact hP.kw _ (by simp)
    · have hk := hK k (List.mem_singleton.2 rfl)
      intro x hx
      rcases ho with rfl | rfl | rfl
      · rw [show tks (.mk 3 0 0 [k]) = tS Snot :: tkA 2 k by rw [tks, tkk_one]; rfl] at hx
        rcases List.mem_cons.1 hx with rfl | hx
        · exact hP.sg _ (by simp)
        · exact pA hP hk x hx
      · rw [show tks (.mk 6 0 0 [k]) = if k.op = 1 then [tN Qid] else if k.op = 0 then [tN Qdrop] else tN Qfilter :: tks k by
          rw [tks, if_neg (by decide), if_neg (by decide), if_neg (by decide), if_neg (by decide), if_pos rfl, tkk_one, show tkA (ask 6) k = tks k from if_pos (Nat.zero_le _), tkF]] at hx
        split at hx
        · rw [List.mem_singleton.1 hx]; exact hP.kw _ (by simp)
        · split at hx
          · rw [List.mem_singleton.1 hx]; exact hP.kw _ (by simp)
          · rcases List.mem_cons.1 hx with rfl | hx
            · exact hP.kw _ (by simp)
            · exact hk x hx
      · rw [show tks (.mk 10 0 0 [k]) = tkA 3 k ++ [tS Sstar] by
          rw [tks, if_neg (by decide), if_neg (by decide), if_neg (by decide), if_neg (by decide), if_neg (by decide), if_pos rfl, tkk_one]; rfl] at hx
        rcases List.mem_append.1 hx with hx | hx
        · exact pA hP hk x hx
        · rw [List.mem_singleton.1 hx]; exact hP.sg _ (by simp)
    · intro x hx
      rw [tks_op ho] at hx
      exact pK hP ho hK x hx
theorem p_tkl {P : Tk → Prop} (hP : PT P) : ∀ (ks : List Tm) (b : Bool), okK b ks = true → ∀ k ∈ ks, ∀ x ∈ tks k, P x
  | [], _, _, k, hk => by cases hk
  | a :: ks, b, h, k, hk => by
    rw [okK, Bool.and_eq_true] at h
    rcases List.mem_cons.1 hk with e | hk
    · rw [e]; exact p_tks hP a b h.1
    · exact p_tkl hP ks b h.2 k hk
end
abbrev Sh (x : Tk) : Prop := x.t.data.toList.length ≤ 40
theorem nd_20 {n : Nat} (h : n < 18446744073709551616) : (decDigits n).length ≤ 20 := by
  rw [decDigits_length]
  rcases Nat.eq_zero_or_pos n with e | e
  · rw [e, nDigits_small (by decide)]; decide
  · have := Lib.numDigits_eq n e h; split at this <;> omega
theorem pSh : PT Sh := by
  refine ⟨fun f hf => ?_, fun f n hf hn => ?_, fun q hq => ?_, fun q hq => ?_⟩
  · have : f = 0 ∨ f = 1 ∨ f = 2 ∨ f = 3 ∨ f = 4 ∨ f = 5 ∨ f = 6 ∨ f = 7 ∨ f = 8 ∨ f = 9 ∨ f = 10 := by omega
    rcases this with rfl | rfl | rfl | rfl | rfl | rfl | rfl | rfl | rfl | rfl | rfl <;> decide
  · show (nbr f n).data.toList.length ≤ 40
    unfold nbr
    split
    · show (pairs6 _ _ _ _ _ _).length ≤ 40
      simp [pairs6, two]
    · split
      · show (dots _ _ _ _).length ≤ 40
        have h1 := dd_three (nb_lt n 3)
        have h2 := dd_three (nb_lt n 2)
        have h3 := dd_three (nb_lt n 1)
        have h4 := dd_three (nb_lt n 0)
        simp [dots]; omega
      · show (decDigits n).length ≤ 40
        have hn64 : n < 18446744073709551616 := Nat.lt_of_lt_of_le hn (Nat.le_trans (Nat.pow_le_pow_right (by decide) (show wdt f ≤ 64 by unfold wdt; split <;> decide)) (by decide))
        have := nd_20 hn64
        omega
  · simp only [List.mem_cons, List.not_mem_nil, or_false] at hq
    rcases hq with rfl | rfl | rfl | rfl | rfl | rfl | rfl | rfl | rfl | rfl <;> decide
  · simp only [List.mem_cons, List.not_mem_nil, or_false] at hq
    rcases hq with rfl | rfl | rfl | rfl | rfl <;> decide
theorem tks_pos {b : Bool} {t : Tm} (h : okT b t = true) : 0 < (tks t).length := by
  obtain ⟨op, fd, n, ks⟩ := t
  obtain ⟨h1, h2, h3⟩ := okT_shape h
  rcases h3 with ⟨ho, hf, hn, rfl⟩ | ⟨rfl, rfl, ⟨ho, rfl⟩ | ⟨ho, k, rfl⟩ | ⟨ho, k1, k2, r, rfl⟩⟩
  · rw [tks]; rcases ho with rfl | rfl <;> exact Nat.zero_lt_succ _
  · have : op = 0 ∨ op = 1 := by omega
    rw [tks]; rcases this with rfl | rfl <;> exact Nat.zero_lt_succ _
  · rcases ho with rfl | rfl | rfl
    · rw [tks]; exact Nat.zero_lt_succ _
    · rw [tks_6, tkF]; split
      · exact Nat.zero_lt_succ _
      · split <;> exact Nat.zero_lt_succ _
    · rw [tks, if_neg (by decide), if_neg (by decide), if_neg (by decide), if_neg (by decide), if_neg (by decide), if_pos rfl, List.length_append]; exact Nat.zero_lt_succ _
  · rw [tks_op ho, tkk_cons, tkk_more, List.length_append, List.length_cons]; omega
theorem fw_line : ∀ ts : List Tk, ts ≠ [] → fw (lnT ts) = Lib.join ((wdB ts).map (·.data.toList)) [32] ++ [10]
  | [], h => absurd rfl h
  | [x], _ => by simp [lnT, fw, wdB, Lib.join, List.intercalate]
  | x :: y :: r, _ => by
    have ih := fw_line (y :: r) (by simp)
    rw [lnT, fw, ih]
    unfold Lib.join wdB
    simp only [List.map_cons, List.intercalate_cons_cons]
    simp
theorem join40 (xs : List ByteArray) (hx : ∀ x ∈ xs, x.data.toList.length ≤ 40) : (Lib.join (xs.map (·.data.toList)) [32]).length ≤ 41 * xs.length := by
  unfold Lib.join
  induction xs with
  | nil => simp
  | cons a xs ih =>
    have ha := hx a (List.mem_cons_self ..)
    have := ih fun x h => hx x (List.mem_cons_of_mem _ h)
    cases xs with
    | nil => simp [List.intercalate] at *; omega
    | cons b xs =>
      rw [List.map_cons, List.map_cons, List.intercalate_cons_cons]
      rw [List.map_cons] at this
      simp only [List.length_append, List.length_cons, List.length_nil] at *
      omega
/-- a line's text -/
def lnB (ts : List Tk) : ByteArray := ⟨(fw (lnT ts)).toArray⟩
set_option maxHeartbeats 3200000 in
theorem line_any (b : Bool) (t : Tm) (cs : Array Value) (w : World) (ao : Option Addr) (c : Nat) (us : List Tk) (hok : okT b t = true) (hsz : sz t ≤ 4096) (ht : UmV (fun b => b < w.heap.size) w t cs) (hT : TabS w) (hz : 9 ≤ w.heap.size) (hu : Wd1 w ao (wdB us)) (hus : us.length ≤ 3) (hsh : ∀ x ∈ us, Sh x) : Calls Tryz.prog 10 #[.agg cs, .slice ao us.length c] w fun e w' => e = .returned (.string (lnB (us ++ tks t))) ∧ Below w.heap.size w w' ∧ (lnB (us ++ tks t)).size ≤ 1100000 := by
  obtain ⟨x0, x1, x2, x3, rfl⟩ := arr4 ht.size
  have hlen := tks_len t
  have hul : (wdB us).length = us.length := by unfold wdB; simp
  have hne : us ++ tks t ≠ [] := by
    intro e
    have h0 := tks_pos hok
    have h1 : (us ++ tks t).length = 0 := by rw [e]; rfl
    rw [List.length_append] at h1
    omega
  have hwl : ∀ x ∈ wdB (us ++ tks t), x.data.toList.length ≤ 40 := fun x hx => by
    obtain ⟨y, hy, rfl⟩ := List.mem_map.1 hx
    rcases List.mem_append.1 hy with hy | hy
    · exact hsh y hy
    · exact p_tks pSh t b hok y hy
  have hjl := join40 _ hwl
  have hwb : (wdB (us ++ tks t)).length = us.length + (tks t).length := by unfold wdB; simp
  have hln : (lnB (us ++ tks t)).size = (Lib.join ((wdB (us ++ tks t)).map (·.data.toList)) [32]).length + 1 := by
    show (fw (lnT (us ++ tks t))).toArray.size = _
    rw [fw_line _ hne]; simp
  obtain ⟨W1, hW1⟩ : ∃ W1, W1 = w.alloc (.cells #[x0, x1, x2, x3] 26) := ⟨_, rfl⟩
  have HE : Hid (w.alloc (.cells #[x0, x1, x2, x3] 26) = W1) := hW1.symm
  have hb1 : Below w.heap.size w W1 := by rw [hW1]; exact (Below.refl _ _).alloc (Nat.le_refl _) _
  have hz1 : W1.heap.size = w.heap.size + 1 := by rw [hW1]; simp
  have hN1 : W1.heap[w.heap.size]? = some (.cells #[x0, x1, x2, x3] 26 (0, 0)) := by rw [hW1]; exact heap_alloc_new _ _
  have hb2 : Below w.heap.size w (W1.alloc (.cells #[nilS] 63)) := hb1.alloc hb1.size _
  have hz2 : (W1.alloc (.cells #[nilS] 63)).heap.size = w.heap.size + 2 := by simp [hz1]
  have hN2 : (W1.alloc (.cells #[nilS] 63)).heap[w.heap.size]? = some (.cells #[x0, x1, x2, x3] 26 (0, 0)) := (heap_alloc_old _ _ (Array.getElem?_eq_some_iff.1 hN1).1).trans hN1
  have hW0 : Ws (fun b => b = W1.heap.size) W1.heap.size [] (W1.alloc (.cells #[nilS] 63)) := ⟨fun b hb => by rw [hb]; simp, fun b hb => by omega, rfl, nilS, heap_alloc_new _ _, Rw.nil _ _ _ _⟩
  have hu2 : Wd1 (W1.alloc (.cells #[nilS] 63)) ao (wdB us) := fun h => by
    obtain ⟨a, e, h2⟩ := hu h
    refine ⟨a, e, fun j x hj => ?_⟩
    have hc := h2 j x hj
    have : (a.add j).block < w.heap.size := by
      unfold World.cell? at hc
      rcases Nat.lt_or_ge (a.add j).block w.heap.size with e | e
      · exact e
      · rw [Array.getElem?_eq_none e] at hc; simp at hc
    rw [← hc]
    exact World.cell?_of_block (hb2.block _ this)
  have HSy := hid (say_any (us := wdB us) (c := c) hW0 hu2 (by rw [hul]; simp; omega))
  rw [hul] at HSy
  have HT2 := hid (hT.on hb2 hz)
  have HB2 := hid hb2
  have HN2 := hid hN2
  have HTm := hid (um_on ht fun b hb hS => ⟨⟨(fun e => by omega : ¬ b = W1.heap.size), by omega⟩, hb2.block b hb⟩ : UmV (fun b => ¬ b = W1.heap.size ∧ b < (W1.alloc (.cells #[nilS] 63)).heap.size) (W1.alloc (.cells #[nilS] 63)) t #[x0, x1, x2, x3])
  have HL := hid hln
  have HJ := hid (And.intro hjl hwb)
  have HIf := hid ht.info
  have HNE := hid hne
  have HOK := hid hok
  have hmf : ∀ (fn : Fn) (first cap : Array Value) (w : World), (Instr.makeFunc fn first cap).run Tryz.prog w = .ok (.func fn first cap) w := fun _ _ _ _ => rfl
  have hG2 := (Array.getElem?_eq_some_iff.1 hN2).1
  have hr1 : w.heap.size ≠ W1.heap.size := by omega
  have hz1a : w.heap.size < W1.heap.size := by omega
  have hz1b : W1.heap.size ≤ w.heap.size + 1 := by omega
  have hz2a : w.heap.size + 2 ≤ (W1.alloc (.cells #[nilS] 63)).heap.size := by omega
  clear hz1 hz2
  clear ht hT hu hu2 hW0 hW1 hb1 hN1 hb2 hN2 hln hjl hwb hwl hok hne hsh hul
  obtain ⟨res, hres⟩ : ∃ res, res = lnB (us ++ tks t) := ⟨_, rfl⟩
  rw [← hres]
  have HRs := hid hres
  clear hres
  go_enter Tryz.func10, Tryz.ntmps10
  go_upto_region 1 with fail
  rw [show w.alloc (.cells #[x0, x1, x2, x3] 26) = W1 from HE.out]
  clear HE
  go_upto_region 3 with fail
  generalize W1.alloc (.cells #[.slice none 0 0] 63) = W2 at HSy HT2 HB2 HN2 HTm hz2a hG2 ⊢
  generalize W1.heap.size = R at HSy HTm hz1a hz1b hr1 ⊢
  go_upto_region 4 with (go_at_call 23; refine (HSy.out).mono ?_; rintro e w3 ⟨rfl, S3, q1, q2⟩; have HX := hid (And.intro q1 q2); clear q1 q2)
  clear HSy hmf
  have HG3 := hid ((HX.out.2.block hr1 hG2).trans HN2.out)
  have hz3 := HX.out.2.only.size
  have HTl := hid (tell_any 4096 b t #[x0, x1, x2, x3] S3 R (wdB us) w3 hsz (Nat.le_refl _) HOK.out (um_on HTm.out fun b hb hS => ⟨⟨fun e => by rcases HX.out.2.sub b e with e | e; exact hS.1 e; omega, by omega⟩, HX.out.2.block hS.1 hb⟩) (by simpa using HX.out.1) (HT2.out.keep fun k hk => HX.out.2.block (fun e => by omega) (by omega)) (by unfold wdB; rw [List.length_map]; omega))
  go_upto_region 5 with (first
    | (refine ldRow 26 (.tmp 2) rfl rfl w.heap.size rfl 26 #[x0, x1, x2, x3] _ Tryz.underlying26 rfl HIf.out HG3.out ?_)
    | (go_at_call 24; refine (HTl.out).mono ?_; rintro e w4 ⟨rfl, S4, q1, q2⟩; have HY := hid (And.intro q1 (HX.out.2.trans q2)); clear q1 q2))
  clear HTl
  obtain ⟨v, hv1, hv2⟩ := HY.out.1.v
  have hB4 : Below w.heap.size w w4 := HB2.out.trans (HY.out.2.only.below fun k hk => by rcases hk with e | e <;> omega)
  have hws : wdB us ++ wdB (tks t) = wdB (us ++ tks t) := (wdB_app _ _).symm
  rw [hws] at hv2
  have cR : w4.cell? ⟨R, 0, none⟩ = some v := (cell_of_row _ _ _ _ _ _ hv1).trans rfl
  obtain ⟨g, o, cap, rfl, hcap, hg, hcl⟩ : ∃ g o cap, v = .slice (some ⟨g, o, none⟩) (wdB (us ++ tks t)).length cap ∧ (wdB (us ++ tks t)).length ≤ cap ∧ g < w4.heap.size ∧ ∀ j x, (wdB (us ++ tks t))[j]? = some x → w4.cell? ⟨g, o + j, none⟩ = some (.string x) := by
    rcases hv2 with ⟨hx, ⟨-, h0⟩ | ⟨g, o, cap, cur, rfl, hS, hg, hc, hs, hh⟩⟩
    · exfalso
      have := tks_pos HOK.out
      rw [HJ.out.2] at h0; omega
    · refine ⟨g, o, cap, rfl, hc, (Array.getElem?_eq_some_iff.1 hg).1, fun j x hj => ?_⟩
      have hl : j < (wdB (us ++ tks t)).length := (List.getElem?_eq_some_iff.1 hj).1
      rw [cell_of_row _ _ _ _ _ _ hg, cells_at hh (by omega), List.getElem?_map, hj]; rfl
  have HJn := hid (join_any g o cap (wdB (us ++ tks t)) ⟨#[32]⟩ w4 hcl hg (by rw [HJ.out.2]; omega) hcap (by show (Lib.join _ [32]).length ≤ _; have := HJ.out.1; rw [HJ.out.2] at this; omega))
  have HB4 := hid hB4
  clear hv1 hv2 hB4 hws hcl hg
  obtain ⟨jn, hjn⟩ : ∃ jn : ByteArray, jn = ⟨(Lib.join ((wdB (us ++ tks t)).map (·.data.toList)) [32]).toArray⟩ := ⟨_, rfl⟩
  rw [show (⟨(Lib.join ((wdB (us ++ tks t)).map (·.data.toList)) (⟨#[32]⟩ : ByteArray).data.toList).toArray⟩ : ByteArray) = jn from hjn.symm] at HJn
  have hjs : jn.size ≤ 1090000 := by
    rw [hjn]
    show (Lib.join _ [32]).toArray.size ≤ _
    have := HJ.out.1; rw [HJ.out.2] at this; rw [List.size_toArray]; omega
  have HRes : Hid (jn ++ ⟨#[10]⟩ = lnB (us ++ tks t)) := by
    show _ = _
    apply ByteArray.ext
    rw [ByteArray.data_append, hjn]
    show _ = (fw (lnT (us ++ tks t))).toArray
    rw [fw_line _ HNE.out]; simp
  have HSz : Hid ((lnB (us ++ tks t)).size ≤ 1100000) := by
    show _ ≤ _
    have := HJ.out.1; rw [HJ.out.2] at this; rw [HL.out]; omega
  have ad : ∀ W, (Op.stringOp .add jn ⟨#[10]⟩).run Tryz.prog W = .ok (.string (jn ++ ⟨#[10]⟩)) W := fun W => run_string_add_sum W jn ⟨#[10]⟩ (by show jn.size + 1 ≤ _; omega)
  rw [HRes.out, ← HRs.out] at ad
  rw [← HRs.out] at HSz
  generalize (wdB (us ++ tks t)).length = m at cR HJn hcap
  clear HJ HL hjn HRes
  go_wp2_with (go_at_call 25; refine (HJn.out).mono ?_; rintro e w5 ⟨rfl, hw⟩; have HX5 := hid (HB4.out.trans (hw.mono HB4.out.size)); clear hw)
  go_ret
  exact ⟨rfl, HX5.out, HSz.out⟩
end Go.Proofs.YtoncogkamlgjhaaGreatDoor
namespace Go.Proofs.YtoncogkamlgjhaaGreatDoor
set_option maxRecDepth 100000
open Go.RowKit
set_option maxRecDepth 100000

theorem qis_of : ∀ qs : List Qi, (∀ q ∈ qs, okI true q.pd = true) → ∃ qs' : List Qy, qs = qs'.map fun q => ⟨q.nm, ti q.pd⟩
  | [], _ => ⟨[], rfl⟩
  | q :: qs, h => by
    obtain ⟨t, ht⟩ := ti_of true q.pd (h q (List.mem_cons_self ..))
    obtain ⟨qs', hq⟩ := qis_of qs fun q' hq' => h q' (List.mem_cons_of_mem _ hq')
    refine ⟨⟨q.nm, t⟩ :: qs', ?_⟩
    rw [List.map_cons, hq, ← ht]
theorem qsz_pi (qs : List Qy) : qszI (qs.map fun q => ⟨q.nm, ti q.pd⟩) = qsz qs := by
  unfold qszI qsz
  rw [List.map_map]
  congr 1
  apply List.map_congr_left
  intro q _
  exact sz_ti q.pd
theorem qszm : ∀ {qs : List Qy} {q : Qy}, q ∈ qs → sz q.pd ≤ qsz qs
  | a :: qs, q, h => by
    rw [qsz_cons]
    rcases List.mem_cons.1 h with rfl | h
    · omega
    · have := qszm h; omega
/-- a policy that has words, as one of numbers that are some -/
theorem okI_pi {p : Pi} (h : OkI p) : ∃ q : Po, p = pi q ∧ OkP q ∧ q.qs.length ≤ 32 := by
  obtain ⟨main, qs⟩ := p
  obtain ⟨h1, h2, h3, h4, h5⟩ := h
  simp only at h1 h2 h3 h4 h5
  obtain ⟨m, rfl⟩ := ti_of false main h2
  obtain ⟨qs', rfl⟩ := qis_of qs fun q hq => (h5 q hq).2.1
  rw [List.length_map] at h1
  have h6 : ∀ q ∈ qs', isNm q.nm = true ∧ okT true q.pd = true ∧ dp q.pd ≤ 128 := fun q hq => by
    have := h5 ⟨q.nm, ti q.pd⟩ (List.mem_map.2 ⟨q, hq, rfl⟩)
    rw [ok_ti, dp_ti] at this
    exact this
  refine ⟨⟨m, qs'⟩, rfl, ⟨by rw [ok_ti] at h2; exact h2, fun q hq => (h6 q hq).2.1, fun q hq => (h6 q hq).1, ?_⟩, h1⟩
  rw [fitsB_iff]
  rw [qsz_pi, sz_ti] at h4
  rw [dp_ti] at h3
  exact ⟨h4, h3, fun q hq => (h6 q hq).2.2⟩
theorem okP_okI {q : Po} (h : OkP q) (hl : q.qs.length ≤ 32) : OkI (pi q) := by
  have hf := (fitsB_iff q).1 h.fits
  refine ⟨by show (q.qs.map _).length ≤ 32; rw [List.length_map]; exact hl, by show okI false (ti q.main) = true; rw [ok_ti]; exact h.main, by show dpI (ti q.main) ≤ 128; rw [dp_ti]; exact hf.2.1, by show szI (ti q.main) + qszI (q.qs.map _) ≤ 4096; rw [qsz_pi, sz_ti]; exact hf.1, fun x hx => ?_⟩
  obtain ⟨y, hy, rfl⟩ := List.mem_map.1 hx
  exact ⟨h.nm y hy, by rw [ok_ti]; exact h.pd y hy, by rw [dp_ti]; exact hf.2.2 y hy⟩
/-- what Text tells -/
def TxP (p : Pi) (w : World) (e : Ending) (w' : World) : Prop := Below w.heap.size w w' ∧ ((¬ OkI p ∧ e = .returned (.tuple #[.string ⟨#[]⟩, .int .i64 170])) ∨ ∃ q : Po, p = pi q ∧ OkP q ∧ q.qs.length ≤ 32 ∧ ((65536 < (txt q).size ∧ e = .returned (.tuple #[.string ⟨#[]⟩, .int .i64 3])) ∨ ((txt q).size ≤ 65536 ∧ e = .returned (.tuple #[.string (txt q), .int .i64 0]))))
/-- the text, so far -/
def txJ (q : Po) (j : Nat) : ByteArray := ⟨(fw (lnT (tks q.main) ++ (q.qs.take j).flatMap fun x => lnT (tkQ x))).toArray⟩
theorem txJ_all (q : Po) : txJ q q.qs.length = txt q := by unfold txJ txt allT; rw [List.take_length]
theorem txJ_0 (q : Po) : txJ q 0 = lnB (tks q.main) := by unfold txJ lnB; simp
theorem txJ_s (q : Po) (j : Nat) (hj : j < q.qs.length) : txJ q (j + 1) = txJ q j ++ lnB (tkQ (q.qs[j])) := by
  unfold txJ lnB
  apply ByteArray.ext
  rw [ByteArray.data_append]
  show (fw _).toArray = (fw _).toArray ++ (fw _).toArray
  rw [List.take_succ_eq_append_getElem hj, List.flatMap_append, ← List.append_assoc, fw_app]
  simp
theorem infoQ5 : (Tryz.prog.info? 40).map (·.size) = some 5 := by kernel_rfl
theorem po_at {S : Nat → Prop} {w : World} {qs : List Qy} {ao : Option Addr} {cap : Nat} {xs : List Value} (h : Rx S 5 w (.slice ao qs.length cap) qs.length xs) (hl : UyL S w qs xs) {j : Nat} (hj : j < qs.length) :
    ∃ g o, ao = some ⟨g, o, none⟩ ∧ qs.length ≤ cap ∧ ∃ ds, UmV S w (qs[j]).pd ds ∧ w.rangeAt g (o + j * 5) (#[Value.string (qs[j]).nm] ++ ds).toList := by
  obtain ⟨g, o, e, hc, -, -, hr⟩ := h.at hj
  obtain ⟨ds, h4, h5⟩ := UyL.at qs xs j hj hl
  refine ⟨g, o, e, hc, ds, h4, hr _ fun i hi => ?_⟩
  have hi5 : i < 5 := by have := h4.size; simp at hi; omega
  rw [h5 i hi5]
  simp
set_option maxHeartbeats 6400000 in
theorem text_any (p : Pi) (cs : Array Value) (w : World) (h : PiV (fun b => b < w.heap.size) w p cs) (hT : TabS w) (hz : 9 ≤ w.heap.size) : Calls Tryz.prog 4 #[.agg cs] w (TxP p w) := by
  obtain ⟨W1, hW1⟩ : ∃ W1, W1 = w.alloc (.cells cs 29) := ⟨_, rfl⟩
  have hb1 : Below w.heap.size w W1 := by rw [hW1]; exact (Below.refl _ _).alloc (Nat.le_refl _) _
  have hN1 : W1.heap[w.heap.size]? = some (.cells cs 29 (0, 0)) := by rw [hW1]; exact heap_alloc_new _ _
  have hz1 := hb1.size
  have h1 : PiV (fun b => b < W1.heap.size) W1 p cs := h.carry fun b hb hS => ⟨by omega, hb1.block b hb⟩
  have HIp := hid (isPol_any p cs W1 h1 (hT.on hb1 hz) (by omega))
  have HI := hid h.info
  have hcs5 := h.size
  by_cases hok : OkI p
  · obtain ⟨q, rfl, hq, hq32⟩ := okI_pi hok
    have HCt : Hid (Calls Tryz.prog 9 #[.agg cs] W1 fun e w' => e = .returned (.bool true) ∧ Below W1.heap.size W1 w') := HIp.out.mono fun e w' ⟨a1, a2⟩ => by
      rcases a2 with ⟨-, a2⟩ | ⟨a2, -⟩
      · exact ⟨a2, a1⟩
      · exact absurd hok a2
    obtain ⟨ms, qv, xs, rfl, g1, g2, g3⟩ := piV_get h
    obtain ⟨x0, x1, x2, x3, rfl⟩ := arr4 g1.size
    obtain ⟨ao, cap, rfl⟩ := g2.form
    have hcse : (#[x0, x1, x2, x3] ++ #[Value.slice ao q.qs.length cap] : Array Value) = #[x0, x1, x2, x3, .slice ao q.qs.length cap] := rfl
    rw [hcse] at HCt hN1 hW1 HI ⊢
    have HE : Hid (w.alloc (.cells #[x0, x1, x2, x3, .slice ao q.qs.length cap] 29) = W1) := hW1.symm
    have hf := (fitsB_iff q).1 hq.fits
    have HLi : Hid (∀ (b : Bool) (t : Tm) (ds : Array Value) (W : World) (ao : Option Addr) (c : Nat) (us : List Tk), okT b t = true → sz t ≤ 4096 → UmV (fun b => b < W.heap.size) W t ds → Below w.heap.size w W → Wd1 W ao (wdB us) → us.length ≤ 3 → (∀ x ∈ us, Sh x) → Calls Tryz.prog 10 #[.agg ds, .slice ao us.length c] W fun e w' => e = .returned (.string (lnB (us ++ tks t))) ∧ Below W.heap.size W w' ∧ (lnB (us ++ tks t)).size ≤ 1100000) := fun b t ds W ao c us a1 a2 a3 a4 a5 a6 a7 => line_any b t ds W ao c us a1 a2 a3 (hT.on a4 hz) (by have := a4.size; omega) a5 a6 a7
    have HRes : Hid (∀ w', Below w.heap.size w w' → ∀ e, ((65536 < (txt q).size ∧ e = .returned (.tuple #[.string ⟨#[]⟩, .int .i64 3])) ∨ ((txt q).size ≤ 65536 ∧ e = .returned (.tuple #[.string (txt q), .int .i64 0]))) → TxP (pi q) w e w') := fun w' hb e he => ⟨hb, Or.inr ⟨q, rfl, hq, hq32, he⟩⟩
    have HQ := hid (And.intro g2 g3)
    have HQok := hid hq
    have HMn := hid g1
    have HB1 := hid hb1
    have HN1 := hid hN1
    have hszm : sz q.main ≤ 4096 := by omega
    have hszq : ∀ x ∈ q.qs, sz x.pd ≤ 4096 := fun x hx => by have := qszm hx; omega
    have HSq := hid hszq
    clear g1 g2 g3 hW1 hb1 hN1 h1 HIp hok hT hq hf hcse hszq hcs5
    go_enter Tryz.func4, Tryz.ntmps4
    go_upto_region 1 with fail
    rw [show w.alloc (.cells #[x0, x1, x2, x3, .slice ao q.qs.length cap] 29) = W1 from HE.out]
    clear HE
    go_upto_region 3 with (first
      | (refine ldRow 29 (.tmp 1) rfl rfl w.heap.size rfl 29 #[x0, x1, x2, x3, .slice ao q.qs.length cap] _ Tryz.underlying29 rfl HI.out HN1.out ?_)
      | (go_at_call 9; refine (HCt.out).mono ?_; rintro e w2 ⟨rfl, hw⟩; have HB2 := hid (HB1.out.trans (hw.mono HB1.out.size)); have HN2 := hid ((hw.block _ (Array.getElem?_eq_some_iff.1 HN1.out).1).trans HN1.out); clear hw))
    have HM2 : Hid (UmV (fun b => b < w2.heap.size) w2 q.main #[x0, x1, x2, x3]) := um_on HMn.out fun b hb hS => ⟨Nat.lt_of_lt_of_le hb HB2.out.size, HB2.out.block b hb⟩
    have HL0 := hid (HLi.out false q.main #[x0, x1, x2, x3] w2 none 0 [] HQok.out.main hszm HM2.out HB2.out (fun h => absurd rfl h) (by simp) (fun x hx => by cases hx))
    rw [List.nil_append] at HL0
    have HRM : Hid (w2.rangeAt w.heap.size 0 (#[x0, x1, x2, x3] : Array Value).toList) := by
      show w2.rangeAt _ _ _
      intro j v hj
      rw [Nat.zero_add, cell_of_row _ _ _ _ _ _ HN2.out]
      have hj4 : j < 4 := by have := (List.getElem?_eq_some_iff.1 hj).1; simpa using this
      have : j = 0 ∨ j = 1 ∨ j = 2 ∨ j = 3 := by omega
      rcases this with rfl | rfl | rfl | rfl <;> simpa using hj
    have HI4 := hid HM2.out.info
    clear HCt HN1
    go_upto_region 4 with (first
      | (refine ldMid 26 (.tmp 10) rfl rfl w.heap.size 0 rfl #[x0, x1, x2, x3] _ Tryz.underlying26 rfl HI4.out HRM.out ?_)
      | (go_at_call 10; refine (HL0.out).mono ?_; rintro e w3 ⟨rfl, hw, hsz⟩; have HB3 := hid (HB2.out.trans (hw.mono HB2.out.size)); have HN3 := hid ((hw.block _ (Array.getElem?_eq_some_iff.1 HN2.out).1).trans HN2.out); have HZ3 := hid hsz; clear hw hsz))
    have d4 : w3.cell? ⟨w.heap.size, 4, none⟩ = some (.slice ao q.qs.length cap) := (cell_of_row _ _ _ _ _ _ HN3.out).trans rfl
    go_upto_region 5 with fail
    clear d4 HL0 HRM HI4 HM2 HN2 HB2
    go_loopw [4, 16] (fun vt vi wr => ∃ (T : ByteArray) (j : Nat), vt = .string T ∧ vi = .int .i64 ((j : Nat) : Int) ∧ j ≤ q.qs.length ∧ T.size ≤ 1100000 * (j + 1) ∧ Hid (T = txJ q j) ∧ Hid (Below w.heap.size w wr)) (fun _ vi _ => q.qs.length - (intOf vi).toNat)
    case atStart => exact ⟨_, 0, rfl, rfl, Nat.zero_le _, by have := HZ3.out; omega, (txJ_0 q).symm, HB3⟩
    case round =>
      clear HB3 HN3 HZ3
      obtain ⟨T, j, rfl, rfl, hj1, hTs, HT, HB⟩ := hrel
      by_cases hj : j < q.qs.length
      · have hs3 : decide ((j : Int) < (q.qs.length : Int)) = true := by simp; omega
        have hw3 : IntKind.i64.wrap ((j : Int) + 1) = (j : Int) + 1 := by rw [IntKind.wrap_i64]; omega
        have hcar : ∀ b, b < w.heap.size → b < w.heap.size → b < w.heap.size ∧ wr.heap[b]? = w.heap[b]? := fun b hb hS => ⟨hS, HB.out.block b hb⟩
        obtain ⟨g, o, rfl, hcap, ds, ht, hra⟩ := po_at (HQ.out.1.carry hcar) (UyL.carry hcar _ _ HQ.out.2) hj
        have hjc : j < cap := by omega
        have hzr := HB.out.size
        have hmem := List.getElem_mem hj
        have hokj := HQok.out.pd _ hmem
        have hnmj := HQok.out.nm _ hmem
        have hszj := HSq.out _ hmem
        have HTs := hid (txJ_s q j hj)
        have hsz := ht.size
        have hNS : ((q.qs[j]).nm).data.toList.length ≤ 40 := by
          unfold isNm at hnmj
          simp only [Bool.and_eq_true, decide_eq_true_eq] at hnmj
          rw [← size_list]; omega
        have HK := hid (show tkQ q.qs[j] = [tN Qcount, tN (q.qs[j]).nm, tS Seq] ++ tks (q.qs[j]).pd from rfl)
        have HT0 := hid ht
        have HRA := hid hra
        have hqsz := szQ (q.qs[j]).nm ds hsz
        have hone : (#[Value.string (q.qs[j]).nm] ++ ds).all (·.oneCell') = true := by rw [Array.all_append, ht.one]; simp [Value.oneCell']
        have HI3 := hid ht.info
        clear ht hra hnmj hcar hmem
        generalize (q.qs[j]).nm = nm at HK hNS HRA hqsz hone
        generalize (q.qs[j]).pd = pd at HK hokj hszj HT0
        generalize tkQ q.qs[j] = tq at HK HTs
        have hb3 : Below wr.heap.size wr (wr.alloc (.cells (#[Value.string nm] ++ ds) 40)) := (Below.refl _ _).alloc (Nat.le_refl _) _
        have hN3 : (wr.alloc (.cells (#[Value.string nm] ++ ds) 40)).heap[wr.heap.size]? = some (.cells (#[Value.string nm] ++ ds) 40 (0, 0)) := heap_alloc_new _ _
        have HR3 : Hid ((wr.alloc (.cells (#[Value.string nm] ++ ds) 40)).rangeAt wr.heap.size 1 ds.toList) := by
          show World.rangeAt _ _ _ _
          intro i v hi
          rw [cell_of_row _ _ _ _ _ _ hN3, Array.getElem?_append_right (by simp)]
          simpa using hi
        have c0 : (wr.alloc (.cells (#[Value.string nm] ++ ds) 40)).cell? ⟨wr.heap.size, 0, none⟩ = some (.string nm) := (cell_of_row _ _ _ _ _ _ hN3).trans (by rw [Array.getElem?_append_left (by simp)]; rfl)
        have HB3 := hid (HB.out.alloc hzr (.cells (#[Value.string nm] ++ ds) 40))
        have HT3 : Hid (UmV (fun b => b < w.heap.size) (wr.alloc (.cells (#[Value.string nm] ++ ds) 40)) pd ds) := um_on HT0.out fun b hb hS => ⟨hS, hb3.block b hb⟩
        go_upto_region 7 with (first
          | (refine ldMid 40 (.tmp 18) rfl rfl g (o + j * 5) rfl (#[Value.string nm] ++ ds) _ Tryz.underlying40 rfl hqsz HRA.out ?_)
          | (refine stNew 40 (.tmp 6) (.tmp 19) rfl rfl wr 40 #[.string ⟨#[]⟩, .int .i8 0, .int .i8 0, .int .u64 0, nilS] (#[Value.string nm] ++ ds) rfl rfl rfl hqsz (by rw [Array.size_append, hsz]; rfl) hone ?_))
        clear HRA HT0 hqsz hone hb3 hN3
        generalize wr.alloc (.cells (#[Value.string nm] ++ ds) 40) = w3 at HR3 c0 HB3 HT3 ⊢
        have hz3 := HB3.out.size
        have hbw : Below w3.heap.size w3 (w3.alloc (.cells #[.string Qcount, .string nm, .string Seq] 9)) := (Below.refl _ _).alloc (Nat.le_refl _) _
        have HB4 := hid (HB3.out.alloc hz3 (.cells #[.string Qcount, .string nm, .string Seq] 9))
        have HLn := hid (HLi.out true pd ds (w3.alloc (.cells #[.string Qcount, .string nm, .string Seq] 9)) (some ⟨w3.heap.size, 0, none⟩) 3 [tN Qcount, tN nm, tS Seq] hokj hszj (um_on HT3.out fun b hb hS => ⟨by simp; omega, hbw.block b hb⟩) HB4.out (wd1_three w3 Qcount nm Seq) (by simp) (fun x hx => by
          simp only [List.mem_cons, List.not_mem_nil, or_false] at hx
          rcases hx with rfl | rfl | rfl
          · decide
          · exact hNS
          · decide))
        rw [← HK.out] at HLn
        obtain ⟨ln, hln⟩ : ∃ ln, ln = lnB tq := ⟨_, rfl⟩
        rw [← hln] at HLn HTs
        have hT31 : T.size ≤ 1100000 * 33 := Nat.le_trans hTs (Nat.mul_le_mul_left _ (by omega))
        have HAd : Hid (∀ l : ByteArray, l.size ≤ 1100000 → ∀ W, (Op.stringOp .add T l).run Tryz.prog W = .ok (.string (T ++ l)) W) := fun l hl W => run_string_add_sum W T l (by omega)
        clear hln hNS HK hbw hokj hszj
        go_upto_region 8 with (first
          | (refine ldMid 26 (.tmp 21) rfl rfl wr.heap.size 1 rfl ds _ Tryz.underlying26 rfl HI3.out HR3.out ?_)
          | (go_at_call 10; refine (HLn.out).mono ?_; rintro e w5 ⟨rfl, hw, hsz5⟩; have HB5 := hid (HB4.out.trans (hw.mono HB4.out.size)); have had := HAd.out ln hsz5; have HZ5 := hid hsz5; clear hw hsz5))
        clear had HLn HR3 c0 HB3 HT3 HI3 HAd
        have HT5 : Hid (T ++ ln = txJ q (j + 1)) := by show _ = _; rw [HTs.out, HT.out]
        have HZ6 : Hid ((T ++ ln).size ≤ 1100000 * (j + 1 + 1)) := by
          show _ ≤ _
          have := HZ5.out
          rw [ByteArray.size_append]; omega
        generalize T ++ ln = T2 at HT5 HZ6 ⊢
        go_wp2
        go_roundw
        case rel => exact ⟨T2, j + 1, rfl, by go_num, hj, HZ6.out, HT5, HB5⟩
        case measure => simp [intOf]; omega
      · have hs3 : decide ((j : Int) < (q.qs.length : Int)) = false := by simp; omega
        obtain rfl : j = q.qs.length := by omega
        have hTt : T = txt q := HT.out.trans (txJ_all q)
        have HTt := hid hTt
        by_cases hbg : 65536 < T.size
        · have gT : decide ((65536 : Int) < (T.size : Int)) = true := by simp; omega
          have HX := hid (HRes.out wr HB.out _ (Or.inl ⟨by rw [← hTt]; exact hbg, rfl⟩))
          clear hTt HTt
          go_wp2
          go_ret2
          exact HX.out
        · have gT : decide ((65536 : Int) < (T.size : Int)) = false := by simp; omega
          have HX := hid (HRes.out wr HB.out _ (Or.inr ⟨by rw [← hTt]; omega, rfl⟩))
          rw [← hTt] at HX
          clear hTt HTt
          go_wp2
          go_ret2
          exact HX.out
  · have HCf : Hid (Calls Tryz.prog 9 #[.agg cs] W1 fun e w' => e = .returned (.bool false) ∧ Below W1.heap.size W1 w') := HIp.out.mono fun e w' ⟨a1, a2⟩ => by
      rcases a2 with ⟨a2, -⟩ | ⟨-, a2⟩
      · exact absurd a2 hok
      · exact ⟨a2, a1⟩
    have HN : Hid (∀ w', Below w.heap.size w w' → TxP p w (.returned (.tuple #[.string ⟨#[]⟩, .int .i64 170])) w') := fun w' hb => ⟨hb, Or.inl ⟨hok, rfl⟩⟩
    have HB1 := hid hb1
    have HN1 := hid hN1
    obtain ⟨ms, x4, xs, rfl, g1, g2, -⟩ := h
    obtain ⟨x0, x1, x2, x3, rfl⟩ := arr4 g1.size
    have hcse : (#[x0, x1, x2, x3] ++ #[x4] : Array Value) = #[x0, x1, x2, x3, x4] := rfl
    rw [hcse] at HCf HN1 hW1 HI ⊢
    have HE : Hid (w.alloc (.cells #[x0, x1, x2, x3, x4] 29) = W1) := hW1.symm
    clear g1 g2 h1 HIp hok hT hW1 hb1 hN1 hcs5 hcse
    go_enter Tryz.func4, Tryz.ntmps4
    go_upto_region 1 with fail
    rw [show w.alloc (.cells #[x0, x1, x2, x3, x4] 29) = W1 from HE.out]
    clear HE
    go_wp2_with (first
      | (refine ldRow 29 (.tmp 1) rfl rfl w.heap.size rfl 29 #[x0, x1, x2, x3, x4] _ Tryz.underlying29 rfl HI.out HN1.out ?_)
      | (go_at_call 9; refine (HCf.out).mono ?_; rintro e w2 ⟨rfl, hw⟩; have HX := hid (HN.out w2 (HB1.out.trans (hw.mono HB1.out.size))); clear hw))
    go_ret2
    exact HX.out
end Go.Proofs.YtoncogkamlgjhaaGreatDoor
