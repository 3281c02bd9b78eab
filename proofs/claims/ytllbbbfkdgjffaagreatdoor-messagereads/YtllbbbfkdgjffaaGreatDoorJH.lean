/-
  Proved here: the document's reader's ports: a list of ports as the plain reading says, in new memory, or the reader is bad. Condition: the bytes are old and as they say.
-/
/-
  Plain: what the document's Decode reads (the looser reading, then the check of the whole message) is what the program's Decode reads. No program is spoken of.
-/
/-
  Plain: readings of a match, an action, a rule, a rule held and a message's parts, put together out of the readings of numbers (Got). No program is spoken of.
-/
import Derived.Test.YtllbbbfkdgjffaaGreatDoorXR
import Derived.Test.YtllbbbfkdgjffaaGreatDoorDN
namespace Go.Proofs.YtllbbbfkdgjffaaGreatDoor
open Go.RowKit

theorem infoU16 : (Tryz.prog.info? 32).map (fun i => (i.zero, i.size, i.bytes)) = some (some (.int .u16 0), 1, 2) := by kernel_rfl
theorem shs_of {S : Nat → Prop} {w : World} {v : Value} {l : List Int} (h : Rw S 1 32 w v l.length (l.map (Value.int .u16))) (hf : ∀ a ∈ l, In16 a) (hl : l.length ≤ 2147483648) : Shs S w v l := by
  rcases h.2 with ⟨rfl, h0⟩ | ⟨g, o, cap, cur, rfl, h2, h3, h4, h5, h6⟩
  · obtain rfl : l = [] := List.length_eq_zero_iff.1 h0
    exact Lst.nil _ _ _ _
  · refine ⟨_, cap, rfl, h4, by omega, (fun h => by cases h), fun _ => ⟨g, o, h2, rfl, fun j hj => ⟨?_, hf _ (List.getElem_mem hj)⟩⟩⟩
    show w.cell? ⟨g, o + j * 1 + 0, none⟩ = _
    rw [cell_of_row _ _ _ _ _ _ h3, show o + j * 1 + 0 = o + j by omega, cells_at h6 (by omega)]
    simp [hj]
theorem one_new (w : World) (z : Value) (t : Nat) (j : Nat) (x : Value) (hz : [z][j]? = some x) : (w.alloc (.cells #[z] t)).cell? ((⟨w.heap.size, 0, none⟩ : Addr).add j) = some x := by
  obtain rfl : j = 0 := by
    have := (List.getElem?_eq_some_iff.1 hz).1
    simp at this; omega
  rw [Addr.add_lit, Nat.zero_add, cell_of_row _ _ _ _ _ _ (heap_alloc_new _ _), ← hz]; rfl
/-- Where the reader goes on: all but the reader and new memory stays. -/
structure Rg (T : Nat → Prop) (w : World) (g : Nat) (v : Value) (bs : List Int) (st : Option (List Int)) (x : World) : Prop where
  only : Only (fun b => b = g ∨ w.heap.size ≤ b) w x
  rd : RdS T x g v bs st
theorem Rg.n {T : Nat → Prop} {w : World} {g : Nat} {v : Value} {bs : List Int} {st : Option (List Int)} {x : World} (h : Rg T w g v bs st x) (k : Nat) (hk : k ≤ 8) : Calls Tryz.prog 23 #[ptr g, .int .i64 (k : Int)] x fun e w' => ∃ (y : Int) (st' : Option (List Int)), e = .returned (.int .u64 y) ∧ (0 ≤ y ∧ y < 2 ^ (8 * k)) ∧ (st' = none → y = 0) ∧ Only (fun b => b = g) x w' ∧ Rg T w g v bs st' w' ∧ Got (tk k) st y st' :=
  (dn_any x g v bs st k h.rd hk).mono fun _e _w' ⟨y, st', h1, h2, h3, h4, h5, h6⟩ => ⟨y, st', h1, h2, h3, h4, ⟨h.only.trans (h4.mono fun _b hb => Or.inl hb), h5⟩, h6⟩
theorem Rg.more {T : Nat → Prop} {w : World} {g : Nat} {v : Value} {bs : List Int} {st : Option (List Int)} {x y : World} (h : Rg T w g v bs st x) (hT : ∀ b, T b → b < w.heap.size) (hg : g < w.heap.size) (ho : Only (fun b => w.heap.size ≤ b) x y) : Rg T w g v bs st y :=
  ⟨h.only.trans (ho.mono fun b hb => Or.inr hb), h.rd.carry fun b _ hb => ho.block b (by
    rcases hb with hb | rfl
    · have := hT b hb; omega
    · omega)⟩
theorem RdS.flag {T : Nat → Prop} {w : World} {g : Nat} {v : Value} {bs : List Int} {st : Option (List Int)} (h : RdS T w g v bs st) : w.cell? ⟨g, 2, none⟩ = some (.bool st.isNone) := by
  obtain ⟨_, _, a, bad, _, h4, h5⟩ := h
  rw [(Hn.of h4).c2]
  rcases h5 with ⟨rfl, rfl⟩ | ⟨rfl, rfl⟩ <;> rfl
set_option maxHeartbeats 6400000 in
set_option maxRecDepth 100000 in
theorem dports_any {T : Nat → Prop} (w x : World) (g : Nat) (v : Value) (bs : List Int) (st : Option (List Int)) (h : Rg T w g v bs st x) (hT : ∀ b, T b → b < w.heap.size) (hg : g < w.heap.size) :
    Calls Tryz.prog 24 #[ptr g] x fun e w' => ∃ (v' : Value) (l : List Int) (st' : Option (List Int)), e = .returned v' ∧ (∃ a c, v' = .slice a l.length c) ∧ Rg T w g v bs st' w' ∧ Only (fun b => b = g ∨ x.heap.size ≤ b) x w' ∧ Shs (fun b => x.heap.size ≤ b) w' v' l ∧ Got (rdL (tk 2)) st l st' := by
  have hxs := h.only.size
  have HN := hid (h.n 2 (by omega))
  have HT := hid hT
  clear h
  go_enter Tryz.func24, Tryz.ntmps24
  go_upto_region 4 with (go_at_call 23; refine (HN.out).mono ?_; rintro e x1 ⟨n, st1, rfl, ⟨hn0, hn1⟩, -, ho1, hR1, hG1⟩; have hn2 : n < 65536 := (by simpa using hn1); have HR1 := hid hR1; have HG1 := hid hG1; have HO1 := hid ho1; clear HN hn1 ho1 hR1 hG1)
  obtain ⟨X, rfl⟩ := Int.eq_ofNat_of_zero_le hn0
  go_loopw [3, 5] (fun s i wr => ∃ (k : Nat) (s' : Value) (l : List Int) (st' : Option (List Int)), k ≤ X ∧ i = .int .i64 k ∧ s' = s ∧ l.length = k ∧ (∀ a ∈ l, In16 a) ∧ Rg T w g v bs st' wr ∧ Only (fun b => b = g ∨ x.heap.size ≤ b) x wr ∧ Rw (fun b => x.heap.size ≤ b) 1 32 wr s' l.length (l.map (Value.int .u16)) ∧ Got (rdl (tk 2) k) st1 l st') (fun _ i _ => X - (intOf i).toNat)
  case atStart => exact ⟨0, _, [], st1, by omega, rfl, rfl, rfl, by simp, HR1.out, HO1.out.mono fun b hb => Or.inl hb, Rw.nil _ _ _ _, Got.zero st1⟩
  case round =>
    obtain ⟨k, s, l, st', hk, rfl, rfl, hl, hf, hR, hO, hW, hG⟩ := hrel
    subst hl
    generalize wr = wx at *
    have hfl := hR.rd.flag
    obtain ⟨s1, k1, hs1⟩ := hW.form
    have HFin : Hid (∀ st2, Got (rdl (tk 2) X) st1 l st2 → Got (rdL (tk 2)) st l st2) := fun st2 h2 => by
      have := Got.bind (q := fun c r => rdl (tk 2) c.toNat r) HG1.out (by simpa using h2)
      exact this.congr fun r => rfl
    have HShs : Hid (Shs (fun b => x.heap.size ≤ b) wx s l) := shs_of hW hf (by omega)
    by_cases hlt : l.length < X
    · have hkl : decide ((l.length : Int) < (X : Int)) = true := decide_eq_true (by omega)
      cases st' with
      | none =>
        have hfl' : wx.cell? ⟨g, 2, none⟩ = some (.bool true) := hfl
        have HZ : Hid (Got (rdL (tk 2)) st l none) := HFin.out none (Got.more (Nat.le_of_lt hlt) hG)
        have HR := hid (And.intro hR hO)
        subst hs1
        clear hR hO hW hG hfl HFin
        go_wp2
        go_ret
        exact ⟨_, l, none, rfl, ⟨_, _, rfl⟩, HR.out.1, HR.out.2, HShs.out, HZ.out⟩
      | some r =>
        have hfl' : wx.cell? ⟨g, 2, none⟩ = some (.bool false) := hfl
        have HN := hid (hR.n 2 (by omega))
        have HO := hid hO
        have HW := hid hW
        have HG := hid hG
        have HF := hid hf
        have hxw := hO.size
        subst hs1
        clear hR hO hW hG hfl HFin HShs hf
        go_wp2_with (first
          | (go_at_call 23; refine (HN.out).mono ?_; rintro e x2 ⟨y, st2, rfl, ⟨hy0, hy1⟩, -, ho2, hR2, hG2⟩
             have hy2 : y < 65536 := (by simpa using hy1)
             have hw16 : IntKind.u16.wrap y = y := by rw [IntKind.wrap_u16]; omega
             have hW2 : Rw (fun b => x.heap.size ≤ b) 1 32 x2 (.slice s1 l.length k1) l.length (l.map (Value.int .u16)) := HW.out.carry fun b _ hS => ⟨hS, ho2.block b (fun e => by have := hS; omega)⟩
             have hal : Below x2.heap.size x2 (x2.alloc (.cells #[.int .u16 y] 32)) := (Below.refl _ _).alloc (Nat.le_refl _) _
             have HW2 : Hid (Rw (fun b => x.heap.size ≤ b) 1 32 (x2.alloc (.cells #[.int .u16 y] 32)) (.slice s1 l.length k1) l.length (l.map (Value.int .u16))) := hW2.carry fun b hb hS => ⟨hS, hal.block b hb⟩
             have hz2 : x.heap.size ≤ x2.heap.size := Nat.le_trans hxw ho2.size
             have HX2 := hid (And.intro hR2 (And.intro (HO.out.trans (ho2.mono fun b hb => Or.inl hb)) (And.intro hG2 hal)))
             clear HN hy1 ho2 hR2 hG2 hW2 hal)
          | (at_builtin
             go_loud
              (refine appAll (v := .slice s1 l.length k1) (us := [.int .u16 y]) (.tmp 21) (.tmp 25) 33 rfl rfl rfl rfl Tryz.underlying33 infoU16 rfl (by omega) (by omega) HW2.out rfl (fun _ => ⟨_, rfl, one_new _ _ _⟩) (fun z hz => by simp at hz; subst hz; rfl) (by omega) ?_
               intro v3 x3 hA3 hR3
               have HA3 := hid hA3
               have HR3 := hid hR3
               obtain ⟨s3, k3, rfl⟩ := hR3.form
               clear hA3 hR3)))
        go_roundw
        case rel =>
          obtain ⟨m1, m2, m3, m4⟩ := HX2.out
          have hO3 : Only (fun b => x.heap.size ≤ b) x2 x3 := (Only.of m4 (fun b hb => Nat.le_trans hz2 hb)).trans (HA3.out.only (fun b hb => Nat.le_trans hz2 (Nat.le_trans m4.size hb)) (fun b hb => HW2.out.own b hb))
          refine ⟨l.length + 1, _, l ++ [y], st2, by omega, by go_num, rfl, by simp, ?_, m1.more HT.out hg (hO3.mono fun b hb => Nat.le_trans hxs hb), m2.trans (hO3.mono fun b hb => Or.inr hb), ?_, Got.snoc HG.out m3⟩
          · intro a ha
            rcases List.mem_append.1 ha with ha | ha
            · exact HF.out a ha
            · simp only [List.mem_cons, List.not_mem_nil, or_false] at ha
              subst ha
              exact ⟨hy0, hy2⟩
          · have := HR3.out.carry (T := fun b => x.heap.size ≤ b) (w' := x3) fun b _ hS => ⟨hS.elim id (fun h => Nat.le_trans hz2 (Nat.le_trans m4.size h)), rfl⟩
            rw [List.length_append, List.map_append]
            exact this
        case measure => simp [intOf]; omega
    · obtain rfl : l.length = X := by omega
      have hkl : decide ((l.length : Int) < (l.length : Int)) = false := by simp
      have HZ := hid (HFin.out st' hG)
      have HR := hid (And.intro hR hO)
      subst hs1
      clear hR hO hW hG hfl HFin
      go_wp2
      go_ret
      exact ⟨_, l, st', rfl, ⟨_, _, rfl⟩, HR.out.1, HR.out.2, HShs.out, HZ.out⟩
end Go.Proofs.YtllbbbfkdgjffaaGreatDoor
namespace Go.Proofs.YtllbbbfkdgjffaaGreatDoor

theorem bind_kp {α β : Type} (o : Option α) (f : α → β) (ok : β → Bool) (ok' : α → Bool) (h : ∀ x, ok (f x) = ok' x) : (o.bind fun x => kp true (ok' x) x).map f = (o.map f).bind fun y => kp true (ok y) y := by
  cases o with
  | none => rfl
  | some x =>
    simp only [Option.bind_some, Option.map_some, h]
    cases ok' x <;> rfl
theorem bind_ok {α : Type} (o : Option α) (ok : α → Bool) (h : ∀ x, ok x = true) : o = o.bind fun x => kp true (ok x) x := by
  cases o with
  | none => rfl
  | some x => simp only [Option.bind_some, h, kp_true]
theorem rdF_kp (m : Ms) (r : List Int) (k : Fk) : rdF true m r k = (rdF false m r k).bind fun x => kp true (okF x.1 k) x := by
  cases k
  case dw =>
    simp only [rdF, okF]
    cases tk 1 r with
    | none => rfl
    | some x => simp only [Option.bind_some, kp_false]
  case mo =>
    simp only [rdF, okF]
    cases tk 2 r with
    | none => rfl
    | some x => simp only [Option.bind_some, kp_false]
  case rl =>
    simp only [rdF]
    rw [rdRl_kp]
    exact bind_kp _ _ (fun x : Ms × List Int => okF x.1 .rl) (fun x : Rl × List Int => okRl x.1) fun _ => rfl
  case hs =>
    simp only [rdF]
    rw [rdL_kp rdHd_kp]
    exact bind_kp _ _ (fun x : Ms × List Int => okF x.1 .hs) (fun x : List Hd × List Int => x.1.all okHd) fun _ => rfl
  all_goals exact bind_ok _ _ fun _ => rfl
theorem rdF_keep {c : Bool} {m : Ms} {r : List Int} {k : Fk} {x : Ms × List Int} (h : rdF c m r k = some x) : x.1.ty = m.ty ∧ x.1.id = m.id ∧ (k ≠ .dw → x.1.dw = m.dw) ∧ (k ≠ .po → k ≠ .mo → x.1.po = m.po) := by
  cases k
  case dw =>
    simp only [rdF, Option.bind_eq_some_iff, kp] at h
    obtain ⟨a, _, h⟩ := h
    split at h
    · cases h
    · cases h; simp
  case mo =>
    simp only [rdF, Option.bind_eq_some_iff, kp] at h
    obtain ⟨a, _, h⟩ := h
    split at h
    · cases h
    · cases h; simp
  case up =>
    simp only [rdF, Option.bind_eq_some_iff] at h
    obtain ⟨a, _, h⟩ := h
    split at h
    · cases h; simp
    · cases h
  all_goals
    simp only [rdF, Option.map_eq_some_iff] at h
    obtain ⟨a, _, rfl⟩ := h
    simp
theorem rdPs_ty {c : Bool} : ∀ {l : List Fk} {m : Ms} {r : List Int} {x : Ms × List Int}, rdPs c l m r = some x → x.1.ty = m.ty
  | [], m, r, x, h => by
    simp only [rdPs, Option.some.injEq] at h
    subst h; rfl
  | k :: l, m, r, x, h => by
    simp only [rdPs, Option.bind_eq_some_iff] at h
    obtain ⟨y, h1, h2⟩ := h
    rw [rdPs_ty h2, (rdF_keep h1).1]
theorem rdPs_free {l : List Fk} (h : ∀ k ∈ l, ∀ m, okF m k = true) : ∀ (m : Ms) (r : List Int), rdPs true l m r = rdPs false l m r := by
  induction l with
  | nil => intro m r; rfl
  | cons k l ih =>
    intro m r
    simp only [rdPs]
    rw [rdF_kp, ← bind_ok (rdF false m r k) (fun x : Ms × List Int => okF x.1 k) fun x => h k (by simp) x.1]
    congr 1
    funext x
    exact ih (fun k hk => h k (by simp [hk])) x.1 x.2
theorem all_free {l : List Fk} (h : ∀ k ∈ l, ∀ m, okF m k = true) (m : Ms) : l.all (okF m) = true := List.all_eq_true.2 fun k hk => h k hk m
theorem rdPs_two {a b : Fk} (hk : ∀ (m : Ms) (r : List Int) (x : Ms × List Int), rdF false m r b = some x → okF x.1 a = okF m a) (m : Ms) (r : List Int) : rdPs true [a, b] m r = (rdPs false [a, b] m r).bind fun x => kp true ([a, b].all (okF x.1)) x := by
  simp only [rdPs]
  rw [rdF_kp m r a]
  cases rdF false m r a with
  | none => rfl
  | some x =>
    simp only [Option.bind_some]
    cases h1 : okF x.1 a with
    | false =>
      have e : kp true false x = none := rfl
      rw [e]
      cases h2 : rdF false x.1 x.2 b with
      | none => rfl
      | some y =>
        simp only [Option.bind_some, Option.bind_none, List.all_cons, hk _ _ _ h2, h1, Bool.false_and]
        rfl
    | true =>
      rw [kp_true]
      simp only [Option.bind_some]
      rw [rdF_kp]
      cases h2 : rdF false x.1 x.2 b with
      | none => rfl
      | some y =>
        simp only [Option.bind_some, List.all_cons, List.all_nil, hk _ _ _ h2, h1, Bool.true_and, Bool.and_true]
        cases okF y.1 b <;> rfl
theorem rdPs_kp (ty : Int) (m : Ms) (r : List Int) : rdPs true (pts ty) m r = (rdPs false (pts ty) m r).bind fun x => kp true ((pts ty).all (okF x.1)) x := by
  have hfree : (∀ k ∈ pts ty, ∀ m, okF m k = true) → rdPs true (pts ty) m r = (rdPs false (pts ty) m r).bind fun x => kp true ((pts ty).all (okF x.1)) x := fun h => by
    rw [rdPs_free h]
    exact bind_ok _ (fun x : Ms × List Int => (pts ty).all (okF x.1)) fun x => all_free h x.1
  rcases pts_cases ty with e | e | e | e | e | e | e
  case inr.inl =>
    rw [e]
    exact rdPs_two (fun m r x h => by
      show okDo x.1.dw = okDo m.dw
      rw [(rdF_keep h).2.2.1 (by simp)]) m r
  case inr.inr.inr.inl =>
    rw [e]
    exact rdPs_two (fun m r x h => by
      show okMo x.1.po = okMo m.po
      rw [(rdF_keep h).2.2.2 (by simp) (by simp)]) m r
  all_goals
    refine hfree fun k hk m => ?_
    rw [e] at hk
    cases k <;> first | rfl | (simp at hk; done)
theorem prs_kp (bs : List Int) : prs true bs = (prs false bs).bind fun m => kp true ((pts (tyOf bs)).all (okF m)) m := by
  unfold prs
  rw [rdPs_kp]
  cases rdPs false (pts (tyOf bs)) (m0 bs) (bs.drop 8) with
  | none => rfl
  | some x =>
    simp only [Option.bind_some]
    by_cases hx : x.2 = []
    · simp only [hx, if_true, Option.bind_some]
      cases (pts (tyOf bs)).all (okF x.1)
      · rfl
      · simp only [kp_true, Option.bind_some, hx, if_true]
    · simp only [hx, if_false, Option.bind_none]
      cases (pts (tyOf bs)).all (okF x.1)
      · rfl
      · simp only [kp_true, Option.bind_some, hx, if_false]
theorem prs_ty {c : Bool} {bs : List Int} {m : Ms} (h : prs c bs = some m) : m.ty = tyOf bs := by
  simp only [prs, Option.bind_eq_some_iff] at h
  obtain ⟨x, h1, h2⟩ := h
  split at h2
  · cases h2
    exact rdPs_ty h1
  · cases h2
/-- What the document's Decode reads, where nothing is short. -/
def rdec (bs : List Int) : Option Ms := if fld bs 0 1 = 1 ∧ fld bs 2 2 = bs.length then (prs false bs).bind fun m => if enE m = 0 then some m else none else none
/-- THE DOCUMENT READS WHAT THE PROGRAM READS. -/
theorem rdec_dec {bs : List Int} (hB : IsB bs) (h8 : 8 ≤ bs.length) : rdec bs = dec bs := by
  unfold rdec dec
  by_cases h1 : fld bs 0 1 = 1
  case neg => rw [if_neg (fun h => h1 h.1), if_neg (fun h => h1 h.2.1)]
  by_cases h2 : fld bs 2 2 = bs.length
  case neg => rw [if_neg (fun h => h2 h.2), if_neg (fun h => h2 h.2.2.2)]
  rw [if_pos ⟨h1, h2⟩]
  have hkp := prs_kp bs
  cases hp : prs false bs with
  | none =>
    rw [hp] at hkp
    split
    · rw [hkp]; rfl
    · rfl
  | some m =>
    have hty := prs_ty hp
    rw [hp] at hkp
    simp only [Option.bind_some] at hkp ⊢
    cases ht : isTy (tyOf bs) with
    | false =>
      have : okMs m = false := by unfold okMs; rw [hty, ht]; rfl
      rw [(enE_bad this).1, if_neg (by decide), if_neg (fun h => by simp at h)]
    | true =>
      cases ho : (pts (tyOf bs)).all (okF m) with
      | false =>
        have : okMs m = false := by unfold okMs; rw [hty, ho]; simp
        rw [(enE_bad this).1, if_neg (by decide)]
        rw [ho] at hkp
        split
        · rw [hkp]; rfl
        · rfl
      | true =>
        rw [ho, kp_true] at hkp
        have hk2 := hkp
        simp only [prs, Option.bind_eq_some_iff] at hk2
        obtain ⟨⟨m', r⟩, e1, e2⟩ := hk2
        split at e2
        case isFalse => cases e2
        case isTrue hr =>
          obtain rfl : r = [] := hr
          obtain rfl : m' = m := by simpa using e2
          obtain ⟨d1, d2, d3, d4, d5, d6⟩ := rdPs_inv (hB.drop 8) rfl (m0_fit hB) e1
          have hok : okMs m' = true := by
            unfold okMs rest
            rw [d2, ht, d5, d6]; rfl
          have hbody : body m' = bs.drop 8 := by unfold body; rw [d2]; exact d1.symm
          have hlen : (encMs m').length = bs.length := by rw [body_le, hbody, List.length_drop]; omega
          unfold enE
          rw [if_pos hok, hlen]
          by_cases hl : bs.length ≤ 8192
          · rw [if_pos hl, if_pos rfl, if_pos ⟨hl, h1, rfl, h2⟩, hkp]
          · rw [if_neg hl, if_neg (by decide), if_neg (fun h => hl h.1)]
end Go.Proofs.YtllbbbfkdgjffaaGreatDoor
namespace Go.Proofs.YtllbbbfkdgjffaaGreatDoor

/-- The fields of a match, read up to the j-th. -/
def FsAt (b : Int) (st0 : Option (List Int)) (j : Nat) (m : Nat → Int) (st : Option (List Int)) : Prop := st0.bind (rdFs b 11 zf) = st.bind (rdFs b (11 - j) m)
theorem FsAt.start (b : Int) (st : Option (List Int)) : FsAt b st 0 zf st := rfl
theorem FsAt.skip {b : Int} {st0 st : Option (List Int)} {j : Nat} {m : Nat → Int} (h : FsAt b st0 j m st) (hj : j < 11) (hb : ¬ b / 2 ^ j % 2 = 1) : FsAt b st0 (j + 1) m st := by
  unfold FsAt at h ⊢
  rw [h]
  cases st with
  | none => rfl
  | some r => exact rdFs_skip hj hb
theorem FsAt.bit {b : Int} {st0 st st1 st2 : Option (List Int)} {j : Nat} {m : Nat → Int} {x y : Int} (h : FsAt b st0 j m st) (hj : j < 11) (hb : b / 2 ^ j % 2 = 1) (h1 : Got (tk (sz j)) st x st1) (h2 : Got (tk (sz j)) st1 y st2) : FsAt b st0 (j + 1) (upd (upd m j x) (11 + j) y) (if y = 0 then none else st2) := by
  unfold FsAt at h ⊢
  rw [h]
  cases st with
  | none =>
    have := h1.nil
    subst this
    have := h2.nil
    subst this
    split <;> rfl
  | some r =>
    simp only [Option.bind_some]
    rw [rdFs_bit hj hb]
    cases st1 with
    | none =>
      have := h2.nil
      subst this
      have := h1.bad
      simp only [Option.bind_some] at this
      rw [this]
      split <;> rfl
    | some r1 =>
      have e1 := h1.good
      simp only [Option.bind_some] at e1
      rw [e1]
      simp only [Option.bind_some]
      cases st2 with
      | none =>
        have := h2.bad
        simp only [Option.bind_some] at this
        rw [this]
        split <;> rfl
      | some r2 =>
        have e2 := h2.good
        simp only [Option.bind_some] at e2
        rw [e2]
        simp only [Option.bind_some]
        split <;> rfl
theorem FsAt.done {b : Int} {st0 st : Option (List Int)} {m : Nat → Int} (h : FsAt b st0 11 m st) : Got (rdFs b 11 zf) st0 m st := by
  unfold FsAt at h
  cases st with
  | none => exact Got.of_bad h m
  | some r => exact Got.of_good h
/-- A match: the bits, then the fields; with bits too great the reader is bad. -/
theorem Got.mt {st st1 st2 : Option (List Int)} {b : Int} {m : Nat → Int} (h1 : Got (tk 2) st b st1) (h2 : Got (rdFs b 11 zf) (if b / 2048 = 0 then st1 else none) m st2) : Got (rdMt false) st m st2 := by
  have := Got.bind (p := tk 2) (q := fun b r => if b / 2048 = 0 then rdFs b 11 zf r else none) (y := m) (st2 := st2) h1 (by
    by_cases hb : b / 2048 = 0
    · rw [if_pos hb] at h2
      exact h2.congr fun r => (if_pos hb).symm
    · rw [if_neg hb] at h2
      have := h2.nil
      subst this
      refine Got.of_bad ?_ m
      cases st1 with
      | none => rfl
      | some r => exact if_neg hb)
  refine this.congr fun r => ?_
  unfold rdMt
  congr 1
  funext c
  split
  · cases rdFs c.1 11 zf c.2 with
    | none => rfl
    | some z => simp only [Option.bind_some, kp_false]
  · rfl
theorem Got.ac {st st1 st2 st3 : Option (List Int)} {a b d : Int} (h1 : Got (tk 1) st a st1) (h2 : Got (tk 1) st1 b st2) (h3 : Got (tk 8) st2 d st3) : Got (rdAc false) st ⟨i8 a, i8 b, d⟩ st3 := by
  have e3 := Got.map (fun d => (⟨i8 a, i8 b, d⟩ : Ac)) h3
  have e2 := Got.bind (q := fun b r => (tk 8 r).map fun z => ((⟨i8 a, i8 b, z.1⟩ : Ac), z.2)) h2 e3
  have e1 := Got.bind (q := fun a r => (tk 1 r).bind fun y => (tk 8 y.2).map fun z => ((⟨i8 a, i8 y.1, z.1⟩ : Ac), z.2)) h1 e2
  refine e1.congr fun r => ?_
  unfold rdAc
  congr 1; funext x; congr 1; funext y
  cases tk 8 y.2 with
  | none => rfl
  | some z => simp only [Option.bind_some, Option.map_some, kp_false]
theorem Got.list {α : Type} {p : List Int → Option (α × List Int)} {st st1 st2 : Option (List Int)} {n : Nat} {l : List α} (h1 : Got (tk 2) st (n : Int) st1) (h2 : Got (rdl p n) st1 l st2) : Got (rdL p) st l st2 :=
  (Got.bind (q := fun c r => rdl p c.toNat r) h1 (by simpa using h2)).congr fun _ => rfl
theorem Got.rl {st st1 st2 st3 st4 : Option (List Int)} {a b : Int} {m : Nat → Int} {l : List (List Ac)} (h1 : Got (tk 4) st a st1) (h2 : Got (tk 8) st1 b st2) (h3 : Got (rdMt false) st2 m st3) (h4 : Got (rdL (rdL (rdAc false))) st3 l st4) : Got (rdRl false) st ⟨i32 a, m, l, b⟩ st4 := by
  have e4 := Got.map (fun l => (⟨i32 a, m, l, b⟩ : Rl)) h4
  have e3 := Got.bind (q := fun m r => (rdL (rdL (rdAc false)) r).map fun z => ((⟨i32 a, m, z.1, b⟩ : Rl), z.2)) h3 e4
  have e2 := Got.bind (q := fun b r => (rdMt false r).bind fun d => (rdL (rdL (rdAc false)) d.2).map fun z => ((⟨i32 a, d.1, z.1, b⟩ : Rl), z.2)) h2 e3
  have e1 := Got.bind (q := fun a r => (tk 8 r).bind fun b => (rdMt false b.2).bind fun d => (rdL (rdL (rdAc false)) d.2).map fun z => ((⟨i32 a, d.1, z.1, b.1⟩ : Rl), z.2)) h1 e2
  exact e1.congr fun r => rfl
theorem Got.hd {st st1 st2 st3 : Option (List Int)} {x : Rl} {a b : Int} (h1 : Got (rdRl false) st x st1) (h2 : Got (tk 8) st1 a st2) (h3 : Got (tk 8) st2 b st3) : Got (rdHd false) st ⟨x, a, b⟩ st3 := by
  have e3 := Got.map (fun b => (⟨x, a, b⟩ : Hd)) h3
  have e2 := Got.bind (q := fun a r => (tk 8 r).map fun z => ((⟨x, a, z.1⟩ : Hd), z.2)) h2 e3
  have e1 := Got.bind (q := fun x r => (tk 8 r).bind fun y => (tk 8 y.2).map fun z => ((⟨x, y.1, z.1⟩ : Hd), z.2)) h1 e2
  exact e1.congr fun r => rfl
theorem num_one (x : Int) : num [x] = x := by simp [num]
theorem rdl_one : ∀ (n : Nat) (r : List Int), rdl (tk 1) n r = if n ≤ r.length then some (r.take n, r.drop n) else none
  | 0, r => by simp [rdl]
  | n + 1, [] => by
    have : tk 1 [] = none := tk_short (by simp)
    simp [rdl, this]
  | n + 1, x :: r => by
    have e : tk 1 (x :: r) = some (x, r) := by
      rw [tk_some (by simp)]
      simp [num_one]
    simp only [rdl, e, Option.bind_some, rdl_one n r, List.length_cons, Nat.add_le_add_iff_right]
    split <;> simp
theorem Got.by {st st1 st2 : Option (List Int)} {n : Nat} {l : List Int} (h1 : Got (tk 2) st (n : Int) st1) (h2 : Got (rdl (tk 1) n) st1 l st2) : Got rdBy st l st2 := by
  refine (Got.list h1 h2).congr fun r => ?_
  unfold rdL rdBy
  congr 1
  funext c
  exact rdl_one _ _
section
variable {m m1 m2 : Ms} {st st1 st2 : Option (List Int)}
theorem Got.cons {k : Fk} {l : List Fk} (h1 : Got (fun r => rdF false m r k) st m1 st1) (h2 : Got (rdPs false l m1) st1 m2 st2) : Got (rdPs false (k :: l) m) st m2 st2 :=
  (Got.bind (q := fun x r => rdPs false l x r) h1 h2).congr fun _ => rfl
theorem Got.last {k : Fk} (h1 : Got (fun r => rdF false m r k) st m1 st1) : Got (rdPs false [k] m) st m1 st1 :=
  h1.congr fun r => by
    show _ = (rdF false m r k).bind fun x => some (x.1, x.2)
    cases rdF false m r k <;> rfl
theorem Got.nothing (st : Option (List Int)) : Got (rdPs false [] m) st m st := by
  cases st with
  | none => exact Got.of_bad rfl m
  | some r => exact Got.of_good rfl
theorem Got.sw {x : Int} (h : Got (tk 2) st x st1) : Got (fun r => rdF false m r .sw) st { m with sw := x } st1 := Got.map (fun x => ({ m with sw := x } : Ms)) h
theorem Got.po {x : Int} (h : Got (tk 2) st x st1) : Got (fun r => rdF false m r .po) st { m with po := x } st1 := Got.map (fun x => ({ m with po := x } : Ms)) h
theorem Got.co {x : Int} (h : Got (tk 2) st x st1) : Got (fun r => rdF false m r .co) st { m with co := x } st1 := Got.map (fun x => ({ m with co := x } : Ms)) h
theorem Got.ps {l : List Int} (h : Got (rdL (tk 2)) st l st1) : Got (fun r => rdF false m r .ps) st { m with ps := l } st1 := Got.map (fun x => ({ m with ps := x } : Ms)) h
theorem Got.ed {l : List Int} (h : Got (rdL (tk 2)) st l st1) : Got (fun r => rdF false m r .ed) st { m with ed := l } st1 := Got.map (fun x => ({ m with ed := x } : Ms)) h
theorem Got.frm {l : List Int} (h : Got rdBy st l st1) : Got (fun r => rdF false m r .fr) st { m with fr := l } st1 := Got.map (fun x => ({ m with fr := x } : Ms)) h
theorem Got.rule {x : Rl} (h : Got (rdRl false) st x st1) : Got (fun r => rdF false m r .rl) st { m with r := x } st1 := Got.map (fun x => ({ m with r := x } : Ms)) h
theorem Got.hs {l : List Hd} (h : Got (rdL (rdHd false)) st l st1) : Got (fun r => rdF false m r .hs) st { m with hs := l } st1 := Got.map (fun x => ({ m with hs := x } : Ms)) h
theorem Got.mo {x : Int} (h : Got (tk 2) st x st1) : Got (fun r => rdF false m r .mo) st { m with po := x } st1 :=
  (Got.map (fun x => ({ m with po := x } : Ms)) h).congr fun r => by
    simp only [rdF]
    cases tk 2 r with
    | none => rfl
    | some z => simp only [Option.bind_some, Option.map_some, kp_false]
theorem Got.dw {x : Int} (h : Got (tk 1) st x st1) : Got (fun r => rdF false m r .dw) st { m with dw := i8 x } st1 :=
  (Got.map (fun x => ({ m with dw := i8 x } : Ms)) h).congr fun r => by
    simp only [rdF]
    cases tk 1 r with
    | none => rfl
    | some z => simp only [Option.bind_some, Option.map_some, kp_false]
theorem Got.up {x : Int} (h : Got (tk 1) st x st1) : Got (fun r => rdF false m r .up) st { m with up := decide (x = 1) } (if 1 < x then none else st1) := by
  cases st with
  | none =>
    have := h.nil
    subst this
    split <;> exact Got.of_bad rfl _
  | some r =>
    cases st1 with
    | none =>
      have := h.bad
      simp only [Option.bind_some] at this
      have e : (some r).bind (fun r => rdF false m r .up) = none := by
        simp only [Option.bind_some, rdF]
        rw [this]; rfl
      split <;> exact Got.of_bad e _
    | some r1 =>
      have e1 := h.good
      simp only [Option.bind_some] at e1
      by_cases hx : 1 < x
      · rw [if_pos hx]
        refine Got.of_bad ?_ _
        simp only [Option.bind_some, rdF]
        rw [e1]
        exact if_neg (by simpa using hx)
      · rw [if_neg hx]
        refine Got.of_good ?_
        simp only [Option.bind_some, rdF]
        rw [e1]
        exact if_pos (by simpa using hx)
end
end Go.Proofs.YtllbbbfkdgjffaaGreatDoor
