/-
  Proved here: CacheRoom's body says true. No condition.
-/
import Derived.Test.YtpmdgockiblkaaaWS
namespace Go.Proofs.Ytpmdgockiblkaaa
open Go.RowKit

/-- CacheRoom: what stands behind i headers were put. -/
structure Rm (c : Cs) (l : List Hdr) (i : Nat) : Prop where
  len : c.es.length = l.length
  ent : ∀ (p : Nat) (e : Et), c.es[p]? = some (some e) → e.gen = c.now ∧ ∃ j, ∃ hj : j < l.length, j < i ∧ l[j] = e.h ∧ e.id = (j : Int) + 1 ∧ ∀ j' (h' : j' < l.length), j < j' → j' < i → l[j'] ≠ e.h
  all : ∀ j (hj : j < l.length), j < i → ∃ (p : Nat) (e : Et), c.es[p]? = some (some e) ∧ e.h = l[j]
  cn : cnt c.es ≤ i
theorem Rm.start (l : List Hdr) : Rm (newC l.length) l 0 := by
  refine ⟨by simp [newC], fun p e he => ?_, fun j _ h => by omega, by simp [cnt, newC, List.countP_replicate]⟩
  have := List.mem_of_getElem? he
  simp [newC] at this
theorem Rm.get {c : Cs} {l : List Hdr} {i : Nat} (h : Rm c l i) (x : Hdr) (hx : ∃ (p : Nat) (e : Et), c.es[p]? = some (some e) ∧ e.h = x) (hD : Dis c.es) : Rm (getS c x) l i := by
  obtain ⟨p, e, he, rfl⟩ := hx
  have hg := (h.ent p e he).1
  have g1 := (get_hit (hD.fnd he) he hg).1
  have hpl : p < c.es.length := (List.getElem?_eq_some_iff.1 he).1
  rw [g1]
  refine ⟨by simpa using h.len, fun p' e' he' => ?_, fun j hj hji => ?_, ?_⟩
  · rcases set_at he' with ⟨rfl, _, hy⟩ | ⟨_, hy⟩
    · cases hy; exact h.ent p' e he
    · exact h.ent p' e' hy
  · obtain ⟨p', e', a1, a2⟩ := h.all j hj hji
    by_cases hpp : p' = p
    · subst hpp
      rw [he] at a1; cases a1
      exact ⟨p', { e with mark := true }, List.getElem?_set_self hpl, a2⟩
    · exact ⟨p', e', by rw [List.getElem?_set_ne (fun e => hpp e.symm)]; exact a1, a2⟩
  · have := countP_set Option.isSome c.es p (some e) (some { e with mark := true }) he
    simp only [Option.isSome_some, if_true] at this
    have h2 := h.cn
    show (c.es.set p (some { e with mark := true })).countP Option.isSome ≤ i
    unfold cnt at h2
    omega
theorem Rm.put {c : Cs} {l : List Hdr} {i : Nat} (h : Rm c l i) (hi : i < l.length) (hk : Hk c) (hD : Dis c.es) : Rm (putS c l[i] ((i : Int) + 1)) l (i + 1) := by
  have hc : c.es ≠ [] := List.length_pos_iff.1 (by rw [h.len]; omega)
  have hl := put_len c l[i] ((i : Int) + 1)
  refine ⟨by rw [hl.1]; exact h.len, fun p e he => ?_, fun j hj hji => ?_, ?_⟩
  · rw [hl.2]
    rcases put_mem hk hD he with ⟨a1, a2, a3⟩ | ⟨a1, e0, b1, b2⟩
    · exact ⟨a3, i, hi, by omega, a1.symm, a2, fun j' _ h1 h2 => by omega⟩
    · obtain ⟨d1, j, d2, d3, d4, d5, d6⟩ := h.ent p e0 b1
      refine ⟨b2.2.2.trans d1, j, d2, by omega, d4.trans b2.1.symm, b2.2.1.trans d5, fun j' h' h1 h2 => ?_⟩
      by_cases e1 : j' = i
      · subst e1; exact fun e2 => a1 e2.symm
      · rw [b2.1]; exact d6 j' h' h1 (by omega)
  · by_cases hj2 : l[j] = l[i]
    · obtain ⟨p, e, a1, a2, _⟩ := put_has (c := c) (h := l[i]) (id := (i : Int) + 1) hk hc
      exact ⟨p, e, a1, a2.trans hj2.symm⟩
    · have hji' : j < i := by
        rcases Nat.lt_or_ge j i with h1 | h1
        · exact h1
        · obtain rfl : j = i := by omega
          exact absurd rfl hj2
      obtain ⟨p, e, a1, a2⟩ := h.all j hj hji'
      cases hf : fnd c.es l[i] with
      | some q =>
        obtain ⟨y, hy, hyh⟩ := fnd_some hf
        rw [put_in hf hy]
        have hqp : q ≠ p := fun e1 => by rw [e1, a1] at hy; cases hy; exact hj2 (a2.symm.trans hyh)
        exact ⟨p, e, by rw [List.getElem?_set_ne hqp]; exact a1, a2⟩
      | none =>
        cases hfi : c.es.findIdx? Option.isNone with
        | some q =>
          rw [put_free hf hfi]
          have hqp : q ≠ p := fun e1 => by have := (free_at hfi).1; rw [e1, a1] at this; cases this
          exact ⟨p, e, by rw [List.getElem?_set_ne hqp]; exact a1, a2⟩
        | none =>
          have h1 := (free_iff c.es).1 (by have := h.cn; rw [h.len]; omega)
          rw [hfi] at h1; cases h1
  · cases hf : fnd c.es l[i] with
    | some q =>
      obtain ⟨y, hy, hyh⟩ := fnd_some hf
      rw [put_in hf hy]
      have := countP_set Option.isSome c.es q (some y) (some { y with id := (i : Int) + 1, gen := c.now }) hy
      simp only [Option.isSome_some, if_true] at this
      have h2 := h.cn
      show (c.es.set q (some { y with id := (i : Int) + 1, gen := c.now })).countP Option.isSome ≤ i + 1
      unfold cnt at h2
      omega
    | none =>
      cases hfi : c.es.findIdx? Option.isNone with
      | some q =>
        rw [put_free hf hfi]
        have := countP_set Option.isSome c.es q none (some ⟨l[i], (i : Int) + 1, c.now, false⟩) (free_at hfi).1
        simp only [Option.isSome_some, Option.isSome_none, if_true, Bool.false_eq_true, if_false] at this
        have h2 := h.cn
        show (c.es.set q (some ⟨l[i], (i : Int) + 1, c.now, false⟩)).countP Option.isSome ≤ i + 1
        unfold cnt at h2
        omega
      | none =>
        have h1 := (free_iff c.es).1 (by have := h.cn; rw [h.len]; omega)
        rw [hfi] at h1; cases h1
/-- The last place of a header. -/
noncomputable def la (l : List Hdr) (h : Hdr) (k : Nat) : Nat → Nat
  | 0 => k
  | q + 1 => if l[q]? = some h then q else la l h k q
theorem la_eq {l : List Hdr} {h : Hdr} {k j : Nat} (hj : j < l.length) (h1 : l[j] = h) (h2 : ∀ j' (h' : j' < l.length), j < j' → l[j'] ≠ h) : ∀ q, q ≤ l.length → j < q → la l h k q = j
  | 0, _, h3 => by omega
  | q + 1, h3, h4 => by
    unfold la
    by_cases e : q = j
    · subst e
      rw [if_pos (by rw [List.getElem?_eq_getElem hj, h1])]
    · have hq : q < l.length := by omega
      rw [if_neg (by rw [List.getElem?_eq_getElem hq]; intro e2; exact h2 q hq (by omega) (Option.some.inj e2))]
      exact la_eq hj h1 h2 q (by omega) (by omega)
theorem la_le (l : List Hdr) (h : Hdr) {k : Nat} (hk : k < l.length) : ∀ q, q ≤ l.length → la l h k q < l.length
  | 0, _ => hk
  | q + 1, h3 => by
    unfold la
    split
    · omega
    · exact la_le l h hk q (by omega)
theorem Rm.tells {c : Cs} {l : List Hdr} (h : Rm c l l.length) (hD : Dis c.es) {k : Nat} (hk : k < l.length) : getI c l[k] = ((la l l[k] k l.length : Nat) : Int) + 1 ∧ getB c l[k] = true ∧ ∃ (p : Nat) (e : Et), c.es[p]? = some (some e) ∧ e.h = l[k] := by
  obtain ⟨p, e, a1, a2⟩ := h.all k hk hk
  obtain ⟨d1, j, d2, d3, d4, d5, d6⟩ := h.ent p e a1
  have := get_of hD a1 d1
  rw [a2] at this
  refine ⟨?_, this.2, p, e, a1, a2⟩
  rw [this.1, d5, la_eq d2 (d4.trans a2) (fun j' h' h1 => by rw [← a2]; exact d6 j' h' h1 h') l.length (Nat.le_refl _) d2]
theorem tmL (t : Int) (L : Nat) (hL : 0 < L) : -(L : Int) < t.tmod L ∧ t.tmod L < L := by
  constructor
  · have := Int.lt_tmod_of_pos t (b := (L : Int)) (by omega); omega
  · exact Int.tmod_lt_of_pos t (by omega)
theorem askK (a : Int) (L : Nat) (hL : 0 < L) (hL2 : L ≤ 40) : ∃ K : Nat, K < L ∧ (K : Int) = (wrap64 (a.tmod L + L)).tmod L := by
  have h1 := tmL a L hL
  rw [w64 _ (by omega)]
  have h3 := tmL (a.tmod L + L) L hL
  have h4 : 0 ≤ (a.tmod L + L).tmod L := Int.tmod_nonneg _ (by omega)
  exact ⟨((a.tmod L + L).tmod L).toNat, by omega, by omega⟩
theorem Lst.int {T : Nat → Prop} {w : World} {v : Value} {l : List Int} (h : Lst T 1 RIn w v l) {q : Nat} (hq : q < l.length) : ∃ b o cap, v = .slice (some ⟨b, o, none⟩) l.length cap ∧ T b ∧ b < w.heap.size ∧ w.cell? ⟨b, o + q, none⟩ = some (.int .i64 l[q]) := by
  obtain ⟨ao, cap, h1, h2, h3, h4, h5⟩ := h
  obtain ⟨b, o, hb, rfl, hc⟩ := h5 (fun e => by rw [e] at hq; simp at hq)
  have h0 := (hc q hq).1
  simp only [Nat.mul_one, Nat.add_zero] at h0
  exact ⟨b, o, cap, h1, hb, cell_lt h0, h0⟩
set_option maxHeartbeats 6400000 in
set_option maxRecDepth 100000 in
theorem room10_any (w : World) (v v1 : Value) (l : List Hdr) (qs : List Int) (hl : Lst (fun b => b < w.heap.size) 11 RHd w v l) (ha : Lst (fun b => b < w.heap.size) 1 RIn w v1 qs) : Calls Try.prog 6 #[v, v1] w fun e w' => e = .returned (.bool true) ∧ Below w.heap.size w w' := by
  obtain ⟨ao, cap, rfl, hcap⟩ := hl.form
  obtain ⟨ao1, cap1, rfl, hcap1⟩ := ha.form
  obtain ⟨S, hS⟩ : ∃ S : Nat → Prop, S = fun b => w.heap.size ≤ b := ⟨_, rfl⟩
  have hfr : ∀ x, Only S w x → Fresh S x := fun x h b hb => by rw [hS]; exact Nat.le_trans h.size hb
  have bel : ∀ x y, Only S w x → Below x.heap.size x y → Only S w y := fun x y h hb => h.trans (Only.of hb (hfr x h))
  have fin : ∀ x, Only S w x → Below w.heap.size w x := fun x hO => hO.below fun k hk => by rw [hS] at hk; exact hk
  have HLs : Hid (∀ z, Only S w z → ∀ q (hq : q < l.length), ∃ b o, ao = some ⟨b, o, none⟩ ∧ ∀ j (hj : j < l.length), z.rangeAt b (o + j * 11) (row 11 l[j].f).toList) := fun z hO q hq => by
    obtain ⟨b, o, cap', e1, _, _, hbl, hr⟩ := hl.hdr hq
    simp at e1
    exact ⟨b, o, e1.1, fun j hj => range_on (hr j hj) (hO.block b (by rw [hS]; omega))⟩
  have HLa : Hid (∀ z, Only S w z → ∀ q (hq : q < qs.length), ∃ b o, ao1 = some ⟨b, o, none⟩ ∧ z.cell? ⟨b, o + q, none⟩ = some (.int .i64 qs[q])) := fun z hO q hq => by
    obtain ⟨b, o, cap', e1, _, hbl, hr⟩ := ha.int hq
    simp at e1
    exact ⟨b, o, e1.1, (cell_same (hO.block b (by rw [hS]; omega))).trans hr⟩
  have HNw : Hid (l.length ≤ 40 → Calls Try.prog 9 #[.int .i64 (l.length : Nat)] w fun r y => ∃ g, r = .returned (pv g) ∧ Only S w y ∧ Ca S y (pv g) (newC l.length)) := fun h40 => (new_any w (l.length : Nat) (WalkArith.wf_i64 (by omega))).mono fun r y ⟨v, a1, a2, a3⟩ => by
    obtain ⟨g, rfl⟩ := a3.form
    have : szN (l.length : Nat) = l.length := by unfold szN; omega
    rw [this] at a3
    exact ⟨g, a1, bel w y (Only.refl _ _) a2, a3.carry fun b _ hb => ⟨by rw [hS]; exact hb, rfl⟩⟩
  have HP : Hid (∀ z g c x' id, Only S w z → Ca S z (pv g) c → Hk c → Calls Try.prog 13 #[pv g, hv (Hdr.f x'), .int .i64 id] z fun r y => r = .returned (.tuple #[]) ∧ Only S w y ∧ Ca S y (pv g) (putS c x' id) ∧ Hk (putS c x' id)) := fun z g c x' id hO hC hk => (put_any z _ c x' id hC (hfr z hO) (by have := hk.2; omega) hk.1).mono fun r y ⟨a1, a2, a3⟩ => ⟨a1, hO.trans a2, a3, hk.put x' id⟩
  have HG : Hid (∀ z g c k (hk : k < l.length), Only S w z → Ca S z (pv g) c → Hk c → Rm c l l.length → Calls Try.prog 11 #[pv g, hv l[k].f] z fun r y => r = .returned (.tuple #[.int .i64 (((la l l[k] k l.length : Nat) : Int) + 1), .bool true]) ∧ Only S w y ∧ Ca S y (pv g) (getS c l[k]) ∧ Hk (getS c l[k]) ∧ Rm (getS c l[k]) l l.length) := fun z g c k hk hO hC hkk hr => by
    refine (get_any z _ c l[k] hC (hfr z hO)).mono fun r y ⟨a1, a2, a3⟩ => ?_
    obtain ⟨e1, e2, e3⟩ := hr.tells hC.dis hk
    rw [e1, e2] at a1
    exact ⟨a1, hO.trans a2, a3, hkk.get _, hr.get _ e3 hC.dis⟩
  have HW : Hid (∀ z, Only S w z → Calls Try.prog 8 #[] z fun e w' => e = .returned (.bool true) ∧ Below w.heap.size w w') := fun z hO => (wakes_any z).mono fun r y ⟨a1, a2⟩ => ⟨a1, fin y (bel z y hO a2)⟩
  have HBl := hid bel
  have hlen := hl.len
  have hlen1 := ha.len
  clear hS hfr bel fin hl ha hcap hcap1
  go_enter Try.func6, Try.ntmps6
  go_upto_region 1 with fail
  by_cases hgt : 40 < l.length ∨ 200 < qs.length
  · have HWk := hid (HW.out w (Only.refl _ _))
    clear HW HP HG HNw HLs HLa
    by_cases h40 : 40 < l.length
    · have hd : decide ((40 : Int) < (l.length : Int)) = true := decide_eq_true (by omega)
      go_wp2_with (go_at_call 8; refine (HWk.out).mono ?_; rintro r y7 ⟨rfl, hb7⟩; have HB7 := hid hb7; clear hb7)
      go_ret
      exact ⟨rfl, HB7.out⟩
    · have hd : decide ((40 : Int) < (l.length : Int)) = false := decide_eq_false (by omega)
      have h200 : 200 < qs.length := by omega
      have hd2 : decide ((200 : Int) < (qs.length : Int)) = true := decide_eq_true (by omega)
      go_wp2_with (go_at_call 8; refine (HWk.out).mono ?_; rintro r y7 ⟨rfl, hb7⟩; have HB7 := hid hb7; clear hb7)
      go_ret
      exact ⟨rfl, HB7.out⟩
  · have h40 : ¬ 40 < l.length := by omega
    have h200 : ¬ 200 < qs.length := by omega
    have hd : decide ((40 : Int) < (l.length : Int)) = false := decide_eq_false (by omega)
    have hd2 : decide ((200 : Int) < (qs.length : Int)) = false := decide_eq_false (by omega)
    have HN1 := hid (HNw.out (by omega))
    clear HNw hgt
    go_upto_region 5 with (go_at_call 9; refine (HN1.out).mono ?_; rintro r y0 ⟨g, rfl, hO0, hC0⟩; have HS0 := hid (And.intro hO0 (And.intro hC0 (And.intro (Hk.new l.length (by omega)) (Rm.start l)))); clear hO0 hC0 HN1)
    go_loopw [6] (fun i wr => ∃ k : Nat, k ≤ l.length ∧ i = .int .i64 k ∧ ∃ c, Only S w wr ∧ Ca S wr (pv g) c ∧ Hk c ∧ Rm c l k) (fun i _ => l.length - (intOf i).toNat)
    case atStart => exact ⟨0, by omega, rfl, _, HS0.out⟩
    case round =>
      obtain ⟨k, hk, rfl, c, hR⟩ := hrel
      generalize wr = wx at *
      have HR := hid hR
      clear hR HS0
      by_cases hlt : k < l.length
      · have hdk : decide ((k : Int) < (l.length : Int)) = true := decide_eq_true (by omega)
        obtain ⟨b, o, hao, hrg⟩ := HLs.out wx HR.out.1 k hlt
        subst hao
        have HRg := hid (hrg k hlt)
        have HP1 := hid (HP.out wx g c l[k] ((k : Int) + 1) HR.out.1 HR.out.2.1 HR.out.2.2.1)
        have HT1 := hid (HR.out.2.2.2.put hlt HR.out.2.2.1 HR.out.2.1.dis)
        obtain ⟨u, hu⟩ : ∃ u, u = l[k].f := ⟨_, rfl⟩
        rw [← hu] at HRg HP1
        have hw1 : IntKind.i64.wrap ((k : Int) + 1) = (k : Int) + 1 := by rw [IntKind.wrap_i64]; omega
        clear hrg hu HP HG HLa
        go_wp2_with (first
          | (refine ldMid 30 (.tmp 34) rfl rfl b (o + k * 11) rfl (row 11 u) _ Try.underlying30 rfl (sizeH u) HRg.out ?_)
          | (go_at_call 13; refine (HP1.out).mono ?_; rintro r y3 ⟨rfl, hO3, hC3, hk3⟩; have HS3 := hid (And.intro hO3 (And.intro hC3 (And.intro hk3 HT1.out))); clear hO3 hC3 hk3 HP1))
        go_roundw
        case rel => exact ⟨k + 1, by omega, by go_num, _, HS3.out⟩
        case measure => simp [intOf]; omega
      · obtain rfl : k = l.length := by omega
        have hdk : decide ((l.length : Int) < (l.length : Int)) = false := by simp
        clear HP
        go_upto_region 9 with fail
        go_loopw [7] (fun i wr => ∃ k : Nat, k ≤ qs.length ∧ i = .int .i64 k ∧ ∃ c, Only S w wr ∧ Ca S wr (pv g) c ∧ Hk c ∧ Rm c l l.length) (fun i _ => qs.length - (intOf i).toNat)
        case atStart => exact ⟨0, by omega, rfl, _, HR.out⟩
        case round =>
          obtain ⟨i, hi, rfl, c2, hR2⟩ := hrel
          generalize wr = wy at *
          have HR2 := hid hR2
          clear hR2
          by_cases hin : i < qs.length ∧ 0 < l.length
          · obtain ⟨hi2, hl0⟩ := hin
            have hdi : decide ((i : Int) < (qs.length : Int)) = true := decide_eq_true (by omega)
            have hdl : decide ((0 : Int) < (l.length : Int)) = true := decide_eq_true (by omega)
            obtain ⟨b1, o1, ha1, hc1⟩ := HLa.out wy HR2.out.1 i hi2
            subst ha1
            obtain ⟨a, hae⟩ : ∃ a, a = qs[i] := ⟨_, rfl⟩
            rw [← hae] at hc1
            obtain ⟨K, hKl, hK⟩ := askK a l.length hl0 (by omega)
            have HKK := hid hK
            have hLne : (l.length : Int) ≠ 0 := by omega
            have hw1 : IntKind.i64.wrap ((i : Int) + 1) = (i : Int) + 1 := by rw [IntKind.wrap_i64]; omega
            clear hae hK
            go_upto_region 12 with fail
            rw [← HKK.out]
            clear HKK
            obtain ⟨b, o, hao, -⟩ := HLs.out wy HR2.out.1 K hKl
            subst hao
            have HRg : Hid (∀ z, Only S w z → ∀ j (hj : j < l.length), z.rangeAt b (o + j * 11) (row 11 l[j].f).toList) := fun z hO j hj => by
              obtain ⟨b', o', hao, hr⟩ := HLs.out z hO j hj
              obtain ⟨rfl, rfl⟩ : b = b' ∧ o = o' := by simpa using hao
              exact hr j hj
            obtain ⟨hK, hhK⟩ : ∃ z, z = l[K] := ⟨_, rfl⟩
            have HhK := hid hhK
            clear hhK HLs
            go_upto_region 14 with fail
            go_loopw [9, 10] (fun z j wr => ∃ q : Nat, q ≤ l.length ∧ j = .int .i64 q ∧ z = .int .i64 (la l hK K q : Nat) ∧ Only S w wr ∧ Ca S wr (pv g) c2) (fun _ j _ => l.length - (intOf j).toNat)
            case atStart => exact ⟨0, by omega, rfl, rfl, HR2.out.1, HR2.out.2.1⟩
            case round =>
              obtain ⟨q, hq, rfl, rfl, hR3⟩ := hrel
              generalize wr = wz at *
              have HR3 := hid hR3
              clear hR3
              by_cases hql : q < l.length
              · have hdq : decide ((q : Int) < (l.length : Int)) = true := decide_eq_true (by omega)
                have HU : Hid (Hw b (o + q * 11) l[q].f b (o + K * 11) hK.f wz.drew) := ⟨range_on (HRg.out wz HR3.out.1 q hql) rfl, by rw [HhK.out]; exact range_on (HRg.out wz HR3.out.1 K hKl) rfl⟩
                obtain ⟨u, hu⟩ : ∃ u, u = l[q].f := ⟨_, rfl⟩
                obtain ⟨x, hx⟩ : ∃ x, x = hK.f := ⟨_, rfl⟩
                rw [← hu, ← hx] at HU
                obtain ⟨be, hbe⟩ : ∃ be, be = eqR 11 u x := ⟨_, rfl⟩
                have HBe : Hid (la l hK K (q + 1) = if be then q else la l hK K q) := by
                  show _ = _
                  rw [hbe, hu, hx, eqR_hdr]
                  show (if l[q]? = some hK then q else la l hK K q) = _
                  rw [List.getElem?_eq_getElem hql]
                  simp
                have hw2 : IntKind.i64.wrap ((q : Int) + 1) = (q : Int) + 1 := by rw [IntKind.wrap_i64]; omega
                obtain ⟨z0, hz0⟩ : ∃ z0, z0 = la l hK K q := ⟨_, rfl⟩
                rw [← hz0] at HBe
                rw [← hz0]
                clear hu hx hz0
                go_upto_region 16 with fail
                refine wp_region_held_drew (S := Hw b (o + q * 11) u b (o + K * 11) x) (by kernel_rfl) HU.out (fun hHeld => ?_)
                refine wpAnyH_take (i := 0) (v := ?_) rfl (by kernel_rfl) (by kernel_rfl) (by kernel_rfl) (fun _ _ _ h => h) (Or.inl ⟨by rfl, ?_⟩) hHeld ?_
                rotate_left
                · intro w' hSw
                  clear hSw
                  go_simp
                  first | done | with_reducible rfl
                simp only [Act.put, List.getElem_toArray, List.getElem_cons_zero, List.setIfInBounds_toArray, List.set_cons_zero, List.set_cons_succ]
                refine wpAnyH_take (i := 1) (v := ?_) rfl (by kernel_rfl) (by kernel_rfl) (by kernel_rfl) (fun _ _ _ h => h) (Or.inl ⟨by rfl, ?_⟩) hHeld ?_
                rotate_left
                · intro w' hSw
                  clear hSw
                  go_simp
                  first | done | with_reducible rfl
                simp only [Act.put, List.getElem_toArray, List.getElem_cons_succ, List.getElem_cons_zero, List.setIfInBounds_toArray, List.set_cons_zero, List.set_cons_succ]
                refine wpAnyH_take (i := 2) (v := ?_) rfl (by kernel_rfl) (by kernel_rfl) (by kernel_rfl) (fun _ _ _ h => h) (Or.inl ⟨by rfl, ?_⟩) hHeld ?_
                rotate_left
                · intro w' hSw
                  clear hSw
                  go_simp
                  first | done | with_reducible rfl
                simp only [Act.put, List.getElem_toArray, List.getElem_cons_succ, List.getElem_cons_zero, List.setIfInBounds_toArray, List.set_cons_zero, List.set_cons_succ]
                refine wpAnyH_take (i := 3) (v := (hv u)) rfl (by kernel_rfl) (by kernel_rfl) (by kernel_rfl) (fun _ _ _ h => h) (Or.inl ⟨by rfl, ?_⟩) hHeld ?_
                · intro w' hSw
                  exact runLd 30 (.tmp 72) rfl b (o + q * 11) rfl (row 11 u) _ hSw.rA Try.underlying30 rfl (sizeH u)
                simp only [Act.put, List.getElem_toArray, List.getElem_cons_succ, List.getElem_cons_zero, List.setIfInBounds_toArray, List.set_cons_zero, List.set_cons_succ]
                refine wpAnyH_take (i := 4) (v := ?_) rfl (by kernel_rfl) (by kernel_rfl) (by kernel_rfl) (fun _ _ _ h => h) (Or.inl ⟨by rfl, ?_⟩) hHeld ?_
                rotate_left
                · intro w' hSw
                  clear hSw
                  go_simp
                  first | done | with_reducible rfl
                simp only [Act.put, List.getElem_toArray, List.getElem_cons_succ, List.getElem_cons_zero, List.setIfInBounds_toArray, List.set_cons_zero, List.set_cons_succ]
                refine wpAnyH_take (i := 5) (v := ?_) rfl (by kernel_rfl) (by kernel_rfl) (by kernel_rfl) (fun _ _ _ h => h) (Or.inl ⟨by rfl, ?_⟩) hHeld ?_
                rotate_left
                · intro w' hSw
                  clear hSw
                  go_simp
                  first | done | with_reducible rfl
                simp only [Act.put, List.getElem_toArray, List.getElem_cons_succ, List.getElem_cons_zero, List.setIfInBounds_toArray, List.set_cons_zero, List.set_cons_succ]
                refine wpAnyH_take (i := 6) (v := ?_) rfl (by kernel_rfl) (by kernel_rfl) (by kernel_rfl) (fun _ _ _ h => h) (Or.inl ⟨by rfl, ?_⟩) hHeld ?_
                rotate_left
                · intro w' hSw
                  clear hSw
                  go_simp
                  first | done | with_reducible rfl
                simp only [Act.put, List.getElem_toArray, List.getElem_cons_succ, List.getElem_cons_zero, List.setIfInBounds_toArray, List.set_cons_zero, List.set_cons_succ]
                refine wpAnyH_take (i := 7) (v := (hv x)) rfl (by kernel_rfl) (by kernel_rfl) (by kernel_rfl) (fun _ _ _ h => h) (Or.inl ⟨by rfl, ?_⟩) hHeld ?_
                · intro w' hSw
                  exact runLd 30 (.tmp 76) rfl b (o + K * 11) rfl (row 11 x) _ hSw.rB Try.underlying30 rfl (sizeH x)
                simp only [Act.put, List.getElem_toArray, List.getElem_cons_succ, List.getElem_cons_zero, List.setIfInBounds_toArray, List.set_cons_zero, List.set_cons_succ]
                refine wpAnyH_take (i := 8) (v := (.bool (eqR 11 u x))) rfl (by kernel_rfl) (by kernel_rfl) (by kernel_rfl) (fun _ _ _ h => h) (Or.inl ⟨by rfl, ?_⟩) hHeld ?_
                · intro w' hSw
                  exact runEqH (.tmp 73) (.tmp 77) rfl u x rfl rfl
                simp only [Act.put, List.getElem_toArray, List.getElem_cons_succ, List.getElem_cons_zero, List.setIfInBounds_toArray, List.set_cons_zero, List.set_cons_succ]
                refine wpAnyH_done (by kernel_rfl) ?_ _
                rw [← hbe]
                clear hbe
                cases be with
                | true =>
                  go_wp2
                  go_roundw
                  case rel => exact ⟨q + 1, by omega, by go_num, by rw [HBe.out]; rfl, HR3.out.1.drew, HR3.out.2.carry fun b _ hS => ⟨hS, rfl⟩⟩
                  case measure => simp [intOf]; omega
                | false =>
                  go_wp2
                  go_roundw
                  case rel => exact ⟨q + 1, by omega, by go_num, by rw [HBe.out]; rfl, HR3.out.1.drew, HR3.out.2.carry fun b _ hS => ⟨hS, rfl⟩⟩
                  case measure => simp [intOf]; omega
              · obtain rfl : q = l.length := by omega
                have hdq : decide ((l.length : Int) < (l.length : Int)) = false := by simp
                have HG1 := hid (HG.out wz g c2 K hKl HR3.out.1 HR3.out.2 HR2.out.2.2.1 HR2.out.2.2.2)
                have HRk := hid (HRg.out wz HR3.out.1 K hKl)
                have hlk : la l hK K l.length < l.length := la_le l hK hKl l.length (Nat.le_refl _)
                rw [← HhK.out] at HG1 HRk
                obtain ⟨z0, hz0⟩ : ∃ z0, z0 = la l hK K l.length := ⟨_, rfl⟩
                rw [← hz0] at HG1 hlk
                rw [← hz0]
                obtain ⟨x, hx⟩ : ∃ x, x = hK.f := ⟨_, rfl⟩
                rw [← hx] at HG1 HRk
                have hw3 : IntKind.i64.wrap ((z0 : Int) + 1) = (z0 : Int) + 1 := by rw [IntKind.wrap_i64]; omega
                clear hz0 hx HG HRg
                go_wp2_with (first
                  | (refine ldMid 30 (.tmp 84) rfl rfl b (o + K * 11) rfl (row 11 x) _ Try.underlying30 rfl (sizeH x) HRk.out ?_)
                  | (go_at_call 11; refine (HG1.out).mono ?_; rintro r y3 ⟨rfl, hR4⟩; have HR4 := hid hR4; clear hR4 HG1))
                go_roundw
                case rel => exact ⟨i + 1, by omega, by go_num, _, HR4.out⟩
                case measure => simp [intOf]; omega
          · have HWk := hid (HW.out wy HR2.out.1)
            clear HW HG HLs HLa
            by_cases hi2 : i < qs.length
            · have hdi : decide ((i : Int) < (qs.length : Int)) = true := decide_eq_true (by omega)
              have hl0 : ¬ 0 < l.length := by omega
              have hdl : decide ((0 : Int) < (l.length : Int)) = false := decide_eq_false (by omega)
              clear hin
              go_wp2_with (go_at_call 8; refine (HWk.out).mono ?_; rintro r y7 ⟨rfl, hb7⟩; have HB7 := hid hb7; clear hb7)
              go_ret
              exact ⟨rfl, HB7.out⟩
            · have hdi : decide ((i : Int) < (qs.length : Int)) = false := decide_eq_false (by omega)
              clear hin
              go_wp2_with (go_at_call 8; refine (HWk.out).mono ?_; rintro r y7 ⟨rfl, hb7⟩; have HB7 := hid hb7; clear hb7)
              go_ret
              exact ⟨rfl, HB7.out⟩
end Go.Proofs.Ytpmdgockiblkaaa
