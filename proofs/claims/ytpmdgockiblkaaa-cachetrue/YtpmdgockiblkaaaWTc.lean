/-
  Proved here: CacheTrue's body says true. No condition.
-/
import Derived.Test.YtpmdgockiblkaaaTL
namespace Go.Proofs.Ytpmdgockiblkaaa
open Go.RowKit

set_option maxHeartbeats 12800000 in
set_option maxRecDepth 100000 in
theorem true_c (w : World) (v : Value) (size : Int) (l : List Ac) (hs : (Lit.int .i64 size).wf = true) (hl : Lst (fun b => b < w.heap.size) 13 RAc w v l) (hsz1 : 1024 < size) : Calls Try.prog 5 #[.int .i64 size, v] w fun e w' => e = .returned (.bool true) ∧ Below w.heap.size w w' := by
  obtain ⟨ao, cap, rfl, hcap⟩ := hl.form
  obtain ⟨S, hS⟩ : ∃ S : Nat → Prop, S = fun b => w.heap.size ≤ b := ⟨_, rfl⟩
  have hfr : ∀ x, Only S w x → Fresh S x := fun x h b hb => by rw [hS]; exact Nat.le_trans h.size hb
  have bel : ∀ x y, Only S w x → Below x.heap.size x y → Only S w y := fun x y h hb => h.trans (Only.of hb (hfr x h))
  have fin : ∀ x, Only S w x → Below w.heap.size w x := fun x hO => hO.below fun k hk => by rw [hS] at hk; exact hk
  have HLs : Hid (∀ z, Only S w z → ∀ q (hq : q < l.length), ∃ b o, ao = some ⟨b, o, none⟩ ∧ ∀ j (hj : j < l.length), Ha b (o + j * 13) l[j].k l[j].h.f l[j].id z) := fun z hO q hq => by
    obtain ⟨b, o, cap', e1, _, hbl, hr⟩ := hl.act hq
    simp at e1
    exact ⟨b, o, e1.1, fun j hj => (hr j hj).on (hO.block b (by rw [hS]; omega))⟩
  obtain ⟨N, hN⟩ : ∃ N, N = szN size := ⟨_, rfl⟩
  have hN1 : N ≤ 1024 := by rw [hN]; exact szN_le size
  have HNw : Hid (Calls Try.prog 9 #[.int .i64 size] w fun r y => ∃ g, r = .returned (pv g) ∧ Only S w y ∧ Ca S y (pv g) (newC N)) := (new_any w size hs).mono fun r y ⟨v, a1, a2, a3⟩ => by
    obtain ⟨g, rfl⟩ := a3.form
    rw [← hN] at a3
    exact ⟨g, a1, bel w y (Only.refl _ _) a2, a3.carry fun b _ hb => ⟨by rw [hS]; exact hb, rfl⟩⟩
  have HP : Hid (∀ z g c x' id, Only S w z → Ca S z (pv g) c → Hk c → Calls Try.prog 13 #[pv g, hv (Hdr.f x'), .int .i64 id] z fun r y => r = .returned (.tuple #[]) ∧ Only S w y ∧ Ca S y (pv g) (putS c x' id)) := fun z g c x' id hO hC hk => (put_any z _ c x' id hC (hfr z hO) (by have := hk.2; omega) hk.1).mono fun r y ⟨a1, a2, a3⟩ => ⟨a1, hO.trans a2, a3⟩
  have HG : Hid (∀ z g c x', Only S w z → Ca S z (pv g) c → Calls Try.prog 11 #[pv g, hv (Hdr.f x')] z fun r y => r = .returned (.tuple #[.int .i64 (getI c x'), .bool (getB c x')]) ∧ Only S w y ∧ Ca S y (pv g) (getS c x')) := fun z g c x' hO hC => (get_any z _ c x' hC (hfr z hO)).mono fun r y ⟨a1, a2, a3⟩ => ⟨a1, hO.trans a2, a3⟩
  have HT : Hid (∀ z g c, Only S w z → Ca S z (pv g) c → 0 ≤ c.now ∧ c.now < 2147483648 → Calls Try.prog 15 #[pv g] z fun r y => r = .returned (.tuple #[]) ∧ Only S w y ∧ Ca S y (pv g) (turnS c)) := fun z g c hO hC hn => (turn_any z _ c hC hn).mono fun r y ⟨a1, a2, a3⟩ => ⟨a1, hO.trans a2, a3⟩
  have HH : Hid (∀ z g c m, Only S w z → Ca S z (pv g) c → c.es.length ≤ 1024 → m = heldS c → Calls Try.prog 17 #[pv g] z fun r y => r = .returned (.int .i64 (m : Nat)) ∧ Only S w y ∧ Ca S y (pv g) c) := fun z g c m hO hC hle hm => (held_any z _ c hC (by omega)).mono fun r y ⟨a1, a2⟩ => ⟨by rw [hm]; exact a1, bel z y hO a2, hC.on a2⟩
  have HW : Hid (∀ z, Only S w z → Calls Try.prog 8 #[] z fun e w' => e = .returned (.bool true) ∧ Below w.heap.size w w') := fun z hO => (wakes_any z).mono fun r y ⟨a1, a2⟩ => ⟨a1, fin y (bel z y hO a2)⟩
  have hNs := hN
  unfold szN at hNs
  have hlen := hl.len
  have hN0 : N = 1024 := by omega
  have hsz2 : ¬ size < 0 := by omega
  have HNN := hid hN
  clear hS hfr bel fin hl hcap hs hN hNs
  go_enter Try.func5, Try.ntmps5
  go_upto_region 1 with fail
  by_cases h300 : 300 < l.length
  · have hd : decide ((300 : Int) < (l.length : Int)) = true := decide_eq_true (by omega)
    have HWk := hid (HW.out w (Only.refl _ _))
    clear HW HP HG HNw HLs HT HH
    go_wp2_with (go_at_call 8; refine (HWk.out).mono ?_; rintro r y7 ⟨rfl, hb7⟩; have HB7 := hid hb7; clear hb7)
    go_ret
    exact ⟨rfl, HB7.out⟩
  · have hd : decide ((300 : Int) < (l.length : Int)) = false := decide_eq_false (by omega)
    go_upto_region 6 with (go_at_call 9; refine (HNw.out).mono ?_; rintro r y0 ⟨g, rfl, hO0, hC0⟩; have HS0 := hid (And.intro hO0 (And.intro hC0 (And.intro (Hk.new N hN1) (Tr.start l N)))); clear hO0 hC0 HNw)
    go_loopw [6, 7] (fun f i wr => ∃ k fm : Nat, k ≤ l.length ∧ i = .int .i64 k ∧ f = .int .i64 fm ∧ ∃ c, Only S w wr ∧ Ca S wr (pv g) c ∧ Hk c ∧ Tr c l fm k N) (fun _ i _ => l.length - (intOf i).toNat)
    case atStart => exact ⟨0, 0, by omega, rfl, rfl, _, HS0.out⟩
    case round =>
      obtain ⟨k, fm, hk, rfl, rfl, c, hR⟩ := hrel
      generalize wr = wx at *
      have HR := hid hR
      have hfm := hR.2.2.2.le
      clear hR HS0
      by_cases hlt : k < l.length
      · have hdk : decide ((k : Int) < (l.length : Int)) = true := decide_eq_true (by omega)
        obtain ⟨b, o, hao, -⟩ := HLs.out wx HR.out.1 k hlt
        subst hao
        have HRg : Hid (∀ z, Only S w z → ∀ j (hj : j < l.length), Ha b (o + j * 13) l[j].k l[j].h.f l[j].id z) := fun z hO j hj => by
          obtain ⟨b', o', hao, hr⟩ := HLs.out z hO j hj
          obtain ⟨rfl, rfl⟩ : b = b' ∧ o = o' := by simpa using hao
          exact hr j hj
        obtain ⟨x, hx⟩ : ∃ x, x = l[k] := ⟨_, rfl⟩
        have hx? : l[k]? = some x := by rw [List.getElem?_eq_getElem hlt, hx]
        have HRx : Hid (∀ z, Only S w z → Ha b (o + k * 13) x.k x.h.f x.id z) := fun z hO => by rw [hx]; exact HRg.out z hO k hlt
        have hw1 : IntKind.i64.wrap ((k : Int) + 1) = (k : Int) + 1 := by rw [IntKind.wrap_i64]; omega
        have c0 := (HRx.out wx HR.out.1).c0
        obtain ⟨xk, hxk⟩ : ∃ z, z = x.k := ⟨_, rfl⟩
        obtain ⟨xf, hxf⟩ : ∃ z, z = x.h.f := ⟨_, rfl⟩
        obtain ⟨xi, hxi⟩ : ∃ z, z = x.id := ⟨_, rfl⟩
        rw [← hxk] at c0
        have HX := hid (And.intro hx? (And.intro hxk (And.intro hxf hxi)))
        clear hx hx? HLs hxk hxf hxi
        by_cases t0 : xk = 0
        · obtain rfl : xk = 0 := t0
          have HG1 := hid (HG.out wx g c x.h HR.out.1 HR.out.2.1)
          have HRw := hid (HRx.out wx HR.out.1).rA
          rw [← HX.out.2.2.1] at HG1 HRw
          obtain ⟨gi, hgi⟩ : ∃ z, z = getI c x.h := ⟨_, rfl⟩
          obtain ⟨gb, hgb⟩ : ∃ z, z = getB c x.h := ⟨_, rfl⟩
          rw [← hgi, ← hgb] at HG1
          have HT0 := hid ((HR.out.2.2.2.other HX.out.1 (by rw [← HX.out.2.1]; omega)).get0 x.h)
          have HKg := hid (HR.out.2.2.1.get x.h)
          have HY : Hid (gb = true → wn l x.h fm k = some gi) := fun h1 => by rw [hgi]; exact HR.out.2.2.2.yes (by rw [← hgb]; exact h1)
          have HNo : Hid (gb = false → gi = 0) := fun h1 => by rw [hgi]; exact get_not (by rw [← hgb]; exact h1)
          clear hgi hgb
          go_upto_region 13 with (first
            | (refine ldMid 30 (.tmp 39) rfl rfl b (o + k * 13 + 1) rfl (row 11 xf) _ Try.underlying30 rfl (sizeH xf) HRw.out ?_)
            | (go_at_call 11; refine (HG1.out).mono ?_; rintro r y1 ⟨rfl, hR1⟩; have HR1 := hid hR1; clear hR1 HG1))
          go_loopw [10, 11, 12] (fun wa pu j wr => ∃ q : Nat, q ≤ k ∧ fm ≤ q ∧ j = .int .i64 q ∧ wa = .int .i64 ((wn l x.h fm q).getD 0) ∧ pu = .bool (wn l x.h fm q).isSome ∧ Only S w wr ∧ Ca S wr (pv g) (getS c x.h)) (fun _ _ j _ => k - (intOf j).toNat)
          case atStart => exact ⟨fm, by omega, by omega, rfl, by rw [wn_start l x.h fm fm (Nat.le_refl _)]; rfl, by rw [wn_start l x.h fm fm (Nat.le_refl _)]; rfl, HR1.out⟩
          case round =>
            obtain ⟨q, hq, hq2, rfl, rfl, rfl, hR2⟩ := hrel
            generalize wr = wy at *
            have HR2 := hid hR2
            clear hR2
            by_cases hqk : q < k
            · have hdq : decide ((q : Int) < (k : Int)) = true := decide_eq_true (by omega)
              have hql : q < l.length := by omega
              have hw2 : IntKind.i64.wrap ((q : Int) + 1) = (q : Int) + 1 := by rw [IntKind.wrap_i64]; omega
              obtain ⟨u, hu⟩ : ∃ u, u = l[q] := ⟨_, rfl⟩
              have hWn := wn_next (h := x.h) (fm := fm) (show l[q]? = some u by rw [List.getElem?_eq_getElem hql, hu])
              have hA : Ha b (o + q * 13) u.k u.h.f u.id wy.drew := by rw [hu]; exact (HRg.out wy HR2.out.1 q hql).on rfl
              have hB := ((HRx.out wy HR2.out.1).on (w' := wy.drew) rfl).rA
              obtain ⟨uk, huk⟩ : ∃ z, z = u.k := ⟨_, rfl⟩
              obtain ⟨uf, huf⟩ : ∃ z, z = u.h.f := ⟨_, rfl⟩
              obtain ⟨ui, hui⟩ : ∃ z, z = u.id := ⟨_, rfl⟩
              have HU : Hid (Hb2 b (o + q * 13) uk uf ui (o + k * 13) xf wy.drew) := by
                rw [huk, huf, hui, HX.out.2.2.1]
                exact ⟨hA.c0, hA.rA, hA.ci, hB⟩
              obtain ⟨be, hbe⟩ : ∃ be, be = eqR 11 uf xf := ⟨_, rfl⟩
              have hbe2 : be = decide (u.h = x.h) := by rw [hbe, huf, HX.out.2.2.1, eqR_hdr]
              obtain ⟨o1, ho1⟩ : ∃ z, z = wn l x.h fm q := ⟨_, rfl⟩
              rw [← ho1, ← huk, ← hui] at hWn
              rw [← ho1]
              have HCi : Hid (wy.drew.cell? ⟨b, o + q * 13 + 12, none⟩ = some (.int .i64 ui)) := HU.out.ci
              by_cases hu1 : uk = 1
              · obtain rfl : uk = 1 := hu1
                have HWn : Hid (wn l x.h fm (q + 1) = if be then some ui else o1) := by
                  show _ = _
                  rw [hWn, hbe2]
                  by_cases e1 : u.h = x.h
                  · rw [if_pos ⟨hq2, rfl, e1⟩, decide_eq_true e1]; rfl
                  · rw [if_neg (fun a => e1 a.2.2), decide_eq_false e1]; rfl
                clear hu hWn hA hB huk huf hui hbe2 ho1
                go_upto_region 15 with fail
                refine wp_region_held_drew (S := Hb2 b (o + q * 13) 1 uf ui (o + k * 13) xf) (by kernel_rfl) HU.out (fun hHeld => ?_)
                refine wpAnyH_take (i := 0) (v := ?_) rfl (by kernel_rfl) (by kernel_rfl) (by kernel_rfl) (fun _ _ _ h => h) (Or.inl ⟨by rfl, ?_⟩) hHeld ?_
                rotate_left
                · intro w' hSw
                  clear hSw
                  go_simp
                  first | done | with_reducible rfl
                simp only [Act.put, List.getElem_toArray, List.getElem_cons_zero, List.setIfInBounds_toArray, List.set_cons_zero, List.set_cons_succ]
                refine wpAnyH_take (i := 1) (v := ?_) rfl (by kernel_rfl) (by kernel_rfl) (by kernel_rfl) (fun _ _ _ h => h) (Or.inl ⟨by rfl, ?_⟩) hHeld ?_
                rotate_left
                · intro w' hSw
                  clear hSw
                  go_simp
                  first | done | with_reducible rfl
                simp only [Act.put, List.getElem_toArray, List.getElem_cons_succ, List.getElem_cons_zero, List.setIfInBounds_toArray, List.set_cons_zero, List.set_cons_succ]
                refine wpAnyH_take (i := 2) (v := ?_) rfl (by kernel_rfl) (by kernel_rfl) (by kernel_rfl) (fun _ _ _ h => h) (Or.inl ⟨by rfl, ?_⟩) hHeld ?_
                rotate_left
                · intro w' hSw
                  clear hSw
                  go_simp
                  first | done | with_reducible rfl
                simp only [Act.put, List.getElem_toArray, List.getElem_cons_succ, List.getElem_cons_zero, List.setIfInBounds_toArray, List.set_cons_zero, List.set_cons_succ]
                refine wpAnyH_take (i := 3) (v := ?_) rfl (by kernel_rfl) (by kernel_rfl) (by kernel_rfl) (fun _ _ _ h => h) (Or.inl ⟨by rfl, ?_⟩) hHeld ?_
                rotate_left
                · intro w' hSw
                  clear hSw
                  go_simp
                  first | done | with_reducible rfl
                simp only [Act.put, List.getElem_toArray, List.getElem_cons_succ, List.getElem_cons_zero, List.setIfInBounds_toArray, List.set_cons_zero, List.set_cons_succ]
                refine wpAnyH_take (i := 4) (v := ?_) rfl (by kernel_rfl) (by kernel_rfl) (by kernel_rfl) (fun _ _ _ h => h) (Or.inl ⟨by rfl, ?_⟩) hHeld ?_
                rotate_left
                · intro w' hSw
                  have c0 := hSw.c0
                  clear hSw
                  go_simp
                  first | done | with_reducible rfl
                simp only [Act.put, List.getElem_toArray, List.getElem_cons_succ, List.getElem_cons_zero, List.setIfInBounds_toArray, List.set_cons_zero, List.set_cons_succ]
                refine wpAnyH_take (i := 5) (v := (.bool true)) rfl (by kernel_rfl) (by kernel_rfl) (by kernel_rfl) (fun _ _ _ h => h) (Or.inl ⟨by rfl, ?_⟩) hHeld ?_
                · intro w' hSw
                  clear hSw
                  go_simp
                  first | done | with_reducible rfl
                simp only [Act.put, List.getElem_toArray, List.getElem_cons_succ, List.getElem_cons_zero, List.setIfInBounds_toArray, List.set_cons_zero, List.set_cons_succ]
                refine wpAnyH_take (i := 6) (v := (.bool true)) rfl (by kernel_rfl) (by kernel_rfl) (by kernel_rfl) (fun _ _ _ h => h) (Or.inl ⟨by rfl, ?_⟩) hHeld ?_
                · intro w' hSw
                  clear hSw
                  go_simp
                  first | done | with_reducible rfl
                simp only [Act.put, List.getElem_toArray, List.getElem_cons_succ, List.getElem_cons_zero, List.setIfInBounds_toArray, List.set_cons_zero, List.set_cons_succ]
                refine wpAnyH_take (i := 7) (v := ?_) rfl (by kernel_rfl) (by kernel_rfl) (by kernel_rfl) (fun _ _ _ h => h) (Or.inl ⟨by rfl, ?_⟩) hHeld ?_
                rotate_left
                · intro w' hSw
                  clear hSw
                  go_simp
                  first | done | with_reducible rfl
                simp only [Act.put, List.getElem_toArray, List.getElem_cons_succ, List.getElem_cons_zero, List.setIfInBounds_toArray, List.set_cons_zero, List.set_cons_succ]
                refine wpAnyH_take (i := 8) (v := ?_) rfl (by kernel_rfl) (by kernel_rfl) (by kernel_rfl) (fun _ _ _ h => h) (Or.inl ⟨by rfl, ?_⟩) hHeld ?_
                rotate_left
                · intro w' hSw
                  clear hSw
                  go_simp
                  first | done | with_reducible rfl
                simp only [Act.put, List.getElem_toArray, List.getElem_cons_succ, List.getElem_cons_zero, List.setIfInBounds_toArray, List.set_cons_zero, List.set_cons_succ]
                refine wpAnyH_take (i := 9) (v := ?_) rfl (by kernel_rfl) (by kernel_rfl) (by kernel_rfl) (fun _ _ _ h => h) (Or.inl ⟨by rfl, ?_⟩) hHeld ?_
                rotate_left
                · intro w' hSw
                  clear hSw
                  go_simp
                  first | done | with_reducible rfl
                simp only [Act.put, List.getElem_toArray, List.getElem_cons_succ, List.getElem_cons_zero, List.setIfInBounds_toArray, List.set_cons_zero, List.set_cons_succ]
                refine wpAnyH_take (i := 10) (v := ?_) rfl (by kernel_rfl) (by kernel_rfl) (by kernel_rfl) (fun _ _ _ h => h) (Or.inl ⟨by rfl, ?_⟩) hHeld ?_
                rotate_left
                · intro w' hSw
                  clear hSw
                  go_simp
                  first | done | with_reducible rfl
                simp only [Act.put, List.getElem_toArray, List.getElem_cons_succ, List.getElem_cons_zero, List.setIfInBounds_toArray, List.set_cons_zero, List.set_cons_succ]
                refine wpAnyH_take (i := 11) (v := (hv uf)) rfl (by kernel_rfl) (by kernel_rfl) (by kernel_rfl) (fun _ _ _ h => h) (Or.inl ⟨by rfl, ?_⟩) hHeld ?_
                · intro w' hSw
                  exact runLd 30 (.tmp 60) rfl b (o + q * 13 + 1) rfl (row 11 uf) _ hSw.rA Try.underlying30 rfl (sizeH uf)
                simp only [Act.put, List.getElem_toArray, List.getElem_cons_succ, List.getElem_cons_zero, List.setIfInBounds_toArray, List.set_cons_zero, List.set_cons_succ]
                refine wpAnyH_take (i := 12) (v := ?_) rfl (by kernel_rfl) (by kernel_rfl) (by kernel_rfl) (fun _ _ _ h => h) (Or.inl ⟨by rfl, ?_⟩) hHeld ?_
                rotate_left
                · intro w' hSw
                  clear hSw
                  go_simp
                  first | done | with_reducible rfl
                simp only [Act.put, List.getElem_toArray, List.getElem_cons_succ, List.getElem_cons_zero, List.setIfInBounds_toArray, List.set_cons_zero, List.set_cons_succ]
                refine wpAnyH_take (i := 13) (v := ?_) rfl (by kernel_rfl) (by kernel_rfl) (by kernel_rfl) (fun _ _ _ h => h) (Or.inl ⟨by rfl, ?_⟩) hHeld ?_
                rotate_left
                · intro w' hSw
                  clear hSw
                  go_simp
                  first | done | with_reducible rfl
                simp only [Act.put, List.getElem_toArray, List.getElem_cons_succ, List.getElem_cons_zero, List.setIfInBounds_toArray, List.set_cons_zero, List.set_cons_succ]
                refine wpAnyH_take (i := 14) (v := ?_) rfl (by kernel_rfl) (by kernel_rfl) (by kernel_rfl) (fun _ _ _ h => h) (Or.inl ⟨by rfl, ?_⟩) hHeld ?_
                rotate_left
                · intro w' hSw
                  clear hSw
                  go_simp
                  first | done | with_reducible rfl
                simp only [Act.put, List.getElem_toArray, List.getElem_cons_succ, List.getElem_cons_zero, List.setIfInBounds_toArray, List.set_cons_zero, List.set_cons_succ]
                refine wpAnyH_take (i := 15) (v := ?_) rfl (by kernel_rfl) (by kernel_rfl) (by kernel_rfl) (fun _ _ _ h => h) (Or.inl ⟨by rfl, ?_⟩) hHeld ?_
                rotate_left
                · intro w' hSw
                  clear hSw
                  go_simp
                  first | done | with_reducible rfl
                simp only [Act.put, List.getElem_toArray, List.getElem_cons_succ, List.getElem_cons_zero, List.setIfInBounds_toArray, List.set_cons_zero, List.set_cons_succ]
                refine wpAnyH_take (i := 16) (v := (hv xf)) rfl (by kernel_rfl) (by kernel_rfl) (by kernel_rfl) (fun _ _ _ h => h) (Or.inl ⟨by rfl, ?_⟩) hHeld ?_
                · intro w' hSw
                  exact runLd 30 (.tmp 65) rfl b (o + k * 13 + 1) rfl (row 11 xf) _ hSw.rB Try.underlying30 rfl (sizeH xf)
                simp only [Act.put, List.getElem_toArray, List.getElem_cons_succ, List.getElem_cons_zero, List.setIfInBounds_toArray, List.set_cons_zero, List.set_cons_succ]
                refine wpAnyH_take (i := 17) (v := (.bool (eqR 11 uf xf))) rfl (by kernel_rfl) (by kernel_rfl) (by kernel_rfl) (fun _ _ _ h => h) (Or.inl ⟨by rfl, ?_⟩) hHeld ?_
                · intro w' hSw
                  exact runEqH (.tmp 61) (.tmp 66) rfl uf xf rfl rfl
                simp only [Act.put, List.getElem_toArray, List.getElem_cons_succ, List.getElem_cons_zero, List.setIfInBounds_toArray, List.set_cons_zero, List.set_cons_succ]
                refine wpAnyH_take (i := 18) (v := (.bool (eqR 11 uf xf))) rfl (by kernel_rfl) (by kernel_rfl) (by kernel_rfl) (fun _ _ _ h => h) (Or.inl ⟨by rfl, ?_⟩) hHeld ?_
                · intro w' hSw
                  clear hSw
                  go_simp
                  first | done | with_reducible rfl
                simp only [Act.put, List.getElem_toArray, List.getElem_cons_succ, List.getElem_cons_zero, List.setIfInBounds_toArray, List.set_cons_zero, List.set_cons_succ]
                refine wpAnyH_done (by kernel_rfl) ?_ _
                rw [← hbe]
                clear hbe
                cases be with
                | true =>
                  have ci := HCi.out
                  go_wp2
                  go_roundw
                  case rel => exact ⟨q + 1, by omega, by omega, by go_num, by rw [HWn.out]; rfl, by rw [HWn.out]; rfl, HR2.out.1.drew, HR2.out.2.carry fun b _ hS => ⟨hS, rfl⟩⟩
                  case measure => simp [intOf]; omega
                | false =>
                  go_wp2
                  go_roundw
                  case rel => exact ⟨q + 1, by omega, by omega, by go_num, by rw [HWn.out]; rfl, by rw [HWn.out]; rfl, HR2.out.1.drew, HR2.out.2.carry fun b _ hS => ⟨hS, rfl⟩⟩
                  case measure => simp [intOf]; omega
              · have e1 : (uk == 1) = false := beq_eq_false_iff_ne.2 hu1
                have HWn : Hid (wn l x.h fm (q + 1) = o1) := by
                  show _ = _
                  rw [hWn, if_neg (fun a => hu1 a.2.1)]
                clear hu hWn hA hB huk huf hui hbe2 ho1 hu1 hbe
                go_upto_region 15 with fail
                refine wp_region_held_drew (S := Hb2 b (o + q * 13) uk uf ui (o + k * 13) xf) (by kernel_rfl) HU.out (fun hHeld => ?_)
                refine wpAnyH_take (i := 0) (v := ?_) rfl (by kernel_rfl) (by kernel_rfl) (by kernel_rfl) (fun _ _ _ h => h) (Or.inl ⟨by rfl, ?_⟩) hHeld ?_
                rotate_left
                · intro w' hSw
                  clear hSw
                  go_simp
                  first | done | with_reducible rfl
                simp only [Act.put, List.getElem_toArray, List.getElem_cons_zero, List.setIfInBounds_toArray, List.set_cons_zero, List.set_cons_succ]
                refine wpAnyH_take (i := 1) (v := ?_) rfl (by kernel_rfl) (by kernel_rfl) (by kernel_rfl) (fun _ _ _ h => h) (Or.inl ⟨by rfl, ?_⟩) hHeld ?_
                rotate_left
                · intro w' hSw
                  clear hSw
                  go_simp
                  first | done | with_reducible rfl
                simp only [Act.put, List.getElem_toArray, List.getElem_cons_succ, List.getElem_cons_zero, List.setIfInBounds_toArray, List.set_cons_zero, List.set_cons_succ]
                refine wpAnyH_take (i := 2) (v := ?_) rfl (by kernel_rfl) (by kernel_rfl) (by kernel_rfl) (fun _ _ _ h => h) (Or.inl ⟨by rfl, ?_⟩) hHeld ?_
                rotate_left
                · intro w' hSw
                  clear hSw
                  go_simp
                  first | done | with_reducible rfl
                simp only [Act.put, List.getElem_toArray, List.getElem_cons_succ, List.getElem_cons_zero, List.setIfInBounds_toArray, List.set_cons_zero, List.set_cons_succ]
                refine wpAnyH_take (i := 3) (v := ?_) rfl (by kernel_rfl) (by kernel_rfl) (by kernel_rfl) (fun _ _ _ h => h) (Or.inl ⟨by rfl, ?_⟩) hHeld ?_
                rotate_left
                · intro w' hSw
                  clear hSw
                  go_simp
                  first | done | with_reducible rfl
                simp only [Act.put, List.getElem_toArray, List.getElem_cons_succ, List.getElem_cons_zero, List.setIfInBounds_toArray, List.set_cons_zero, List.set_cons_succ]
                refine wpAnyH_take (i := 4) (v := ?_) rfl (by kernel_rfl) (by kernel_rfl) (by kernel_rfl) (fun _ _ _ h => h) (Or.inl ⟨by rfl, ?_⟩) hHeld ?_
                rotate_left
                · intro w' hSw
                  have c0 := hSw.c0
                  clear hSw
                  go_simp
                  first | done | with_reducible rfl
                simp only [Act.put, List.getElem_toArray, List.getElem_cons_succ, List.getElem_cons_zero, List.setIfInBounds_toArray, List.set_cons_zero, List.set_cons_succ]
                refine wpAnyH_take (i := 5) (v := (.bool false)) rfl (by kernel_rfl) (by kernel_rfl) (by kernel_rfl) (fun _ _ _ h => h) (Or.inl ⟨by rfl, ?_⟩) hHeld ?_
                · intro w' hSw
                  clear hSw
                  go_simp
                  first | done | with_reducible rfl
                simp only [Act.put, List.getElem_toArray, List.getElem_cons_succ, List.getElem_cons_zero, List.setIfInBounds_toArray, List.set_cons_zero, List.set_cons_succ]
                refine wpAnyH_take (i := 6) (v := (.bool false)) rfl (by kernel_rfl) (by kernel_rfl) (by kernel_rfl) (fun _ _ _ h => h) (Or.inl ⟨by rfl, ?_⟩) hHeld ?_
                · intro w' hSw
                  clear hSw
                  go_simp
                  first | done | with_reducible rfl
                simp only [Act.put, List.getElem_toArray, List.getElem_cons_succ, List.getElem_cons_zero, List.setIfInBounds_toArray, List.set_cons_zero, List.set_cons_succ]
                refine wpAnyH_take (i := 7) (v := undef) rfl (by kernel_rfl) (by kernel_rfl) (by kernel_rfl) (fun _ _ _ h => h) (Or.inr ⟨by rfl, rfl⟩) hHeld ?_
                simp only [Act.put, List.getElem_toArray, List.getElem_cons_succ, List.getElem_cons_zero, List.setIfInBounds_toArray, List.set_cons_zero, List.set_cons_succ]
                refine wpAnyH_take (i := 8) (v := undef) rfl (by kernel_rfl) (by kernel_rfl) (by kernel_rfl) (fun _ _ _ h => h) (Or.inr ⟨by rfl, rfl⟩) hHeld ?_
                simp only [Act.put, List.getElem_toArray, List.getElem_cons_succ, List.getElem_cons_zero, List.setIfInBounds_toArray, List.set_cons_zero, List.set_cons_succ]
                refine wpAnyH_take (i := 9) (v := undef) rfl (by kernel_rfl) (by kernel_rfl) (by kernel_rfl) (fun _ _ _ h => h) (Or.inr ⟨by rfl, rfl⟩) hHeld ?_
                simp only [Act.put, List.getElem_toArray, List.getElem_cons_succ, List.getElem_cons_zero, List.setIfInBounds_toArray, List.set_cons_zero, List.set_cons_succ]
                refine wpAnyH_take (i := 10) (v := undef) rfl (by kernel_rfl) (by kernel_rfl) (by kernel_rfl) (fun _ _ _ h => h) (Or.inr ⟨by rfl, rfl⟩) hHeld ?_
                simp only [Act.put, List.getElem_toArray, List.getElem_cons_succ, List.getElem_cons_zero, List.setIfInBounds_toArray, List.set_cons_zero, List.set_cons_succ]
                refine wpAnyH_take (i := 11) (v := undef) rfl (by kernel_rfl) (by kernel_rfl) (by kernel_rfl) (fun _ _ _ h => h) (Or.inr ⟨by rfl, rfl⟩) hHeld ?_
                simp only [Act.put, List.getElem_toArray, List.getElem_cons_succ, List.getElem_cons_zero, List.setIfInBounds_toArray, List.set_cons_zero, List.set_cons_succ]
                refine wpAnyH_take (i := 12) (v := undef) rfl (by kernel_rfl) (by kernel_rfl) (by kernel_rfl) (fun _ _ _ h => h) (Or.inr ⟨by rfl, rfl⟩) hHeld ?_
                simp only [Act.put, List.getElem_toArray, List.getElem_cons_succ, List.getElem_cons_zero, List.setIfInBounds_toArray, List.set_cons_zero, List.set_cons_succ]
                refine wpAnyH_take (i := 13) (v := undef) rfl (by kernel_rfl) (by kernel_rfl) (by kernel_rfl) (fun _ _ _ h => h) (Or.inr ⟨by rfl, rfl⟩) hHeld ?_
                simp only [Act.put, List.getElem_toArray, List.getElem_cons_succ, List.getElem_cons_zero, List.setIfInBounds_toArray, List.set_cons_zero, List.set_cons_succ]
                refine wpAnyH_take (i := 14) (v := undef) rfl (by kernel_rfl) (by kernel_rfl) (by kernel_rfl) (fun _ _ _ h => h) (Or.inr ⟨by rfl, rfl⟩) hHeld ?_
                simp only [Act.put, List.getElem_toArray, List.getElem_cons_succ, List.getElem_cons_zero, List.setIfInBounds_toArray, List.set_cons_zero, List.set_cons_succ]
                refine wpAnyH_take (i := 15) (v := undef) rfl (by kernel_rfl) (by kernel_rfl) (by kernel_rfl) (fun _ _ _ h => h) (Or.inr ⟨by rfl, rfl⟩) hHeld ?_
                simp only [Act.put, List.getElem_toArray, List.getElem_cons_succ, List.getElem_cons_zero, List.setIfInBounds_toArray, List.set_cons_zero, List.set_cons_succ]
                refine wpAnyH_take (i := 16) (v := undef) rfl (by kernel_rfl) (by kernel_rfl) (by kernel_rfl) (fun _ _ _ h => h) (Or.inr ⟨by rfl, rfl⟩) hHeld ?_
                simp only [Act.put, List.getElem_toArray, List.getElem_cons_succ, List.getElem_cons_zero, List.setIfInBounds_toArray, List.set_cons_zero, List.set_cons_succ]
                refine wpAnyH_take (i := 17) (v := undef) rfl (by kernel_rfl) (by kernel_rfl) (by kernel_rfl) (fun _ _ _ h => h) (Or.inr ⟨by rfl, rfl⟩) hHeld ?_
                simp only [Act.put, List.getElem_toArray, List.getElem_cons_succ, List.getElem_cons_zero, List.setIfInBounds_toArray, List.set_cons_zero, List.set_cons_succ]
                refine wpAnyH_take (i := 18) (v := (.bool false)) rfl (by kernel_rfl) (by kernel_rfl) (by kernel_rfl) (fun _ _ _ h => h) (Or.inl ⟨by rfl, ?_⟩) hHeld ?_
                · intro w' hSw
                  clear hSw
                  go_simp
                  first | done | with_reducible rfl
                simp only [Act.put, List.getElem_toArray, List.getElem_cons_succ, List.getElem_cons_zero, List.setIfInBounds_toArray, List.set_cons_zero, List.set_cons_succ]
                refine wpAnyH_done (by kernel_rfl) ?_ _
                go_wp2
                go_roundw
                case rel => exact ⟨q + 1, by omega, by omega, by go_num, by rw [HWn.out], by rw [HWn.out], HR2.out.1.drew, HR2.out.2.carry fun b _ hS => ⟨hS, rfl⟩⟩
                case measure => simp [intOf]; omega
            · obtain rfl : q = k := by omega
              have hdq : decide ((q : Int) < (q : Int)) = false := by simp
              have HS3 := hid (And.intro HR2.out.1 (And.intro HR2.out.2 (And.intro HKg.out HT0.out)))
              cases gb with
              | true =>
                have hwn := HY.out rfl
                rw [hwn]
                have hbn : (gi != gi) = false := by simp [bne]
                clear hwn
                go_upto_region 30 with fail
                obtain ⟨m, hm⟩ : ∃ m, m = heldS (getS c x.h) := ⟨_, rfl⟩
                have hmN : m ≤ N := by rw [hm, ← HS3.out.2.2.2.len]; exact held_le _
                have HH1 := hid (HH.out wy g (getS c x.h) m HS3.out.1 HS3.out.2.1 HS3.out.2.2.1.2 hm)
                have HH2 : Hid (∀ z, Only S w z → Ca S z (pv g) (getS c x.h) → Calls Try.prog 17 #[pv g] z fun r y => r = .returned (.int .i64 (m : Nat)) ∧ Only S w y ∧ Ca S y (pv g) (getS c x.h)) := fun z hO hC => HH.out z g (getS c x.h) m hO hC HS3.out.2.2.1.2 hm
                have hms : ¬ (1024 : Int) < (m : Int) := by omega
                clear hm HH
                go_wp2_with (first
                  | (go_at_call 17; refine (HH1.out).mono ?_; rintro r z1 ⟨rfl, hO1, hC1⟩; have HZ := hid (HH2.out z1 hO1 hC1); clear hO1 hC1 HH1 HH2)
                  | (go_at_call 17; refine (HZ.out).mono ?_; rintro r z2 ⟨rfl, hO2, hC2⟩; have HZ2 := hid (And.intro hO2 hC2); clear hO2 hC2 HZ))
                all_goals go_roundw
                all_goals first
                  | exact ⟨q + 1, fm, by omega, by go_num, rfl, _, HZ2.out.1, HZ2.out.2, HS3.out.2.2⟩
                  | (simp [intOf]; omega)
              | false =>
                obtain rfl : gi = 0 := HNo.out rfl
                obtain ⟨o1, ho1⟩ : ∃ z, z = wn l x.h fm q := ⟨_, rfl⟩
                rw [← ho1]
                clear ho1
                go_upto_region 30 with fail
                obtain ⟨m, hm⟩ : ∃ m, m = heldS (getS c x.h) := ⟨_, rfl⟩
                have hmN : m ≤ N := by rw [hm, ← HS3.out.2.2.2.len]; exact held_le _
                have HH1 := hid (HH.out wy g (getS c x.h) m HS3.out.1 HS3.out.2.1 HS3.out.2.2.1.2 hm)
                have HH2 : Hid (∀ z, Only S w z → Ca S z (pv g) (getS c x.h) → Calls Try.prog 17 #[pv g] z fun r y => r = .returned (.int .i64 (m : Nat)) ∧ Only S w y ∧ Ca S y (pv g) (getS c x.h)) := fun z hO hC => HH.out z g (getS c x.h) m hO hC HS3.out.2.2.1.2 hm
                have hms : ¬ (1024 : Int) < (m : Int) := by omega
                clear hm HH
                go_wp2_with (first
                  | (go_at_call 17; refine (HH1.out).mono ?_; rintro r z1 ⟨rfl, hO1, hC1⟩; have HZ := hid (HH2.out z1 hO1 hC1); clear hO1 hC1 HH1 HH2)
                  | (go_at_call 17; refine (HZ.out).mono ?_; rintro r z2 ⟨rfl, hO2, hC2⟩; have HZ2 := hid (And.intro hO2 hC2); clear hO2 hC2 HZ))
                all_goals go_roundw
                all_goals first
                  | exact ⟨q + 1, fm, by omega, by go_num, rfl, _, HZ2.out.1, HZ2.out.2, HS3.out.2.2⟩
                  | (simp [intOf]; omega)
        · by_cases t1 : xk = 1
          · obtain rfl : xk = 1 := t1
            have HU : Hid (Ha b (o + k * 13) 1 xf xi wx.drew) := by
              have := (HRx.out wx HR.out.1).on (w' := wx.drew) rfl
              rw [← HX.out.2.1, ← HX.out.2.2.1, ← HX.out.2.2.2] at this
              exact this
            have HP1 := hid (HP.out wx.drew g c x.h xi HR.out.1.drew (HR.out.2.1.carry fun b _ hS => ⟨hS, rfl⟩) HR.out.2.2.1)
            rw [← HX.out.2.2.1] at HP1
            have HUn : Hid (∀ z, Only S w z → Ha b (o + k * 13) 1 xf xi z) := fun z hO => by
              have := HRx.out z hO
              rw [← HX.out.2.1, ← HX.out.2.2.1, ← HX.out.2.2.2] at this
              exact this
            go_upto_region 21 with fail
            refine wp_region_held_drew (S := Ha b (o + k * 13) 1 xf xi) (by kernel_rfl) HU.out (fun hHeld => ?_)
            refine wpAnyH_take (i := 0) (v := ?_) rfl (by kernel_rfl) (by kernel_rfl) (by kernel_rfl) (fun _ _ _ h => h) (Or.inl ⟨by rfl, ?_⟩) hHeld ?_
            rotate_left
            · intro w' hSw
              clear hSw
              go_simp
              first | done | with_reducible rfl
            simp only [Act.put, List.getElem_toArray, List.getElem_cons_zero, List.setIfInBounds_toArray, List.set_cons_zero, List.set_cons_succ]
            refine wpAnyH_take (i := 1) (v := ?_) rfl (by kernel_rfl) (by kernel_rfl) (by kernel_rfl) (fun _ _ _ h => h) (Or.inl ⟨by rfl, ?_⟩) hHeld ?_
            rotate_left
            · intro w' hSw
              clear hSw
              go_simp
              first | done | with_reducible rfl
            simp only [Act.put, List.getElem_toArray, List.getElem_cons_succ, List.getElem_cons_zero, List.setIfInBounds_toArray, List.set_cons_zero, List.set_cons_succ]
            refine wpAnyH_take (i := 2) (v := ?_) rfl (by kernel_rfl) (by kernel_rfl) (by kernel_rfl) (fun _ _ _ h => h) (Or.inl ⟨by rfl, ?_⟩) hHeld ?_
            rotate_left
            · intro w' hSw
              clear hSw
              go_simp
              first | done | with_reducible rfl
            simp only [Act.put, List.getElem_toArray, List.getElem_cons_succ, List.getElem_cons_zero, List.setIfInBounds_toArray, List.set_cons_zero, List.set_cons_succ]
            refine wpAnyH_take (i := 3) (v := ?_) rfl (by kernel_rfl) (by kernel_rfl) (by kernel_rfl) (fun _ _ _ h => h) (Or.inl ⟨by rfl, ?_⟩) hHeld ?_
            rotate_left
            · intro w' hSw
              clear hSw
              go_simp
              first | done | with_reducible rfl
            simp only [Act.put, List.getElem_toArray, List.getElem_cons_succ, List.getElem_cons_zero, List.setIfInBounds_toArray, List.set_cons_zero, List.set_cons_succ]
            refine wpAnyH_take (i := 4) (v := ?_) rfl (by kernel_rfl) (by kernel_rfl) (by kernel_rfl) (fun _ _ _ h => h) (Or.inl ⟨by rfl, ?_⟩) hHeld ?_
            rotate_left
            · intro w' hSw
              clear hSw
              go_simp
              first | done | with_reducible rfl
            simp only [Act.put, List.getElem_toArray, List.getElem_cons_succ, List.getElem_cons_zero, List.setIfInBounds_toArray, List.set_cons_zero, List.set_cons_succ]
            refine wpAnyH_take (i := 5) (v := (hv xf)) rfl (by kernel_rfl) (by kernel_rfl) (by kernel_rfl) (fun _ _ _ h => h) (Or.inl ⟨by rfl, ?_⟩) hHeld ?_
            · intro w' hSw
              exact runLd 30 (.tmp 98) rfl b (o + k * 13 + 1) rfl (row 11 xf) _ hSw.rA Try.underlying30 rfl (sizeH xf)
            simp only [Act.put, List.getElem_toArray, List.getElem_cons_succ, List.getElem_cons_zero, List.setIfInBounds_toArray, List.set_cons_zero, List.set_cons_succ]
            refine wpAnyH_take (i := 6) (v := ?_) rfl (by kernel_rfl) (by kernel_rfl) (by kernel_rfl) (fun _ _ _ h => h) (Or.inl ⟨by rfl, ?_⟩) hHeld ?_
            rotate_left
            · intro w' hSw
              clear hSw
              go_simp
              first | done | with_reducible rfl
            simp only [Act.put, List.getElem_toArray, List.getElem_cons_succ, List.getElem_cons_zero, List.setIfInBounds_toArray, List.set_cons_zero, List.set_cons_succ]
            refine wpAnyH_take (i := 7) (v := ?_) rfl (by kernel_rfl) (by kernel_rfl) (by kernel_rfl) (fun _ _ _ h => h) (Or.inl ⟨by rfl, ?_⟩) hHeld ?_
            rotate_left
            · intro w' hSw
              clear hSw
              go_simp
              first | done | with_reducible rfl
            simp only [Act.put, List.getElem_toArray, List.getElem_cons_succ, List.getElem_cons_zero, List.setIfInBounds_toArray, List.set_cons_zero, List.set_cons_succ]
            refine wpAnyH_take (i := 8) (v := ?_) rfl (by kernel_rfl) (by kernel_rfl) (by kernel_rfl) (fun _ _ _ h => h) (Or.inl ⟨by rfl, ?_⟩) hHeld ?_
            rotate_left
            · intro w' hSw
              clear hSw
              go_simp
              first | done | with_reducible rfl
            simp only [Act.put, List.getElem_toArray, List.getElem_cons_succ, List.getElem_cons_zero, List.setIfInBounds_toArray, List.set_cons_zero, List.set_cons_succ]
            refine wpAnyH_take (i := 9) (v := ?_) rfl (by kernel_rfl) (by kernel_rfl) (by kernel_rfl) (fun _ _ _ h => h) (Or.inl ⟨by rfl, ?_⟩) hHeld ?_
            rotate_left
            · intro w' hSw
              clear hSw
              go_simp
              first | done | with_reducible rfl
            simp only [Act.put, List.getElem_toArray, List.getElem_cons_succ, List.getElem_cons_zero, List.setIfInBounds_toArray, List.set_cons_zero, List.set_cons_succ]
            refine wpAnyH_take (i := 10) (v := ?_) rfl (by kernel_rfl) (by kernel_rfl) (by kernel_rfl) (fun _ _ _ h => h) (Or.inl ⟨by rfl, ?_⟩) hHeld ?_
            rotate_left
            · intro w' hSw
              have ci := hSw.ci
              clear hSw
              go_simp
              first | done | with_reducible rfl
            simp only [Act.put, List.getElem_toArray, List.getElem_cons_succ, List.getElem_cons_zero, List.setIfInBounds_toArray, List.set_cons_zero, List.set_cons_succ]
            refine wpAnyH_ready (rs := [11]) (by kernel_rfl) (by simp) ?_
            refine AllReadyH.cons rfl (fun K hK => ?_) AllReadyH.nil
            refine stepFnW 13 (.func 13) [.tmp 94, .tmp 99, .tmp 104] _ [pv g, hv xf, .int .i64 xi] rfl rfl rfl rfl (fun _ => rfl) _ HP1.out ?_
            rintro r5 y1 ⟨rfl, hO1, hC1⟩
            refine Or.inl ⟨_, rfl, ?_⟩
            have HR1 := hid (And.intro hO1 hC1)
            refine hK.out _ _ (HUn.out y1 hO1) (fun hHeld => ?_)
            clear hK K
            simp only [Act.put, List.getElem_toArray, List.getElem_cons_succ, List.getElem_cons_zero, List.setIfInBounds_toArray, List.set_cons_zero, List.set_cons_succ]
            clear hO1 hC1 HP1
            refine wpAnyH_done (by kernel_rfl) ?_ _
            have HG1 := hid (HG.out y1 g _ x.h HR1.out.1 HR1.out.2)
            have HRw := hid (HUn.out y1 HR1.out.1).rA
            rw [← HX.out.2.2.1] at HG1
            have HDi := hid HR1.out.2.dis
            rw [HX.out.2.2.2] at HG1 HDi HR1
            obtain ⟨gi, hgi⟩ : ∃ z, z = getI (putS c x.h x.id) x.h := ⟨_, rfl⟩
            obtain ⟨gb, hgb⟩ : ∃ z, z = getB (putS c x.h x.id) x.h := ⟨_, rfl⟩
            rw [← hgi, ← hgb] at HG1
            have HPg : Hid (c.es ≠ [] → gi = xi ∧ gb = true) := fun hne => by
              have := put_get (y := x.h) (id := x.id) HR.out.2.2.1 hne HDi.out
              rw [hgi, hgb, HX.out.2.2.2]; exact this
            have HT1 := hid ((HR.out.2.2.2.put HX.out.1 HX.out.2.1.symm HR.out.2.2.1 HR.out.2.1.dis).get0 x.h)
            have HK1 := hid ((HR.out.2.2.1.put x.h x.id).get x.h)
            have hce : c.es.length = N := HR.out.2.2.2.len
            have HCe := hid hce
            clear hgi hgb c0 hce
            go_upto_region 23 with (first
              | (refine ldMid 30 (.tmp 111) rfl rfl b (o + k * 13 + 1) rfl (row 11 xf) _ Try.underlying30 rfl (sizeH xf) HRw.out ?_)
              | (go_at_call 11; refine (HG1.out).mono ?_; rintro r y2 ⟨rfl, hR2⟩; have HS3 := hid (And.intro hR2.1 (And.intro hR2.2 (And.intro HK1.out HT1.out))); clear hR2 HG1))
            have ci := (HUn.out y2 HS3.out.1).ci
            have hsz : decide ((0 : Int) < size) = true := decide_eq_true (by omega)
            obtain ⟨e1, e2⟩ := HPg.out (List.length_pos_iff.1 (by rw [HCe.out]; omega))
            subst e1 e2
            have hbn : (gi != gi) = false := by simp [bne]
            go_upto_region 30 with fail
            obtain ⟨m, hm⟩ : ∃ m, m = heldS (getS (putS c x.h x.id) x.h) := ⟨_, rfl⟩
            have hmN : m ≤ N := by rw [hm, ← HS3.out.2.2.2.len]; exact held_le _
            have HH1 := hid (HH.out y2 g (getS (putS c x.h x.id) x.h) m HS3.out.1 HS3.out.2.1 HS3.out.2.2.1.2 hm)
            have HH2 : Hid (∀ z, Only S w z → Ca S z (pv g) (getS (putS c x.h x.id) x.h) → Calls Try.prog 17 #[pv g] z fun r y => r = .returned (.int .i64 (m : Nat)) ∧ Only S w y ∧ Ca S y (pv g) (getS (putS c x.h x.id) x.h)) := fun z hO hC => HH.out z g (getS (putS c x.h x.id) x.h) m hO hC HS3.out.2.2.1.2 hm
            have hms : ¬ (1024 : Int) < (m : Int) := by omega
            clear hm HH
            go_wp2_with (first
              | (go_at_call 17; refine (HH1.out).mono ?_; rintro r z1 ⟨rfl, hO1, hC1⟩; have HZ := hid (HH2.out z1 hO1 hC1); clear hO1 hC1 HH1 HH2)
              | (go_at_call 17; refine (HZ.out).mono ?_; rintro r z2 ⟨rfl, hO2, hC2⟩; have HZ2 := hid (And.intro hO2 hC2); clear hO2 hC2 HZ))
            all_goals go_roundw
            all_goals first
              | exact ⟨k + 1, fm, by omega, by go_num, rfl, _, HZ2.out.1, HZ2.out.2, HS3.out.2.2⟩
              | (simp [intOf]; omega)
          · by_cases t2 : xk = 2
            · obtain rfl : xk = 2 := t2
              have HT1 := hid (HT.out wx g c HR.out.1 HR.out.2.1 ⟨HR.out.2.2.2.now.1, by have := HR.out.2.2.2.now.2; omega⟩)
              have HTu := hid HR.out.2.2.2.turn
              go_upto_region 28 with (go_at_call 15; refine (HT1.out).mono ?_; rintro r y1 ⟨rfl, hO1, hC1⟩; have HR1 := hid (And.intro hO1 hC1); clear hO1 hC1 HT1)
              have HH0 := hid (HH.out y1 g (turnS c) 0 HR1.out.1 HR1.out.2 HR.out.2.2.1.2 HTu.out.2.symm)
              go_upto_region 30 with (go_at_call 17; refine (HH0.out).mono ?_; rintro r y2 ⟨rfl, hO1, hC1⟩; have HS3 := hid (And.intro hO1 (And.intro hC1 (And.intro HR.out.2.2.1.turn HTu.out.1))); clear hO1 hC1 HH0)
              obtain ⟨m, hm⟩ : ∃ m, m = heldS (turnS c) := ⟨_, rfl⟩
              have hmN : m ≤ N := by rw [hm, ← HS3.out.2.2.2.len]; exact held_le _
              have HH1 := hid (HH.out y2 g (turnS c) m HS3.out.1 HS3.out.2.1 HS3.out.2.2.1.2 hm)
              have HH2 : Hid (∀ z, Only S w z → Ca S z (pv g) (turnS c) → Calls Try.prog 17 #[pv g] z fun r y => r = .returned (.int .i64 (m : Nat)) ∧ Only S w y ∧ Ca S y (pv g) (turnS c)) := fun z hO hC => HH.out z g (turnS c) m hO hC HS3.out.2.2.1.2 hm
              have hms : ¬ (1024 : Int) < (m : Int) := by omega
              clear hm HH
              go_wp2_with (first
                | (go_at_call 17; refine (HH1.out).mono ?_; rintro r z1 ⟨rfl, hO1, hC1⟩; have HZ := hid (HH2.out z1 hO1 hC1); clear hO1 hC1 HH1 HH2)
                | (go_at_call 17; refine (HZ.out).mono ?_; rintro r z2 ⟨rfl, hO2, hC2⟩; have HZ2 := hid (And.intro hO2 hC2); clear hO2 hC2 HZ))
              all_goals go_roundw
              all_goals first
                | exact ⟨k + 1, k, by omega, by go_num, rfl, _, HZ2.out.1, HZ2.out.2, HS3.out.2.2⟩
                | (simp [intOf]; omega)
            · have e0 : (xk == 0) = false := beq_eq_false_iff_ne.2 t0
              have e1 : (xk == 1) = false := beq_eq_false_iff_ne.2 t1
              have e2 : (xk == 2) = false := beq_eq_false_iff_ne.2 t2
              have HS3 := hid (And.intro HR.out.1 (And.intro HR.out.2.1 (And.intro HR.out.2.2.1 (HR.out.2.2.2.other HX.out.1 (by rw [← HX.out.2.1]; exact t1)))))
              clear t0 t1 t2
              go_upto_region 30 with fail
              obtain ⟨m, hm⟩ : ∃ m, m = heldS (c) := ⟨_, rfl⟩
              have hmN : m ≤ N := by rw [hm, ← HS3.out.2.2.2.len]; exact held_le _
              have HH1 := hid (HH.out wx g (c) m HS3.out.1 HS3.out.2.1 HS3.out.2.2.1.2 hm)
              have HH2 : Hid (∀ z, Only S w z → Ca S z (pv g) (c) → Calls Try.prog 17 #[pv g] z fun r y => r = .returned (.int .i64 (m : Nat)) ∧ Only S w y ∧ Ca S y (pv g) (c)) := fun z hO hC => HH.out z g (c) m hO hC HS3.out.2.2.1.2 hm
              have hms : ¬ (1024 : Int) < (m : Int) := by omega
              clear hm HH
              go_wp2_with (first
                | (go_at_call 17; refine (HH1.out).mono ?_; rintro r z1 ⟨rfl, hO1, hC1⟩; have HZ := hid (HH2.out z1 hO1 hC1); clear hO1 hC1 HH1 HH2)
                | (go_at_call 17; refine (HZ.out).mono ?_; rintro r z2 ⟨rfl, hO2, hC2⟩; have HZ2 := hid (And.intro hO2 hC2); clear hO2 hC2 HZ))
              all_goals go_roundw
              all_goals first
                | exact ⟨k + 1, fm, by omega, by go_num, rfl, _, HZ2.out.1, HZ2.out.2, HS3.out.2.2⟩
                | (simp [intOf]; omega)
      · obtain rfl : k = l.length := by omega
        have hdk : decide ((l.length : Int) < (l.length : Int)) = false := by simp
        have HWk := hid (HW.out wx HR.out.1)
        clear HP HG HLs HT HH HW
        go_wp2_with (go_at_call 8; refine (HWk.out).mono ?_; rintro r y7 ⟨rfl, hb7⟩; have HB7 := hid hb7; clear hb7)
        go_ret
        exact ⟨rfl, HB7.out⟩
end Go.Proofs.Ytpmdgockiblkaaa
