/-
  Proved here: lists are read by readList, at uint16, Action, []Action; shorts, actions: as the plain reading tells, or the panic with ErrMessage. Conditions: the bytes lie in blocks of T, the cursor's is none of them.
-/
import Derived.Test.YtllbbbfkdgjffaaGreatDoorR4
namespace Go.Proofs.YtllbbbfkdgjffaaGreatDoor
open Go.RowKit

section
variable {α : Type} {R : (Nat → Prop) → World → (Nat → Option Value) → α → Prop} {k : Nat}
/-- A thing was read and appended. -/
theorem apl_step (hRc : ∀ (T T' : Nat → Prop) (w w' : World) f x, (∀ b, b < w.heap.size → T b → T' b ∧ w'.heap[b]? = w.heap[b]?) → R T w f x → R T' w' f x) (hcg : ∀ (T : Nat → Prop) (w : World) f f' y, (∀ i, i < k → f i = f' i) → R T w f y → R T w f' y)
    {n c : Nat} {e : TypeId} {wr w2 W3 w4 : World} {v v' : Value} {ms : List α} {vs news : List Value} {x : α} (hn : n ≤ wr.heap.size) (hc : c < n) (hvs : wr.ownsRow n e k v ms.length vs) (hold : ∀ j (hj : j < ms.length), R (TI n wr v) wr (fun i => vs[j * k + i]?) ms[j])
    (ho : Only (fun x => x = c ∨ wr.heap.size ≤ x) wr w2) (hb3 : Below w2.heap.size w2 W3) (hown : w4.ownsRow n e k v' (ms.length + 1) (vs ++ news)) (hg : W3.grownBy w4 v.ownBlock) (hsame : ∀ j, v'.ownBlock = some j → j < W3.heap.size → v.ownBlock = some j) (hnl : news.length = k) (hnew : R (fun b => wr.heap.size ≤ b ∧ b < w2.heap.size) w2 (fun i => news[i]?) x) :
    Apl n e k (R (TI n w4 v')) w4 v' (ms ++ [x]) := by
  have hs1 := ho.size
  have hs2 := hb3.size
  have hs3 := hg.size
  have hlt : ∀ b, v.ownBlock = some b → b < wr.heap.size := fun b hb => (hvs.lt b hb).2
  have keep : ∀ b, b < w2.heap.size → v.ownBlock ≠ some b → w4.heap[b]? = w2.heap[b]? := fun b hb hne => by
    rw [hg.block b (by omega) (fun e => hne e.symm), hb3.block b hb]
  refine Apl.push hown hvs.1 hnl (fun j hj => hRc _ _ _ _ _ _ (fun b hb hT => ?_) (hold j hj)) (hRc _ _ _ _ _ _ (fun b hb hT => ?_) hnew) (hcg _ _)
  · obtain ⟨⟨h1, h2⟩, h3⟩ := hT
    refine ⟨⟨⟨h1, by omega⟩, fun e => h3 (hsame b e (by omega))⟩, ?_⟩
    rw [keep b (by omega) h3, ho.block b (by rintro (e | e) <;> omega)]
  · obtain ⟨h1, h2⟩ := hT
    have h3 : v.ownBlock ≠ some b := fun e => by have := hlt b e; omega
    exact ⟨⟨⟨by omega, by omega⟩, fun e => h3 (hsame b e (by omega))⟩, keep b hb h3⟩
/-- And the cursor. -/
theorem rc_step {T : Nat → Prop} {n c : Nat} {e : TypeId} {m : Nat} {w wr w2 W3 w4 : World} {v : Value} {r r' : List Int} {vs : List Value} (hR : Rc T wr c r) (hO : Only (fun x => x = c ∨ n ≤ x) w wr) (hn : n ≤ wr.heap.size) (hc : c < n) (h2 : 2 ≤ n) (hT : ∀ x, T x → x < n) (hvs : wr.ownsRow n e k v m vs)
    (ho : Only (fun x => x = c ∨ wr.heap.size ≤ x) wr w2) (hcur : Cur T w2 c r') (hb3 : Below w2.heap.size w2 W3) (hg : W3.grownBy w4 v.ownBlock) :
    Rc T w4 c r' ∧ Only (fun x => x = c ∨ n ≤ x) w w4 ∧ n ≤ w4.heap.size := by
  have hs1 := ho.size
  have hs2 := hb3.size
  have hs3 := hg.size
  have hge : ∀ b, v.ownBlock = some b → n ≤ b := fun b hb => (hvs.lt b hb).1
  have hR3 := (hR.on ho hcur).new hb3
  have ho4 : Only (fun x => n ≤ x) W3 w4 := ⟨hg.os, hg.tape, hg.output, hg.size, fun b hb => by
    rcases Nat.lt_or_ge b W3.heap.size with h | h
    · exact hg.block b h (fun e => hb (hge b e.symm))
    · exact absurd (show n ≤ b by omega) hb⟩
  refine ⟨⟨hR3.cur.carry (ho4.block c (by omega)) fun b _ hb => ⟨hb, ho4.block b (by have := hT b hb; omega)⟩, hR.out, hR3.tab.of (ho4.block 0 (by omega)) (ho4.block 1 (by omega)), hR.two, fun x hx => by have := hT x hx; omega⟩, ?_, by omega⟩
  exact ((hO.trans (ho.mono fun x hx => by rcases hx with e | e; exact Or.inl e; exact Or.inr (by omega))).trans (Only.of hb3 fun x hx => Or.inr (by omega))).trans (ho4.mono fun x hx => Or.inr hx)
/-- An owned row in a world that has gone on. -/
theorem own_step {n c : Nat} {e : TypeId} {m : Nat} {wr w2 W3 : World} {v : Value} {vs : List Value} (hc : c < n) (hvs : wr.ownsRow n e k v m vs) (ho : Only (fun x => x = c ∨ wr.heap.size ≤ x) wr w2) (hb3 : Below w2.heap.size w2 W3) : W3.ownsRow n e k v m vs := by
  refine ⟨hvs.1, ?_⟩
  have hs := ho.size
  rcases hvs.2 with h | ⟨g, cap, cur, e1, hb, hg, hr⟩
  · exact Or.inl h
  · refine Or.inr ⟨g, cap, cur, e1, hb, ?_, hr⟩
    have hl := (Array.getElem?_eq_some_iff.1 hg).1
    rw [hb3.block g (by omega), ho.block g (by rintro (e | e) <;> omega)]; exact hg
end
theorem caSh (T T' : Nat → Prop) (w w' : World) (f : Nat → Option Value) (x : Int) (_ : ∀ b, b < w.heap.size → T b → T' b ∧ w'.heap[b]? = w.heap[b]?) (h : RSh w f x) : RSh w' f x := h
theorem cgSh (_ : Nat → Prop) (w : World) (f f' : Nat → Option Value) (y : Int) (hf : ∀ i, i < 1 → f i = f' i) (h : RSh w f y) : RSh w f' y := ⟨(hf 0 (by omega)).symm.trans h.1, h.2⟩
theorem caAc (T T' : Nat → Prop) (w w' : World) (f : Nat → Option Value) (x : Ac) (_ : ∀ b, b < w.heap.size → T b → T' b ∧ w'.heap[b]? = w.heap[b]?) (h : RAc w f x) : RAc w' f x := h
theorem cgAc (_ : Nat → Prop) (w : World) (f f' : Nat → Option Value) (y : Ac) (hf : ∀ i, i < 3 → f i = f' i) (h : RAc w f y) : RAc w f' y := ⟨(hf 0 (by omega)).symm.trans h.1, (hf 1 (by omega)).symm.trans h.2.1, (hf 2 (by omega)).symm.trans h.2.2.1, h.2.2.2⟩
theorem caCp (T T' : Nat → Prop) (w w' : World) (f : Nat → Option Value) (x : List Ac) (hc : ∀ b, b < w.heap.size → T b → T' b ∧ w'.heap[b]? = w.heap[b]?) (h : RCp T w f x) : RCp T' w' f x := by
  obtain ⟨u, h1, h2⟩ := h
  exact ⟨u, h1, Acs.carry hc h2⟩
theorem cgCp (T : Nat → Prop) (w : World) (f f' : Nat → Option Value) (y : List Ac) (hf : ∀ i, i < 1 → f i = f' i) (h : RCp T w f y) : RCp T w f' y := by
  obtain ⟨u, h1, h2⟩ := h
  exact ⟨u, (hf 0 (by omega)).symm.trans h1, h2⟩
theorem caHd (T T' : Nat → Prop) (w w' : World) (f : Nat → Option Value) (x : Hd) (hc : ∀ b, b < w.heap.size → T b → T' b ∧ w'.heap[b]? = w.heap[b]?) (h : RHd T w f x) : RHd T' w' f x := by
  obtain ⟨u, h1, h2, h3⟩ := h
  exact ⟨u, h1, Cps.carry hc h2, h3⟩
theorem cgHd (T : Nat → Prop) (w : World) (f f' : Nat → Option Value) (y : Hd) (hf : ∀ i, i < 27 → f i = f' i) (h : RHd T w f y) : RHd T w f' y := by
  obtain ⟨u, h1, h2, h3⟩ := h
  exact ⟨u, fun i hi => (hf i hi).symm.trans (h1 i hi), h2, h3⟩
def VSh : Nat → World → Value → Int → Prop := fun _ _ v x => v = .int .u16 x ∧ In16 x
def VShs : Nat → World → Value → List Int → Prop := fun n w v l => Shs (fun k => n ≤ k ∧ k < w.heap.size) w v l
def VAs : Nat → World → Value → List Ac → Prop := fun n w v l => Acs (fun k => n ≤ k ∧ k < w.heap.size) w v l
def VCs : Nat → World → Value → List (List Ac) → Prop := fun n w v l => Cps (fun k => n ≤ k ∧ k < w.heap.size) w v l
def VHd : Nat → World → Value → Hd → Prop := fun n w v x => ∃ u, v = .agg (hdc x u) ∧ Cps (fun k => n ≤ k ∧ k < w.heap.size) w u x.r.cp ∧ x.Fit
def VHs : Nat → World → Value → List Hd → Prop := fun n w v l => Hds (fun k => n ≤ k ∧ k < w.heap.size) w v l
theorem RdP.mono {α : Type} {T : Nat → Prop} {c : Nat} {o : Option (α × List Int)} {V V' : Nat → World → Value → α → Prop} {w w' : World} {e : Ending} (h : RdP T c o V w e w') (hV : ∀ v x r, o = some (x, r) → V w.heap.size w' v x → V' w.heap.size w' v x) : RdP T c o V' w e w' := by
  obtain ⟨h1, h2 | ⟨x, r, v, h2, h3, h4, h5⟩⟩ := h
  · exact ⟨h1, Or.inl h2⟩
  · exact ⟨h1, Or.inr ⟨x, r, v, h2, h3, h4, hV v x r h2 h5⟩⟩
section
variable {T : Nat → Prop} {c : Nat} {bs : List Int} {w : World}
theorem cshort_el (h : Rc T w c bs) : Calls Tryz.prog 56 #[ptr c] w (RdP T c (tk 2 bs) VSh w) :=
  (cshort_any c bs w h.cur h.out).mono fun e w' hq => hq.mono fun v x r ho hv => ⟨hv, by
    have := tk_bd h.cur.isB ho
    rw [pw2] at this
    exact this⟩
theorem caction_el (h : Rc T w c bs) : Calls Tryz.prog 126 #[ptr c] w (RdP T c (rdAc true bs) VA w) := caction_any h

theorem infoU : (Tryz.prog.info? 32).map (fun i => (i.zero, i.size, i.bytes)) = some (some (.int .u16 0), 1, 2) := by kernel_rfl
set_option maxHeartbeats 1600000 in
set_option maxRecDepth 100000 in
theorem rlU_any (h : Rc T w c bs) : Calls Tryz.prog 94 #[ptr c, fnV 56] w (RdP T c (rdL (tk 2) bs) VShs w) := by
  have HN := hid (ccount_any c bs w h.cur h.out)
  have hB := h.cur.isB
  have hcw := h.cur.lt
  have hpos : 2 ≤ w.heap.size := by have := h.tab.pos; omega
  have HTo := hid h.old
  have HR := hid h
  have HE := hid (fun (wr : World) (r : List Int) (hr : Rc T wr c r) => cshort_el hr)
  obtain ⟨sp, HSp⟩ : ∃ o, Hid (rdL (tk 2) bs = o) := ⟨_, rfl⟩
  rw [HSp.out]
  rw [show rdL (tk 2) bs = (tk 2 bs).bind fun c => rdl (tk 2) c.1.toNat c.2 from rfl] at HSp
  obtain ⟨i, hi, hz0, hz1, hz2⟩ := info_parts infoU
  have HI := hid (And.intro hi (And.intro hz0 (And.intro hz1 hz2)))
  clear hi hz0 hz1 hz2
  cases ht : tk 2 bs with
  | none =>
    rw [ht] at HN HSp
    clear h hB ht
    go_enter Tryz.func94, Tryz.ntmps94
    go_wp2_with (go_at_call 39; refine (HN.out).mono ?_; intro e w1 h9; obtain ⟨rfl, hq⟩ := RdP.bad h9; have H9 := hid hq; clear hq h9)
    exact ⟨rfl, RdP.no H9.out HSp.out.symm⟩
  | some q =>
    obtain ⟨n, r0⟩ := q
    rw [ht] at HN HSp
    obtain ⟨-, n0, n1, -⟩ := tk_inv hB ht
    rw [pw2] at n1
    simp only [Option.bind_some] at HSp
    clear h hB ht
    obtain ⟨N, rfl⟩ := Int.eq_ofNat_of_zero_le n0
    simp only [Int.toNat_natCast] at HSp
    have hN : N < 65536 := by omega
    clear n0 n1
    go_enter Tryz.func94, Tryz.ntmps94
    go_wp2_with (go_at_call 39; refine (HN.out).mono ?_; intro e w1 h9; obtain ⟨v, rfl, h1, h2, rfl⟩ := RdP.get h9; have H9 := hid (And.intro h1 (HR.out.on h1 h2)); clear h1 h2 h9)
    go_loopw [5, 8] (fun l i wr => ∃ (j : Nat) (ms : List Int) (r : List Int), j ≤ N ∧ i = .int .i64 j ∧ ms.length = j ∧ Only (fun x => x = c ∨ w.heap.size ≤ x) w wr ∧ Rc T wr c r ∧ w.heap.size ≤ wr.heap.size ∧ Apl w.heap.size 32 1 ((fun _ => RSh) (TI w.heap.size wr l)) wr l ms ∧ rdl (tk 2) N r0 = (rdl (tk 2) (N - j) r).map fun q => (ms ++ q.1, q.2)) (fun _ i _ => N - (intOf i).toNat)
    case atStart => exact ⟨0, [], r0, by omega, rfl, rfl, H9.out.1, H9.out.2, H9.out.1.size, Apl.nil _ _ _ _ _, by simp⟩
    case round =>
      obtain ⟨j, ms, r, hj, rfl, hml, ho, hrc, hn, hap, hrel⟩ := hrel
      have HO := hid ho
      have HC := hid hrc
      have HAp := hid hap
      have HRel := hid hrel
      have HML := hid hml
      clear ho hrc hap hrel hml H9 HN HR
      by_cases hlt : j < N
      · obtain ⟨q, hq⟩ : ∃ q, N - j = q + 1 := ⟨N - j - 1, by omega⟩
        have HQ := hid hq
        clear hq
        have HEr := HE.out wr r HC.out
        cases hms : (tk 2) r with
        | none =>
          have HNo : Hid (sp = none) := by
            show _ = _
            rw [← HSp.out, HRel.out, HQ.out]; unfold rdl; rw [hms]; rfl
          rw [hms] at HEr
          have HEr' := hid HEr
          clear HEr hms HRel HQ HE
          go_wp2_with (go_at_call 56; refine (HEr'.out).mono ?_; intro e w2 h9; obtain ⟨rfl, hq⟩ := RdP.bad h9; have H2 := hid hq; clear hq h9)
          exact ⟨rfl, RdP.no (HO.out.trans (H2.out.mono fun x hx => by rcases hx with e | e; exact Or.inl e; exact Or.inr (by omega))) HNo.out⟩
        | some pr =>
          obtain ⟨x, r'⟩ := pr
          have HNx : Hid (rdl (tk 2) N r0 = (rdl (tk 2) (N - (j + 1)) r').map fun q => ((ms ++ [x]) ++ q.1, q.2)) := by
            show _ = _
            rw [HRel.out, HQ.out, show N - (j + 1) = q by have := HQ.out; omega]
            conv => lhs; unfold rdl
            rw [hms]
            simp only [Option.bind_some]
            exact map_app
          rw [hms] at HEr
          have HEr' := hid HEr
          obtain ⟨vs, hvs, hold⟩ := HAp.out
          have HVs := hid (And.intro hvs hold)
          clear HEr hms HRel HQ HE hvs hold HAp
          go_wp2_with (first
            | (at_builtin; refine appG 33 32 (.tmp 10) (.tmp 14) rfl rfl i (.int .u16 0) 1 2 Tryz.underlying33 HI.out.1 HI.out.2.1 HI.out.2.2.1 HI.out.2.2.2 rfl (by omega) (news := (#[.int .u16 x] : Array Value).toList) rfl rfl HW3.out.1 HW3.out.2.1 HW3.out.2.2.1 HW3.out.2.2.2.1 HW3.out.2.2.2.2 (by have := HML.out; omega) (by omega) ?_
               intro v4 w4 g1 g2 g3
               have HY : Hid _ := And.intro g1 (And.intro g2 g3)
               clear g1 g2 g3)
            | (go_at_call 56; refine (HEr'.out).mono ?_; intro e w2 h9; obtain ⟨v2, rfl, h1, h2, hv⟩ := RdP.get h9
               obtain ⟨rfl, hx16⟩ := hv
               have hb3 : Below w2.heap.size w2 (w2.alloc (.cells (#[.int .u16 x] : Array Value) 32)) := (Below.refl _ _).alloc (Nat.le_refl _) _
               have HB3 := hid hb3
               have HX := hid (And.intro h1 h2)
               have HEl := hid hx16
               clear hx16
               have HW3 : Hid ((w2.alloc (.cells (#[.int .u16 x] : Array Value) 32)).ownsRow w.heap.size 32 1 u5 ms.length vs ∧ (#[.int .u16 x] : Array Value).toList.length = 1 ∧ (∀ j u, (#[.int .u16 x] : Array Value).toList[j]? = some u → (w2.alloc (.cells (#[.int .u16 x] : Array Value) 32)).cell? ⟨w2.heap.size, j, none⟩ = some u) ∧ (∀ u ∈ (#[.int .u16 x] : Array Value).toList, u.oneCell' = true) ∧ w.heap.size ≤ (w2.alloc (.cells (#[.int .u16 x] : Array Value) 32)).heap.size) := by
                 refine And.intro (own_step (by omega) HVs.out.1 h1 hb3) (And.intro rfl (And.intro (fun j u hu => ?_) (And.intro (fun u hu => by rw [show u = .int .u16 x by simpa using hu]; rfl) (by have := h1.size; simp; omega))))
                 rw [cell_of_row _ _ j _ _ _ (heap_alloc_new _ _)]
                 simpa using hu
               clear h1 h2 h9 hb3))
          have hstep := rc_step (k := 1) HC.out HO.out hn (by omega) hpos HTo.out HVs.out.1 HX.out.1 HX.out.2 HB3.out HY.out.2.1
          have hapl := apl_step (R := (fun _ => RSh)) (k := 1) caSh cgSh hn (show c < w.heap.size by omega) HVs.out.1 HVs.out.2 HX.out.1 HB3.out HY.out.1 HY.out.2.1 HY.out.2.2 HW3.out.2.1 ⟨rfl, HEl.out⟩
          have HF := hid (And.intro hstep hapl)
          clear hstep hapl HY HW3 HB3 HX HVs
          go_wp2
          go_roundw
          case rel => exact ⟨j + 1, ms ++ [x], r', by omega, by go_num, by simp [HML.out], HF.out.1.2.1, HF.out.1.1, HF.out.1.2.2, HF.out.2, HNx.out⟩
          case measure => simp [intOf]; omega
      · obtain rfl : j = N := by omega
        have HY : Hid (sp = some (ms, r)) := by
          show _ = _
          rw [← HSp.out, HRel.out, Nat.sub_self]; simp [rdl]
        clear HRel HE
        go_wp2
        go_ret
        exact RdP.yes HO.out HY.out HC.out.cur (Apl.lst HAp.out (by have := HML.out; omega) (fun b h1 h2 => ⟨h1, h2⟩) (fun f f' y hf hR => cgSh (fun k => w.heap.size ≤ k ∧ k < wr.heap.size) _ _ _ _ hf (caSh (TI w.heap.size wr u5) (fun k => w.heap.size ≤ k ∧ k < wr.heap.size) _ _ _ _ (fun b hb hT => ⟨hT.1, rfl⟩) hR)))

theorem infoA : (Tryz.prog.info? 93).map (fun i => (i.zero, i.size, i.bytes)) = some (some (.agg z93), 3, 16) := by kernel_rfl
set_option maxHeartbeats 1600000 in
set_option maxRecDepth 100000 in
theorem rlA_any (h : Rc T w c bs) : Calls Tryz.prog 125 #[ptr c, fnV 126] w (RdP T c (rdL (rdAc true) bs) VAs w) := by
  have HN := hid (ccount_any c bs w h.cur h.out)
  have hB := h.cur.isB
  have hcw := h.cur.lt
  have hpos : 2 ≤ w.heap.size := by have := h.tab.pos; omega
  have HTo := hid h.old
  have HR := hid h
  have HE := hid (fun (wr : World) (r : List Int) (hr : Rc T wr c r) => caction_el hr)
  obtain ⟨sp, HSp⟩ : ∃ o, Hid (rdL (rdAc true) bs = o) := ⟨_, rfl⟩
  rw [HSp.out]
  rw [show rdL (rdAc true) bs = (tk 2 bs).bind fun c => rdl (rdAc true) c.1.toNat c.2 from rfl] at HSp
  obtain ⟨i, hi, hz0, hz1, hz2⟩ := info_parts infoA
  have HI := hid (And.intro hi (And.intro hz0 (And.intro hz1 hz2)))
  clear hi hz0 hz1 hz2
  cases ht : tk 2 bs with
  | none =>
    rw [ht] at HN HSp
    clear h hB ht
    go_enter Tryz.func125, Tryz.ntmps125
    go_wp2_with (go_at_call 39; refine (HN.out).mono ?_; intro e w1 h9; obtain ⟨rfl, hq⟩ := RdP.bad h9; have H9 := hid hq; clear hq h9)
    exact ⟨rfl, RdP.no H9.out HSp.out.symm⟩
  | some q =>
    obtain ⟨n, r0⟩ := q
    rw [ht] at HN HSp
    obtain ⟨-, n0, n1, -⟩ := tk_inv hB ht
    rw [pw2] at n1
    simp only [Option.bind_some] at HSp
    clear h hB ht
    obtain ⟨N, rfl⟩ := Int.eq_ofNat_of_zero_le n0
    simp only [Int.toNat_natCast] at HSp
    have hN : N < 65536 := by omega
    clear n0 n1
    go_enter Tryz.func125, Tryz.ntmps125
    go_wp2_with (go_at_call 39; refine (HN.out).mono ?_; intro e w1 h9; obtain ⟨v, rfl, h1, h2, rfl⟩ := RdP.get h9; have H9 := hid (And.intro h1 (HR.out.on h1 h2)); clear h1 h2 h9)
    go_loopw [5, 8] (fun l i wr => ∃ (j : Nat) (ms : List Ac) (r : List Int), j ≤ N ∧ i = .int .i64 j ∧ ms.length = j ∧ Only (fun x => x = c ∨ w.heap.size ≤ x) w wr ∧ Rc T wr c r ∧ w.heap.size ≤ wr.heap.size ∧ Apl w.heap.size 93 3 ((fun _ => RAc) (TI w.heap.size wr l)) wr l ms ∧ rdl (rdAc true) N r0 = (rdl (rdAc true) (N - j) r).map fun q => (ms ++ q.1, q.2)) (fun _ i _ => N - (intOf i).toNat)
    case atStart => exact ⟨0, [], r0, by omega, rfl, rfl, H9.out.1, H9.out.2, H9.out.1.size, Apl.nil _ _ _ _ _, by simp⟩
    case round =>
      obtain ⟨j, ms, r, hj, rfl, hml, ho, hrc, hn, hap, hrel⟩ := hrel
      have HO := hid ho
      have HC := hid hrc
      have HAp := hid hap
      have HRel := hid hrel
      have HML := hid hml
      clear ho hrc hap hrel hml H9 HN HR
      by_cases hlt : j < N
      · obtain ⟨q, hq⟩ : ∃ q, N - j = q + 1 := ⟨N - j - 1, by omega⟩
        have HQ := hid hq
        clear hq
        have HEr := HE.out wr r HC.out
        cases hms : (rdAc true) r with
        | none =>
          have HNo : Hid (sp = none) := by
            show _ = _
            rw [← HSp.out, HRel.out, HQ.out]; unfold rdl; rw [hms]; rfl
          rw [hms] at HEr
          have HEr' := hid HEr
          clear HEr hms HRel HQ HE
          go_wp2_with (go_at_call 126; refine (HEr'.out).mono ?_; intro e w2 h9; obtain ⟨rfl, hq⟩ := RdP.bad h9; have H2 := hid hq; clear hq h9)
          exact ⟨rfl, RdP.no (HO.out.trans (H2.out.mono fun x hx => by rcases hx with e | e; exact Or.inl e; exact Or.inr (by omega))) HNo.out⟩
        | some pr =>
          obtain ⟨x, r'⟩ := pr
          have HNx : Hid (rdl (rdAc true) N r0 = (rdl (rdAc true) (N - (j + 1)) r').map fun q => ((ms ++ [x]) ++ q.1, q.2)) := by
            show _ = _
            rw [HRel.out, HQ.out, show N - (j + 1) = q by have := HQ.out; omega]
            conv => lhs; unfold rdl
            rw [hms]
            simp only [Option.bind_some]
            exact map_app
          rw [hms] at HEr
          have HEr' := hid HEr
          obtain ⟨vs, hvs, hold⟩ := HAp.out
          have HVs := hid (And.intro hvs hold)
          clear HEr hms HRel HQ HE hvs hold HAp
          go_wp2_with (first
            | (at_builtin; refine appG 87 93 (.tmp 10) (.tmp 14) rfl rfl i (.agg z93) 3 16 Tryz.underlying87 HI.out.1 HI.out.2.1 HI.out.2.2.1 HI.out.2.2.2 rfl (by omega) (news := (#[.int .i8 x.dw, .int .i8 x.fd, .int .u64 x.n] : Array Value).toList) rfl rfl HW3.out.1 HW3.out.2.1 HW3.out.2.2.1 HW3.out.2.2.2.1 HW3.out.2.2.2.2 (by have := HML.out; omega) (by omega) ?_
               intro v4 w4 g1 g2 g3
               have HY : Hid _ := And.intro g1 (And.intro g2 g3)
               clear g1 g2 g3)
            | (go_at_call 126; refine (HEr'.out).mono ?_; intro e w2 h9; obtain ⟨v2, rfl, h1, h2, hv⟩ := RdP.get h9
               obtain ⟨rfl, hfit⟩ := hv
               have hb3 : Below w2.heap.size w2 (w2.alloc (.cells (#[.int .i8 x.dw, .int .i8 x.fd, .int .u64 x.n] : Array Value) 93)) := (Below.refl _ _).alloc (Nat.le_refl _) _
               have HB3 := hid hb3
               have HX := hid (And.intro h1 h2)
               have HEl := hid hfit
               clear hfit
               have HW3 : Hid ((w2.alloc (.cells (#[.int .i8 x.dw, .int .i8 x.fd, .int .u64 x.n] : Array Value) 93)).ownsRow w.heap.size 93 3 u5 ms.length vs ∧ (#[.int .i8 x.dw, .int .i8 x.fd, .int .u64 x.n] : Array Value).toList.length = 3 ∧ (∀ j u, (#[.int .i8 x.dw, .int .i8 x.fd, .int .u64 x.n] : Array Value).toList[j]? = some u → (w2.alloc (.cells (#[.int .i8 x.dw, .int .i8 x.fd, .int .u64 x.n] : Array Value) 93)).cell? ⟨w2.heap.size, j, none⟩ = some u) ∧ (∀ u ∈ (#[.int .i8 x.dw, .int .i8 x.fd, .int .u64 x.n] : Array Value).toList, u.oneCell' = true) ∧ w.heap.size ≤ (w2.alloc (.cells (#[.int .i8 x.dw, .int .i8 x.fd, .int .u64 x.n] : Array Value) 93)).heap.size) := by
                 refine And.intro (own_step (by omega) HVs.out.1 h1 hb3) (And.intro rfl (And.intro (fun j u hu => ?_) (And.intro (fun u hu => by
                   simp at hu
                   rcases hu with rfl | rfl | rfl <;> rfl) (by have := h1.size; simp; omega))))
                 rw [cell_of_row _ _ j _ _ _ (heap_alloc_new _ _)]
                 simpa using hu
               clear h1 h2 h9 hb3))
          have hstep := rc_step (k := 3) HC.out HO.out hn (by omega) hpos HTo.out HVs.out.1 HX.out.1 HX.out.2 HB3.out HY.out.2.1
          have hapl := apl_step (R := (fun _ => RAc)) (k := 3) caAc cgAc hn (show c < w.heap.size by omega) HVs.out.1 HVs.out.2 HX.out.1 HB3.out HY.out.1 HY.out.2.1 HY.out.2.2 HW3.out.2.1 ⟨rfl, rfl, rfl, HEl.out⟩
          have HF := hid (And.intro hstep hapl)
          clear hstep hapl HY HW3 HB3 HX HVs
          go_wp2
          go_roundw
          case rel => exact ⟨j + 1, ms ++ [x], r', by omega, by go_num, by simp [HML.out], HF.out.1.2.1, HF.out.1.1, HF.out.1.2.2, HF.out.2, HNx.out⟩
          case measure => simp [intOf]; omega
      · obtain rfl : j = N := by omega
        have HY : Hid (sp = some (ms, r)) := by
          show _ = _
          rw [← HSp.out, HRel.out, Nat.sub_self]; simp [rdl]
        clear HRel HE
        go_wp2
        go_ret
        exact RdP.yes HO.out HY.out HC.out.cur (Apl.lst HAp.out (by have := HML.out; omega) (fun b h1 h2 => ⟨h1, h2⟩) (fun f f' y hf hR => cgAc (fun k => w.heap.size ≤ k ∧ k < wr.heap.size) _ _ _ _ hf (caAc (TI w.heap.size wr u5) (fun k => w.heap.size ≤ k ∧ k < wr.heap.size) _ _ _ _ (fun b hb hT => ⟨hT.1, rfl⟩) hR)))

theorem cshorts_el (h : Rc T w c bs) : Calls Tryz.prog 60 #[ptr c] w (RdP T c (rdL (tk 2) bs) VShs w) := by
  have HE := hid (rlU_any h)
  clear h
  cases ho : rdL (tk 2) bs with
  | none =>
    rw [ho] at HE
    clear ho
    go_enter Tryz.func60, Tryz.ntmps60
    go_wp2_with (go_at_call 94; refine (HE.out).mono ?_; intro e w1 h9; obtain ⟨rfl, hq⟩ := RdP.bad h9; have H9 := hid hq; clear hq h9)
    exact ⟨rfl, RdP.no H9.out rfl⟩
  | some q =>
    obtain ⟨x, r⟩ := q
    rw [ho] at HE
    clear ho
    go_enter Tryz.func60, Tryz.ntmps60
    go_wp2_with (go_at_call 94; refine (HE.out).mono ?_; intro e w1 h9; obtain ⟨v, rfl, h1, h2, hv⟩ := RdP.get h9; have H9 := hid (And.intro h1 (And.intro h2 hv)); obtain ⟨va, vc, rfl, -⟩ := hv.form; clear h1 h2 hv h9)
    go_ret
    exact RdP.yes H9.out.1 rfl H9.out.2.1 H9.out.2.2

theorem cactions_el (h : Rc T w c bs) : Calls Tryz.prog 107 #[ptr c] w (RdP T c (rdL (rdAc true) bs) VAs w) := by
  have HE := hid (rlA_any h)
  clear h
  cases ho : rdL (rdAc true) bs with
  | none =>
    rw [ho] at HE
    clear ho
    go_enter Tryz.func107, Tryz.ntmps107
    go_wp2_with (go_at_call 125; refine (HE.out).mono ?_; intro e w1 h9; obtain ⟨rfl, hq⟩ := RdP.bad h9; have H9 := hid hq; clear hq h9)
    exact ⟨rfl, RdP.no H9.out rfl⟩
  | some q =>
    obtain ⟨x, r⟩ := q
    rw [ho] at HE
    clear ho
    go_enter Tryz.func107, Tryz.ntmps107
    go_wp2_with (go_at_call 125; refine (HE.out).mono ?_; intro e w1 h9; obtain ⟨v, rfl, h1, h2, hv⟩ := RdP.get h9; have H9 := hid (And.intro h1 (And.intro h2 hv)); obtain ⟨va, vc, rfl, -⟩ := hv.form; clear h1 h2 hv h9)
    go_ret
    exact RdP.yes H9.out.1 rfl H9.out.2.1 H9.out.2.2

theorem infoAA : (Tryz.prog.info? 87).map (fun i => (i.zero, i.size, i.bytes)) = some (some (nilS), 1, 24) := by kernel_rfl
set_option maxHeartbeats 1600000 in
set_option maxRecDepth 100000 in
theorem rlAA_any (h : Rc T w c bs) : Calls Tryz.prog 106 #[ptr c, fnV 107] w (RdP T c (rdL (rdL (rdAc true)) bs) VCs w) := by
  have HN := hid (ccount_any c bs w h.cur h.out)
  have hB := h.cur.isB
  have hcw := h.cur.lt
  have hpos : 2 ≤ w.heap.size := by have := h.tab.pos; omega
  have HTo := hid h.old
  have HR := hid h
  have HE := hid (fun (wr : World) (r : List Int) (hr : Rc T wr c r) => cactions_el hr)
  obtain ⟨sp, HSp⟩ : ∃ o, Hid (rdL (rdL (rdAc true)) bs = o) := ⟨_, rfl⟩
  rw [HSp.out]
  rw [show rdL (rdL (rdAc true)) bs = (tk 2 bs).bind fun c => rdl (rdL (rdAc true)) c.1.toNat c.2 from rfl] at HSp
  obtain ⟨i, hi, hz0, hz1, hz2⟩ := info_parts infoAA
  have HI := hid (And.intro hi (And.intro hz0 (And.intro hz1 hz2)))
  clear hi hz0 hz1 hz2
  cases ht : tk 2 bs with
  | none =>
    rw [ht] at HN HSp
    clear h hB ht
    go_enter Tryz.func106, Tryz.ntmps106
    go_wp2_with (go_at_call 39; refine (HN.out).mono ?_; intro e w1 h9; obtain ⟨rfl, hq⟩ := RdP.bad h9; have H9 := hid hq; clear hq h9)
    exact ⟨rfl, RdP.no H9.out HSp.out.symm⟩
  | some q =>
    obtain ⟨n, r0⟩ := q
    rw [ht] at HN HSp
    obtain ⟨-, n0, n1, -⟩ := tk_inv hB ht
    rw [pw2] at n1
    simp only [Option.bind_some] at HSp
    clear h hB ht
    obtain ⟨N, rfl⟩ := Int.eq_ofNat_of_zero_le n0
    simp only [Int.toNat_natCast] at HSp
    have hN : N < 65536 := by omega
    clear n0 n1
    go_enter Tryz.func106, Tryz.ntmps106
    go_wp2_with (go_at_call 39; refine (HN.out).mono ?_; intro e w1 h9; obtain ⟨v, rfl, h1, h2, rfl⟩ := RdP.get h9; have H9 := hid (And.intro h1 (HR.out.on h1 h2)); clear h1 h2 h9)
    go_loopw [5, 8] (fun l i wr => ∃ (j : Nat) (ms : List (List Ac)) (r : List Int), j ≤ N ∧ i = .int .i64 j ∧ ms.length = j ∧ Only (fun x => x = c ∨ w.heap.size ≤ x) w wr ∧ Rc T wr c r ∧ w.heap.size ≤ wr.heap.size ∧ Apl w.heap.size 87 1 (RCp (TI w.heap.size wr l)) wr l ms ∧ rdl (rdL (rdAc true)) N r0 = (rdl (rdL (rdAc true)) (N - j) r).map fun q => (ms ++ q.1, q.2)) (fun _ i _ => N - (intOf i).toNat)
    case atStart => exact ⟨0, [], r0, by omega, rfl, rfl, H9.out.1, H9.out.2, H9.out.1.size, Apl.nil _ _ _ _ _, by simp⟩
    case round =>
      obtain ⟨j, ms, r, hj, rfl, hml, ho, hrc, hn, hap, hrel⟩ := hrel
      have HO := hid ho
      have HC := hid hrc
      have HAp := hid hap
      have HRel := hid hrel
      have HML := hid hml
      clear ho hrc hap hrel hml H9 HN HR
      by_cases hlt : j < N
      · obtain ⟨q, hq⟩ : ∃ q, N - j = q + 1 := ⟨N - j - 1, by omega⟩
        have HQ := hid hq
        clear hq
        have HEr := HE.out wr r HC.out
        cases hms : (rdL (rdAc true)) r with
        | none =>
          have HNo : Hid (sp = none) := by
            show _ = _
            rw [← HSp.out, HRel.out, HQ.out]; unfold rdl; rw [hms]; rfl
          rw [hms] at HEr
          have HEr' := hid HEr
          clear HEr hms HRel HQ HE
          go_wp2_with (go_at_call 107; refine (HEr'.out).mono ?_; intro e w2 h9; obtain ⟨rfl, hq⟩ := RdP.bad h9; have H2 := hid hq; clear hq h9)
          exact ⟨rfl, RdP.no (HO.out.trans (H2.out.mono fun x hx => by rcases hx with e | e; exact Or.inl e; exact Or.inr (by omega))) HNo.out⟩
        | some pr =>
          obtain ⟨x, r'⟩ := pr
          have HNx : Hid (rdl (rdL (rdAc true)) N r0 = (rdl (rdL (rdAc true)) (N - (j + 1)) r').map fun q => ((ms ++ [x]) ++ q.1, q.2)) := by
            show _ = _
            rw [HRel.out, HQ.out, show N - (j + 1) = q by have := HQ.out; omega]
            conv => lhs; unfold rdl
            rw [hms]
            simp only [Option.bind_some]
            exact map_app
          rw [hms] at HEr
          have HEr' := hid HEr
          obtain ⟨vs, hvs, hold⟩ := HAp.out
          have HVs := hid (And.intro hvs hold)
          clear HEr hms HRel HQ HE hvs hold HAp
          go_wp2_with (first
            | (at_builtin; refine appG 29 87 (.tmp 10) (.tmp 14) rfl rfl i (nilS) 1 24 Tryz.underlying29 HI.out.1 HI.out.2.1 HI.out.2.2.1 HI.out.2.2.2 rfl (by omega) (news := (#[.slice va x.length vc] : Array Value).toList) rfl rfl HW3.out.1 HW3.out.2.1 HW3.out.2.2.1 HW3.out.2.2.2.1 HW3.out.2.2.2.2 (by have := HML.out; omega) (by omega) ?_
               intro v4 w4 g1 g2 g3
               have HY : Hid _ := And.intro g1 (And.intro g2 g3)
               clear g1 g2 g3)
            | (go_at_call 107; refine (HEr'.out).mono ?_; intro e w2 h9; obtain ⟨v2, rfl, h1, h2, hv⟩ := RdP.get h9
               obtain ⟨va, vc, hve, hcap, hrest⟩ := hv
               have hb3 : Below w2.heap.size w2 (w2.alloc (.cells (#[.slice va x.length vc] : Array Value) 87)) := (Below.refl _ _).alloc (Nat.le_refl _) _
               have HB3 := hid hb3
               have HX := hid (And.intro h1 h2)
               have HEl : Hid (Acs (fun b => wr.heap.size ≤ b ∧ b < w2.heap.size) w2 (.slice va x.length vc) x) := ⟨va, vc, rfl, hcap, hrest⟩
               subst hve
               clear hcap hrest
               have HW3 : Hid ((w2.alloc (.cells (#[.slice va x.length vc] : Array Value) 87)).ownsRow w.heap.size 87 1 u5 ms.length vs ∧ (#[.slice va x.length vc] : Array Value).toList.length = 1 ∧ (∀ j u, (#[.slice va x.length vc] : Array Value).toList[j]? = some u → (w2.alloc (.cells (#[.slice va x.length vc] : Array Value) 87)).cell? ⟨w2.heap.size, j, none⟩ = some u) ∧ (∀ u ∈ (#[.slice va x.length vc] : Array Value).toList, u.oneCell' = true) ∧ w.heap.size ≤ (w2.alloc (.cells (#[.slice va x.length vc] : Array Value) 87)).heap.size) := by
                 refine And.intro (own_step (by omega) HVs.out.1 h1 hb3) (And.intro rfl (And.intro (fun j u hu => ?_) (And.intro (fun u hu => by rw [show u = .slice va x.length vc by simpa using hu]; rfl) (by have := h1.size; simp; omega))))
                 rw [cell_of_row _ _ j _ _ _ (heap_alloc_new _ _)]
                 simpa using hu
               clear h1 h2 h9 hb3))
          have hstep := rc_step (k := 1) HC.out HO.out hn (by omega) hpos HTo.out HVs.out.1 HX.out.1 HX.out.2 HB3.out HY.out.2.1
          have hapl := apl_step (R := RCp) (k := 1) caCp cgCp hn (show c < w.heap.size by omega) HVs.out.1 HVs.out.2 HX.out.1 HB3.out HY.out.1 HY.out.2.1 HY.out.2.2 HW3.out.2.1 ⟨_, rfl, HEl.out⟩
          have HF := hid (And.intro hstep hapl)
          clear hstep hapl HY HW3 HB3 HX HVs
          go_wp2
          go_roundw
          case rel => exact ⟨j + 1, ms ++ [x], r', by omega, by go_num, by simp [HML.out], HF.out.1.2.1, HF.out.1.1, HF.out.1.2.2, HF.out.2, HNx.out⟩
          case measure => simp [intOf]; omega
      · obtain rfl : j = N := by omega
        have HY : Hid (sp = some (ms, r)) := by
          show _ = _
          rw [← HSp.out, HRel.out, Nat.sub_self]; simp [rdl]
        clear HRel HE
        go_wp2
        go_ret
        exact RdP.yes HO.out HY.out HC.out.cur (Apl.lst HAp.out (by have := HML.out; omega) (fun b h1 h2 => ⟨h1, h2⟩) (fun f f' y hf hR => cgCp (fun k => w.heap.size ≤ k ∧ k < wr.heap.size) _ _ _ _ hf (caCp (TI w.heap.size wr u5) (fun k => w.heap.size ≤ k ∧ k < wr.heap.size) _ _ _ _ (fun b hb hT => ⟨hT.1, rfl⟩) hR)))
end
end Go.Proofs.YtllbbbfkdgjffaaGreatDoor
