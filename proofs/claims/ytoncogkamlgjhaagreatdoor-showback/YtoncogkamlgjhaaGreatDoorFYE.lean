/-
  Proved here: isPolicy of package show tells whether a policy has a text. Conditions: the tables; the policy lies in old memory.
-/
import Derived.Test.YtoncogkamlgjhaaGreatDoorFYC
import Derived.Test.YtoncogkamlgjhaaGreatDoorFYD3
namespace Go.Proofs.YtoncogkamlgjhaaGreatDoor
set_option maxRecDepth 100000
open Go.RowKit
set_option maxRecDepth 100000

def qszI (qs : List Qi) : Nat := (qs.map fun q => szI q.pd).sum
theorem qszI_snoc (qs : List Qi) (q : Qi) : qszI (qs ++ [q]) = qszI qs + szI q.pd := by simp [qszI]
theorem qszI_take {qs : List Qi} {j : Nat} (hj : j < qs.length) : qszI (qs.take (j + 1)) = qszI (qs.take j) + szI (qs[j]).pd := by
  rw [List.take_add_one, List.getElem?_eq_getElem hj]
  exact qszI_snoc _ _
theorem qszI_cons (q : Qi) (qs : List Qi) : qszI (q :: qs) = szI q.pd + qszI qs := by simp [qszI]
theorem qszI_le : ∀ (qs : List Qi) (j : Nat), qszI (qs.take j) ≤ qszI qs
  | [], j => by simp
  | a :: qs, 0 => by simp [qszI]
  | a :: qs, j + 1 => by rw [List.take_succ_cons, qszI_cons, qszI_cons]; have := qszI_le qs j; omega
/-- a policy that has words -/
def OkI (p : Pi) : Prop := p.qs.length ≤ 32 ∧ okI false p.main = true ∧ dpI p.main ≤ 128 ∧ szI p.main + qszI p.qs ≤ 4096 ∧ ∀ q ∈ p.qs, isNm q.nm = true ∧ okI true q.pd = true ∧ dpI q.pd ≤ 128
/-- where its loop is -/
structure TcS (Lb Fb : Nat) (w : World) (qs : List Qi) (v : Value) (L' : Nat) (wr : World) : Prop where
  low : Below w.heap.size w wr
  own : Own3 Lb Fb ((L' : Nat) : Int) wr
  ks : ∃ xs, Rx (fun b => b < w.heap.size) 5 wr v qs.length xs ∧ QiL (fun b => b < w.heap.size) wr qs xs
theorem TcS.thn {Lb Fb : Nat} {w : World} {qs : List Qi} {v : Value} {L' L'' : Nat} {wr w' : World} (h : TcS Lb Fb w qs v L' wr) (hL : w.heap.size ≤ Lb) (ho : Only (Ln Lb wr) wr w') (hw : Own3 Lb Fb ((L'' : Nat) : Int) w') : TcS Lb Fb w qs v L'' w' := by
  obtain ⟨xs, g1, g2⟩ := h.ks
  have hz := h.low.size
  have hc : ∀ b, b < wr.heap.size → b < w.heap.size → b < w.heap.size ∧ w'.heap[b]? = wr.heap[b]? := fun b hb hS => ⟨hS, ho.block b (by rintro (e | e) <;> omega)⟩
  exact ⟨h.low.trans (ho.below fun k hk => by rcases hk with e | e <;> omega), hw, ⟨xs, g1.carry hc, QiL.carry hc _ _ g2⟩⟩
theorem qi_at {S : Nat → Prop} {w : World} {qs : List Qi} {ao : Option Addr} {cap : Nat} (h : ∃ xs, Rx S 5 w (.slice ao qs.length cap) qs.length xs ∧ QiL S w qs xs) {j : Nat} (hj : j < qs.length) :
    ∃ g o, ao = some ⟨g, o, none⟩ ∧ qs.length ≤ cap ∧ ∃ ds, TiV S w (qs[j]).pd ds ∧ w.rangeAt g (o + j * 5) (#[Value.string (qs[j]).nm] ++ ds).toList := by
  obtain ⟨xs, g1, g2⟩ := h
  obtain ⟨g, o, e, hc, -, -, hr⟩ := g1.at hj
  obtain ⟨ds, h4, h5⟩ := QiL.at qs xs j hj g2
  refine ⟨g, o, e, hc, ds, h4, hr _ fun i hi => ?_⟩
  have hi5 : i < 5 := by have := h4.size; simp at hi; omega
  rw [h5 i hi5]
  simp
/-- what isPolicy tells -/
def IpP (p : Pi) (w : World) (e : Ending) (w' : World) : Prop := Below w.heap.size w w' ∧ ((OkI p ∧ e = .returned (.bool true)) ∨ (¬ OkI p ∧ e = .returned (.bool false)))
set_option maxHeartbeats 12800000 in
theorem isPol_any (p : Pi) (cs : Array Value) (w : World) (h : PiV (fun b => b < w.heap.size) w p cs) (hT : TabS w) (hz : 9 ≤ w.heap.size) : Calls Tryz.prog 9 #[.agg cs] w (IpP p w) := by
  obtain ⟨main, qs⟩ := p
  obtain ⟨ms, qv, xs, rfl, h1, h2, h3⟩ := h
  obtain ⟨x0, x1, x2, x3, rfl⟩ := arr4 h1.size
  obtain ⟨ao, cap, rfl⟩ := h2.form
  simp only at h1 h2 h3
  have hmf : ∀ (fn : Fn) (first cap : Array Value) (w : World), (Instr.makeFunc fn first cap).run Tryz.prog w = .ok (.func fn first cap) w := fun _ _ _ _ => rfl
  show Calls Tryz.prog 9 #[.agg #[x0, x1, x2, x3, .slice ao qs.length cap]] w _
  by_cases hq : 32 < qs.length
  · have g1 : decide ((32 : Int) < (qs.length : Int)) = true := decide_eq_true (by omega)
    have HN : Hid (¬ OkI ⟨main, qs⟩) := fun h => absurd h.1 (show ¬ qs.length ≤ 32 by omega)
    have HB : Hid (Below w.heap.size w (w.alloc (.cells #[x0, x1, x2, x3, .slice ao qs.length cap] 29))) := (Below.refl _ _).alloc (Nat.le_refl _) _
    clear hq h1 h2 h3 hT
    go_enter Tryz.func9, Tryz.ntmps9
    go_wp2
    go_ret
    exact ⟨HB.out, Or.inr ⟨HN.out, rfl⟩⟩
  have g1 : decide ((32 : Int) < (qs.length : Int)) = false := decide_eq_false (by omega)
  have hqs : qs.length ≤ 32 := by omega
  clear hq
  go_enter Tryz.func9, Tryz.ntmps9
  go_upto_region 5 with fail
  have hbA : Below w.heap.size w (((w.alloc (.cells #[x0, x1, x2, x3, .slice ao qs.length cap] 29)).alloc (.cells #[.int .i64 4096] 3)).alloc (.cells #[Value.nilFunc] 59)) := (((Below.refl _ _).alloc (Nat.le_refl _) _).alloc (by simp) _).alloc (by simp; omega) _
  have hP : (((w.alloc (.cells #[x0, x1, x2, x3, .slice ao qs.length cap] 29)).alloc (.cells #[.int .i64 4096] 3)).alloc (.cells #[Value.nilFunc] 59)).heap[w.heap.size]? = some (.cells #[x0, x1, x2, x3, .slice ao qs.length cap] 29 (0, 0)) := (heap_alloc_old _ _ (by simp; omega)).trans ((heap_alloc_old _ _ (by simp)).trans (heap_alloc_new _ _))
  have hL : (((w.alloc (.cells #[x0, x1, x2, x3, .slice ao qs.length cap] 29)).alloc (.cells #[.int .i64 4096] 3)).alloc (.cells #[Value.nilFunc] 59)).heap[w.heap.size + 1]? = some (.cells #[.int .i64 4096] 3 (0, 0)) := (heap_alloc_old _ _ (by simp)).trans (by have := heap_alloc_new (w.alloc (.cells #[x0, x1, x2, x3, .slice ao qs.length cap] 29)) (.cells #[.int .i64 4096] 3); simpa using this)
  have hF : (((w.alloc (.cells #[x0, x1, x2, x3, .slice ao qs.length cap] 29)).alloc (.cells #[.int .i64 4096] 3)).alloc (.cells #[Value.nilFunc] 59)).heap[w.heap.size + 1 + 1]? = some (.cells #[Value.nilFunc] 59 (0, 0)) := by have := heap_alloc_new ((w.alloc (.cells #[x0, x1, x2, x3, .slice ao qs.length cap] 29)).alloc (.cells #[.int .i64 4096] 3)) (.cells #[Value.nilFunc] 59); simpa using this
  generalize ((w.alloc (.cells #[x0, x1, x2, x3, .slice ao qs.length cap] 29)).alloc (.cells #[.int .i64 4096] 3)).alloc (.cells #[Value.nilFunc] 59) = W3 at hbA hP hL hF ⊢
  obtain ⟨Lb, hLb⟩ : ∃ Lb, Lb = w.heap.size + 1 := ⟨_, rfl⟩
  obtain ⟨Fb, hFb⟩ : ∃ Fb, Fb = w.heap.size + 1 + 1 := ⟨_, rfl⟩
  rw [← hFb] at hF
  rw [← hLb] at hL
  obtain ⟨fv, hfv⟩ : ∃ fv, fv = Value.func (.func 18) #[] #[ptr Lb, ptr Fb] := ⟨_, rfl⟩
  have hko : ∀ b, b ≠ Fb → (W3.setRow Fb #[fv]).heap[b]? = W3.heap[b]? := fun b hb => setRow_other W3 Fb b _ hb
  have hO4 : Own3 Lb Fb ((4096 : Nat) : Int) (W3.setRow Fb #[fv]) := ⟨(hko Lb (by omega)).trans hL, by rw [setRow_heap W3 Fb _ #[fv] _ _ hF, hfv]⟩
  have hP4 := (hko w.heap.size (by omega)).trans hP
  have hb4 : Below w.heap.size w (W3.setRow Fb #[fv]) := bel_row hbA (by omega) _
  have HF3 := hid hF
  go_upto_region 6 with (refine stOne 59 (.tmp 4) (.tmp 11) rfl rfl Fb (by rw [hFb]; rfl) fv (by rw [hfv, hLb, hFb]; rfl) (by rw [hfv]; rfl) 59 _ HF3.out (by kernel_rfl) ?_)
  clear hko hbA hP hL hF HF3
  generalize W3.setRow Fb #[fv] = W4 at hO4 hP4 hb4 ⊢
  have hz4 := (Array.getElem?_eq_some_iff.1 hO4.f).1
  have hcf := hO4.cf
  have hne : Fb ≠ Lb := by omega
  have HO4 := hid hO4
  have HB4 := hid hb4
  have HP4 := hid hP4
  have hT4 : TiV (fun b => b ≠ Lb ∧ b < W4.heap.size) W4 main #[x0, x1, x2, x3] := ti_on h1 fun b hb hS => ⟨⟨by omega, by omega⟩, hb4.block b hb⟩
  have HSt : Hid (∀ (t : Ti) (ds : Array Value) (b : Bool) (L : Nat) (W : World), TiV (fun b => b ≠ Lb ∧ b < W.heap.size) W t ds → Own3 Lb Fb ((L : Nat) : Int) W → Below w.heap.size w W → L ≤ 4096 → Calls Tryz.prog 18 #[.agg ds, .bool b, .int .i64 1, ptr Lb, ptr Fb] W (SdP Lb Fb t b L 1 W)) := fun t ds b L W a1 a2 a3 a4 => stands_any Lb Fb hne (by omega) _ t ds b L 1 W (Nat.le_refl _) a1 a2 (hT.on a3 hz) a4 (by omega)
  have HNm : Hid (∀ (s : ByteArray) (W : World), Below w.heap.size w W → Calls Tryz.prog 22 #[.string s] W fun e w' => e = .returned (.bool (isNm s)) ∧ w' = W) := fun s W hb => hname_any s W (hT.on hb hz)
  have HC := hid (HSt.out main _ false 4096 W4 hT4 hO4 hb4 (by omega))
  have HI := hid h1.info
  have HRM : Hid (W4.rangeAt w.heap.size 0 (#[x0, x1, x2, x3] : Array Value).toList) := by
    show W4.rangeAt _ _ _
    intro j v hj
    rw [Nat.zero_add, cell_of_row _ _ _ _ _ _ hP4]
    have hj4 : j < 4 := by have := (List.getElem?_eq_some_iff.1 hj).1; simpa using this
    have : j = 0 ∨ j = 1 ∨ j = 2 ∨ j = 3 := by omega
    rcases this with rfl | rfl | rfl | rfl <;> simpa using hj
  have HQ2 := hid h2
  have HQ3 := hid h3
  clear hT4 hO4 hb4 hP4 h1 h2 h3 hmf hfv hT
  subst hFb
  subst hLb
  by_cases hfit : Std false 1 4096 main
  · have HCt := hid (SdP.yes HC.out hfit)
    go_upto_region 8 with (first
      | (refine ldMid 26 (.tmp 13) rfl rfl w.heap.size 0 rfl #[x0, x1, x2, x3] _ Tryz.underlying26 rfl HI.out HRM.out ?_)
      | (go_at_call 18; refine (HCt.out).mono ?_; rintro e w5 ⟨rfl, a1, a2⟩; have HX := hid (And.intro a1 a2); clear a1 a2))
    have hz5 := HX.out.1.size
    have hbl5 : Below w.heap.size w w5 := HB4.out.trans (HX.out.1.below fun k hk => by rcases hk with e | e <;> omega)
    have HS0 : Hid (TcS (w.heap.size + 1) (w.heap.size + 1 + 1) w qs (.slice ao qs.length cap) (4096 - szI main) w5) := ⟨hbl5, HX.out.2, ⟨xs, HQ2.out.carry fun b hb hS => ⟨hS, hbl5.block b hb⟩, QiL.carry (fun b hb hS => ⟨hS, hbl5.block b hb⟩) _ _ HQ3.out⟩⟩
    have d4 : w5.cell? ⟨w.heap.size, 4, none⟩ = some (.slice ao qs.length cap) := (cell_of_row _ _ _ _ _ _ ((HX.out.1.block _ (by rintro (e | e) <;> omega)).trans HP4.out)).trans rfl
    go_upto_region 9 with fail
    clear d4 HX HCt HC HRM hcf HQ2 HQ3 hbl5
    go_loopw [20] (fun v wr => ∃ j : Nat, v = .int .i64 ((j : Nat) : Int) ∧ j ≤ qs.length ∧ Hid (szI main + qszI (qs.take j) ≤ 4096) ∧ Hid (∀ i (hi : i < qs.length), i < j → isNm (qs[i]).nm = true ∧ okI true (qs[i]).pd = true ∧ dpI (qs[i]).pd ≤ 128) ∧ Hid (TcS (w.heap.size + 1) (w.heap.size + 1 + 1) w qs (.slice ao qs.length cap) (4096 - szI main - qszI (qs.take j)) wr)) (fun v _ => qs.length - (intOf v).toNat)
    case atStart => exact ⟨0, rfl, Nat.zero_le _, by show _ ≤ _; have := hfit.2.2; simp [qszI]; omega, fun i hi h => by omega, by rw [show qszI (qs.take 0) = 0 by simp [qszI], Nat.sub_zero]; exact HS0.out⟩
    case round =>
      clear HS0
      obtain ⟨j, rfl, hj1, hj2, HD, HS⟩ := hrel
      by_cases hj : j < qs.length
      · obtain ⟨g, p, rfl, hcap, ds, ht, hra⟩ := qi_at HS.out.ks hj
        have hs3 : decide ((j : Int) < (qs.length : Int)) = true := by simp; omega
        have hjc : j < cap := by omega
        have hw3 : IntKind.i64.wrap ((j : Int) + 1) = (j : Int) + 1 := by rw [IntKind.wrap_i64]; omega
        have hsz := ht.size
        have hb3 : Below wr.heap.size wr (wr.alloc (.cells (#[Value.string (qs[j]).nm] ++ ds) 40)) := (Below.refl _ _).alloc (Nat.le_refl _) _
        have hN3 : (wr.alloc (.cells (#[Value.string (qs[j]).nm] ++ ds) 40)).heap[wr.heap.size]? = some (.cells (#[Value.string (qs[j]).nm] ++ ds) 40 (0, 0)) := heap_alloc_new _ _
        have hO3 := HS.out.own.bel hb3
        have hzr := HS.out.low.size
        have HS3 := hid (HS.out.thn (by omega) (Only.of hb3 fun _ hk => Or.inr hk) hO3)
        have HT3 := hid (ti_on ht fun b hb hS => ⟨hS, hb3.block b hb⟩)
        have HT := hid ht
        have HRA := hid hra
        have HTk := hid (qszI_take hj)
        have HR3 : Hid ((wr.alloc (.cells (#[Value.string (qs[j]).nm] ++ ds) 40)).rangeAt wr.heap.size 1 ds.toList) := by
          show World.rangeAt _ _ _ _
          intro i v hi
          rw [cell_of_row _ _ _ _ _ _ hN3, Array.getElem?_append_right (by simp)]
          simpa using hi
        have c0 : (wr.alloc (.cells (#[Value.string (qs[j]).nm] ++ ds) 40)).cell? ⟨wr.heap.size, 0, none⟩ = some (.string (qs[j]).nm) := (cell_of_row _ _ _ _ _ _ hN3).trans (by rw [Array.getElem?_append_left (by simp)]; rfl)
        have HN3z := hid (Array.getElem?_eq_some_iff.1 hN3).1
        have HI3 := hid ht.info
        have hqsz := szQ (qs[j]).nm ds hsz
        have hone : (#[Value.string (qs[j]).nm] ++ ds).all (·.oneCell') = true := by rw [Array.all_append, HT.out.one]; simp [Value.oneCell']
        clear ht hra hb3 HS hN3
        go_upto_region 11 with (first
          | (refine ldMid 40 (.tmp 22) rfl rfl g (p + j * 5) rfl (#[Value.string (qs[j]).nm] ++ ds) _ Tryz.underlying40 rfl hqsz HRA.out ?_)
          | (refine stNew 40 (.tmp 6) (.tmp 23) rfl rfl wr 40 #[.string ⟨#[]⟩, .int .i8 0, .int .i8 0, .int .u64 0, nilS] (#[Value.string (qs[j]).nm] ++ ds) rfl rfl rfl hqsz (by rw [Array.size_append, hsz]; rfl) hone ?_))
        clear HRA HT hqsz hone
        generalize wr.alloc (.cells (#[Value.string (qs[j]).nm] ++ ds) 40) = w3 at HS3 HT3 HR3 c0 HN3z hO3 ⊢
        have hcf3 := hO3.cf
        have HNj := hid (HNm.out (qs[j]).nm w3 HS3.out.low)
        cases hnm : isNm (qs[j]).nm with
        | false =>
          have HF : Hid (¬ OkI ⟨main, qs⟩) := fun h => by have := (h.2.2.2.2 _ (List.getElem_mem hj)).1; rw [hnm] at this; cases this
          rw [hnm] at HNj
          have HX := hid HS3.out.low
          clear hnm HS3 HT3 HD HTk HSt HNm
          generalize (qs[j]).nm = nm at c0 HNj
          go_wp2_with (go_at_call 22; refine (HNj.out).mono ?_; rintro e w4 ⟨rfl, hw⟩; rw [hw]; clear hw w4)
          go_ret
          exact ⟨HX.out, Or.inr ⟨HF.out, rfl⟩⟩
        | true =>
          rw [hnm] at HNj
          have hj2' := hj2.out
          have HC := hid (HSt.out (qs[j]).pd ds true (4096 - szI main - qszI (qs.take j)) w3 (ti_on HT3.out fun b hb hS => ⟨⟨by omega, hb⟩, rfl⟩) HS3.out.own HS3.out.low (by omega))
          have hz3 := HS3.out.low.size
          by_cases hft : Std true 1 (4096 - szI main - qszI (qs.take j)) (qs[j]).pd
          · have HCt := hid (SdP.yes HC.out hft)
            have HNM := hid hnm
            clear HC hnm hj2'
            generalize (qs[j]).nm = nm at c0 HNj
            go_wp2_with (first
              | (go_at_call 22; refine (HNj.out).mono ?_; rintro e w4 ⟨rfl, hw⟩; rw [hw]; clear hw w4)
              | (refine ldMid 26 (.tmp 30) rfl rfl wr.heap.size 1 rfl ds _ Tryz.underlying26 rfl HI3.out HR3.out ?_)
              | (go_at_call 18; refine (HCt.out).mono ?_; rintro e w4 ⟨rfl, h1, h2⟩; have HS4 := hid (HS3.out.thn (by omega) h1 h2); clear h1 h2))
            have hL5 : 4096 - szI main - qszI (qs.take (j + 1)) = 4096 - szI main - qszI (qs.take j) - szI (qs[j]).pd := by rw [HTk.out]; omega
            have hX : ∃ k : Nat, Value.int .i64 ((j : Int) + 1) = .int .i64 ((k : Nat) : Int) ∧ k ≤ qs.length ∧ Hid (szI main + qszI (qs.take k) ≤ 4096) ∧ Hid (∀ i (hi : i < qs.length), i < k → isNm (qs[i]).nm = true ∧ okI true (qs[i]).pd = true ∧ dpI (qs[i]).pd ≤ 128) ∧ Hid (TcS (w.heap.size + 1) (w.heap.size + 1 + 1) w qs (.slice (some ⟨g, p, none⟩) qs.length cap) (4096 - szI main - qszI (qs.take k)) w4) := by
              refine ⟨j + 1, by rw [show (((j + 1 : Nat) : Nat) : Int) = (j : Int) + 1 by omega], hj, by show _ ≤ _; rw [HTk.out]; have := hft.2.2; have := hj2.out; omega, fun i hi hij => ?_, by rw [hL5]; exact HS4⟩
              by_cases e : i = j
              · subst e; exact ⟨HNM.out, hft.1, by have := hft.2.1; omega⟩
              · exact HD.out i hi (by omega)
            refine ⟨?_, ?_⟩
            · first
                | exact hX
                | ((repeat apply Exists.intro); refine ⟨?_, rfl⟩; exact hX)
            · simp [intOf]; omega
          · have HCf := hid (SdP.no HC.out hft)
            have HF : Hid (¬ OkI ⟨main, qs⟩) := fun h => hft (by
              obtain ⟨-, b2, b3⟩ := h.2.2.2.2 _ (List.getElem_mem hj)
              have h1 := qszI_le qs (j + 1)
              rw [HTk.out] at h1
              have h2 : szI main + qszI qs ≤ 4096 := h.2.2.2.1
              exact ⟨b2, by omega, by omega⟩)
            clear HC hnm hj2' HD
            generalize (qs[j]).nm = nm at c0 HNj
            go_wp2_with (first
              | (go_at_call 22; refine (HNj.out).mono ?_; rintro e w4 ⟨rfl, hw⟩; rw [hw]; clear hw w4)
              | (refine ldMid 26 (.tmp 30) rfl rfl wr.heap.size 1 rfl ds _ Tryz.underlying26 rfl HI3.out HR3.out ?_)
              | (go_at_call 18; refine (HCf.out).mono ?_; rintro e w4 ⟨rfl, h1⟩; have HX := hid (HS3.out.low.trans (h1.below fun k hk => by rcases hk with e | e <;> omega)); clear h1))
            go_ret
            exact ⟨HX.out, Or.inr ⟨HF.out, rfl⟩⟩
      · have hs3 : decide ((j : Int) < (qs.length : Int)) = false := by simp; omega
        obtain rfl : j = qs.length := by omega
        have HF : Hid (OkI ⟨main, qs⟩) := by
          have h1 := hj2.out
          rw [List.take_length] at h1
          exact ⟨hqs, hfit.1, by have := hfit.2.1; show dpI main ≤ 128; omega, h1, fun q hq => by
            obtain ⟨i, hi, rfl⟩ := List.getElem_of_mem hq
            exact HD.out i hi hi⟩
        go_wp2
        go_ret
        exact ⟨HS.out.low, Or.inl ⟨HF.out, rfl⟩⟩
  · have HCf := hid (SdP.no HC.out hfit)
    have HF : Hid (¬ OkI ⟨main, qs⟩) := fun h => hfit ⟨h.2.1, by have : dpI main ≤ 128 := h.2.2.1; omega, by have : szI main + qszI qs ≤ 4096 := h.2.2.2.1; omega⟩
    clear HC
    go_wp2_with (first
      | (refine ldMid 26 (.tmp 13) rfl rfl w.heap.size 0 rfl #[x0, x1, x2, x3] _ Tryz.underlying26 rfl HI.out HRM.out ?_)
      | (go_at_call 18; refine (HCf.out).mono ?_; rintro e w5 ⟨rfl, a1⟩; have HX := hid (HB4.out.trans (a1.below fun k hk => by rcases hk with e | e <;> omega)); clear a1))
    go_ret
    exact ⟨HX.out, Or.inr ⟨HF.out, rfl⟩⟩
end Go.Proofs.YtoncogkamlgjhaaGreatDoor
