/-
  Proved here: AirPlays' body says true. Condition: the acts are old memory.
-/
import Derived.Test.YthgkmbdnkamcoaaTD
namespace Go.Proofs.Ythgkmbdnkamcoaa
open Go.RowKit

theorem stepDoT {ops : Array Oper} {o : Oper} {a : Act} {w : World} {K : Act → World → Prop} {Q : Exit → Act → World → Prop} {E : Prop} (x y z : Operand) (hop : o.op = .call { callee := .value (.func 16), args := #[x, y, z], argTypes := #[25, 5, 3] }) (hg : o.guard = none)
    {M : Nat → Prop} {w0 : World} {v u : Value} {A : Ar} {R : Ra} {n m : Int} (hx : a.eval x = v) (hy : a.eval y = .int .u8 n) (hz : a.eval z = .int .i64 m) (hT : Td M w0 w v u A R) (h0 : 0 ≤ n) (h1 : m < 9223372036854775808) (h2 : A.row.length < 1000000) (h3 : A.came.length < 1000000)
    (hK : ∀ w', Td M w0 w' v u (doS A n m) R → K (a.put o.dst (.int .i64 (doE A n m))) w') : if Region.wanted o (yielded ops a.tmps) = true then Oper.wp Try.prog o a w K Q else E := by
  obtain ⟨S, s1, s2, -, s4, -⟩ := hT.air
  exact stepDo x y z hop hg hx hy hz s1 s2 h0 h1 h2 h3 fun w' hO hA => hK w' (s4 w' _ hO hA)
theorem stepRdoT {ops : Array Oper} {o : Oper} {a : Act} {w : World} {K : Act → World → Prop} {Q : Exit → Act → World → Prop} {E : Prop} (x y z : Operand) (hop : o.op = .call { callee := .value (.func 17), args := #[x, y, z], argTypes := #[30, 5, 3] }) (hg : o.guard = none)
    {M : Nat → Prop} {w0 : World} {v u : Value} {A A' : Ar} {n m : Int} (hx : a.eval x = u) (hy : a.eval y = .int .u8 n) (hz : a.eval z = .int .i64 m) (hT : Td M w0 w v u A' (raOf A)) (h0 : 0 ≤ n) (h1 : m < 9223372036854775808) (h2 : A.row.length < 1000000) (h3 : A.came.length < 1000000)
    (hK : ∀ w', Td M w0 w' v u A' (raOf (doS A n m)) → K (a.put o.dst (.int .i64 (doE A n m))) w') : if Region.wanted o (yielded ops a.tmps) = true then Oper.wp Try.prog o a w K Q else E := by
  obtain ⟨S, s1, s2, -, s4⟩ := hT.ref
  have hw : Region.wanted o (yielded ops a.tmps) = true := by simp [Region.wanted, hg]
  rw [if_pos hw]
  have hfn : a.eval (.func 17) = .func (.func 17) #[] #[] := rfl
  have hrun : (execOp a.eval o).run Try.prog w = .ok (.enter 17 #[u, .int .u8 n, .int .i64 m]) w := by
    unfold execOp
    simp only [hop, resolve, invoke, Deferred.ofValue, hfn, callFunc, Sem.run_bind, Sem.run_pure, Result.andThen_ok, List.map_toArray, List.map_cons, List.map_nil, hx, hy, hz]
    rfl
  show Oper.upon Try.prog o a K Q ((execOp a.eval o).run Try.prog w)
  rw [hrun, Oper.upon_enter]
  refine (rdo_any w u (raOf A) n m s1 s2 h0 h1 (by rw [ra_len]; exact h2) (by simpa [raOf] using h3)).mono ?_
  rintro r w' ⟨rfl, h1, h2⟩
  rw [ra_doE]
  rw [← ra_do] at h2
  exact hK w' (s4 w' _ h1 h2)
/-- An act's cells, in a world. -/
structure AcAt (b p : Nat) (ua : Option Addr) (uc : Nat) (x : Ac) (B : Nat) (wr : World) : Prop where
  t0 : wr.cell? ⟨b, p, none⟩ = some (.int .u8 x.dw)
  t1 : wr.cell? ⟨b, p + 1, none⟩ = some (.int .i64 x.at')
  t2 : wr.cell? ⟨b, p + 2, none⟩ = some (.slice ua x.b.length uc)
  sl : SlC (fun k => k < B) wr (.slice ua x.b.length uc) x.b
theorem act_all {w : World} {ao : Option Addr} {cap : Nat} {l : List Ac} (h : Acts (fun k => k < w.heap.size) w (.slice ao l.length cap) l) (k : Nat) (hk : k < l.length) :
    ∃ b o ua uc, ao = some ⟨b, o, none⟩ ∧ l[k].Fit ∧ ∀ wr, Below w.heap.size w wr → AcAt b (o + k * 3) ua uc l[k] w.heap.size wr := by
  obtain ⟨b, o, rfl, hT, hc⟩ := h.cell k hk
  obtain ⟨h0, h1, ⟨u, h2, hs⟩, hf⟩ := hc
  obtain ⟨ua, uc, rfl, -⟩ := id hs
  refine ⟨b, o, ua, uc, rfl, hf, fun wr hb => ?_⟩
  have hs' := hs.carry (T := fun k => k < w.heap.size) (w' := wr) fun i hi _ => ⟨hi, hb.block i hi⟩
  have e : ∀ i, wr.cell? ⟨b, o + k * 3 + i, none⟩ = w.cell? ⟨b, o + k * 3 + i, none⟩ := fun i => cell_same (hb.block b hT)
  exact ⟨(e 0).trans h0, (e 1).trans h1, (e 2).trans h2, hs'⟩
theorem sizeRA (x y : Value) : (Try.prog.info? 30).map (·.size) = some (#[x, y] : Array Value).size := by kernel_rfl
/-- What a round of the law keeps. -/
def PlI (w : World) (v u : Value) (k : Nat) (A : Ar) (wr : World) : Prop := Td (fun _ => False) w wr v u A (raOf A) ∧ A.row.length ≤ k ∧ A.came.length ≤ k
set_option maxHeartbeats 3200000 in
set_option maxRecDepth 100000 in
theorem plays_any (w : World) (v1 : Value) (l : List Ac) (hl : Acts (fun k => k < w.heap.size) w v1 l) :
    Calls Try.prog 3 #[v1] w fun e w' => e = .returned (.bool true) ∧ Below w.heap.size w w' := by
  have HG := hid (great_any w v1 l hl)
  obtain ⟨ao, cap, rfl, hcap⟩ := hl.form
  have HA := hid hl
  have HW : Hid (∀ W, Below w.heap.size w W → Calls Try.prog 9 #[] W fun e w' => e = .returned (.bool true) ∧ Below w.heap.size w w') := fun W hW => (wakes_any W).mono fun e w' ⟨h1, h2⟩ => ⟨h1, hW.trans (h2.mono hW.size)⟩
  clear hl
  by_cases hgr : l.length ≤ 300 ∧ sumB l ≤ 65536
  case neg =>
    rw [decide_eq_false hgr] at HG
    have HG' : Hid (Calls Try.prog 8 #[.slice ao l.length cap] w fun e w' => e = .returned (.bool true) ∧ Below w.heap.size w w') := HG
    go_enter Try.func3, Try.ntmps3
    go_wp2_with (first
      | (go_at_call 8; refine (HG'.out).mono ?_; rintro e w1 ⟨rfl, hb1⟩; have HB1 := hid hb1; clear hb1)
      | (go_at_call 9; refine (HW.out _ HB1.out).mono ?_; rintro e w2 ⟨rfl, hb2⟩; have HB2 := hid hb2; clear hb2))
    go_ret
    exact ⟨rfl, HB2.out⟩
  rw [decide_eq_true hgr] at HG
  have HG' : Hid (Calls Try.prog 8 #[.slice ao l.length cap] w fun e w' => e = .returned (.bool false) ∧ Below w.heap.size w w') := HG
  have hl3 : l.length ≤ 300 := hgr.1
  clear HG
  go_enter Try.func3, Try.ntmps3
  go_upto_region 5 with (first
    | (go_at_call 8; refine (HG'.out).mono ?_; rintro e w1 ⟨rfl, hb1⟩; have HB1 := hid hb1; clear hb1 HG')
    | (go_at_call 10; refine (new_any w1).mono ?_; rintro e w2 ⟨v, rfl, hb2, ha2⟩
       have HT := hid (Td.new HB1.out hb2 ha2)
       clear hb2 ha2 HB1)
    | (refine stNew 30 (.tmp 4) (.tmp 15) rfl rfl w2 30 #[.slice none 0 0, .slice none 0 0] #[.slice none 0 0, .slice none 0 0] rfl rfl rfl (sizeRA _ _) rfl rfl ?_))
  obtain ⟨u, hu⟩ : ∃ u : Nat, u = w2.heap.size := ⟨_, rfl⟩
  obtain ⟨W3, hW3⟩ : ∃ W3, W3 = w2.alloc (.cells #[.slice none 0 0, .slice none 0 0] 30) := ⟨_, rfl⟩
  have HP0 : Hid (PlI w v (.pointer (some ⟨u, 0, none⟩)) 0 ar0 W3) := ⟨by rw [hu, hW3]; exact HT.out, Nat.le_refl _, Nat.le_refl _⟩
  rw [← hu, ← hW3]
  clear hu hW3 HT w2
  go_upto_region 6 with fail
  go_loopw [5] (fun i wr => ∃ (k : Nat) (A : Ar), k ≤ l.length ∧ i = .int .i64 k ∧ PlI w v (.pointer (some ⟨u, 0, none⟩)) k A wr) (fun i _ => l.length - (intOf i).toNat)
  case atStart => exact ⟨0, ar0, by omega, rfl, HP0.out⟩
  case round =>
    obtain ⟨k, A, hk, rfl, hT, hr1, hr2⟩ := hrel
    have HT := hid hT
    clear hT HP0
    generalize wr = wx at *
    by_cases hlt : k < l.length
    · have hbp : decide ((k : Int) < (l.length : Int)) = true := by simp; omega
      obtain ⟨b, o, xa, xc, rfl, hfit, hat⟩ := act_all HA.out k hlt
      have HAt := hid hat
      obtain ⟨t0, t1, t2, -⟩ := hat wx HT.out.below
      generalize hac : l[k] = ac at t0 t1 t2 hfit HAt
      obtain ⟨⟨f0, f1⟩, f2, f3⟩ := hfit
      have hbl := (HAt.out wx HT.out.below).sl.len
      have HIs := hid (HAt.out wx HT.out.below).sl.isB
      clear hac hat
      by_cases h10 : ac.dw = 10
      · rw [h10] at t0
        have hB0 : Below wx.heap.size wx (wx.alloc (.cells #[] 5)) := (Below.refl _ _).alloc (Nat.le_refl _) _
        have HOe := hid (owns_empty (base := wx.heap.size) wx (Nat.le_refl _))
        obtain ⟨-, -, q2, hs0⟩ := HAt.out _ (HT.out.below.trans (hB0.mono HT.out.below.size))
        have HS0 := hid hs0.sl
        have HB0 := hid hB0
        clear hs0 hB0
        go_upto_region 13 with (at_builtin; refine app22 (.tmp 53) (.tmp 58) rfl rfl rfl rfl HOe.out HS0.out (by simp) (by simpa using hbl) ?_
                                intro y1 w1 X1
                                have HO1 : Hid (Owns wx.heap.size w1 y1 ac.b) := X1.own
                                have HB1 : Hid (Below wx.heap.size wx w1) := HB0.out.trans (X1.below HOe.out (by simp))
                                obtain ⟨a1, k1, rfl⟩ : ∃ a1 k1, y1 = .slice a1 ac.b.length k1 := HO1.out.slice
                                clear X1 HOe HS0 HB0)
        have HT1 := hid (HT.out.more HB1.out)
        have HM1 : Hid (Mn (fun j => wx.heap.size ≤ j ∧ j < w1.heap.size) w1 (.slice a1 ac.b.length k1) ac.b.length) := ⟨ac.b, HO1.out.low (Nat.zero_le _), rfl, fun g hg => ⟨(HO1.out.lt g hg).1, (HO1.out.lt g hg).2.1⟩⟩
        generalize (fun j => wx.heap.size ≤ j ∧ j < w1.heap.size) = M at HT1 HM1
        obtain ⟨S, s1, s2, s3, s4, -⟩ := HT1.out.air
        have HPut := hid (put_any (S := S) (T := fun _ => True) w1 v A (.slice a1 ac.b.length k1) ac.b s1 s2 (SlC.own HO1.out hbl HIs.out fun _ _ _ => trivial) (by omega))
        have HS3 := hid s3
        have HS4 := hid s4
        clear HO1 HB1 s1 s2 s3 s4
        go_upto_region 14 with (go_at_call 11; refine (HPut.out).mono ?_; rintro e w2 ⟨rfl, hO2, hA2⟩
                                have HT2 := hid (HS4.out w2 _ hO2 hA2)
                                have HM2 := hid (HM1.out.carry fun k hk _ => hO2.block k (HS3.out k hk))
                                clear hO2 hA2 HPut HT1 HM1 HS3 HS4)
        go_upto_region 15 with fail
        go_loopw [7] (fun i wy => ∃ q : Nat, q ≤ ac.b.length ∧ i = .int .i64 q ∧ Td M w wy v (.pointer (some ⟨u, 0, none⟩)) (putS A ac.b) (raOf A) ∧ Mn M wy (.slice a1 ac.b.length k1) ac.b.length) (fun i _ => ac.b.length - (intOf i).toNat)
        case atStart => exact ⟨0, by omega, rfl, HT2.out, HM2.out⟩
        case round =>
          obtain ⟨q, hq, rfl, hT3, hM3⟩ := hrel
          generalize wr = wy at *
          by_cases hlq : q < ac.b.length
          · obtain ⟨g1, y, ha1, hMg, y1, y2⟩ := hM3.cell q hlq
            subst ha1
            have HT4 : Hid (∀ z, Td M w (wy.setCell ⟨g1, q, none⟩ (.int .u8 z)) v (.pointer (some ⟨u, 0, none⟩)) (putS A ac.b) (raOf A)) := fun z => hT3.wrote g1 q hMg _
            have HM4 : Hid (∀ z, Mn M (wy.setCell ⟨g1, q, none⟩ (.int .u8 z)) (.slice (some ⟨g1, 0, none⟩) ac.b.length k1) ac.b.length) := fun z => hM3.wrote g1 q z
            have hqb : decide ((q : Int) < (ac.b.length : Int)) = true := decide_eq_true (by omega)
            clear hT3 hM3 hMg
            go_wp2
            go_roundw
            case rel => exact ⟨q + 1, by omega, by go_num, HT4.out _, HM4.out _⟩
            case measure => simp [intOf]; omega
          · obtain rfl : q = ac.b.length := by omega
            have hqb : decide ((ac.b.length : Int) < (ac.b.length : Int)) = false := by simp
            obtain ⟨-, -, q2, hs5⟩ := HAt.out wy hT3.below
            obtain ⟨R, r1, r2, -, r4⟩ := hT3.ref
            have HRp := hid (rput_any (S := R) (T := fun k => k < w.heap.size) wy (.pointer (some ⟨u, 0, none⟩)) (raOf A) (.slice xa ac.b.length xc) ac.b r1 r2 hs5 (by rw [ra_len]; omega))
            have HR4 := hid r4
            clear hT3 hM3 hs5 r1 r2 r4
            go_wp2_with (go_at_call 12; refine (HRp.out).mono ?_; rintro e w5 ⟨rfl, hO5, hR5⟩
                         have HT5 := hid (HR4.out w5 _ hO5 hR5).lose
                         clear hO5 hR5 HRp HR4)
            go_roundw
            case rel => exact ⟨k + 1, putS A ac.b, by omega, by go_num, by rw [ra_put]; exact HT5.out, by simp [putS]; omega, by simp [putS]; omega⟩
            case measure => simp [intOf]; omega
      · by_cases h11 : ac.dw = 11
        · rw [h11] at t0
          obtain ⟨S, s1, s2, -, -, s5⟩ := HT.out.air
          have hln := s1.lens
          have hok := s1.ok
          have HL0 : Hid (∀ x ∈ A.came.map told, IsB x ∧ x.length ≤ 140737488355328) := by
            intro x hx
            obtain ⟨d, hd, rfl⟩ := List.mem_map.1 hx
            exact ⟨told_isB (hok.2 d hd), by rw [told_len]; exact hln d hd⟩
          have HC := hid (came_any wx v A s1 s2 (by omega))
          have HS5 := hid s5
          have hnot : ∀ (x : Bool) (w : World), (Op.unary .not (.bool x)).run Try.prog w = .ok (.bool (!x)) w := fun _ _ => rfl
          clear s1 s2 s5 hln hok
          go_upto_region 21 with (go_at_call 13; refine (HC.out).mono ?_; rintro e w1 ⟨rfl, hO1, hG1, hA1⟩
                                  have HT1 := hid (HS5.out w1 _ hO1 hA1)
                                  have HBo := hid (Gave.both hG1 (by simp) (Nat.lt_succ_self _) HL0.out (by omega))
                                  have HMb : Hid (wx.heap.size ≤ wx.heap.size ∧ wx.heap.size < w1.heap.size) := by
                                    obtain ⟨cu, e1, -⟩ := hG1
                                    exact ⟨Nat.le_refl _, (Array.getElem?_eq_some_iff.1 e1).1⟩
                                  clear hO1 hG1 hA1 HC HS5)
          generalize hb0 : wx.heap.size = b0 at *
          obtain ⟨M, hM⟩ : ∃ M : Nat → Prop, M = fun j => b0 ≤ j ∧ j < w1.heap.size := ⟨_, rfl⟩
          have HMb' : Hid (M b0) := by show M b0; rw [hM]; exact HMb.out
          rw [← hM] at HT1 HBo
          clear hM HMb hb0
          obtain ⟨R, r1, r2, r3, r4⟩ := HT1.out.ref
          have HRc := hid (rcame_any w1 (.pointer (some ⟨u, 0, none⟩)) (raOf A) r1)
          have HR3 := hid r3
          have HR4 := hid r4
          obtain ⟨ls, hls⟩ : ∃ ls, ls = (A.came.map told).map List.length := ⟨_, rfl⟩
          have hlsl : ls.length = A.came.length := by rw [hls]; simp
          have hky : ∀ y ∈ ls, y ≤ 140737488355328 := by
            rw [hls]
            intro y hy
            obtain ⟨x, hx, rfl⟩ := List.mem_map.1 hy
            exact (HL0.out x hx).2
          have HLs : Hid (∀ q (h : q < ls.length), ls[q] ≤ 140737488355328) := fun q h => hky _ (List.getElem_mem h)
          clear hky
          rw [← hls] at HBo
          clear hls r1 r2 r3 r4
          go_upto_region 23 with (first
            | (go_at_call 15; refine (HRc.out).mono ?_; rintro e w2 ⟨u2, us, rfl, hO2, hR2, h3, h4, h5⟩
               have HT2 := hid (HR4.out w2 _ hO2 hR2)
               have HAl := hid (all_any _ _ _ u2 _ _ w2 (HBo.out.1.carry (T := M) fun k hk hS => ⟨hS, hO2.block k (HR3.out k hS)⟩) (Rw.ls h4 h3 (by simp [raOf]; omega) h5))
               have HG2 := hid (HBo.out.2.carry HMb'.out fun k hk _ => hO2.block k (HR3.out k hk))
               clear hO2 hR2 h3 h4 h5 HRc)
            | (go_at_call 14; refine (HAl.out).mono ?_; rintro e w3 ⟨rfl, hb3⟩
               rw [show decide (List.map told A.came = (raOf A).n) = true from decide_eq_true rfl]
               have HT3 := hid (HT2.out.same hb3)
               have HG3 := hid (HG2.out.carry HMb'.out fun k _ hk => hb3.block k hk)
               clear hb3 HAl))
          go_upto_region 24 with fail
          clear HT2 HG2 HBo HT1 HR3 HR4
          go_loopw [9] (fun i wy => ∃ q : Nat, q ≤ A.came.length ∧ i = .int .i64 q ∧ Td M w wy v (.pointer (some ⟨u, 0, none⟩)) (cmS A) (rcmS (raOf A)) ∧ Gv M wy b0 ls) (fun i _ => A.came.length - (intOf i).toNat)
          case atStart => exact ⟨0, by omega, rfl, HT3.out, HG3.out⟩
          case round =>
            obtain ⟨q, hq, rfl, hT4, hG4⟩ := hrel
            generalize wr = wy at *
            by_cases hlq : q < A.came.length
            · have hqb : decide ((q : Int) < (A.came.length : Int)) = true := decide_eq_true (by omega)
              obtain ⟨a0, c0, e0, hMn⟩ := hG4.cell q (by omega)
              have hml := HLs.out q (by omega)
              generalize ls[q] = m at e0 hMn hml
              have HT4 := hid hT4
              have HG4 := hid hG4
              have HM4 := hid hMn
              clear hT4 hG4 hMn
              go_upto_region 27 with fail
              go_loopw [10] (fun i wz => ∃ p : Nat, p ≤ m ∧ i = .int .i64 p ∧ Td M w wz v (.pointer (some ⟨u, 0, none⟩)) (cmS A) (rcmS (raOf A)) ∧ Gv M wz b0 ls ∧ wz.cell? ⟨b0, q, none⟩ = some (.slice a0 m c0) ∧ Mn (fun g => M g ∧ g ≠ b0) wz (.slice a0 m c0) m) (fun i _ => m - (intOf i).toNat)
              case atStart => exact ⟨0, by omega, rfl, HT4.out, HG4.out, e0, HM4.out⟩
              case round =>
                obtain ⟨p, hp, rfl, hT5, hG5, e5, hM5⟩ := hrel
                generalize wr = wz at *
                by_cases hlp : p < m
                · obtain ⟨g1, y, ha0, hMg, y1, y2⟩ := hM5.cell p hlp
                  subst ha0
                  have HT6 : Hid (∀ z, Td M w (wz.drew.setCell ⟨g1, p, none⟩ (.int .u8 z)) v (.pointer (some ⟨u, 0, none⟩)) (cmS A) (rcmS (raOf A)) ∧ Gv M (wz.drew.setCell ⟨g1, p, none⟩ (.int .u8 z)) b0 ls ∧ (wz.drew.setCell ⟨g1, p, none⟩ (.int .u8 z)).cell? ⟨b0, q, none⟩ = some (.slice (some ⟨g1, 0, none⟩) m c0) ∧ Mn (fun g => M g ∧ g ≠ b0) (wz.drew.setCell ⟨g1, p, none⟩ (.int .u8 z)) (.slice (some ⟨g1, 0, none⟩) m c0) m) := by
                    intro z
                    refine ⟨(hT5.same (w' := wz.drew) ((Below.refl _ _).drew)).wrote g1 p hMg.1 _, (hG5.carry (w' := wz.drew) HMb'.out fun _ _ _ => rfl).wrote g1 p hMg.2 z, ?_, (hM5.carry (w' := wz.drew) fun _ _ _ => rfl).wrote g1 p z⟩
                    rw [World.cell?_setCell_far _ _ _ _ hMg.2]; exact e5
                  have hpb : decide ((p : Int) < (m : Int)) = true := decide_eq_true (by omega)
                  clear hT5 hG5 hM5 hMg
                  go_upto_region 29 with fail
                  go_region_law (fail)
                  all_goals (
                    go_wp2
                    go_roundw
                    case rel => exact ⟨p + 1, by omega, by go_num, HT6.out _⟩
                    case measure => simp [intOf]; omega)
                · obtain rfl : p = m := by omega
                  have hpb : decide ((p : Int) < (p : Int)) = false := by simp
                  have HT6 := hid (And.intro hT5 hG5)
                  clear hT5 hG5 hM5
                  go_wp2
                  go_roundw
                  case rel => exact ⟨q + 1, by omega, by go_num, HT6.out.1, HT6.out.2⟩
                  case measure => simp [intOf]; omega
            · obtain rfl : q = A.came.length := by omega
              have hqb : decide ((A.came.length : Int) < (A.came.length : Int)) = false := by simp
              have HT5 := hid hT4.lose
              clear hT4 hG4
              go_wp2
              go_roundw
              case rel => exact ⟨k + 1, cmS A, by omega, by go_num, by rw [ra_came]; exact HT5.out, by simp [cmS]; omega, by simp [cmS]⟩
              case measure => simp [intOf]; omega
        · have hq10 : (ac.dw == 10) = false := beq_eq_false_iff_ne.2 h10
          have hq11 : (ac.dw == 11) = false := beq_eq_false_iff_ne.2 h11
          have HTd : Hid (Td (fun _ => False) w wx.drew v (.pointer (some ⟨u, 0, none⟩)) A (raOf A)) := HT.out.same ((Below.refl _ _).drew)
          have HL := hid (doS_len A ac.dw ac.at')
          have hr1' : A.row.length < 1000000 := by omega
          have hr2' : A.came.length < 1000000 := by omega
          go_upto_region 9 with fail
          go_region_law (first
            | (refine stepDoT (.tmp 27) (.tmp 32) (.tmp 37) rfl rfl rfl rfl rfl HTb.out f0 f3 hr1' hr2' ?_
               intro w4 hT4
               obtain ⟨x0, x1, -, -⟩ := HAt.out w4 hT4.below
               have HTz := hid hT4
               clear hT4 HTb)
            | (refine stepRdoT (A := A) (.tmp 4) (.tmp 43) (.tmp 48) rfl rfl rfl rfl rfl HTa.out f0 f3 hr1' hr2' ?_
               intro w4 hT4
               obtain ⟨x0, x1, -, -⟩ := HAt.out w4 hT4.below
               have HTz := hid hT4
               clear hT4 HTa)
            | (refine stepDoT (.tmp 27) (.tmp 32) (.tmp 37) rfl rfl rfl rfl rfl HTd.out f0 f3 hr1' hr2' ?_
               intro w3 hT3
               obtain ⟨z0, z1, -, -⟩ := HAt.out w3 hT3.below
               have HTa := hid hT3
               clear hT3 HTd)
            | (refine stepRdoT (A := A) (.tmp 4) (.tmp 43) (.tmp 48) rfl rfl rfl rfl rfl HTd.out f0 f3 hr1' hr2' ?_
               intro w3 hT3
               obtain ⟨z0, z1, -, -⟩ := HAt.out w3 hT3.below
               have HTb := hid hT3
               clear hT3 HTd))
          all_goals (
            go_wp2
            go_roundw
            case rel => exact ⟨k + 1, doS A ac.dw ac.at', by omega, by go_num, HTz.out, by have := HL.out.1; omega, by have := HL.out.2; omega⟩
            case measure => simp [intOf]; omega)
    · obtain rfl : k = l.length := by omega
      have hbp : decide ((l.length : Int) < (l.length : Int)) = false := by simp
      obtain ⟨S, s1, s2, -, -, s5⟩ := HT.out.air
      have hln := s1.lens
      have hok := s1.ok
      have HL0 : Hid (∀ x ∈ A.came.map told, IsB x ∧ x.length ≤ 140737488355328) := by
        intro x hx
        obtain ⟨d, hd, rfl⟩ := List.mem_map.1 hx
        exact ⟨told_isB (hok.2 d hd), by rw [told_len]; exact hln d hd⟩
      have HC := hid (came_any wx v A s1 s2 (by omega))
      have HS5 := hid s5
      clear s1 s2 s5 hln hok
      go_wp2_with (first
        | (go_at_call 13; refine (HC.out).mono ?_; rintro e w1 ⟨rfl, hO1, hG1, hA1⟩
           have HT1 := hid (HS5.out w1 _ hO1 hA1)
           have HBo := hid (Gave.both hG1 (by simp) (Nat.lt_succ_self _) HL0.out (by omega))
           obtain ⟨R, r1, r2, r3, r4⟩ := HT1.out.ref
           have HRc := hid (rcame_any w1 (.pointer (some ⟨u, 0, none⟩)) (raOf A) r1)
           have HR3 := hid r3
           have HR4 := hid r4
           clear hO1 hG1 hA1 HC HS5 r1 r2 r3 r4)
        | (go_at_call 15; refine (HRc.out).mono ?_; rintro e w2 ⟨u2, us, rfl, hO2, hR2, h3, h4, h5⟩
           have HT2 := hid (HR4.out w2 _ hO2 hR2).below
           have HAl := hid (all_any _ _ _ u2 _ _ w2 (HBo.out.1.carry fun k hk hS => ⟨hS, hO2.block k (HR3.out k hS)⟩) (Rw.ls h4 h3 (by simp [raOf]; omega) h5))
           clear hO2 hR2 h3 h4 h5 HRc)
        | (go_at_call 14; refine (HAl.out).mono ?_; rintro e w3 ⟨rfl, hb3⟩
           rw [show decide (List.map told A.came = (raOf A).n) = true from decide_eq_true rfl]
           have HT3 := hid (HT2.out.trans (hb3.mono HT2.out.size))
           clear hb3 HAl)
        | (go_at_call 9; refine (HW.out _ HT3.out).mono ?_; rintro e w9 ⟨rfl, hb9⟩; have HB9 := hid hb9; clear hb9))
      go_ret
      exact ⟨rfl, HB9.out⟩
end Go.Proofs.Ythgkmbdnkamcoaa
