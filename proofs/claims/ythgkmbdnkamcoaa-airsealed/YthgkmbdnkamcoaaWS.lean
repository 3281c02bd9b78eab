/-
  Proved here: AirSealed's body says true. Conditions: the bytes and the acts are old memory.
-/
import Derived.Test.YthgkmbdnkamcoaaZ1
import Derived.Test.YthgkmbdnkamcoaaZ2
import Derived.Test.YthgkmbdnkamcoaaSM
import Derived.Test.YthgkmbdnkamcoaaCS5
namespace Go.Proofs.Ythgkmbdnkamcoaa
open Go.RowKit

theorem seL_bd (b : List Int) : (seL b).length ≤ 140737488355328 := by have := seL_len b; omega
theorem Sd.last {w wr : World} {v v6 u : Value} {A : Ar} {us : List Value} {L : List (List Int)} {b : List Int} (h : Sd w wr v v6 A (us ++ [u]) (L ++ [b])) : SlC (fun _ => True) wr u b := by
  obtain ⟨-, SA, -, -, -, h4, h5⟩ := h
  have hl : us.length = L.length := by simpa using h4
  have := h5 us.length (by simp) (by simp [hl])
  rw [List.getElem_append_right (Nat.le_refl _), List.getElem_append_right (by omega)] at this
  simp only [Nat.sub_self, List.getElem_cons_zero, hl] at this
  exact this.carry fun _ _ _ => ⟨trivial, rfl⟩
theorem Sd.at {w wc : World} {v : Value} {sa : Option Addr} {sk : Nat} {A : Ar} {us : List Value} {L : List (List Int)} (h : Sd w wc v (.slice sa us.length sk) A us L) (q : Nat) (hq : q < us.length) (hq' : q < L.length) :
    ∃ g o, sa = some ⟨g, o, none⟩ ∧ wc.cell? ⟨g, o + q, none⟩ = some us[q] ∧ g < wc.heap.size ∧ SlC (fun j => j < wc.heap.size) wc us[q] L[q] := by
  obtain ⟨-, SA, -, -, h3, -, h5⟩ := h
  rcases h3.2 with ⟨e, h0⟩ | ⟨g, o, cap, cur, e, -, h4, -, -, h6⟩
  · omega
  · simp only [Value.slice.injEq] at e
    refine ⟨g, o, e.1, ?_, (Array.getElem?_eq_some_iff.1 h4).1, (h5 q hq hq').carry fun k hk _ => ⟨hk, rfl⟩⟩
    rw [cell_of_row wc g _ cur _ _ h4, cells_at h6 (by omega), List.getElem?_eq_getElem hq]
theorem stepSame {ops : Array Oper} {o : Oper} {a : Act} {w : World} {K : Act → World → Prop} {Q : Exit → Act → World → Prop} {E : Prop} (x y : Operand) (hop : o.op = .call { callee := .value (.func 19), args := #[x, y], argTypes := #[31, 31] }) (hw : Region.wanted o (yielded ops a.tmps) = true)
    {B C : Nat} {u v : Value} {xs ys : List Int} (hx : a.eval x = u) (hy : a.eval y = v) (h1 : Sl B w u xs) (h2 : Sl C w v ys)
    (hK : ∀ w', Below w.heap.size w w' → K (a.put o.dst (.bool (decide (xs = ys)))) w') : if Region.wanted o (yielded ops a.tmps) = true then Oper.wp Try.prog o a w K Q else E := by
  rw [if_pos hw]
  have hfn : a.eval (.func 19) = .func (.func 19) #[] #[] := rfl
  have hrun : (execOp a.eval o).run Try.prog w = .ok (.enter 19 #[u, v]) w := by
    unfold execOp
    simp only [hop, resolve, invoke, Deferred.ofValue, hfn, callFunc, Sem.run_bind, Sem.run_pure, Result.andThen_ok, List.map_toArray, List.map_cons, List.map_nil, hx, hy]
    rfl
  show Oper.upon Try.prog o a K Q ((execOp a.eval o).run Try.prog w)
  rw [hrun, Oper.upon_enter]
  refine (same_any B C u v xs ys w h1 h2).mono ?_
  rintro r w' ⟨rfl, h⟩
  exact hK w' h
theorem mem_next {L : List (List Int)} {x : List Int} {q : Nat} (hq : q < L.length) : decide (x ∈ L.take (q + 1)) = (decide (x ∈ L.take q) || decide (x = L[q])) := by
  have e : L.take (q + 1) = L.take q ++ [L[q]] := by rw [List.take_add_one, List.getElem?_eq_getElem hq]; rfl
  have h : (x ∈ L.take (q + 1)) ↔ (x ∈ L.take q ∨ x = L[q]) := by rw [e, List.mem_append, List.mem_singleton]
  rw [decide_eq_decide.2 h, Bool.decide_or]
/-- Two cells. -/
structure Hs (b p : Nat) (x : Value) (b' p' : Nat) (y : Value) (w : World) : Prop where
  c1 : w.cell? ⟨b, p, none⟩ = some x
  c2 : w.cell? ⟨b', p', none⟩ = some y
/-- What the first loop keeps. -/
def SI (w : World) (v : Value) (pt : List (List Int)) (k : Nat) (v6 : Value) (wr : World) : Prop :=
  ∃ (A : Ar) (us : List Value), Sd w wr v v6 A us ((pt.take k).map seL) ∧ (∀ d ∈ A.row, d.b ∈ (pt.take k).map seL) ∧ A.came = [] ∧ A.row.length ≤ k ∧ ∀ b ∈ pt.take k, b.length ≤ 16384
set_option maxHeartbeats 6400000 in
set_option maxRecDepth 100000 in
theorem sealed_any (w : World) (v0 v1 : Value) (pt : List (List Int)) (l : List Ac) (hp : Bbs (fun k => k < w.heap.size) w v0 pt) (hl : Acts (fun k => k < w.heap.size) w v1 l) :
    Calls Try.prog 5 #[v0, v1] w fun e w' => e = .returned (.bool true) ∧ Below w.heap.size w w' := by
  have HG := hid (great_any w v1 l hl)
  obtain ⟨ao, cap, rfl, hcap⟩ := hl.form
  obtain ⟨po, pcap, rfl, hpcap⟩ := hp.form
  have HA := hid hl
  have HPt := hid hp
  have HW : Hid (∀ W, Below w.heap.size w W → Calls Try.prog 9 #[] W fun e w' => e = .returned (.bool true) ∧ Below w.heap.size w w') := fun W hW => (wakes_any W).mono fun e w' ⟨h1, h2⟩ => ⟨h1, hW.trans (h2.mono hW.size)⟩
  clear hp hl
  by_cases hgr : l.length ≤ 300 ∧ sumB l ≤ 65536
  case neg =>
    rw [decide_eq_false hgr] at HG
    have HG' : Hid (Calls Try.prog 8 #[.slice ao l.length cap] w fun e w' => e = .returned (.bool true) ∧ Below w.heap.size w w') := HG
    go_enter Try.func5, Try.ntmps5
    go_wp2_with (first
      | (go_at_call 8; refine (HG'.out).mono ?_; rintro e w1 ⟨rfl, hb1⟩; have HB1 := hid hb1; clear hb1)
      | (go_at_call 9; refine (HW.out _ HB1.out).mono ?_; rintro e w2 ⟨rfl, hb2⟩; have HB2 := hid hb2; clear hb2))
    go_ret
    exact ⟨rfl, HB2.out⟩
  rw [decide_eq_true hgr] at HG
  have HG' : Hid (Calls Try.prog 8 #[.slice ao l.length cap] w fun e w' => e = .returned (.bool false) ∧ Below w.heap.size w w') := HG
  by_cases h40 : 40 < pt.length
  case pos =>
    have hd : decide ((40 : Int) < (pt.length : Int)) = true := decide_eq_true (by omega)
    go_enter Try.func5, Try.ntmps5
    go_wp2_with (first
      | (go_at_call 8; refine (HG'.out).mono ?_; rintro e w1 ⟨rfl, hb1⟩; have HB1 := hid hb1; clear hb1)
      | (go_at_call 9; refine (HW.out _ HB1.out).mono ?_; rintro e w2 ⟨rfl, hb2⟩; have HB2 := hid hb2; clear hb2))
    go_ret
    exact ⟨rfl, HB2.out⟩
  have hd : decide ((40 : Int) < (pt.length : Int)) = false := decide_eq_false (by omega)
  have hl3 : l.length ≤ 300 := hgr.1
  go_enter Try.func5, Try.ntmps5
  go_upto_region 6 with (first
    | (go_at_call 8; refine (HG'.out).mono ?_; rintro e w1 ⟨rfl, hb1⟩; have HB1 := hid hb1; clear hb1)
    | (go_at_call 10; refine (new_any w1).mono ?_; rintro e w2 ⟨v, rfl, hb2, ha2⟩
       have HB2 := hid (HB1.out.trans (hb2.mono HB1.out.size))
       have HS2 : Hid (SI w v pt 0 nilS w2) := ⟨ar0, [], ⟨HB2.out, fun k => w1.heap.size ≤ k ∧ k < w2.heap.size, fun j hj => ⟨Nat.le_trans HB1.out.size hj.1, hj.2⟩, ha2.carry fun k hk h => ⟨⟨h, hk⟩, rfl⟩, Rw.nil _ _ _ _, rfl, fun i hi => by simp at hi⟩, (fun d hd => by simp [ar0] at hd), rfl, by simp [ar0], by simp⟩
       clear hb2 ha2))
  clear HG HG' HB1
  go_loopw [6, 7] (fun v6 i wr => ∃ k : Nat, k ≤ pt.length ∧ i = .int .i64 k ∧ SI w v pt k v6 wr) (fun _ i _ => pt.length - (intOf i).toNat)
  case atStart => exact ⟨0, by omega, rfl, HS2.out⟩
  case round =>
    obtain ⟨k, hk, rfl, A, us, hSd, hr1, hr2, hr3, hr4⟩ := hrel
    have HSd := hid hSd
    have HB := hid hSd.1
    have HR := hid (And.intro hr1 (And.intro hr2 hr4))
    obtain ⟨sa, sk, rfl⟩ : ∃ sa sk, u6 = .slice sa us.length sk := by obtain ⟨-, SA, -, -, h3, -⟩ := hSd; exact h3.form
    have hus : us.length = k := by obtain ⟨-, SA, -, -, -, h4, -⟩ := hSd; rw [h4]; simp; omega
    have hul : us.length < 1000 := by omega
    have HUs := hid hus
    clear hSd hr1 hr2 hr4 hus
    by_cases hlt : k < pt.length
    · obtain ⟨b, o, rfl, hbT, u, hu, hsl⟩ := HPt.out.cell k hlt
      have HSl := hid (hsl.carry (T := fun j => j < wr.heap.size) (w' := wr) fun j hj _ => ⟨Nat.lt_of_lt_of_le hj HB.out.size, HB.out.block j hj⟩)
      have hc0 : wr.cell? ⟨b, o + k, none⟩ = some u := by
        have := hu
        simp only [Nat.mul_one, Nat.add_zero] at this
        rw [HB.out.cell (p := ⟨b, o + k, none⟩) hbT]; exact this
      obtain ⟨ua, uc, rfl, -⟩ := id hsl
      have hbp : decide ((k : Int) < (pt.length : Int)) = true := by simp; omega
      have HSe := hid (seal_any wr.heap.size _ pt[k] wr HSl.out.sl (Nat.le_refl _))
      have HIs := hid hsl.isB
      clear hsl hu
      by_cases hse : seE pt[k] = 0
      · have hbl := seE_zero.1 hse
        rw [hse] at HSe
        have HTk : Hid ((pt.take (k + 1)).map seL = (pt.take k).map seL ++ [seL pt[k]] ∧ ∀ b ∈ pt.take (k + 1), b.length ≤ 16384) := by
          have e : pt.take (k + 1) = pt.take k ++ [pt[k]] := by rw [List.take_add_one, List.getElem?_eq_getElem hlt]; rfl
          refine ⟨by rw [e, List.map_append]; rfl, fun b hb => ?_⟩
          rw [e] at hb
          rcases List.mem_append.1 hb with hb | hb
          · exact HR.out.2.2 b hb
          · rw [List.mem_singleton.1 hb]; exact hbl
        have HBs : Hid (IsB (seL pt[k])) := seL_isB HIs.out
        have hsl2 := seL_bd pt[k]
        generalize hsb : seL pt[k] = sb at *
        have hne : ((0 : Int) != 0) = false := rfl
        clear hsb hbl hse
        go_upto_region 11 with (go_at_call 18; refine (HSe.out).mono ?_; rintro e w1 ⟨u1, rfl, hb1, ho1⟩
                                have HB1 := hid hb1
                                have HO1 := hid ho1
                                obtain ⟨xa, xc, rfl⟩ := ho1.slice
                                clear hb1 ho1)
        have hB2 : Below wr.heap.size wr (w1.alloc (.cells #[.slice xa sb.length xc] 31)) := HB1.out.alloc HB1.out.size _
        have HR0 : Hid (Rw (fun _ => True) 1 31 (w1.alloc (.cells #[.slice xa sb.length xc] 31)) (.slice sa us.length sk) us.length us) := by
          obtain ⟨-, SA, -, -, h3, -⟩ := HSd.out
          exact h3.carry fun j hj _ => ⟨trivial, hB2.block j hj⟩
        have HU2 : Hid (SlC (fun j => wr.heap.size ≤ j) (w1.alloc (.cells #[.slice xa sb.length xc] 31)) (.slice xa sb.length xc) sb) := (SlC.own (S := fun j => wr.heap.size ≤ j) HO1.out hsl2 HBs.out fun j h _ => h).carry fun j hj h => ⟨h, heap_alloc_old _ _ hj⟩
        have HNw : Hid (∀ j x, [(.slice xa sb.length xc : Value)][j]? = some x → (w1.alloc (.cells #[.slice xa sb.length xc] 31)).cell? (Addr.add ⟨w1.heap.size, 0, none⟩ j) = some x) := fun j x hx => by
          rw [Addr.add_lit, Nat.zero_add, cell_of_row _ _ _ _ _ _ (heap_alloc_new _ _), ← hx]; simp
        have HB2' := hid hB2
        have hrl : A.row.length < 1000000 := by omega
        clear hB2
        go_upto_region 12 with (at_builtin; refine appRw (S := fun _ => True) (k := 1) (t := 31) (n := us.length) (m := 1) (c := 1) (xs := us) (us := [.slice xa sb.length xc]) (ad := ⟨w1.heap.size, 0, none⟩) (.tmp 43) (.tmp 45) 28 rfl rfl rfl rfl Try.underlying28 infoB rfl (by omega) (by omega) HR0.out rfl HNw.out (by intro x hx; rw [List.mem_singleton.1 hx]; rfl) (by omega) (Or.inl (by omega)) ?_
                                intro v3 w3 A3 R3
                                have HS3 := hid (HSd.out.app HB2'.out A3 R3 HU2.out)
                                obtain ⟨s3, k3, rfl⟩ : ∃ s3 k3, v3 = .slice s3 (us.length + 1) k3 := (R3 _ HR0.out).form
                                obtain ⟨S4, hA4, hF4, hC4⟩ := HS3.out.air
                                have HP := hid (put_any w3 v A _ sb hA4 hF4 HS3.out.last hrl)
                                have HC := hid hC4
                                clear A3 R3 hA4 hF4 hC4)
        have HSa := hid HSd
        clear HSd
        go_wp2_with (go_at_call 11; refine (HP.out).mono ?_; rintro e w4 ⟨rfl, hO4, hA4⟩
                     have HS4 := hid (HC.out w4 _ hO4 hA4)
                     clear hO4 hA4)
        go_roundw
        case rel =>
          refine ⟨k + 1, by omega, by go_num, putS A sb, us ++ [.slice xa sb.length xc], ?_, ?_, HR.out.2.1, by simp [putS]; omega, HTk.out.2⟩
          · rw [HTk.out.1]; exact HS4.out
          · intro d hd
            rw [HTk.out.1]
            rcases List.mem_append.1 hd with hd | hd
            · exact List.mem_append_left _ (HR.out.1 d hd)
            · rw [List.mem_singleton.1 hd]; exact List.mem_append_right _ List.mem_cons_self
        case measure => simp [intOf]; omega
      · have hq : (seE pt[k] != 0) = true := by simp [hse]
        generalize seE pt[k] = z at *
        go_wp2_with (first
          | (go_at_call 18; refine (HSe.out).mono ?_; rintro e w1 ⟨u1, rfl, hb1, ho1⟩
             have HB1 := hid (HB.out.trans (hb1.mono HB.out.size))
             obtain ⟨xa, xc, rfl⟩ := ho1.slice
             clear hb1 ho1)
          | (go_at_call 9; refine (HW.out _ HB1.out).mono ?_; rintro e w2 ⟨rfl, hb2⟩; have HB2 := hid hb2; clear hb2))
        go_ret
        exact ⟨rfl, HB2.out⟩
    · obtain rfl : k = pt.length := by omega
      have hbp : decide ((pt.length : Int) < (pt.length : Int)) = false := by simp
      have HPB : Hid (∀ b ∈ pt, IsB b) := HPt.out.all (P := fun b => IsB b) fun f x h => by obtain ⟨u, -, hs⟩ := h; exact hs.isB
      rw [List.take_length] at HSd HR
      have HUl : Hid (us.length = (pt.map seL).length) := by show _ = _; rw [List.length_map]; exact HUs.out
      have HR2 := hid HR.out.2.2
      have HI0 : Hid (∃ A : Ar, Sd w wr v (.slice sa us.length sk) A us (pt.map seL) ∧ (∀ d ∈ A.row, d.b ∈ pt.map seL) ∧ (∀ d ∈ A.came, d.b ∈ pt.map seL) ∧ A.row.length ≤ 40 + 0 ∧ A.came.length ≤ 0) := ⟨A, HSd.out, HR.out.1, by rw [HR.out.2.1]; simp, by omega, by rw [HR.out.2.1]; simp⟩
      have HLb : Hid (∀ x ∈ pt.map seL, x.length ≤ 16388) := fun x hx => by obtain ⟨y, -, rfl⟩ := List.mem_map.1 hx; exact seL_len y
      have HTl : Hid (∀ d : Dg, d.b ∈ pt.map seL → d.Ok → (told d ∈ pt.map seL ↔ opE (told d) = 0)) := fun d hd ok => sealed_tells HPB.out HR2.out hd ok
      clear HR HUs hr3 HS2 HB2 HB HSd
      generalize pt.map seL = L at *
      go_upto_region 14 with fail
      go_loopw [10] (fun i wx => ∃ (k : Nat) (A : Ar), k ≤ l.length ∧ i = .int .i64 k ∧ Sd w wx v (.slice sa us.length sk) A us L ∧ (∀ d ∈ A.row, d.b ∈ L) ∧ (∀ d ∈ A.came, d.b ∈ L) ∧ A.row.length ≤ 40 + k ∧ A.came.length ≤ k) (fun i _ => l.length - (intOf i).toNat)
      case atStart => obtain ⟨A, h1, h2, h3, h4, h5⟩ := HI0.out; exact ⟨0, A, by omega, rfl, h1, h2, h3, h4, h5⟩
      case round =>
        obtain ⟨k, A, hk, rfl, hSd, hr1, hr2, hr3, hr4⟩ := hrel
        have HSd := hid hSd
        have HB := hid hSd.1
        have HR := hid (And.intro hr1 hr2)
        clear hSd hr1 hr2 HI0
        generalize wr = wx at *
        by_cases hlt2 : k < l.length
        · obtain ⟨b, o, xa, xc, rfl, t0, t1, -, -, hfit⟩ := act_at HA.out HB.out k hlt2
          generalize l[k] = ac at t0 t1 hfit
          obtain ⟨⟨f0, f1⟩, f2, f3⟩ := hfit
          have hbp2 : decide ((k : Int) < (l.length : Int)) = true := by simp; omega
          have HN := hid (doS_all (P := fun d => d.b ∈ L) HR.out.1 HR.out.2 (fun d k' hk' hd => by
            have : (chg d k').b = d.b := by unfold chg; split <;> rfl
            rw [this]; exact hd) ac.dw ac.at')
          have HL := hid (doS_len A ac.dw ac.at')
          obtain ⟨S4, hA4, hF4, hC4⟩ := HSd.out.air
          have HA4 := hid hA4
          have HF4 := hid hF4
          have HC4 := hid hC4
          clear hA4 hF4 hC4
          go_upto_region 16 with fail
          go_region_law (refine stepDo (S := S4) (A := A) (.tmp 56) (.tmp 61) (.tmp 66) rfl rfl rfl rfl rfl (HA4.out.carry fun k _ h => ⟨h, rfl⟩) (fun k hk => HF4.out k hk) f0 f3 (by omega) (by omega) ?_
                         intro w4 hO4 hA5
                         have HS4 := hid (HC4.out w4 _ ⟨hO4.os, hO4.tape, hO4.output, hO4.size, hO4.block⟩ hA5)
                         clear hO4 hA5)
          all_goals (
            go_wp2
            go_roundw
            case rel => exact ⟨k + 1, _, by omega, by go_num, HS4.out, HN.out.1, HN.out.2, by have := HL.out.1; omega, by have := HL.out.2; omega⟩
            case measure => simp [intOf]; omega)
        · obtain rfl : k = l.length := by omega
          have hbp2 : decide ((l.length : Int) < (l.length : Int)) = false := by simp
          obtain ⟨S4, hA4, hF4, hC4⟩ := HSd.out.air
          have HOk := hid hA4.ok
          have HCm := hid (came_any (S := S4) wx v A hA4 hF4 (by omega))
          have HC4 := hid hC4
          have hcl : A.came.length ≤ 300 := by omega
          clear hA4 hF4 hC4
          go_upto_region 19 with (go_at_call 13; refine (HCm.out).mono ?_; rintro e wc ⟨rfl, hO, hG, hA5⟩
                                  have HSc := hid (HC4.out wc _ hO (hA5.carry fun k _ h => ⟨h.1, rfl⟩))
                                  have HGv := hid hG
                                  clear hO hG hA5 HCm)
          have HBc := hid HSc.out.1
          have hwxs := HB.out.size
          clear HB HSd HC4
          generalize wx.heap.size = B0 at *
          go_loopw [12] (fun i wy => ∃ k : Nat, k ≤ A.came.length ∧ i = .int .i64 k ∧ Below wc.heap.size wc wy) (fun i _ => A.came.length - (intOf i).toNat)
          case atStart => exact ⟨0, by omega, rfl, Below.refl _ _⟩
          case round =>
            obtain ⟨k, hk3, rfl, hlow⟩ := hrel
            generalize wr = wy at *
            have HY := hid hlow
            clear hlow
            by_cases hlt3 : k < A.came.length
            · obtain ⟨y0, e0, o0⟩ := HGv.out.cell k (by simpa using hlt3)
              simp only [List.getElem_map] at o0
              obtain ⟨d, hd⟩ : ∃ d, d = A.came[k] := ⟨_, rfl⟩
              rw [← hd] at o0
              have hdm : d ∈ A.came := hd ▸ List.getElem_mem hlt3
              have hdo := HOk.out.2 d hdm
              have HTd := hid (HTl.out d (HR.out.2 d hdm) hdo)
              obtain ⟨a0, k0, rfl⟩ := o0.slice
              have HO := hid (SlC.own (S := fun j => j < wc.heap.size) o0 (by rw [told_len]; have := HLb.out _ (HR.out.2 d hdm); omega) (told_isB hdo) (fun _ _ h => h))
              have hB0 : B0 < wc.heap.size := cell_lt e0
              have HE0 := hid e0
              have e0y : wy.cell? ⟨B0, k, none⟩ = some (.slice a0 (told d).length k0) := by rw [HY.out.cell (p := ⟨B0, k, none⟩) hB0]; exact e0
              have hbp3 : decide ((k : Int) < (A.came.length : Int)) = true := by simp; omega
              clear hd hdm hdo e0 o0
              generalize told d = td at *
              go_upto_region 23 with fail
              go_loopw [13, 14] (fun th j wz => ∃ q : Nat, q ≤ us.length ∧ j = .int .i64 q ∧ th = .bool (decide (td ∈ L.take q)) ∧ Below wc.heap.size wc wz) (fun _ j _ => us.length - (intOf j).toNat)
              case atStart => exact ⟨0, by omega, rfl, by simp, HY.out⟩
              case round =>
                obtain ⟨q, hq, rfl, rfl, hlow⟩ := hrel
                generalize wr = wz at *
                have HZ := hid hlow
                clear hlow
                have e0z : wz.cell? ⟨B0, k, none⟩ = some (.slice a0 td.length k0) := by rw [HZ.out.cell (p := ⟨B0, k, none⟩) hB0]; exact HE0.out
                by_cases hlt4 : q < us.length
                · have hqL : q < L.length := by have := HUl.out; omega
                  have hbp4 : decide ((q : Int) < (us.length : Int)) = true := by simp; omega
                  have HMx := hid (mem_next (x := td) hqL)
                  obtain ⟨g6, o6, hsa, hc6, hg6, hs6⟩ := HSc.out.at q hlt4 hqL
                  subst hsa
                  have c6z : wz.cell? ⟨g6, o6 + q, none⟩ = some us[q] := by rw [HZ.out.cell (p := ⟨g6, o6 + q, none⟩) hg6]; exact hc6
                  have HS6 := hid (hs6.carry (T := fun j => j < wz.heap.size) (w' := wz) fun j hj _ => ⟨Nat.lt_of_lt_of_le hj HZ.out.size, HZ.out.block j hj⟩)
                  have HT6 := hid (HO.out.carry (T := fun j => j < wz.heap.size) (w' := wz) fun j hj _ => ⟨Nat.lt_of_lt_of_le hj HZ.out.size, HZ.out.block j hj⟩)
                  obtain ⟨ea, ec, he, -⟩ := id hs6
                  rw [he] at c6z HS6
                  clear hc6 hs6 he
                  generalize L[q] = lq at *
                  by_cases hin : td ∈ L.take q
                  · have hdt : decide (td ∈ L.take q) = true := decide_eq_true hin
                    rw [hdt] at HMx ⊢
                    go_upto_region 25 with fail
                    refine wp_region_held_drew (S := Hs B0 k (.slice a0 td.length k0) g6 (o6 + q) (.slice ea lq.length ec)) (by kernel_rfl) ⟨e0z, c6z⟩ (fun hHeld => ?_)
                    refine wpAnyH_take (i := 0) (v := ?_) rfl (by kernel_rfl) (by kernel_rfl) (by kernel_rfl) (fun _ _ _ h => h) (Or.inl ⟨by rfl, ?_⟩) hHeld ?_
                    rotate_left
                    · intro w' hSw
                      clear hSw
                      go_simp
                      first | done | with_reducible rfl
                    simp only [Act.put, List.getElem_toArray, List.getElem_cons_zero, List.setIfInBounds_toArray, List.set_cons_zero, List.set_cons_succ]
                    refine wpAnyH_take (i := 1) (v := ?_) rfl (by kernel_rfl) (by kernel_rfl) (by kernel_rfl) (fun _ _ _ h => h) (Or.inl ⟨by rfl, ?_⟩) hHeld ?_
                    rotate_left
                    · intro w' hSw
                      clear hSw
                      go_simp
                      first | done | with_reducible rfl
                    simp only [Act.put, List.getElem_toArray, List.getElem_cons_succ, List.getElem_cons_zero, List.setIfInBounds_toArray, List.set_cons_zero, List.set_cons_succ]
                    refine wpAnyH_take (i := 2) (v := undef) rfl (by kernel_rfl) (by kernel_rfl) (by kernel_rfl) (fun _ _ _ h => h) (Or.inr ⟨by rfl, rfl⟩) hHeld ?_
                    simp only [Act.put, List.getElem_toArray, List.getElem_cons_succ, List.getElem_cons_zero, List.setIfInBounds_toArray, List.set_cons_zero, List.set_cons_succ]
                    refine wpAnyH_take (i := 3) (v := undef) rfl (by kernel_rfl) (by kernel_rfl) (by kernel_rfl) (fun _ _ _ h => h) (Or.inr ⟨by rfl, rfl⟩) hHeld ?_
                    simp only [Act.put, List.getElem_toArray, List.getElem_cons_succ, List.getElem_cons_zero, List.setIfInBounds_toArray, List.set_cons_zero, List.set_cons_succ]
                    refine wpAnyH_take (i := 4) (v := undef) rfl (by kernel_rfl) (by kernel_rfl) (by kernel_rfl) (fun _ _ _ h => h) (Or.inr ⟨by rfl, rfl⟩) hHeld ?_
                    simp only [Act.put, List.getElem_toArray, List.getElem_cons_succ, List.getElem_cons_zero, List.setIfInBounds_toArray, List.set_cons_zero, List.set_cons_succ]
                    refine wpAnyH_take (i := 5) (v := undef) rfl (by kernel_rfl) (by kernel_rfl) (by kernel_rfl) (fun _ _ _ h => h) (Or.inr ⟨by rfl, rfl⟩) hHeld ?_
                    simp only [Act.put, List.getElem_toArray, List.getElem_cons_succ, List.getElem_cons_zero, List.setIfInBounds_toArray, List.set_cons_zero, List.set_cons_succ]
                    refine wpAnyH_take (i := 6) (v := undef) rfl (by kernel_rfl) (by kernel_rfl) (by kernel_rfl) (fun _ _ _ h => h) (Or.inr ⟨by rfl, rfl⟩) hHeld ?_
                    simp only [Act.put, List.getElem_toArray, List.getElem_cons_succ, List.getElem_cons_zero, List.setIfInBounds_toArray, List.set_cons_zero, List.set_cons_succ]
                    refine wpAnyH_take (i := 7) (v := undef) rfl (by kernel_rfl) (by kernel_rfl) (by kernel_rfl) (fun _ _ _ h => h) (Or.inr ⟨by rfl, rfl⟩) hHeld ?_
                    simp only [Act.put, List.getElem_toArray, List.getElem_cons_succ, List.getElem_cons_zero, List.setIfInBounds_toArray, List.set_cons_zero, List.set_cons_succ]
                    refine wpAnyH_take (i := 8) (v := undef) rfl (by kernel_rfl) (by kernel_rfl) (by kernel_rfl) (fun _ _ _ h => h) (Or.inr ⟨by rfl, rfl⟩) hHeld ?_
                    simp only [Act.put, List.getElem_toArray, List.getElem_cons_succ, List.getElem_cons_zero, List.setIfInBounds_toArray, List.set_cons_zero, List.set_cons_succ]
                    refine wpAnyH_take (i := 9) (v := undef) rfl (by kernel_rfl) (by kernel_rfl) (by kernel_rfl) (fun _ _ _ h => h) (Or.inr ⟨by rfl, rfl⟩) hHeld ?_
                    simp only [Act.put, List.getElem_toArray, List.getElem_cons_succ, List.getElem_cons_zero, List.setIfInBounds_toArray, List.set_cons_zero, List.set_cons_succ]
                    refine wpAnyH_take (i := 10) (v := undef) rfl (by kernel_rfl) (by kernel_rfl) (by kernel_rfl) (fun _ _ _ h => h) (Or.inr ⟨by rfl, rfl⟩) hHeld ?_
                    simp only [Act.put, List.getElem_toArray, List.getElem_cons_succ, List.getElem_cons_zero, List.setIfInBounds_toArray, List.set_cons_zero, List.set_cons_succ]
                    refine wpAnyH_take (i := 11) (v := ?_) rfl (by kernel_rfl) (by kernel_rfl) (by kernel_rfl) (fun _ _ _ h => h) (Or.inl ⟨by rfl, ?_⟩) hHeld ?_
                    rotate_left
                    · intro w' hSw
                      clear hSw
                      go_simp
                      first | done | with_reducible rfl
                    simp only [Act.put, List.getElem_toArray, List.getElem_cons_succ, List.getElem_cons_zero, List.setIfInBounds_toArray, List.set_cons_zero, List.set_cons_succ]
                    refine wpAnyH_take (i := 12) (v := ?_) rfl (by kernel_rfl) (by kernel_rfl) (by kernel_rfl) (fun _ _ _ h => h) (Or.inl ⟨by rfl, ?_⟩) hHeld ?_
                    rotate_left
                    · intro w' hSw
                      clear hSw
                      go_simp
                      first | done | with_reducible rfl
                    simp only [Act.put, List.getElem_toArray, List.getElem_cons_succ, List.getElem_cons_zero, List.setIfInBounds_toArray, List.set_cons_zero, List.set_cons_succ]
                    refine wpAnyH_done (by kernel_rfl) ?_ _
                    go_wp2
                    go_roundw
                    case rel => exact ⟨q + 1, by omega, by go_num, by rw [HMx.out]; rfl, ⟨HZ.out.os, HZ.out.tape, HZ.out.output, HZ.out.size, HZ.out.block⟩⟩
                    case measure => simp [intOf]; omega
                  · have hdt : decide (td ∈ L.take q) = false := decide_eq_false hin
                    rw [hdt] at HMx ⊢
                    go_upto_region 25 with fail
                    refine wp_region_held_drew (S := Hs B0 k (.slice a0 td.length k0) g6 (o6 + q) (.slice ea lq.length ec)) (by kernel_rfl) ⟨e0z, c6z⟩ (fun hHeld => ?_)
                    refine wpAnyH_take (i := 0) (v := ?_) rfl (by kernel_rfl) (by kernel_rfl) (by kernel_rfl) (fun _ _ _ h => h) (Or.inl ⟨by rfl, ?_⟩) hHeld ?_
                    rotate_left
                    · intro w' hSw
                      clear hSw
                      go_simp
                      first | done | with_reducible rfl
                    simp only [Act.put, List.getElem_toArray, List.getElem_cons_zero, List.setIfInBounds_toArray, List.set_cons_zero, List.set_cons_succ]
                    refine wpAnyH_take (i := 1) (v := ?_) rfl (by kernel_rfl) (by kernel_rfl) (by kernel_rfl) (fun _ _ _ h => h) (Or.inl ⟨by rfl, ?_⟩) hHeld ?_
                    rotate_left
                    · intro w' hSw
                      clear hSw
                      go_simp
                      first | done | with_reducible rfl
                    simp only [Act.put, List.getElem_toArray, List.getElem_cons_succ, List.getElem_cons_zero, List.setIfInBounds_toArray, List.set_cons_zero, List.set_cons_succ]
                    refine wpAnyH_take (i := 2) (v := ?_) rfl (by kernel_rfl) (by kernel_rfl) (by kernel_rfl) (fun _ _ _ h => h) (Or.inl ⟨by rfl, ?_⟩) hHeld ?_
                    rotate_left
                    · intro w' hSw
                      clear hSw
                      go_simp
                      first | done | with_reducible rfl
                    simp only [Act.put, List.getElem_toArray, List.getElem_cons_succ, List.getElem_cons_zero, List.setIfInBounds_toArray, List.set_cons_zero, List.set_cons_succ]
                    refine wpAnyH_take (i := 3) (v := ?_) rfl (by kernel_rfl) (by kernel_rfl) (by kernel_rfl) (fun _ _ _ h => h) (Or.inl ⟨by rfl, ?_⟩) hHeld ?_
                    rotate_left
                    · intro w' hSw
                      clear hSw
                      go_simp
                      first | done | with_reducible rfl
                    simp only [Act.put, List.getElem_toArray, List.getElem_cons_succ, List.getElem_cons_zero, List.setIfInBounds_toArray, List.set_cons_zero, List.set_cons_succ]
                    refine wpAnyH_take (i := 4) (v := ?_) rfl (by kernel_rfl) (by kernel_rfl) (by kernel_rfl) (fun _ _ _ h => h) (Or.inl ⟨by rfl, ?_⟩) hHeld ?_
                    rotate_left
                    · intro w' hSw
                      clear hSw
                      go_simp
                      first | done | with_reducible rfl
                    simp only [Act.put, List.getElem_toArray, List.getElem_cons_succ, List.getElem_cons_zero, List.setIfInBounds_toArray, List.set_cons_zero, List.set_cons_succ]
                    refine wpAnyH_take (i := 5) (v := ?_) rfl (by kernel_rfl) (by kernel_rfl) (by kernel_rfl) (fun _ _ _ h => h) (Or.inl ⟨by rfl, ?_⟩) hHeld ?_
                    rotate_left
                    · intro w' hSw
                      have c1 := hSw.c1
                      clear hSw
                      go_simp
                      first | done | with_reducible rfl
                    simp only [Act.put, List.getElem_toArray, List.getElem_cons_succ, List.getElem_cons_zero, List.setIfInBounds_toArray, List.set_cons_zero, List.set_cons_succ]
                    refine wpAnyH_take (i := 6) (v := ?_) rfl (by kernel_rfl) (by kernel_rfl) (by kernel_rfl) (fun _ _ _ h => h) (Or.inl ⟨by rfl, ?_⟩) hHeld ?_
                    rotate_left
                    · intro w' hSw
                      clear hSw
                      go_simp
                      first | done | with_reducible rfl
                    simp only [Act.put, List.getElem_toArray, List.getElem_cons_succ, List.getElem_cons_zero, List.setIfInBounds_toArray, List.set_cons_zero, List.set_cons_succ]
                    refine wpAnyH_take (i := 7) (v := ?_) rfl (by kernel_rfl) (by kernel_rfl) (by kernel_rfl) (fun _ _ _ h => h) (Or.inl ⟨by rfl, ?_⟩) hHeld ?_
                    rotate_left
                    · intro w' hSw
                      clear hSw
                      go_simp
                      first | done | with_reducible rfl
                    simp only [Act.put, List.getElem_toArray, List.getElem_cons_succ, List.getElem_cons_zero, List.setIfInBounds_toArray, List.set_cons_zero, List.set_cons_succ]
                    refine wpAnyH_take (i := 8) (v := ?_) rfl (by kernel_rfl) (by kernel_rfl) (by kernel_rfl) (fun _ _ _ h => h) (Or.inl ⟨by rfl, ?_⟩) hHeld ?_
                    rotate_left
                    · intro w' hSw
                      clear hSw
                      go_simp
                      first | done | with_reducible rfl
                    simp only [Act.put, List.getElem_toArray, List.getElem_cons_succ, List.getElem_cons_zero, List.setIfInBounds_toArray, List.set_cons_zero, List.set_cons_succ]
                    refine wpAnyH_take (i := 9) (v := ?_) rfl (by kernel_rfl) (by kernel_rfl) (by kernel_rfl) (fun _ _ _ h => h) (Or.inl ⟨by rfl, ?_⟩) hHeld ?_
                    rotate_left
                    · intro w' hSw
                      have c2 := hSw.c2
                      clear hSw
                      go_simp
                      first | done | with_reducible rfl
                    simp only [Act.put, List.getElem_toArray, List.getElem_cons_succ, List.getElem_cons_zero, List.setIfInBounds_toArray, List.set_cons_zero, List.set_cons_succ]
                    refine wpAnyH_ready (rs := [10]) (by kernel_rfl) (by simp) ?_
                    refine AllReadyH.cons rfl (fun K hK => ?_) AllReadyH.nil
                    refine stepSame (.tmp 87) (.tmp 91) rfl (by rfl) rfl rfl (B := wz.heap.size) (C := wz.heap.size) HT6.out.sl HS6.out.sl ?_
                    intro w5 hb5
                    have HB5 : Hid (Below wc.heap.size wc w5) := HZ.out.trans ((show Below wc.heap.size wz wz.drew from (Below.refl _ _).drew).trans (hb5.mono HZ.out.size))
                    refine hK.out _ _ ⟨by rw [hb5.cell (p := ⟨B0, k, none⟩) (cell_lt e0z)]; exact e0z, by rw [hb5.cell (p := ⟨g6, o6 + q, none⟩) (cell_lt c6z)]; exact c6z⟩ (fun hHeld => ?_)
                    clear hK K hb5
                    simp only [Act.put, List.getElem_toArray, List.getElem_cons_succ, List.getElem_cons_zero, List.setIfInBounds_toArray, List.set_cons_zero, List.set_cons_succ]
                    refine wpAnyH_take (i := 11) (v := ?_) rfl (by kernel_rfl) (by kernel_rfl) (by kernel_rfl) (fun _ _ _ h => h) (Or.inl ⟨by rfl, ?_⟩) hHeld ?_
                    rotate_left
                    · intro w' hSw
                      clear hSw
                      go_simp
                      first | done | with_reducible rfl
                    simp only [Act.put, List.getElem_toArray, List.getElem_cons_succ, List.getElem_cons_zero, List.setIfInBounds_toArray, List.set_cons_zero, List.set_cons_succ]
                    refine wpAnyH_take (i := 12) (v := ?_) rfl (by kernel_rfl) (by kernel_rfl) (by kernel_rfl) (fun _ _ _ h => h) (Or.inl ⟨by rfl, ?_⟩) hHeld ?_
                    rotate_left
                    · intro w' hSw
                      clear hSw
                      go_simp
                      first | done | with_reducible rfl
                    simp only [Act.put, List.getElem_toArray, List.getElem_cons_succ, List.getElem_cons_zero, List.setIfInBounds_toArray, List.set_cons_zero, List.set_cons_succ]
                    refine wpAnyH_done (by kernel_rfl) ?_ _
                    go_wp2
                    go_roundw
                    case rel => exact ⟨q + 1, by omega, by go_num, by rw [HMx.out]; simp, HB5.out⟩
                    case measure => simp [intOf]; omega
                · obtain rfl : q = us.length := by omega
                  have hbp4 : decide ((us.length : Int) < (us.length : Int)) = false := by simp
                  have HTz := hid (HO.out.carry (T := fun j => j < wz.heap.size) (w' := wz) fun j hj _ => ⟨Nat.lt_of_lt_of_le hj HZ.out.size, HZ.out.block j hj⟩)
                  have HOp := hid (open_any wz.heap.size _ td wz HTz.out.sl (Nat.le_refl _))
                  have hLt : L.take us.length = L := by rw [HUl.out, List.take_length]
                  rw [hLt]
                  by_cases hin : td ∈ L
                  · have hdt : decide (td ∈ L) = true := decide_eq_true hin
                    rw [HTd.out.1 hin] at HOp
                    rw [hdt]
                    clear hLt
                    go_wp2_with (go_at_call 20; refine (HOp.out).mono ?_; rintro e w6 ⟨u6', rfl, hb6, ho6⟩
                                 have HB6 := hid (HZ.out.trans (hb6.mono HZ.out.size))
                                 obtain ⟨xa, xc, rfl⟩ := ho6.slice
                                 clear hb6 ho6)
                    go_roundw
                    case rel => exact ⟨k + 1, by omega, by go_num, HB6.out⟩
                    case measure => simp [intOf]; omega
                  · have hdt : decide (td ∈ L) = false := decide_eq_false hin
                    have hno : ¬ opE td = 0 := fun e => hin (HTd.out.2 e)
                    have hnq : (opE td == 0) = false := beq_eq_false_iff_ne.2 hno
                    rw [hdt]
                    clear hLt
                    generalize opE td = z at *
                    go_wp2_with (go_at_call 20; refine (HOp.out).mono ?_; rintro e w6 ⟨u6', rfl, hb6, ho6⟩
                                 have HB6 := hid (HZ.out.trans (hb6.mono HZ.out.size))
                                 obtain ⟨xa, xc, rfl⟩ := ho6.slice
                                 clear hb6 ho6)
                    go_roundw
                    case rel => exact ⟨k + 1, by omega, by go_num, HB6.out⟩
                    case measure => simp [intOf]; omega
            · obtain rfl : k = A.came.length := by omega
              have hbp3 : decide ((A.came.length : Int) < (A.came.length : Int)) = false := by simp
              go_wp2_with (go_at_call 9; refine (HW.out _ (HBc.out.trans (HY.out.mono HBc.out.size))).mono ?_; rintro e w9 ⟨rfl, hb9⟩; have HB9 := hid hb9; clear hb9)
              go_ret
              exact ⟨rfl, HB9.out⟩
end Go.Proofs.Ythgkmbdnkamcoaa
