/-
  Proved here: All of the document's answers. No condition.
-/
import Derived.Test.YtdpmllfapjjihaaGreatDoorDF
namespace Go.Proofs.YtdpmllfapjjihaaGreatDoor
open Go.RowKit
set_option maxRecDepth 100000

/-- What the document's All answers. -/
def DaP (s : ByteArray) (w : World) (e : Ending) (w' : World) : Prop :=
  Below w.heap.size w w' ∧ match all s with
  | .ok l => ∃ v, e = .returned (.tuple #[v, .agg (dfc 0 0 ⟨#[]⟩)]) ∧ Wds (fun b => w.heap.size ≤ b) w' v l
  | .no c a t => e = .returned (.tuple #[nilS, .agg (dfc c a t)])
/-- Where it is. -/
structure As (w : World) (acc : List Wd) (v : Value) (W : World) : Prop where
  low : Below w.heap.size w W
  b : W.heap[w.heap.size]? = some (.cells (dfc 0 0 ⟨#[]⟩) 37 (0, 0))
  ws : Wds (fun b => w.heap.size < b) W v acc
theorem As.on {w W W' : World} {acc : List Wd} {v : Value} (h : As w acc v W) (hb : Below W.heap.size W W') : As w acc v W' :=
  ⟨h.low.trans (hb.mono h.low.size), (hb.block _ (Array.getElem?_eq_some_iff.1 h.b).1).trans h.b, h.ws.carry fun b hl hS => ⟨hS, hb.block b hl⟩⟩
theorem As.app {w W W' : World} {acc : List Wd} {v v' : Value} {x : Wd} (h : As w acc v W) (hA : Apd W v W') (hR : Rw (fun b => w.heap.size < b ∨ W.heap.size ≤ b) 4 56 W' v' (acc.length + 1) (wcs acc ++ (wdc x).toList)) : As w (acc ++ [x]) v' W' := by
  have hown : ∀ k, v.ownBlock = some k → w.heap.size < k := fun k hk => h.ws.own k hk
  have hlt : w.heap.size < W.heap.size := (Array.getElem?_eq_some_iff.1 h.b).1
  refine ⟨h.low.trans ⟨hA.os, hA.tape, hA.output, hA.size, fun k hk => hA.block k (by omega) fun e => by have := hown k e; omega⟩, ?_, ?_⟩
  · rw [hA.block _ hlt fun e => by have := hown _ e; omega]; exact h.b
  · show Rw _ 4 56 W' v' (acc ++ [x]).length (wcs (acc ++ [x]))
    rw [wcs_one, List.length_append]
    exact hR.carry fun b hl hS => ⟨by rcases hS with h1 | h1 <;> omega, rfl⟩
theorem results_tc {fn : Func} {p q : Tmp} (h : fn.results = #[.tmp p, .cell q 37]) (tmps : Array Value) {W : World} {g c a : Nat} {t : ByteArray} (hb : W.heap[g]? = some (.cells (dfc c a t) 37 (0, 0)))
    (hq : tmps.getD q undef = .pointer (some ⟨g, 0, none⟩)) :
    (results fn tmps).run Tryz.prog W = .ok (.tuple #[tmps.getD p undef, .agg (dfc c a t)]) W := by
  have h2 := run_loadVar_row (P := Tryz.prog) W g 37 37 (dfc c a t) (0, 0) _ hb Tryz.underlying37 rfl (szF c a t)
  have hq' : tmps[q]?.getD undef = .pointer (some ⟨g, 0, none⟩) := by simpa using hq
  simp only [results, h]
  simp [Result.andThen, hq', asAddr, h2]
/-- A word and a fault in two blocks. -/
structure Tw (g : Nat) (x : Wd) (c a : Nat) (t : ByteArray) (W : World) : Prop where
  c0 : W.cell? ⟨g, 0, none⟩ = some (.int .i8 ((x.k : Nat) : Int))
  c1 : W.cell? ⟨g, 1, none⟩ = some (.string x.t)
  c2 : W.cell? ⟨g, 2, none⟩ = some (.int .u64 ((x.n : Nat) : Int))
  c3 : W.cell? ⟨g, 3, none⟩ = some (.int .i64 ((x.at' : Nat) : Int))
  f0 : W.cell? ⟨g + 1, 0, none⟩ = some (.int .i64 ((c : Nat) : Int))
  f1 : W.cell? ⟨g + 1, 1, none⟩ = some (.int .i64 ((a : Nat) : Int))
  f2 : W.cell? ⟨g + 1, 2, none⟩ = some (.string t)
theorem Tw.of {g : Nat} {x : Wd} {c a : Nat} {t : ByteArray} {W : World} (h1 : W.heap[g]? = some (.cells (wdc x) 56 (0, 0))) (h2 : W.heap[g + 1]? = some (.cells (dfc c a t) 37 (0, 0))) : Tw g x c a t W :=
  ⟨(cell_of_row _ _ _ _ _ _ h1).trans rfl, (cell_of_row _ _ _ _ _ _ h1).trans rfl, (cell_of_row _ _ _ _ _ _ h1).trans rfl, (cell_of_row _ _ _ _ _ _ h1).trans rfl, (cell_of_row _ _ _ _ _ _ h2).trans rfl, (cell_of_row _ _ _ _ _ _ h2).trans rfl, (cell_of_row _ _ _ _ _ _ h2).trans rfl⟩
set_option maxHeartbeats 6400000 in
theorem dAll_any (s : ByteArray) (w : World) (hbig : s.size ≤ 9223372036854775806) : Calls Tryz.prog 15 #[.string s] w (DaP s w) := by
  by_cases hs : s.size ≤ 65536
  · have g0 : decide ((65536 : Int) < (s.size : Int)) = false := by simp; omega
    have HA : Hid (all s = sc s 0 []) := by show _ = _; unfold all; rw [if_neg (by omega)]
    have HS0 : Hid (As w [] nilS (w.alloc (.cells (dfc 0 0 ⟨#[]⟩) 37))) := ⟨(Below.refl _ _).alloc (Nat.le_refl _) _, heap_alloc_new _ _, Rw.nil _ _ _ _⟩
    go_enter Tryz.func15, Tryz.ntmps15
    go_upto_region 5 with fail
    go_loopw [4, 5] (fun v va wr => ∃ (acc : List Wd) (ao : Option Addr) (ca p : Nat), v = .slice ao acc.length ca ∧ va = .int .i64 p ∧ p ≤ s.size ∧ acc.length ≤ p ∧ Hid (sc s p acc = all s) ∧ Hid (As w acc (.slice ao acc.length ca) wr)) (fun _ va _ => s.size - (intOf va).toNat)
    case atStart => exact ⟨[], none, 0, 0, rfl, rfl, by omega, by simp, HA.out.symm, HS0.out⟩
    case round =>
      clear HS0
      obtain ⟨acc, ao, ca, p, rfl, rfl, hp, hal, HK, HS⟩ := hrel
      by_cases hl : p < s.size
      · have g1 : decide ((p : Int) < (s.size : Int)) = true := by simp; omega
        have hix := run_bt s p hl wr
        have hw1 : IntKind.i64.wrap ((p : Int) + 1) = (p : Int) + 1 := by rw [IntKind.wrap_i64]; omega
        cases hb : blk (bt s p) with
        | true =>
          have HK2 : Hid (sc s (p + 1) acc = all s) := by show _ = _; rw [← HK.out, sc_blk hb]
          have hbk : True := trivial
          rcases (blk_iff _).1 hb with hbb | hbb | hbb | hbb
          · have b1 : (((bt s p : Nat) : Int) == 32) = true := by simp; omega
            clear hbb hbk hb HK
            go_wp2
            go_round
            case rel => exact ⟨acc, ao, ca, p + 1, rfl, by go_num, by omega, by omega, HK2, HS⟩
            case measure => simp [intOf]; omega
          · have b1 : (((bt s p : Nat) : Int) == 32) = false := by simp; omega
            have b2 : (((bt s p : Nat) : Int) == 9) = true := by simp; omega
            clear hbb hbk hb HK
            go_wp2
            go_round
            case rel => exact ⟨acc, ao, ca, p + 1, rfl, by go_num, by omega, by omega, HK2, HS⟩
            case measure => simp [intOf]; omega
          · have b1 : (((bt s p : Nat) : Int) == 32) = false := by simp; omega
            have b2 : (((bt s p : Nat) : Int) == 9) = false := by simp; omega
            have b3 : (((bt s p : Nat) : Int) == 10) = true := by simp; omega
            clear hbb hbk hb HK
            go_wp2
            go_round
            case rel => exact ⟨acc, ao, ca, p + 1, rfl, by go_num, by omega, by omega, HK2, HS⟩
            case measure => simp [intOf]; omega
          · have b1 : (((bt s p : Nat) : Int) == 32) = false := by simp; omega
            have b2 : (((bt s p : Nat) : Int) == 9) = false := by simp; omega
            have b3 : (((bt s p : Nat) : Int) == 10) = false := by simp; omega
            have b4 : (((bt s p : Nat) : Int) == 13) = true := by simp; omega
            clear hbb hbk hb HK
            go_wp2
            go_round
            case rel => exact ⟨acc, ao, ca, p + 1, rfl, by go_num, by omega, by omega, HK2, HS⟩
            case measure => simp [intOf]; omega
        | false =>
          have h4 : bt s p ≠ 32 ∧ bt s p ≠ 9 ∧ bt s p ≠ 10 ∧ bt s p ≠ 13 := by
            have := mt (blk_iff (bt s p)).2 (by rw [hb]; decide); omega
          have b1 : (((bt s p : Nat) : Int) == 32) = false := by simp; omega
          have b2 : (((bt s p : Nat) : Int) == 9) = false := by simp; omega
          have b3 : (((bt s p : Nat) : Int) == 10) = false := by simp; omega
          have b4 : (((bt s p : Nat) : Int) == 13) = false := by simp; omega
          by_cases h35 : bt s p = 35
          · have b5 : (((bt s p : Nat) : Int) == 35) = true := by simp; omega
            have e0 : rE nNL s p = rE nNL s (p + 1) := rE_on nNL256 (by rw [h35]; decide)
            have HK2 : Hid (sc s (rE nNL s p) acc = all s) := by show _ = _; rw [← HK.out, sc_rem h35, e0]
            have hpe : p + 1 ≤ rE nNL s p := by rw [e0]; exact rE_ge _ _ _
            have hes : rE nNL s p ≤ s.size := rE_le hp
            have HE := hid (And.intro hpe hes)
            clear e0 h4 hb h35 HK hpe hes
            go_upto_region 10 with fail
            clear b1 b2 b3 b4 b5 hix
            go_loop [5] (fun va => ∃ q : Nat, va = .int .i64 q ∧ q ≤ s.size ∧ Hid (rE nNL s q = rE nNL s p)) (fun va => s.size - (intOf va).toNat)
            case atStart => exact ⟨p, rfl, hp, rfl⟩
            case round =>
              obtain ⟨q, rfl, hq, HR⟩ := hrel
              by_cases hql : q < s.size
              · have g2 : decide ((q : Int) < (s.size : Int)) = true := by simp; omega
                have hixq := run_bt s q hql wr
                have hwq : IntKind.i64.wrap ((q : Int) + 1) = (q : Int) + 1 := by rw [IntKind.wrap_i64]; omega
                have hlt := bt_lt hql
                by_cases hn : bt s q = 10
                · have HQ : Hid (rE nNL s p = q) := by show _ = _; rw [← HR.out]; exact rE_end (by rw [hn]; decide)
                  rw [hn, show ((10 : Nat) : Int) = 10 from rfl] at hixq
                  clear HR hn hlt
                  go_wp2
                  go_round
                  case rel => exact ⟨acc, ao, ca, q, rfl, rfl, hq, by have := HE.out; have := HQ.out; omega, by rw [← HQ.out]; exact HK2, HS⟩
                  case measure => have := HE.out; have := HQ.out; simp [intOf]; omega
                · have HQ : Hid (rE nNL s (q + 1) = rE nNL s p) := by show _ = _; rw [← HR.out]; exact (rE_on nNL256 (by simp [nNL]; omega)).symm
                  have g3 : (((bt s q : Nat) : Int) == 10) = false := by simp; omega
                  have g4 : (((bt s q : Nat) : Int) != 10) = true := by simp; omega
                  clear HR hn hlt
                  go_wp2
                  go_round
                  case rel => exact ⟨q + 1, by go_num, by omega, HQ⟩
                  case measure => simp [intOf]; omega
              · have g2 : decide ((q : Int) < (s.size : Int)) = false := by simp; omega
                have HQ : Hid (rE nNL s p = q) := by show _ = _; rw [← HR.out]; exact rE_end (by rw [bt_out hql]; decide)
                clear HR
                go_wp2
                go_round
                case rel => exact ⟨acc, ao, ca, q, rfl, rfl, hq, by have := HE.out; have := HQ.out; omega, by rw [← HQ.out]; exact HK2, HS⟩
                case measure => have := HE.out; have := HQ.out; simp [intOf]; omega
          · have b5 : (((bt s p : Nat) : Int) == 35) = false := by simp; omega
            have HO := hid (one_any15 s p hl hs wr)
            have ok := one_ok hl
            by_cases hc : (one s p).c = 0
            · have HK2 : Hid (sc s (one s p).e (acc ++ [wdOf s p (one s p)]) = all s) := by show _ = _; rw [← HK.out, sc_wd hl hb h35 hc]
              have hrv : rv s p (one s p) = dV (wdOf s p (one s p)) 0 0 ⟨#[]⟩ := by unfold rv; rw [if_pos hc]
              rw [hrv] at HO
              have hxt : (wdOf s p (one s p)).t.size = (one s p).e - p := by show (s.extract p _).size = _; exact size_ext ok.le
              have hgt := ok.gt
              have hle := ok.le
              have HX : Hid (∃ x e, x = wdOf s p (one s p) ∧ e = (one s p).e) := ⟨_, _, rfl, rfl⟩
              obtain ⟨x, hx⟩ : ∃ x, x = wdOf s p (one s p) := ⟨_, rfl⟩
              obtain ⟨e, he⟩ : ∃ e, e = (one s p).e := ⟨_, rfl⟩
              rw [← hx, ← he] at HK2
              rw [← hx] at HO hxt
              rw [← he] at hxt hgt hle
              clear hx he hrv ok h4 hb h35 HK hc HX
              obtain ⟨xk, xt, xn, xa⟩ := x
              have hxt' : xt.size = e - p := hxt
              have HXT := hid hxt'
              clear hxt hxt'
              obtain ⟨iW, hiW, hiz, his, -⟩ := info_parts infoWD
              go_upto_region 13 with (go_at_call 29; refine (HO.out).mono ?_; rintro r W2 ⟨rfl, hb2⟩; have HS2 := hid (HS.out.on hb2); clear hb2 HO)
              obtain ⟨W3, hW3⟩ : ∃ W3, W3 = (W2.alloc (.cells (wdc ⟨xk, xt, xn, xa⟩) 56)).alloc (.cells (dfc 0 0 ⟨#[]⟩) 37) := ⟨_, rfl⟩
              have HW3 : Hid ((W2.alloc (.cells #[.int .i8 (xk : Int), .string xt, .int .u64 (xn : Int), .int .i64 (xa : Int)] 56)).alloc (.cells #[.int .i64 0, .int .i64 0, .string ⟨#[]⟩] 37) = W3) := hW3.symm
              have q1 : W3.heap[W2.heap.size]? = some (.cells (wdc ⟨xk, xt, xn, xa⟩) 56 (0, 0)) := by rw [hW3]; exact heap_alloc2_old _ _ _
              have q2 : W3.heap[W2.heap.size + 1]? = some (.cells (dfc 0 0 ⟨#[]⟩) 37 (0, 0)) := by rw [hW3]; exact heap_alloc2_new _ _ _
              have hb3 : Below W2.heap.size W2 W3 := by rw [hW3]; exact ((Below.refl _ _).alloc (Nat.le_refl _) _).alloc (by simp) _
              have HS3 := hid (HS2.out.on hb3)
              have HOW : Hid ((Value.slice ao acc.length ca).ownBlock ≠ some W2.heap.size) := fun h => by have := HS2.out.ws.ownLt _ h; omega
              have HM : Hid (∀ W4, W4 = W3.alloc (.cells (wdc ⟨xk, xt, xn, xa⟩) 56) → As w acc (.slice ao acc.length ca) W4 ∧ (∀ j z, (wdc ⟨xk, xt, xn, xa⟩).toList[j]? = some z → W4.cell? (Addr.add ⟨W3.heap.size, 0, none⟩ j) = some z) ∧ W4.heap[W2.heap.size]? = some (.cells (wdc ⟨xk, xt, xn, xa⟩) 56 (0, 0))) := fun W4 h4 => by
                have hb4 : Below W3.heap.size W3 W4 := by rw [h4]; exact (Below.refl _ _).alloc (Nat.le_refl _) _
                refine ⟨HS3.out.on hb4, fun j z hz => ?_, (hb4.block _ (Array.getElem?_eq_some_iff.1 q1).1).trans q1⟩
                rw [Addr.add_lit, Nat.zero_add, h4, cell_of_row _ _ _ _ _ _ (heap_alloc_new _ _), ← hz]; simp
              have c0 : W3.cell? ⟨W2.heap.size, 0, none⟩ = some (.int .i8 (xk : Int)) := (cell_of_row _ _ _ _ _ _ q1).trans rfl
              have c1 : W3.cell? ⟨W2.heap.size, 1, none⟩ = some (.string xt) := (cell_of_row _ _ _ _ _ _ q1).trans rfl
              have c2 : W3.cell? ⟨W2.heap.size, 2, none⟩ = some (.int .u64 (xn : Int)) := (cell_of_row _ _ _ _ _ _ q1).trans rfl
              have c3 : W3.cell? ⟨W2.heap.size, 3, none⟩ = some (.int .i64 (xa : Int)) := (cell_of_row _ _ _ _ _ _ q1).trans rfl
              have hf0 : W3.cell? ⟨W2.heap.size + 1, 0, none⟩ = some (.int .i64 0) := (cell_of_row _ _ _ _ _ _ q2).trans rfl
              rw [HW3.out]
              clear hW3 HW3 q1 q2 hb3 HS2 HS3
              have hwe : IntKind.i64.wrap ((p : Int) + (xt.size : Int)) = (e : Int) := by have := HXT.out; rw [IntKind.wrap_i64]; omega
              have hac : acc.length ≤ 65536 := by omega
              go_wp2_with (first
                | (refine bldSl 52 56 (.tmp 61) rfl rfl (wdc ⟨xk, xt, xn, xa⟩) rfl Tryz.underlying52 iW _ 4 hiW hiz his rfl (by omega) (by omega) ?_; obtain ⟨W4, hW4⟩ : ∃ W4, W4 = W3.alloc (.cells (wdc ⟨xk, xt, xn, xa⟩) 56) := ⟨_, rfl⟩; rw [← hW4]; obtain ⟨z4, n4, k4⟩ := HM.out W4 hW4; have HZ4 := hid z4; have HN4 := hid n4; have HK4 := hid k4; clear HM z4 n4 k4 hW4)
                | (refine appRw (.tmp 60) (.tmp 62) 52 rfl rfl (k := 4) (t := 56) (n := acc.length) (m := 1) (c := 1) (us := (wdc ⟨xk, xt, xn, xa⟩).toList) (ad := ⟨W3.heap.size, 0, none⟩) rfl rfl Tryz.underlying52 infoWD rfl (by omega) (by omega) HZ4.out.ws rfl HN4.out (wd1 _) (by omega) (Or.inl (by omega)) ?_
                   intro v5 W5 hA5 hR5
                   have HS5 : Hid (As w (acc ++ [⟨xk, xt, xn, xa⟩]) v5 W5) := HZ4.out.app hA5 (hR5 _ HZ4.out.ws)
                   have hc5 : W5.cell? ⟨W2.heap.size, 1, none⟩ = some (.string xt) := (cell_of_row _ _ _ _ _ _ ((hA5.block _ (Array.getElem?_eq_some_iff.1 HK4.out).1 HOW.out).trans HK4.out)).trans rfl
                   obtain ⟨s4, c4, rfl⟩ : ∃ s4 c4, v5 = .slice s4 (acc ++ [(⟨xk, xt, xn, xa⟩ : Wd)]).length c4 := HS5.out.ws.form
                   clear hA5 hR5 HN4))
              go_round
              case rel => exact ⟨acc ++ [⟨xk, xt, xn, xa⟩], s4, c4, e, by rw [List.length_append]; rfl, rfl, hle, by simp; omega, HK2, HS5⟩
              case measure => simp [intOf]; omega
            · have HK2 : Hid (all s = .no (one s p).c p (s.extract p (one s p).e)) := by show _ = _; rw [← HK.out, sc_no hl hb h35 hc]
              have hrv : rv s p (one s p) = dV wZ (one s p).c p (s.extract p (one s p).e) := by unfold rv; rw [if_neg hc]
              rw [hrv] at HO
              obtain ⟨c, hcc⟩ : ∃ c, c = (one s p).c := ⟨_, rfl⟩
              obtain ⟨t, htt⟩ : ∃ t, t = s.extract p (one s p).e := ⟨_, rfl⟩
              rw [← hcc, ← htt] at HO HK2
              rw [← hcc] at hc
              clear hrv ok h4 hb h35 HK hcc htt
              have g6 : (((c : Nat) : Int) == 0) = false := by simp; omega
              have g6b : (((c : Nat) : Int) != 0) = true := by simp; omega
              go_upto_region 13 with (go_at_call 29; refine (HO.out).mono ?_; rintro r W2 ⟨rfl, hb2⟩; have HS2 := hid (HS.out.on hb2); clear hb2 HO)
              obtain ⟨W3, hW3⟩ : ∃ W3, W3 = (W2.alloc (.cells (wdc wZ) 56)).alloc (.cells (dfc c p t) 37) := ⟨_, rfl⟩
              have HW3 : Hid ((W2.alloc (.cells #[.int .i8 0, .string ⟨#[]⟩, .int .u64 0, .int .i64 0] 56)).alloc (.cells #[.int .i64 (c : Int), .int .i64 (p : Int), .string t] 37) = W3) := hW3.symm
              have q1 : W3.heap[W2.heap.size]? = some (.cells (wdc wZ) 56 (0, 0)) := by rw [hW3]; exact heap_alloc2_old _ _ _
              have q2 : W3.heap[W2.heap.size + 1]? = some (.cells (dfc c p t) 37 (0, 0)) := by rw [hW3]; exact heap_alloc2_new _ _ _
              have hb3 : Below W2.heap.size W2 W3 := by rw [hW3]; exact ((Below.refl _ _).alloc (Nat.le_refl _) _).alloc (by simp) _
              have hS3 := HS2.out.on hb3
              have hS3d : As w acc (.slice ao acc.length ca) W3.drew := ⟨hS3.low.drew, hS3.b, hS3.ws⟩
              have HS3 := hid hS3d
              have hlt : w.heap.size < W2.heap.size := (Array.getElem?_eq_some_iff.1 HS2.out.b).1
              have HT3 : Hid (Tw W2.heap.size wZ c p t W3.drew) := Tw.of (W := W3.drew) q1 q2
              have HT4 : Hid (Tw W2.heap.size wZ c p t (W3.drew.setRow w.heap.size (dfc c p t))) := Tw.of (by rw [setRow_other _ _ _ _ (by omega)]; exact q1) (by rw [setRow_other _ _ _ _ (by omega)]; exact q2)
              have hf0 : W3.cell? ⟨W2.heap.size + 1, 0, none⟩ = some (.int .i64 (c : Int)) := (cell_of_row _ _ _ _ _ _ q2).trans rfl
              rw [HW3.out]
              clear hW3 HW3 q1 q2 hb3 hS3 hS3d hlt HS2
              go_upto_region 14 with fail
              refine wp_region_held_drew (S := Tw W2.heap.size wZ c p t) (by kernel_rfl) HT3.out (fun hHeld => ?_)
              refine wpAnyH_take (i := 0) (v := ?_) rfl (by kernel_rfl) (by kernel_rfl) (by kernel_rfl) (fun _ _ _ h => h) (Or.inl ⟨by rfl, ?_⟩) hHeld ?_
              rotate_left
              · intro w' hSw
                have f0 := hSw.f0
                have f1 := hSw.f1
                have f2 := hSw.f2
                clear hSw
                go_simp
                first | done | with_reducible rfl
              simp only [Act.put, List.getElem_toArray, List.getElem_cons_zero, List.setIfInBounds_toArray, List.set_cons_zero, List.set_cons_succ]
              refine wpAnyH_take (i := 1) (v := ?_) rfl (by kernel_rfl) (by kernel_rfl) (by kernel_rfl) (fun _ _ _ h => h) (Or.inl ⟨by rfl, ?_⟩) hHeld ?_
              rotate_left
              · intro w' hSw
                clear hSw
                go_simp
                first | done | with_reducible rfl
              simp only [Act.put, List.getElem_toArray, List.getElem_cons_succ, List.getElem_cons_zero, List.setIfInBounds_toArray, List.set_cons_zero, List.set_cons_succ]
              refine ready_st 2 _ (by kernel_rfl) rfl 37 (.tmp 3) (.tmp 59) rfl rfl w.heap.size (dfc c p t) rfl rfl 37 _ HS3.out.b (szF _ _ _) rfl (df1 _ _ _) ?_
              refine ⟨HT4.out, ?_⟩
              simp only [Act.put, List.getElem_toArray, List.getElem_cons_succ, List.getElem_cons_zero]
              refine wpAnyH_done (by kernel_rfl) ?_ _
              try simp only [Exit.then]
              go_wp2
              try simp only [Exit.inBlock, Exit.then]
              refine bodyPost_ret (v := .tuple #[nilS, .agg (dfc c p t)]) (results_tc (c := c) (a := p) (t := t) (g := w.heap.size) Tryz.results15 _ (setRow_heap _ _ _ _ _ _ HS3.out.b) rfl) rfl ⟨below_setRow HS3.out.low (Nat.le_refl _) _, ?_⟩
              rw [HK2.out]
      · have HE : Hid (all s = .ok (acc ++ [wEnd s])) := HK.out.symm.trans (sc_end hl)
        have g1 : decide ((p : Int) < (s.size : Int)) = false := by simp; omega
        obtain ⟨iW, hiW, hiz, his, -⟩ := info_parts infoWD
        have HM : Hid (∀ W4, W4 = wr.alloc (.cells (wdc (wEnd s)) 56) → As w acc (.slice ao acc.length ca) W4 ∧ (∀ j z, (wdc (wEnd s)).toList[j]? = some z → W4.cell? (Addr.add ⟨wr.heap.size, 0, none⟩ j) = some z)) := fun W4 h4 => by
          have hb4 : Below wr.heap.size wr W4 := by rw [h4]; exact (Below.refl _ _).alloc (Nat.le_refl _) _
          refine ⟨HS.out.on hb4, fun j z hz => ?_⟩
          rw [Addr.add_lit, Nat.zero_add, h4, cell_of_row _ _ _ _ _ _ (heap_alloc_new _ _), ← hz]; simp
        clear HK HS
        go_wp2_with (first
          | (refine bldSl 52 56 (.tmp 72) rfl rfl (wdc (wEnd s)) rfl Tryz.underlying52 iW _ 4 hiW hiz his rfl (by omega) (by omega) ?_; obtain ⟨W4, hW4⟩ : ∃ W4, W4 = wr.alloc (.cells (wdc (wEnd s)) 56) := ⟨_, rfl⟩; rw [← hW4]; obtain ⟨z4, n4⟩ := HM.out W4 hW4; have HZ4 := hid z4; have HN4 := hid n4; clear HM z4 n4 hW4)
          | (refine appRw (.tmp 69) (.tmp 73) 52 rfl rfl (k := 4) (t := 56) (n := acc.length) (m := 1) (c := 1) (us := (wdc (wEnd s)).toList) (ad := ⟨wr.heap.size, 0, none⟩) rfl rfl Tryz.underlying52 infoWD rfl (by omega) (by omega) HZ4.out.ws rfl HN4.out (wd1 _) (by omega) (Or.inl (by omega)) ?_; intro v5 W5 hA5 hR5; have HS5 : Hid (As w (acc ++ [wEnd s]) v5 W5) := HZ4.out.app hA5 (hR5 _ HZ4.out.ws); clear hA5 hR5 HN4 HZ4)
          | (show wpList _ _ _ ({ dst := some 75, op := _, type := _, pos := _, after := _, guard := _ } :: _) _ _; refine stepVal (.agg (dfc 0 0 ⟨#[]⟩)) rfl (by kernel_rfl) ?_)
          | (refine stRow 37 (.tmp 3) (.tmp 75) rfl rfl w.heap.size (dfc 0 0 ⟨#[]⟩) rfl rfl 37 _ HS5.out.b (szF _ _ _) rfl (df1 _ _ _) ?_))
        try simp only [Exit.inBlock, Exit.then]
        refine bodyPost_ret (v := .tuple #[v5, .agg (dfc 0 0 ⟨#[]⟩)]) (results_tc (c := 0) (a := 0) (t := ⟨#[]⟩) (g := w.heap.size) Tryz.results15 _ (setRow_heap _ _ _ _ _ _ HS5.out.b) rfl) rfl ⟨below_setRow HS5.out.low (Nat.le_refl _) _, ?_⟩
        rw [HE.out]
        exact ⟨v5, rfl, HS5.out.ws.carry fun b _ hS => ⟨by omega, setRow_other _ _ _ _ (by omega)⟩⟩
  · have g0 : decide ((65536 : Int) < (s.size : Int)) = true := by simp; omega
    have HA : Hid (all s = .no 3 0 ⟨#[]⟩) := by show _ = _; unfold all; rw [if_pos (by omega)]; rfl
    go_enter Tryz.func15, Tryz.ntmps15
    go_wp2
    refine bodyPost_ret (v := .tuple #[nilS, .agg (dfc 3 0 ⟨#[]⟩)]) (results_tc (c := 3) (a := 0) (t := ⟨#[]⟩) (g := w.heap.size) Tryz.results15 _ (heap_alloc_new _ _) rfl) rfl ⟨(Below.refl _ _).alloc (Nat.le_refl _) _, ?_⟩
    rw [HA.out]
end Go.Proofs.YtdpmllfapjjihaaGreatDoor
