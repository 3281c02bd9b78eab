/-
  Proved here: LinePlays' own text: it returns true for every two epochs and every row of acts. Condition: the seven functions of package line serve ends.
-/
import Derived.Test.YtijjcopglbcoiaaUG
namespace Go.Proofs.Ytijjcopglbcoiaa
open Go.RowKit Seal

/-- Four ends: the program's a, b (colours 1, 2) and the document's x, y (3, 4), which stand for the same; what was told (5, 6, 7). -/
structure PlS (A : PApi) (w0 : World) (c : Nat → Nat) (t : Nat) (va vb vx vy tv : Value) (ea eb : E) (tl : List (List Int)) (w : World) : Prop where
  low : Below w0.heap.size w0 w
  old : ∀ k, k < w0.heap.size → c k = 0
  a : A.PE (Col c 1) w va ea
  x : rapi.PE (Col c 3) w vx ea
  b : A.PE (Col c 2) w vb eb
  y : rapi.PE (Col c 4) w vy eb
  tb : w.heap[t]? = some (.cells #[tv] 30 (0, 0))
  tc : c t = 5
  sp : Sp (Col c 6) (Col c 7) w tv tl
section
variable {A : PApi} {w0 : World} {c : Nat → Nat} {t : Nat} {va vb vx vy tv : Value} {ea eb : E} {tl : List (List Int)} {w : World}
theorem PlS.one (h : PlS A w0 c t va vb vx vy tv ea eb tl w) {xb : Value} {bs : List Int} (hx : SlC (fun k => k < w0.heap.size) w xb bs) : AcS A c 1 3 t va vx tv xb ea ea tl bs w :=
  ⟨h.a, h.x, hx.carry fun k _ hk => ⟨h.old k hk, rfl⟩, h.tb, h.tc, h.sp⟩
theorem PlS.two (h : PlS A w0 c t va vb vx vy tv ea eb tl w) {xb : Value} {bs : List Int} (hx : SlC (fun k => k < w0.heap.size) w xb bs) : AcS A c 2 4 t vb vy tv xb eb eb tl bs w :=
  ⟨h.b, h.y, hx.carry fun k _ hk => ⟨h.old k hk, rfl⟩, h.tb, h.tc, h.sp⟩
theorem PlS.did1 (h : PlS A w0 c t va vb vx vy tv ea eb tl w) {c' : Nat → Nat} {w' : World} {tv' xb : Value} {e' : E} {tl' : List (List Int)} {bs : List Int} (k : KM (Mj 1 3) c c' w w') (s : AcS A c' 1 3 t va vx tv' xb e' e' tl' bs w') : PlS A w0 c' t va vb vx vy tv' e' eb tl' w' :=
  have ho := k.old (by omega) h.low.size h.old
  ⟨h.low.trans ho.1, ho.2, s.pe, s.re, k.pe A (by omega) h.b, k.pe rapi (by omega) h.y, s.tb, s.tc, s.sp⟩
theorem PlS.did2 (h : PlS A w0 c t va vb vx vy tv ea eb tl w) {c' : Nat → Nat} {w' : World} {tv' xb : Value} {e' : E} {tl' : List (List Int)} {bs : List Int} (k : KM (Mj 2 4) c c' w w') (s : AcS A c' 2 4 t vb vy tv' xb e' e' tl' bs w') : PlS A w0 c' t va vb vx vy tv' ea e' tl' w' :=
  have ho := k.old (by omega) h.low.size h.old
  ⟨h.low.trans ho.1, ho.2, k.pe A (by omega) h.a, k.pe rapi (by omega) h.x, s.pe, s.re, s.tb, s.tc, s.sp⟩
end
/-- Four ends are made. -/
theorem PlS.start {A : PApi} {w w1 w2 w3 w4 : World} {c1 c2 c3 c4 : Nat → Nat} {va vb vx vy : Value} {ea eb : E} (k1 : Keep (fun _ => 0) c1 1 w w1) (p1 : A.PE (Col c1 1) w1 va ea) (k2 : Keep c1 c2 2 w1 w2) (p2 : A.PE (Col c2 2) w2 vb eb) (k3 : Keep c2 c3 3 w2 w3) (p3 : rapi.PE (Col c3 3) w3 vx ea) (k4 : Keep c3 c4 4 w3 w4) (p4 : rapi.PE (Col c4 4) w4 vy eb) :
    ∃ c, PlS A w c w4.heap.size va vb vx vy nilS ea eb [] (w4.alloc (.cells #[nilS] 30)) := by
  have k5 := Keep.alloc c4 5 w4 (.cells #[nilS] 30)
  have o1 := k1.old (B := w.heap.size) (by omega) (Nat.le_refl _) (fun _ _ => rfl)
  have o2 := k2.old (by omega) o1.1.size o1.2
  have l2 := o1.1.trans o2.1
  have o3 := k3.old (by omega) l2.size o2.2
  have l3 := l2.trans o3.1
  have o4 := k4.old (by omega) l3.size o3.2
  have l4 := l3.trans o4.1
  have o5 := k5.old (by omega) l4.size o4.2
  refine ⟨tint c4 w4.heap.size 5, l4.trans o5.1, o5.2, k5.pe A (by omega) (k4.pe A (by omega) (k3.pe A (by omega) (k2.pe A (by omega) p1))), k5.pe rapi (by omega) (k4.pe rapi (by omega) p3), k5.pe A (by omega) (k4.pe A (by omega) (k3.pe A (by omega) p2)), k5.pe rapi (by omega) p4, heap_alloc_new _ _, tint_new (Nat.le_refl _), Sp.nil _ _ _⟩
theorem Al.on {B : Nat} {w w' : World} {v : Value} {l : List AcT} (h : Al B w v l) (hb : Below B w w') : Al B w' v l := by
  obtain ⟨ao, cap, h1, h2, h3, h4⟩ := h
  refine ⟨ao, cap, h1, h2, h3, fun hne => ?_⟩
  obtain ⟨b, o, hbB, e, hc⟩ := h4 hne
  refine ⟨b, o, hbB, e, fun j hj => ?_⟩
  obtain ⟨xa, xc, q0, q1, q2, q3, q4, q5, q6⟩ := hc j hj
  have hs : ∀ k, w'.cell? ⟨b, k, none⟩ = w.cell? ⟨b, k, none⟩ := fun k => cell_same (hb.block b hbB)
  exact ⟨xa, xc, by rw [hs]; exact q0, by rw [hs]; exact q1, by rw [hs]; exact q2, by rw [hs]; exact q3, by rw [hs]; exact q4, q5.carry fun k _ hk => ⟨hk, hb.block k hk⟩, q6⟩

set_option maxRecDepth 100000 in
set_option maxHeartbeats 3200000 in
theorem plays_any (A : PApi) (p q : Nat) (v : Value) (l : List AcT) (w : World) (hl : Al w.heap.size w v l) (hp : p < 4294967296) (hq : q < 4294967296) :
    Calls Try.prog 3 #[.int .u32 (p : Nat), .int .u32 (q : Nat), v] w fun r w' => r = .returned (.bool true) ∧ Below w.heap.size w w' := by
  have HAl : Hid (Al w.heap.size w v l) := hl
  have HGr := great_any w.heap.size v l w hl
  obtain ⟨lo, lc, rfl, hlc, hll, -⟩ := hl
  have hnot : ∀ (x : Bool) (w : World), (Op.unary .not (.bool x)).run Try.prog w = .ok (.bool (!x)) w := fun _ _ => rfl
  go_enter Try.func3, Try.ntmps3
  go_wp2_with fail
  go_fit HGr
  rintro r w1 ⟨gb, rfl, hw1, h200⟩
  rw [hw1]; clear hw1 w1
  cases gb with
  | true =>
    clear h200 HAl
    go_wp2_with fail
    go_fit (wakes_any A w)
    rintro r w7 ⟨rfl, h7⟩
    go_wp2
    go_ret
    exact ⟨rfl, h7⟩
  | false =>
    have hle := h200 rfl
    clear h200
    go_wp2_with fail
    go_fit (A.newC (fun _ => 0) 1 p w hp)
    rintro r w1 ⟨va, c1, rfl, k1, -, -, p1⟩
    have HK1 : Hid (Keep (fun _ => 0) c1 1 w w1) := k1
    have HP1 : Hid (A.PE (Col c1 1) w1 va (E.mk0 p)) := p1
    clear k1 p1
    go_wp2_with fail
    go_fit (A.newC c1 2 q w1 hq)
    rintro r w2 ⟨vb, c2, rfl, k2, -, -, p2⟩
    have HK2 : Hid (Keep c1 c2 2 w1 w2) := k2
    have HP2 : Hid (A.PE (Col c2 2) w2 vb (E.mk0 q)) := p2
    clear k2 p2
    go_wp2_with fail
    go_fit (rapi.newC c2 3 p w2 hp)
    rintro r w3 ⟨vx, c3, rfl, k3, -, -, p3⟩
    have HK3 : Hid (Keep c2 c3 3 w2 w3) := k3
    have HP3 : Hid (rapi.PE (Col c3 3) w3 vx (E.mk0 p)) := p3
    clear k3 p3
    go_wp2_with fail
    go_fit (rapi.newC c3 4 q w3 hq)
    rintro r w4 ⟨vy, c4, rfl, k4, -, -, p4⟩
    obtain ⟨c, hS⟩ := PlS.start HK1.out HP1.out HK2.out HP2.out HK3.out HP3.out k4 p4
    have HS : Hid (PlS A w c w4.heap.size va vb vx vy nilS (E.mk0 p) (E.mk0 q) [] (w4.alloc (.cells #[nilS] 30))) := hS
    clear k4 p4 hS HK1 HP1 HK2 HP2 HK3 HP3
    go_wp2
    go_loopw [12, 13] (fun x ok wr => ∃ (k : Nat) (c : Nat → Nat) (ea eb : E) (tl : List (List Int)) (tv : Value), k ≤ l.length ∧ x = .int .i64 k ∧ PlS A w c w4.heap.size va vb vx vy tv ea eb tl wr ∧ FitN k ea ∧ FitN k eb ∧ tl.length ≤ k) (fun x _ _ => l.length - (intOf x).toNat)
    case atStart => exact ⟨0, c, _, _, [], nilS, by omega, rfl, HS.out, FitN.mk0 0 p hp, FitN.mk0 0 q hq, by simp⟩
    case round =>
      obtain ⟨k, c', ea, eb, tl, tv, hk, rfl, hS, hfa, hfb, htl⟩ := hrel
      have HSr : Hid (PlS A w c' w4.heap.size va vb vx vy tv ea eb tl wr) := hS
      have HF : Hid (FitN k ea ∧ FitN k eb) := ⟨hfa, hfb⟩
      by_cases hlt : k < l.length
      · obtain ⟨_, _, e9, -, -, h9⟩ := HAl.out.on hS.low
        obtain ⟨b, o, hbB, e8, hc⟩ := h9 (fun e => by rw [e] at hlt; simp at hlt)
        simp only [Value.slice.injEq] at e9
        have e7 : lo = some ⟨b, o, none⟩ := e9.1.trans e8
        clear e9 h9 e8 hS hfa hfb
        subst e7
        obtain ⟨xa, xc, q0, q1, q2, q3, q4, q5, q6⟩ := hc k hlt
        clear hc
        generalize l[k] = ac at *
        obtain ⟨wo, dw, an, nn, bs⟩ := ac
        simp only at q0 q1 q2 q3 q4 q5 q6
        have HX : Hid (SlC (fun k => k < w.heap.size) wr (.slice xa bs.length xc) bs) := q5
        clear q5
        have HA1 : Hid (Calls Try.prog 13 #[va, vx, .agg (acv wo dw an nn (.slice xa bs.length xc)), .pointer (some ⟨w4.heap.size, 0, none⟩)] wr (ActOk A c' 1 3 w4.heap.size va vx (.slice xa bs.length xc) ea tl bs wr)) := act_any A c' 1 3 w4.heap.size (by omega) (by omega) va vx tv _ ea tl bs wr wo dw an nn k (HSr.out.one HX.out) HF.out.1 (by omega) (by omega) q6
        have HA2 : Hid (Calls Try.prog 13 #[vb, vy, .agg (acv wo dw an nn (.slice xa bs.length xc)), .pointer (some ⟨w4.heap.size, 0, none⟩)] wr (ActOk A c' 2 4 w4.heap.size vb vy (.slice xa bs.length xc) eb tl bs wr)) := act_any A c' 2 4 w4.heap.size (by omega) (by omega) vb vy tv _ eb tl bs wr wo dw an nn k (HSr.out.two HX.out) HF.out.2 (by omega) (by omega) q6
        go_upto_if 37 with fail
        generalize (bits BinOp.and IntKind.i64 wo 1 == 0) = bq
        cases bq with
        | true =>
          go_wp2_with (go_at_call 13; refine (HA1.out).mono ?_; rintro r w5 ⟨e5, tl5, tv5, c5, rfl, k5, s5, f5⟩)
          have hS5 := HSr.out.did1 k5 s5
          have hN5 := f5 k HF.out.1 htl
          go_roundw
          case rel => exact ⟨k + 1, c5, e5, eb, tl5, tv5, by omega, by go_num, hS5, hN5.1, HF.out.2.next, hN5.2⟩
          case measure => simp [intOf]; omega
        | false =>
          go_wp2_with (go_at_call 13; refine (HA2.out).mono ?_; rintro r w5 ⟨e5, tl5, tv5, c5, rfl, k5, s5, f5⟩)
          have hS5 := HSr.out.did2 k5 s5
          have hN5 := f5 k HF.out.2 htl
          go_roundw
          case rel => exact ⟨k + 1, c5, ea, e5, tl5, tv5, by omega, by go_num, hS5, HF.out.1.next, hN5.1, hN5.2⟩
          case measure => simp [intOf]; omega
      · obtain rfl : k = l.length := by omega
        have hF1 : Fit ea := HF.out.1.fit (by omega)
        have hF2 : Fit eb := HF.out.2.fit (by omega)
        clear hS hfa hfb
        go_wp2_with fail
        go_fit (A.cameC c' 1 9 va ea wr HSr.out.a hF1)
        rintro r w5 ⟨u5, c5, rfl, k5, p5, l5⟩
        have hX5 := k5.pe rapi (by omega) HSr.out.x
        have hB5 := k5.pe A (by omega) HSr.out.b
        have hY5 := k5.pe rapi (by omega) HSr.out.y
        have hO5 := k5.old (by omega) HSr.out.low.size HSr.out.old
        have hL5 := HSr.out.low.trans hO5.1
        have H5 : Hid (rapi.PE (Col c5 3) w5 vx ea ∧ A.PE (Col c5 2) w5 vb eb ∧ rapi.PE (Col c5 4) w5 vy eb ∧ Below w.heap.size w w5 ∧ (∀ k, k < w.heap.size → c5 k = 0) ∧ Ls (Col c5 9) w5 u5 ea.new) := ⟨hX5, hB5, hY5, hL5, hO5.2, l5⟩
        clear k5 p5 l5 hX5 hB5 hY5 hO5 hL5 HSr
        go_wp2_with fail
        go_fit (rapi.cameC c5 3 8 vx ea w5 H5.out.1 hF1)
        rintro r w6 ⟨u6, c6, rfl, k6, p6, l6⟩
        have hO6 := k6.old (by omega) H5.out.2.2.2.1.size H5.out.2.2.2.2.1
        have H6 : Hid (A.PE (Col c6 2) w6 vb eb ∧ rapi.PE (Col c6 4) w6 vy eb ∧ Below w.heap.size w w6 ∧ (∀ k, k < w.heap.size → c6 k = 0) ∧ Ls (Col c6 9) w6 u5 ea.new ∧ Ls (Col c6 8) w6 u6 ea.new) := ⟨k6.pe A (by omega) H5.out.2.1, k6.pe rapi (by omega) H5.out.2.2.1, H5.out.2.2.2.1.trans hO6.1, hO6.2, k6.ls (by omega) H5.out.2.2.2.2.2, l6⟩
        clear k6 p6 l6 hO6 H5
        go_wp2_with fail
        go_fit (all_same _ _ u5 u6 ea.new w6 H6.out.2.2.2.2.1 H6.out.2.2.2.2.2)
        rintro r w7 ⟨rfl, hb7⟩
        have k7 := Keep.below c6 9 hb7
        have hO7 := k7.old (by omega) H6.out.2.2.1.size H6.out.2.2.2.1
        have H7 : Hid (A.PE (Col (tint c6 w6.heap.size 9) 2) w7 vb eb ∧ rapi.PE (Col (tint c6 w6.heap.size 9) 4) w7 vy eb ∧ Below w.heap.size w w7 ∧ (∀ k, k < w.heap.size → tint c6 w6.heap.size 9 k = 0)) := ⟨k7.pe A (by omega) H6.out.1, k7.pe rapi (by omega) H6.out.2.1, H6.out.2.2.1.trans hO7.1, hO7.2⟩
        clear k7 hO7 H6 hb7
        generalize tint c6 w6.heap.size 9 = c7 at H7
        go_wp2_with fail
        go_fit (A.cameC c7 2 9 vb eb w7 H7.out.1 hF2)
        rintro r w8 ⟨u8, c8, rfl, k8, p8, l8⟩
        have hO8 := k8.old (by omega) H7.out.2.2.1.size H7.out.2.2.2
        have H8 : Hid (rapi.PE (Col c8 4) w8 vy eb ∧ Below w.heap.size w w8 ∧ (∀ k, k < w.heap.size → c8 k = 0) ∧ Ls (Col c8 9) w8 u8 eb.new) := ⟨k8.pe rapi (by omega) H7.out.2.1, H7.out.2.2.1.trans hO8.1, hO8.2, l8⟩
        clear k8 p8 l8 hO8 H7
        go_wp2_with fail
        go_fit (rapi.cameC c8 4 8 vy eb w8 H8.out.1 hF2)
        rintro r w9 ⟨u9, c9, rfl, k9, p9, l9⟩
        have hO9 := k9.old (by omega) H8.out.2.1.size H8.out.2.2.1
        have H9 : Hid (Below w.heap.size w w9 ∧ Ls (Col c9 9) w9 u8 eb.new ∧ Ls (Col c9 8) w9 u9 eb.new) := ⟨H8.out.2.1.trans hO9.1, k9.ls (by omega) H8.out.2.2.2, l9⟩
        clear k9 p9 l9 hO9 H8
        go_wp2_with fail
        go_fit (all_same _ _ u8 u9 eb.new w9 H9.out.2.1 H9.out.2.2)
        rintro r w10 ⟨rfl, hb10⟩
        have HL10 : Hid (Below w.heap.size w w10) := H9.out.1.trans (hb10.mono H9.out.1.size)
        clear hb10 H9
        go_wp2_with fail
        go_fit (wakes_any A w10)
        rintro r w11 ⟨rfl, hb11⟩
        go_wp2
        go_ret
        exact ⟨rfl, HL10.out.trans (hb11.mono HL10.out.size)⟩
/-- The same, the epochs as integers. -/
theorem plays_int (A : PApi) (p q : Int) (v : Value) (l : List AcT) (w : World) (hl : Al w.heap.size w v l) (p0 : 0 ≤ p) (hp : p < 4294967296) (q0 : 0 ≤ q) (hq : q < 4294967296) :
    Calls Try.prog 3 #[.int .u32 p, .int .u32 q, v] w fun r w' => r = .returned (.bool true) ∧ Below w.heap.size w w' := by
  obtain ⟨a, rfl⟩ := Int.eq_ofNat_of_zero_le p0
  obtain ⟨b, rfl⟩ := Int.eq_ofNat_of_zero_le q0
  exact plays_any A a b v l w hl (by omega) (by omega)
end Go.Proofs.Ytijjcopglbcoiaa
