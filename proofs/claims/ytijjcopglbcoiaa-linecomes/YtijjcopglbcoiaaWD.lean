/-
  Proved here: LineComes' own text: it returns true for every two small lists of messages, every k and every choice. Condition: the seven functions of package line serve ends.
-/
import Derived.Test.YtijjcopglbcoiaaWC
import Derived.Test.YtijjcopglbcoiaaL4
namespace Go.Proofs.Ytijjcopglbcoiaa
open Go.RowKit Seal

/-- What holds between two rounds. -/
structure Com (A : PApi) (K t : Nat) (P Q : List (List Int)) (w0 w : World) (c : Nat → Nat) (va vb x1 x2 : Value) (ea eb : E) (X Y : List (List Int)) (la lb : Nat) : Prop where
  s2 : S2 A w0 w c va vb ea eb
  x1 : Sp (Col c 6) (Col c 3) w x1 X
  x2 : Sp (Col c 8) (Col c 3) w x2 Y
  two : Two K t P Q X Y ea eb la lb
theorem two_fit {K t : Nat} {P Q X Y : List (List Int)} {ea eb : E} {la lb : Nat} (h : Two K t P Q X Y ea eb la lb) (hp : smL P = true) (hq : smL Q = true) : Fit ea ∧ Fit eb := by
  have sp := of_decide_eq_true hp
  have sq := of_decide_eq_true hq
  have l1 := congrArg List.length h.da.rel.all
  have l2 := congrArg List.length h.db.rel.all
  rw [List.length_append, List.length_take] at l1 l2
  have := h.da.rel.le; have := h.db.rel.le; have := h.na; have := h.nb; have := h.ep.1; have := h.ep.2
  refine ⟨⟨by omega, by omega, by omega, by omega, fun m hm => ?_⟩, ⟨by omega, by omega, by omega, by omega, fun m hm => ?_⟩⟩
  · rw [h.da.sent] at hm
    have := sp.2 m (List.mem_of_mem_drop hm); omega
  · rw [h.db.sent] at hm
    have := sq.2 m (List.mem_of_mem_drop hm); omega
theorem two_tick {K t : Nat} {P Q X Y : List (List Int)} {ea eb : E} {la lb : Nat} (h : Two K t P Q X Y ea eb la lb) (hp : smL P = true) (hq : smL Q = true) (bp : AllB P) (bq : AllB Q) : taE (tkL ea) = 0 ∧ taE (tkL eb) = 0 := by
  have sp := of_decide_eq_true hp
  have sq := of_decide_eq_true hq
  have f := two_fit h hp hq
  have a1 := f.1.got; have a2 := f.1.come; have a3 := f.2.got; have a4 := f.2.come
  have G1 : Good P ea (tkL ea) := Good.tick h.da.sent bp (fun m hm => by have := sp.2 m hm; omega) (by omega) (by omega) f.1.ep
  have G2 : Good Q eb (tkL eb) := Good.tick h.db.sent bq (fun m hm => by have := sq.2 m hm; omega) (by omega) (by omega) f.2.ep
  have e1 := h.ep.1; have e2 := h.ep.2
  exact ⟨(Dir.take h.da h.db (by omega) G1 (by rw [h.nb]; exact Nat.le_refl _)).1, (Dir.take h.db h.da (by omega) G2 (by rw [h.na]; exact Nat.le_refl _)).1⟩

set_option maxRecDepth 100000 in
set_option maxHeartbeats 1600000 in
theorem comes_main (A : PApi) (pv qv av : Value) (kk : Int) (P Q : List (List Int)) (ns : List Int) (w : World) (hp : Ls (fun k => k < w.heap.size) w pv P) (hq : Ls (fun k => k < w.heap.size) w qv Q) (hn : SlI (fun k => k < w.heap.size) w av ns) (sp : smL P = true) (sq : smL Q = true) (hPn : P.length ≤ 40) (hQn : Q.length ≤ 40) (hl : ns.length ≤ 1000) :
    Calls Try.prog 7 #[pv, qv, .int .i64 kk, av] w fun r w' => r = .returned (.bool true) ∧ Below w.heap.size w w' := by
  have HPL : Hid (Ls (fun k => k < w.heap.size) w pv P) := hp
  have HQL : Hid (Ls (fun k => k < w.heap.size) w qv Q) := hq
  have HSM : Hid (smL P = true ∧ smL Q = true) := ⟨sp, sq⟩
  have HSP : Hid (Calls Try.prog 23 #[pv] w fun r w' => r = .returned (.bool true) ∧ w' = w) := by
    have := small_any _ pv P w hp; rw [sp] at this; exact this
  have HSQ : Hid (Calls Try.prog 23 #[qv] w fun r w' => r = .returned (.bool true) ∧ w' = w) := by
    have := small_any _ qv Q w hq; rw [sq] at this; exact this
  have HAB : Hid (AllB P ∧ AllB Q) := ⟨hp.allB, hq.allB⟩
  obtain ⟨pa, pc, rfl, hpc, -, -, -⟩ := hp
  obtain ⟨qa, qc, rfl, hqc, -, -, -⟩ := hq
  obtain ⟨na, nc, rfl, hnc, hrange, -, hncl⟩ := hn
  have HNC : Hid (ns ≠ [] → ∃ b o, b < w.heap.size ∧ na = some ⟨b, o, none⟩ ∧ ∀ j, j < ns.length → w.cell? ⟨b, o + j, none⟩ = some (.int .i64 (ns.getD j 0))) := hncl
  have hnot : ∀ (x : Bool) (w : World), (Op.unary .not (.bool x)).run Try.prog w = .ok (.bool (!x)) w := fun _ _ => rfl
  clear hncl hrange sp sq
  go_enter Try.func7, Try.ntmps7
  go_wp2_with fail
  go_fit HSP.out
  rintro r w1 ⟨rfl, h1⟩
  rw [h1]; clear h1 w1
  go_wp2_with fail
  go_fit HSQ.out
  rintro r w1 ⟨rfl, h1⟩
  rw [h1]; clear h1 w1
  go_upto_region 3 with fail
  go_cut [2] (fun s wx => ∃ K : Nat, 1 ≤ K ∧ K ≤ 7 ∧ s = .int .i64 K ∧ wx = w)
  case first =>
    obtain ⟨p, hp1, hp2⟩ := place kk 7 (by omega) (by omega)
    go_wp2_with fail
    go_meet
    case rel => exact ⟨p + 1, by omega, by omega, by rw [show (1 : Int) + p = ((p + 1 : Nat) : Int) by omega], rfl⟩
  case rest =>
    obtain ⟨K, hK1, hK7, rfl, hwc⟩ := hcut
    rw [hwc]
    clear hwc wc
    go_wp2_with fail
    go_fit (make1 A w 1 (by decide))
    rintro r w1 ⟨va, c1, rfl, hl1, ho1, hp1⟩
    have H1 : Hid (Below w.heap.size w w1 ∧ (∀ k, k < w.heap.size → c1 k = 0) ∧ A.PE (Col c1 1) w1 va (E.mk0 1)) := ⟨hl1, ho1, hp1⟩
    clear hl1 ho1 hp1 HSP HSQ
    go_wp2_with fail
    go_fit (S2.make H1.out.1 H1.out.2.1 H1.out.2.2 1 (by decide))
    rintro r w2 ⟨vb, c2, rfl, -, h2⟩
    have T2 : Hid (S2 A w w2 c2 va vb (E.mk0 1) (E.mk0 1)) := h2
    clear h2 H1
    go_wp2_with fail
    go_fit (sent_any A c2 1 1 va _ P w2 T2.out.a (by omega) (HPL.out.carry fun k _ h => ⟨T2.out.old k h, T2.out.low.block k h⟩) (by decide) HSM.out.1)
    rintro r w3 ⟨c3, rfl, k3, h3⟩
    have T3 : Hid (S2 A w w3 c3 va vb ⟨1, P, 0, 0, []⟩ (E.mk0 1)) := T2.out.stepA k3 h3
    clear k3 h3 T2
    go_wp2_with fail
    go_fit (sent_any A c3 2 1 vb _ Q w3 T3.out.b (by omega) (HQL.out.carry fun k _ h => ⟨T3.out.old k h, T3.out.low.block k h⟩) (by decide) HSM.out.2)
    rintro r w4 ⟨c4, rfl, k4, h4⟩
    have T4 : Hid (S2 A w w4 c4 va vb ⟨1, P, 0, 0, []⟩ ⟨1, Q, 0, 0, []⟩) := T3.out.stepB k4 h4
    clear k4 h4 T3
    go_upto_region 10 with fail
    go_cut [15] (fun s wx => ∃ T : Nat, s = .int .i64 T ∧ 2 * K * (P.length + 1) ≤ T ∧ 2 * K * (Q.length + 1) ≤ T ∧ T ≤ 1000 ∧ wx = w4)
    case first =>
      have m1 : 2 * K * (P.length + 1) ≤ 2 * 7 * (40 + 1) := Nat.mul_le_mul (by omega) (by omega)
      have m2 : 2 * K * (Q.length + 1) ≤ 2 * 7 * (40 + 1) := Nat.mul_le_mul (by omega) (by omega)
      have mPQ : Hid (P.length ≤ Q.length → 2 * K * (P.length + 1) ≤ 2 * K * (Q.length + 1)) := fun h => Nat.mul_le_mul_left _ (by omega)
      have mQP : Hid (Q.length ≤ P.length → 2 * K * (Q.length + 1) ≤ 2 * K * (P.length + 1)) := fun h => Nat.mul_le_mul_left _ (by omega)
      have eP : Hid (wrap64 (2 * (K : Int) * ((P.length : Int) + 1)) = ((2 * K * (P.length + 1) : Nat) : Int)) := by
        show _ = _
        have e : 2 * (K : Int) * ((P.length : Int) + 1) = ((2 * K * (P.length + 1) : Nat) : Int) := by simp only [Int.natCast_mul, Int.natCast_add]; rfl
        rw [e]; unfold wrap64; omega
      have eQ : Hid (wrap64 (2 * (K : Int) * ((Q.length : Int) + 1)) = ((2 * K * (Q.length + 1) : Nat) : Int)) := by
        show _ = _
        have e : 2 * (K : Int) * ((Q.length : Int) + 1) = ((2 * K * (Q.length + 1) : Nat) : Int) := by simp only [Int.natCast_mul, Int.natCast_add]; rfl
        rw [e]; unfold wrap64; omega
      have M1 : Hid (2 * K * (P.length + 1) ≤ 1000 ∧ 2 * K * (Q.length + 1) ≤ 1000) := ⟨by omega, by omega⟩
      clear m1 m2
      go_wp2_with fail
      all_goals (
        go_meet
        case rel =>
          have a := M1.out
          have b := mPQ.out
          have c := mQP.out
          first
            | exact ⟨_, by rw [eP.out], by omega, by have := c (by omega); omega, by omega, rfl⟩
            | exact ⟨_, by rw [eQ.out], by have := b (by omega); omega, by omega, by omega, rfl⟩)
    case rest =>
      obtain ⟨T, rfl, hT1, hT2, hT3, hwc⟩ := hcut
      rw [hwc]
      clear hwc wc
      have HT : Hid (2 * K * (P.length + 1) ≤ T ∧ 2 * K * (Q.length + 1) ≤ T) := ⟨hT1, hT2⟩
      clear hT1 hT2
      go_wp2_with fail
      go_loopw [11, 12, 13, 14, 16, 17, 18, 19] (fun x1 x2 l1 l2 i _ _ _ wr => ∃ (t : Nat) (c : Nat → Nat) (ea eb : E) (X Y : List (List Int)) (la lb : Nat), t ≤ T ∧ i = .int .i64 t ∧ l1 = .int .i64 la ∧ l2 = .int .i64 lb ∧ Com A K t P Q w wr c va vb x1 x2 ea eb X Y la lb ∧ ea.new = [] ∧ eb.new = []) (fun _ _ _ _ i _ _ _ _ => T - (intOf i).toNat)
      case atStart =>
        exact ⟨0, c4, _, _, [], [], 0, 0, by omega, rfl, rfl, rfl, ⟨T4.out, Sp.nil _ _ _, Sp.nil _ _ _, Two.start hK1⟩, rfl, rfl⟩
      case round =>
        obtain ⟨t, c, ea, eb, X, Y, la, lb, ht, rfl, rfl, rfl, hcom, hea, heb⟩ := hrel
        have HO : Hid (Com A K t P Q w wr c va vb u11 u12 ea eb X Y la lb) := hcom
        have HNW : Hid (ea.new = [] ∧ eb.new = []) := ⟨hea, heb⟩
        have hla := hcom.two.pa.a
        have hlb := hcom.two.pa.b
        clear hcom hea heb
        by_cases hlt : t < T
        · go_wp2_with fail
          go_fit (HO.out.s2.tickA (two_fit HO.out.two HSM.out.1 HSM.out.2).1 3)
          rintro r w5 ⟨v5, c5, rfl, k5, h5, l5⟩
          have S5 : Hid (S2 A w w5 c5 va vb ea eb) := h5
          have L5 : Hid (Ls (Col c5 3) w5 v5 [tkL ea]) := l5
          have X5 : Hid (Sp (Col c5 6) (Col c5 3) w5 u11 X ∧ Sp (Col c5 8) (Col c5 3) w5 u12 Y) := ⟨k5.sp (by omega) (by omega) HO.out.x1, k5.sp (by omega) (by omega) HO.out.x2⟩
          clear k5 h5 l5
          go_wp2_with fail
          go_fit (S5.out.tickB (two_fit HO.out.two HSM.out.1 HSM.out.2).2 3)
          rintro r w6 ⟨v6, c6, rfl, k6, h6, l6⟩
          have S6 : Hid (S2 A w w6 c6 va vb ea eb) := h6
          have L6 : Hid (Ls (Col c6 3) w6 v6 [tkL eb]) := l6
          have M6 : Hid (Ls (Col c6 3) w6 v5 [tkL ea]) := k6.ls (by omega) L5.out
          have X6 : Hid (Sp (Col c6 6) (Col c6 3) w6 u11 X ∧ Sp (Col c6 8) (Col c6 3) w6 u12 Y) := ⟨k6.sp (by omega) (by omega) X5.out.1, k6.sp (by omega) (by omega) X5.out.2⟩
          clear k6 h6 l6 S5 L5 X5
          go_upto_if 81 with fail
          go_cut [19] (fun s wx => ∃ N : Int, s = .int .i64 N ∧ wx = w6)
          case first =>
            by_cases hns : 0 < ns.length
            · obtain ⟨b, o, hb, e7, hcl⟩ := HNC.out (fun e => by rw [e] at hns; simp at hns)
              subst e7
              obtain ⟨j, hj, hjl⟩ : ∃ j : Nat, (t : Int) % (ns.length : Int) = j ∧ j < ns.length := by
                have e1 := Int.emod_nonneg (t : Int) (show (ns.length : Int) ≠ 0 by omega)
                have e2 := Int.emod_lt_of_pos (t : Int) (show (0 : Int) < ns.length by omega)
                exact ⟨((t : Int) % (ns.length : Int)).toNat, by omega, by omega⟩
              have hcell : w6.cell? ⟨b, o + j, none⟩ = some (.int .i64 (ns.getD j 0)) := by rw [S6.out.low.cell (p := ⟨b, o + j, none⟩) hb]; exact hcl j hjl
              generalize ns.getD j 0 = N at *
              clear hcl hb
              go_wp2_with fail
              go_meet
              case rel => exact ⟨N, rfl, rfl⟩
            · go_wp2_with fail
              go_meet
              case rel => exact ⟨0, rfl, rfl⟩
          case rest =>
            obtain ⟨N, rfl, hwc⟩ := hcut
            rw [hwc]
            clear hwc wc
            obtain ⟨d1, hd1⟩ : ∃ b : Bool, b = (bits .and .i64 N 1 == 1) := ⟨_, rfl⟩
            obtain ⟨d2, hd2⟩ : ∃ b : Bool, b = (bits .and .i64 N 2 == 2) := ⟨_, rfl⟩
            have ta := two_tick HO.out.two HSM.out.1 HSM.out.2 HAB.out.1 HAB.out.2
            have TA : Hid (taE (tkL ea) = 0 ∧ taE (tkL eb) = 0) := ta
            clear ta
            go_wp2_with fail
            rw [← hd1]
            go_fit (one_any A c6 2 3 (by omega) vb v5 eb (tkL ea) d1 la K w6 S6.out.b (two_fit HO.out.two HSM.out.1 HSM.out.2).2 M6.out TA.out.1 hla hK7)
            rintro r w7 ⟨c7, eb7, la7, rfl, k7, h7, hA7⟩
            have S7 : Hid (S2 A w w7 c7 va vb ea eb7) := S6.out.stepB k7 h7
            have L7 : Hid (Ls (Col c7 3) w7 v6 [tkL eb]) := k7.ls (by omega) L6.out
            have X7 : Hid (Sp (Col c7 6) (Col c7 3) w7 u11 X ∧ Sp (Col c7 8) (Col c7 3) w7 u12 Y) := ⟨k7.sp (by omega) (by omega) X6.out.1, k7.sp (by omega) (by omega) X6.out.2⟩
            have HA7 : Hid ((la7 = 0 ∧ eb7 = taS eb (tkL ea)) ∨ (la7 = la + 1 ∧ la + 1 < K ∧ eb7 = eb)) := hA7
            clear k7 h7 hA7 S6 L6 M6 X6 hd1
            go_wp2_with fail
            rw [← hd2]
            go_fit (one_any A c7 1 3 (by omega) va v6 ea (tkL eb) d2 lb K w7 S7.out.a (two_fit HO.out.two HSM.out.1 HSM.out.2).1 L7.out TA.out.2 hlb hK7)
            rintro r w8 ⟨c8, ea8, lb8, rfl, k8, h8, hB8⟩
            have S8 : Hid (S2 A w w8 c8 va vb ea8 eb7) := S7.out.stepA k8 h8
            have X8 : Hid (Sp (Col c8 6) (Col c8 3) w8 u11 X ∧ Sp (Col c8 8) (Col c8 3) w8 u12 Y) := ⟨k8.sp (by omega) (by omega) X7.out.1, k8.sp (by omega) (by omega) X7.out.2⟩
            have TW : Hid (Two K (t + 1) P Q X Y ea8 eb7 la7 lb8) := HO.out.two.round HAB.out.1 HAB.out.2 ⟨hPn, (of_decide_eq_true HSM.out.1).2⟩ ⟨hQn, (of_decide_eq_true HSM.out.2).2⟩ HA7.out hB8
            clear k8 h8 hB8 HA7 S7 L7 X7 hd2 HO TA
            have hX : X.length + eb7.new.length ≤ 60 := by
              have h1 := congrArg List.length TW.out.da.rel.all
              have h2 := TW.out.da.rel.le
              rw [List.length_append, List.length_take] at h1
              omega
            have hY : Y.length + ea8.new.length ≤ 60 := by
              have h1 := congrArg List.length TW.out.db.rel.all
              have h2 := TW.out.db.rel.le
              rw [List.length_append, List.length_take] at h1
              omega
            go_wp2_with fail
            go_fit (S8.out.cameB (two_fit TW.out HSM.out.1 HSM.out.2).2 3)
            rintro r w9 ⟨v9, c9, rfl, k9, h9, l9⟩
            have S9 : Hid (S2 A w w9 c9 va vb ea8 (cmS eb7)) := h9
            have L9 : Hid (Ls (Col c9 3) w9 v9 eb7.new) := l9
            have X9 : Hid (Sp (Col c9 6) (Col c9 3) w9 u11 X ∧ Sp (Col c9 8) (Col c9 3) w9 u12 Y) := ⟨k9.sp (by omega) (by omega) X8.out.1, k9.sp (by omega) (by omega) X8.out.2⟩
            clear k9 h9 l9 S8 X8
            go_wp2_with (at_builtin; refine appC (.tmp 111) (.tmp 113) rfl rfl (i := 6) (by omega) rfl rfl X9.out.1 L9.out (by omega) ?_; intro va' wa ka sa)
            have SA : Hid (S2 A w wa (tint c9 w9.heap.size 6) va vb ea8 (cmS eb7)) := S9.out.other ka (by omega) (by omega) (by omega)
            have XA : Hid (Sp (Col (tint c9 w9.heap.size 6) 6) (Col (tint c9 w9.heap.size 6) 3) wa va' (X ++ eb7.new) ∧ Sp (Col (tint c9 w9.heap.size 6) 8) (Col (tint c9 w9.heap.size 6) 3) wa u12 Y) := ⟨sa, ka.sp (by omega) (by omega) X9.out.2⟩
            clear ka sa S9 L9 X9
            go_fit (SA.out.cameA (two_fit TW.out HSM.out.1 HSM.out.2).1 3)
            rintro r wb ⟨vb', cb, rfl, kb, hb, lb'⟩
            have SB : Hid (S2 A w wb cb va vb (cmS ea8) (cmS eb7)) := hb
            have LB : Hid (Ls (Col cb 3) wb vb' ea8.new) := lb'
            have XB : Hid (Sp (Col cb 6) (Col cb 3) wb va' (X ++ eb7.new) ∧ Sp (Col cb 8) (Col cb 3) wb u12 Y) := ⟨kb.sp (by omega) (by omega) XA.out.1, kb.sp (by omega) (by omega) XA.out.2⟩
            clear kb hb lb' SA XA
            go_wp2_with (at_builtin; refine appC (.tmp 115) (.tmp 117) rfl rfl (i := 8) (by omega) rfl rfl XB.out.2 LB.out (by omega) ?_; intro vc wc kc sc)
            have CC : Hid (Com A K (t + 1) P Q w wc (tint cb wb.heap.size 8) va vb va' vc (cmS ea8) (cmS eb7) (X ++ eb7.new) (Y ++ ea8.new) la7 lb8) := ⟨SB.out.other kc (by omega) (by omega) (by omega), kc.sp (by omega) (by omega) XB.out.1, sc, TW.out.came⟩
            clear kc sc SB LB XB TW
            go_wp2
            go_roundw
            case rel => exact ⟨t + 1, _, _, _, _, _, la7, lb8, by omega, by go_num, rfl, rfl, CC.out, rfl, rfl⟩
            case measure => simp [intOf]; omega
        · obtain rfl : t = T := by omega
          have d1 := HO.out.two.pa.done HT.out.1
          have d2 := HO.out.two.pb.done HT.out.2
          have sa : ea.sent.length = 0 := by have := HO.out.two.na; omega
          have sb : eb.sent.length = 0 := by have := HO.out.two.nb; omega
          have hX : X = P := by
            have h := HO.out.two.da.rel.all
            rw [HNW.out.2, List.append_nil, d1.2, List.take_length] at h
            exact h
          have hY : Y = Q := by
            have h := HO.out.two.db.rel.all
            rw [HNW.out.1, List.append_nil, d2.2, List.take_length] at h
            exact h
          rw [hX, hY] at HO
          clear hX hY d1 d2
          have SA : Hid (ea.sent.length = 0 ∧ eb.sent.length = 0) := ⟨sa, sb⟩
          clear sa sb
          go_wp2_with fail
          go_fit (HO.out.s2.leftA (two_fit HO.out.two HSM.out.1 HSM.out.2).1)
          rintro r w5 ⟨c5, rfl, k5, h5⟩
          rw [SA.out.1]
          have S5 : Hid (S2 A w w5 c5 va vb ea eb) := h5
          have X5 : Hid (Sp (Col c5 6) (Col c5 3) w5 u11 P ∧ Sp (Col c5 8) (Col c5 3) w5 u12 Q) := ⟨k5.sp (by omega) (by omega) HO.out.x1, k5.sp (by omega) (by omega) HO.out.x2⟩
          clear k5 h5
          go_wp2_with fail
          go_fit (S5.out.leftB (two_fit HO.out.two HSM.out.1 HSM.out.2).2)
          rintro r w6 ⟨c6, rfl, k6, h6⟩
          rw [SA.out.2]
          have LX : Hid (Ls (fun _ => True) w6 u11 P) := (k6.sp (j := 6) (k := 3) (by omega) (by omega) X5.out.1).ls (by omega) (fun _ _ => trivial) (fun _ _ => trivial)
          have LY : Hid (Ls (fun _ => True) w6 u12 Q) := (k6.sp (j := 8) (k := 3) (by omega) (by omega) X5.out.2).ls (by omega) (fun _ _ => trivial) (fun _ _ => trivial)
          have HLow : Hid (Below w.heap.size w w6) := h6.low
          have LP : Hid (Ls (fun k => k < w.heap.size) w6 (.slice pa P.length pc) P) := HPL.out.carry fun k _ h => ⟨h, HLow.out.block k h⟩
          have LQ : Hid (Ls (fun k => k < w.heap.size) w6 (.slice qa Q.length qc) Q) := HQL.out.carry fun k _ h => ⟨h, HLow.out.block k h⟩
          clear k6 h6 X5 S5 HO
          go_wp2_with fail
          go_fit (all_any _ _ _ _ P P w6 LX.out LP.out)
          rintro r w7 ⟨rfl, h7⟩
          rw [decide_eq_true (rfl : P = P)]
          have H7 : Hid (Below w6.heap.size w6 w7) := h7
          have LY7 : Hid (Ls (fun k => k < w6.heap.size) w7 u12 Q) := LY.out.carry fun k hk _ => ⟨hk, h7.block k hk⟩
          have LQ7 : Hid (Ls (fun k => k < w6.heap.size) w7 (.slice qa Q.length qc) Q) := LQ.out.carry fun k hk _ => ⟨hk, h7.block k hk⟩
          clear h7 LX LP LY LQ
          go_wp2_with fail
          go_fit (all_any _ _ _ _ Q Q w7 LY7.out LQ7.out)
          rintro r w8 ⟨rfl, h8⟩
          rw [decide_eq_true (rfl : Q = Q)]
          have H8 : Hid (Below w.heap.size w w8) := (HLow.out.trans (H7.out.mono HLow.out.size)).trans (h8.mono (HLow.out.trans (H7.out.mono HLow.out.size)).size)
          clear h8 H7 LY7 LQ7
          go_wp2_with fail
          go_fit (wakes_any A w8)
          rintro r w9 ⟨rfl, h9⟩
          have H9 : Hid (Below w.heap.size w w9) := H8.out.trans (h9.mono H8.out.size)
          clear h9 H8
          go_wp2
          go_ret
          exact ⟨rfl, H9.out⟩
end Go.Proofs.Ytijjcopglbcoiaa
