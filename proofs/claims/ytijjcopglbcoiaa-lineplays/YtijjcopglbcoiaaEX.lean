/-
  Proved here: the document's Take answers and makes what 'taE', 'taS' say. Conditions: all blocks to come are the end's; its numbers are below 2 to 31.
  Proved here: the document's Tick tells one datagram, 'tkL' of the end. Condition: the end's numbers are below 2 to 31.
-/
import Derived.Test.YtijjcopglbcoiaaE5
import Derived.BigQuiet
import Derived.Deep.RegionHeld3
namespace Go.Proofs.Ytijjcopglbcoiaa
open Go.RowKit Seal

theorem fld_nat {bs : List Int} (hB : IsB bs) (a : Nat) : ∃ n : Nat, fld bs a 4 = n ∧ n < 4294967296 := by
  have h := fld_bd hB a 4
  refine ⟨(fld bs a 4).toNat, by have := h.1; omega, ?_⟩
  have e : (2 : Int) ^ (8 * 4) = 4294967296 := by decide
  have := h.2
  omega

theorem sp_len : ∀ {n : Nat} {r : List Int} {l : List (List Int)}, sp n r = some l → l.length = n
  | 0, r, l, h => by
    unfold sp at h
    split at h
    · cases h; rfl
    · cases h
  | n + 1, r, l, h => by
    unfold sp at h
    split at h
    · cases h
    · split at h
      · cases h
      · obtain ⟨x, hx, rfl⟩ := Option.map_eq_some_iff.1 h
        rw [List.length_cons, sp_len hx]
theorem spl_le {d : List Int} {l : List (List Int)} (h : spl d = some l) : l.length ≤ 32 := by
  unfold spl at h
  split at h
  · cases h
  · have := sp_len h
    omega

set_option maxHeartbeats 400000 in
theorem rreset_st {S : Nat → Prop} {f : Nat → Nat} {g : Nat} {w0 w : World} {e : E} {vs vn v1 u2 : Value} {d : List Int} {l : List (List Int)} (p : Nat) (h : St6 S f g w0 w e vs vn v1 u2 d l) :
    Calls Try.prog 30 #[.pointer (some ⟨g, 0, none⟩), .int .u32 (p : Nat)] w fun r w' => r = .returned (.tuple #[]) ∧ St6 S f g w0 w' (E.mk0 p) nilS nilS v1 u2 d l := by
  obtain ⟨c0, c1, c2, c3, c4, z0, z1, z2, z3, z4⟩ := end_cells h.blk
  have HS := h.reset p
  have HS' : Hid _ := HS
  clear h HS
  go_enter Try.func30, Try.ntmps30
  go_wp2
  go_end0
  exact ⟨rfl, HS'.out⟩

set_option maxRecDepth 100000 in
set_option maxHeartbeats 3200000 in
theorem rtake_any (S : Nat → Prop) (v : Value) (e : E) (B : Nat) (u : Value) (bs : List Int) (w : World) (h : RE S w v e) (hf : Fresh S w) (hs : Sl B w u bs) (hB : B ≤ w.heap.size) (hfit : Fit e) :
    Calls Try.prog 29 #[v, u] w fun r w' => r = .returned (.int .i64 (taE bs)) ∧ Only S w w' ∧ RE S w' v (taS e bs) := by
  have hlen := hs.len
  have hI := hs.isB
  have HO : Hid (Calls Try.prog 39 #[u] w fun e w' => ∃ v', e = .returned (.tuple #[v', .int .i64 (opE bs)]) ∧ Below w.heap.size w w' ∧ Owns w.heap.size w' v' (opL bs)) := ropen_any B u bs w hs hB
  have HR : Hid (RE S w v e) := h
  have hdl : (opL bs).length ≤ 140737488355328 := by
    have : (opL bs).length ≤ bs.length := by
      unfold opL; split
      · rw [List.length_take]; omega
      · simp
    omega
  have hdI : IsB (opL bs) := by
    unfold opL; split
    · exact hI.take _
    · exact IsB.nil
  obtain ⟨ao, cap, rfl, -⟩ := hs
  obtain ⟨g0, _, _, _, hv, -⟩ := h
  subst hv
  obtain ⟨d, hd⟩ : ∃ d, d = opL bs := ⟨_, rfl⟩
  rw [← hd] at HO hdl hdI
  have HD : Hid (d = opL bs) := hd
  clear hd hI
  by_cases h1 : opE bs = 0
  · rw [h1] at HO
    by_cases h14 : d.length < 14
    · have HE : Hid (taE bs = 51 ∧ taS e bs = e) := by
        have := HD.out
        show _ ∧ _
        have e1 : taE bs = 51 := by unfold taE; rw [if_pos h1, ← this, if_pos h14]
        exact ⟨e1, by unfold taS; rw [e1]; rfl⟩
      have HH : Hid (d.length < 14) := h14
      clear h1 h14
      go_enter Try.func29, Try.ntmps29
      go_upto_region 2 with (go_at_call 39; refine (HO.out).mono ?_; rintro r w1 ⟨v1, rfl, hb1, hO1⟩)
      obtain ⟨a1, c1, rfl, -⟩ := Sl.own hO1 hdl hdI
      have HB1 : Hid (Below w.heap.size w w1) := hb1
      have hx : decide ((d.length : Int) < 14) = true := by have := HH.out; simp; omega
      clear hb1 hO1 HO
      go_wp2
      go_ret
      exact ⟨by rw [HE.out.1]; rfl, Only.of HB1.out hf, by rw [HE.out.2]; exact HR.out.carry fun k hk hS => ⟨hS, HB1.out.block k hk⟩⟩
    · obtain ⟨p, hp, hp32⟩ := fld_nat hdI 0
      obtain ⟨c, hc, hc32⟩ := fld_nat hdI 4
      obtain ⟨q, hq, hq32⟩ := fld_nat hdI 8
      have HP : Hid (fld d 0 4 = p ∧ fld d 4 4 = c ∧ fld d 8 4 = q) := ⟨hp, hc, hq⟩
      have HH : Hid (14 ≤ d.length) := by show _ ≤ _; omega
      have HT : Hid (taE bs = if spl d = none then 70 else 0) := by
        have := HD.out
        show _ = _
        unfold taE; rw [if_pos h1, ← this, if_neg h14]
      have HTS : Hid (taE bs = 0 → taS e bs = hear e p c q ((spl d).getD [])) := by
        have := HD.out
        show _ → _
        intro h0
        unfold taS
        rw [if_pos h0, ← this, hp, hc, hq]
        simp only [Int.toNat_natCast]
      have hx : decide ((d.length : Int) < 14) = false := by have := HH.out; simp; omega
      clear h1 h14 hp hc hq
      go_enter Try.func29, Try.ntmps29
      go_upto_region 2 with (go_at_call 39; refine (HO.out).mono ?_; rintro r w1 ⟨v1, rfl, hb1, hO1⟩)
      have hd1 : SlC (fun k => w.heap.size ≤ k ∧ k < w1.heap.size) w1 v1 d := SlC.own hO1 hdl hdI fun k h1 h2 => ⟨h1, h2⟩
      have HSP : Hid (Calls Try.prog 40 #[v1] w1 fun r w' => ∃ u, r = .returned (.tuple #[u, .bool (spl d).isSome]) ∧ Below w1.heap.size w1 w' ∧ ∀ l, spl d = some l → Sp (fun k => w1.heap.size ≤ k) (fun k => (w.heap.size ≤ k ∧ k < w1.heap.size) ∧ k < w1.heap.size) w' u l) := rsplit_any _ v1 d w1 hd1 HH.out
      have HD1 : Hid (SlC (fun k => w.heap.size ≤ k ∧ k < w1.heap.size) w1 v1 d) := hd1
      obtain ⟨a1, c1, rfl, -⟩ := hd1
      have HB1 : Hid (Below w.heap.size w w1) := hb1
      clear hb1 hO1 HO
      cases hspl : spl d with
      | none =>
        have HE : Hid (taE bs = 70 ∧ taS e bs = e) := by
          have e1 : taE bs = 70 := by rw [HT.out, hspl]; simp
          exact ⟨e1, by unfold taS; rw [e1]; rfl⟩
        have HSP' : Hid (Calls Try.prog 40 #[.slice a1 d.length c1] w1 fun r w' => ∃ u, r = .returned (.tuple #[u, .bool false]) ∧ Below w1.heap.size w1 w') := by
          refine (HSP.out).mono ?_
          rintro r w' ⟨u, rfl, hb, _⟩
          exact ⟨u, by rw [hspl]; rfl, hb⟩
        have hnot : ∀ (x : Bool) (w : World), (Op.unary .not (.bool x)).run Try.prog w = .ok (.bool (!x)) w := fun _ _ => rfl
        clear HT HTS HSP hspl HD1
        go_wp2_with (go_at_call 40; refine (HSP'.out).mono ?_; rintro r w2 ⟨u2, rfl, hb2⟩)
        go_ret
        have hb : Below w.heap.size w w2 := HB1.out.trans (hb2.mono HB1.out.size)
        exact ⟨by rw [HE.out.1]; rfl, Only.of hb hf, by rw [HE.out.2]; exact HR.out.carry fun k hk hS => ⟨hS, hb.block k hk⟩⟩
      | some l =>
        have e1 : taE bs = 0 := by rw [HT.out, hspl]; simp
        have HE : Hid (taE bs = 0 ∧ taS e bs = hear e p c q l) := ⟨e1, by rw [HTS.out e1, hspl]; rfl⟩
        have hll : l.length ≤ 32 := spl_le hspl
        have HLL : Hid (l.length ≤ 32) := hll
        have HSP' : Hid (Calls Try.prog 40 #[.slice a1 d.length c1] w1 fun r w' => ∃ u, r = .returned (.tuple #[u, .bool true]) ∧ Below w1.heap.size w1 w' ∧ Sp (fun k => w1.heap.size ≤ k) (fun k => (w.heap.size ≤ k ∧ k < w1.heap.size) ∧ k < w1.heap.size) w' u l) := by
          refine (HSP.out).mono ?_
          rintro r w' ⟨u, rfl, hb, hl⟩
          exact ⟨u, by rw [hspl]; rfl, hb, hl l hspl⟩
        have hnot : ∀ (x : Bool) (w : World), (Op.unary .not (.bool x)).run Try.prog w = .ok (.bool (!x)) w := fun _ _ => rfl
        clear HT HTS HSP hspl e1 hll
        go_upto_region 7 with (go_at_call 40; refine (HSP'.out).mono ?_; rintro r w2 ⟨u2, rfl, hb2, hl2⟩)
        obtain ⟨f, g, vs, vn, hg, st⟩ := St6.start HR.out hf HB1.out HD1.out hb2 hl2
        simp only [Value.pointer.injEq, Option.some.injEq, Addr.mk.injEq, and_true] at hg
        subst hg
        obtain ⟨z1, z2, rfl, -⟩ := st.ms.form
        have HST : Hid (St6 S f g0 w w2 e vs vn (.slice a1 d.length c1) (.slice z1 l.length z2) d l) := st
        have HRD : Hid (∀ (wx : World) (e' : E) (vs' vn' : Value) (a n : Nat), St6 S f g0 w wx e' vs' vn' (.slice a1 d.length c1) (.slice z1 l.length z2) d l → a + 4 ≤ d.length → fld d a 4 = n → Calls Try.prog 41 #[.slice a1 d.length c1, .int .i64 a, .int .i64 4] wx fun r w' => r = .returned (.int .u32 (n : Nat)) ∧ w' = wx) := by
          show ∀ _, _
          intro wx e' vs' vn' a n hst ha hn
          have := rread_any wx.heap.size a 4 _ d wx hst.bytes.sl ha (by omega)
          rw [hn] at this
          exact this
        have HR0 : Hid (Calls Try.prog 41 #[.slice a1 d.length c1, .int .i64 0, .int .i64 4] w2 fun r w' => r = .returned (.int .u32 (p : Nat)) ∧ w' = w2) := HRD.out w2 e vs vn 0 p HST.out (by have := HH.out; omega) HP.out.1
        obtain ⟨x0, x1, x2, x3, x4, y0, y1, y2, y3, y4⟩ := end_cells st.blk
        clear hb2 hl2 HSP' st HD1
        by_cases hlow : p < e.ep
        · have HE2 : Hid (hear e p c q l = e) := by show _ = _; unfold hear; rw [if_pos hlow]
          go_wp2_with (go_at_call 41; refine (HR0.out).mono ?_; rintro r w9 ⟨rfl, hw9⟩; rw [hw9]; clear hw9 w9)
          go_ret
          exact ⟨by rw [HE.out.1]; rfl, HST.out.only, by rw [HE.out.2, HE2.out]; exact HST.out.re⟩
        · have HE2 : Hid (hear e p c q l = ad (gt (rs e p) c) q l) := by show _ = _; unfold hear; rw [if_neg hlow]
          go_upto_if 44 with (go_at_call 41; refine (HR0.out).mono ?_; rintro r w9 ⟨rfl, hw9⟩; rw [hw9]; clear hw9 w9)
          go_cut [] (fun wc => ∃ vs' vn', St6 S f g0 w wc (rs e p) vs' vn' (.slice a1 d.length c1) (.slice z1 l.length z2) d l)
          case first =>
            by_cases hgt : e.ep < p
            · go_wp2_with (go_at_call 30; refine (rreset_st p HST.out).mono ?_; rintro r w3 ⟨rfl, h3⟩)
              go_meet
              case rel => exact ⟨nilS, nilS, by rw [show rs e p = E.mk0 p from if_pos hgt]; exact h3⟩
            · go_wp2
              go_meet
              case rel => exact ⟨vs, vn, by rw [show rs e p = e from if_neg hgt]; exact HST.out⟩
          case rest =>
            obtain ⟨vs', vn', st⟩ := hcut
            have hfit1 : Fit (rs e p) := by
              unfold rs; split
              · exact ⟨hp32, by simp [E.mk0], by simp [E.mk0], by simp [E.mk0], by simp [E.mk0]⟩
              · exact hfit
            have HER : Hid (hear e p c q l = ad (gt (rs e p) c) q l) := HE2.out
            generalize rs e p = e1 at *
            obtain ⟨t1, t2, rfl, -⟩ := st.sent.form
            have HST1 : Hid (St6 S f g0 w wc e1 (.slice t1 e1.sent.length t2) vn' (.slice a1 d.length c1) (.slice z1 l.length z2) d l) := st
            have HR4 : Hid (Calls Try.prog 41 #[.slice a1 d.length c1, .int .i64 4, .int .i64 4] wc fun r w' => r = .returned (.int .u32 (c : Nat)) ∧ w' = wc) := HRD.out wc e1 _ _ 4 c st (by have := HH.out; omega) HP.out.2.1
            have hg1 := hfit1.got
            obtain ⟨j0, j1, j2, j3, j4, k0, k1, k2, k3, k4⟩ := end_cells st.blk
            clear st HST HR0 HE2
            go_upto_region 15 with (go_at_call 41; refine (HR4.out).mono ?_; rintro r w9 ⟨rfl, hw9⟩; rw [hw9]; clear hw9 w9)
            go_cut [73] (fun s wx => s = .bool (decide (e1.got < c ∧ c ≤ e1.got + e1.sent.length)) ∧ St6 S f g0 w wx e1 (.slice t1 e1.sent.length t2) vn' (.slice a1 d.length c1) (.slice z1 l.length z2) d l)
            case first =>
              by_cases hc1 : e1.got < c
              · go_quiet (fail)
                go_wp2_with fail
                go_meet
                case rel => exact ⟨by simp [hc1]; omega, HST1.out.drewN _⟩
              · go_quiet (fail)
                go_wp2_with fail
                go_meet
                case rel => exact ⟨by simp [hc1], HST1.out.drewN _⟩
            case rest =>
              obtain ⟨rfl, st⟩ := hcut
              have HST2 : Hid (St6 S f g0 w wc e1 (.slice t1 e1.sent.length t2) vn' (.slice a1 d.length c1) (.slice z1 l.length z2) d l) := st
              clear HST1 HR4 j0 j1 j2 j3 j4 k0 k1 k2 k3 k4
              obtain ⟨j0, j1, j2, j3, j4, k0, k1, k2, k3, k4⟩ := end_cells st.blk
              clear st
              go_upto_if 73 with fail
              go_cut [] (fun wx => ∃ vs2, St6 S f g0 w wx (gt e1 c) vs2 vn' (.slice a1 d.length c1) (.slice z1 l.length z2) d l)
              case first =>
                by_cases hc1 : e1.got < c ∧ c ≤ e1.got + e1.sent.length
                · obtain ⟨k, rfl⟩ : ∃ k, c = e1.got + k := ⟨c - e1.got, by omega⟩
                  have hk : k ≤ e1.sent.length := by omega
                  have hk0 : 0 < k := by omega
                  have hcf : decide (e1.got < e1.got + k ∧ e1.got + k ≤ e1.got + e1.sent.length) = true := by simp only [decide_eq_true_eq]; exact hc1
                  rw [hcf]
                  obtain ⟨_, _, e9, -, h9⟩ := HST2.out.sent.form
                  obtain ⟨b, o, e8, -⟩ := h9 (fun e => by rw [e] at hk; simp at hk; omega)
                  simp only [Value.slice.injEq] at e9
                  have e7 : t1 = some ⟨b, o, none⟩ := e9.1.trans e8
                  clear e9 h9 e8
                  subst e7
                  have HST3 := HST2.out.got k hk
                  have HG : Hid (gt e1 (e1.got + k) = { e1 with sent := e1.sent.drop k, got := e1.got + k }) := by
                    show _ = _
                    unfold gt; rw [if_pos hc1, Nat.add_sub_cancel_left]
                  simp only [Int.natCast_add] at HST3
                  by_cases htk : t2 = k
                  · rw [if_pos htk, show t2 - k = 0 by omega] at HST3
                    have HST4 : Hid _ := HST3
                    clear HST3
                    go_upto_region 16 with fail
                    go_region
                    go_wp2_with fail
                    go_meet
                    case rel => exact ⟨_, by rw [HG.out]; exact HST4.out.drew⟩
                  · rw [if_neg htk] at HST3
                    have HST4 : Hid _ := HST3
                    clear HST3
                    go_upto_region 16 with fail
                    go_region
                    go_wp2_with fail
                    go_meet
                    case rel => exact ⟨_, by rw [HG.out]; exact HST4.out.drew⟩
                · have hcf : decide (e1.got < c ∧ c ≤ e1.got + e1.sent.length) = false := by simp only [decide_eq_false_iff_not]; exact hc1
                  rw [hcf]
                  go_wp2
                  go_meet
                  case rel => exact ⟨_, by rw [show gt e1 c = e1 from if_neg hc1]; exact HST2.out⟩
              case rest =>
                obtain ⟨vs2, st⟩ := hcut
                have hfit2 : (gt e1 c).come < 2000000000 ∧ (gt e1 c).new.length < 2000000000 := by
                  unfold gt; split
                  · exact ⟨hfit1.come, hfit1.new⟩
                  · exact ⟨hfit1.come, hfit1.new⟩
                generalize gt e1 c = e2 at *
                have HST2 : Hid (St6 S f g0 w wc e2 vs2 vn' (.slice a1 d.length c1) (.slice z1 l.length z2) d l) := st
                have HR8 : Hid (Calls Try.prog 41 #[.slice a1 d.length c1, .int .i64 8, .int .i64 4] wc fun r w' => r = .returned (.int .u32 (q : Nat)) ∧ w' = wc) := HRD.out wc e2 _ _ 8 q st (by have := HH.out; omega) HP.out.2.2
                have hl32 := HLL.out
                clear st j0 j1 j2 j3 j4 k0 k1 k2 k3 k4 x0 x1 x2 x3 x4 y0 y1 y2 y3 y4 hg1
                go_wp2_with (go_at_call 41; refine (HR8.out).mono ?_; rintro r w9 ⟨rfl, hw9⟩; rw [hw9]; clear hw9 w9)
                go_loopw [12] (fun i wr => ∃ (j : Nat) (vj : Value), j ≤ l.length ∧ i = .int .i64 j ∧ St6 S f g0 w wr (ad e2 q (l.take j)) vs2 vj (.slice a1 d.length c1) (.slice z1 l.length z2) d l) (fun i _ => l.length - (intOf i).toNat)
                case atStart => exact ⟨0, vn', by omega, rfl, HST2.out⟩
                case round =>
                  obtain ⟨j, vj, hj, rfl, st⟩ := hrel
                  have HSJ : Hid (St6 S f g0 w wr (ad e2 q (l.take j)) vs2 vj (.slice a1 d.length c1) (.slice z1 l.length z2) d l) := st
                  by_cases hlt : j < l.length
                  · have HN := ad_take hlt e2 q
                    have hbd := ad_bd (l.take j) e2 q
                    rw [List.length_take, Nat.min_eq_left hj] at hbd
                    have HNX : Hid (ad e2 q (l.take (j + 1)) = adS (ad e2 q (l.take j)) (q + j) (l.getD j [])) := HN
                    obtain ⟨_, _, e9, -, h9⟩ := st.ms.form
                    obtain ⟨b, o, e8, h7⟩ := h9 (fun e => by rw [e] at hlt; simp at hlt)
                    obtain ⟨um, hum, hus⟩ := h7 j hlt
                    simp only [Value.slice.injEq] at e9
                    have e7 : z1 = some ⟨b, o, none⟩ := e9.1.trans e8
                    clear e9 h9 e8 h7 HN st
                    subst e7
                    obtain ⟨m, hm⟩ : ∃ m, m = l.getD j [] := ⟨_, rfl⟩
                    rw [← hm] at hus HNX
                    clear hm
                    generalize ad e2 q (l.take j) = ej at *
                    have hcj : ej.come < 2000000100 := by omega
                    have hnj : ej.new.length < 2000000100 := by omega
                    obtain ⟨na, nc, rfl, -⟩ := HSJ.out.nw.form
                    obtain ⟨j0, j1, j2, j3, j4, k0, k1, k2, k3, k4⟩ := end_cells HSJ.out.blk
                    clear hbd
                    by_cases hqj : q + j = ej.come
                    · have HA : Hid (adS ej (q + j) m = { ej with new := ej.new ++ [m], come := ej.come + 1 }) := by show _ = _; unfold adS; rw [if_pos hqj]
                      have hqf : ((q : Int) + (j : Int) == (ej.come : Int)) = true := by simp; omega
                      have HU : Hid (SlC (fun k => S k ∧ f k = 4) wr um m) := hus
                      obtain ⟨ua, uc, rfl, -⟩ := hus
                      have HAL : Hid (St6 S f g0 w (wr.alloc (.cells #[.slice ua m.length uc] 31)).drew ej vs2 (.slice na ej.new.length nc) (.slice a1 d.length c1) (.slice (some ⟨b, o, none⟩) l.length z2) d l) := (HSJ.out.alloc _).drew
                      have HUL : Hid (SlC (fun k => S k ∧ f k = 4) (wr.alloc (.cells #[.slice ua m.length uc] 31)).drew (.slice ua m.length uc) m) := HU.out.carry fun k hk h => ⟨h, heap_alloc_old wr _ hk⟩
                      obtain ⟨i0, i1, i2, i3, i4, -⟩ := end_cells (HSJ.out.alloc (.cells #[.slice ua m.length uc] 31)).blk
                      go_upto_region 23 with fail
                      go_region_law (first
                        | (refine stepSp (.tmp 117) (.tmp 122) rfl rfl rfl rfl HAL.out.nw HUL.out (fun k hk ht => by have := (HAL.out.nw.own k hk).2; have := ht.2; omega) (by omega) (by show (wr.alloc _).cell? _ = _; rw [cell_of_row _ _ 0 _ _ _ (heap_alloc_new _ _)]; rfl) ?_
                           intro v3 w3 A3 P3
                           obtain ⟨a3, k3, rfl, -⟩ := P3.form
                           have HS3 := HAL.out.apd A3 P3
                           obtain ⟨hb3, hs3⟩ := HS3
                           obtain ⟨q0, q1, q2, q3, q4, p0, p1, p2, p3, p4⟩ := end_cells hb3
                           have HS4 : Hid _ := hs3
                           clear A3 P3 hs3 hb3))
                      all_goals (
                        go_wp2
                        go_roundw
                        case rel =>
                          have hs4 := HS4.out
                          simp only [List.length_append, List.length_cons, List.length_nil, Nat.zero_add, Int.natCast_add, Int.cast_ofNat_Int] at hs4
                          refine ⟨j + 1, .slice a3 (ej.new.length + 1) k3, by omega, by go_num, ?_⟩
                          rw [HNX.out, HA.out]
                          exact hs4
                        case measure => simp [intOf]; omega)
                    · have HA : Hid (adS ej (q + j) m = ej) := by show _ = _; unfold adS; rw [if_neg hqj]
                      have hqf : ((q : Int) + (j : Int) == (ej.come : Int)) = false := by simp; omega
                      go_wp2
                      go_roundw
                      case rel => exact ⟨j + 1, _, by omega, by go_num, by rw [HNX.out, HA.out]; exact HSJ.out⟩
                      case measure => simp [intOf]; omega
                  · obtain rfl : j = l.length := by omega
                    rw [List.take_length] at HSJ
                    go_wp2
                    go_ret
                    exact ⟨by rw [HE.out.1]; rfl, HSJ.out.only, by rw [HE.out.2, HER.out]; exact HSJ.out.re⟩
  · have HE : Hid (taE bs = opE bs ∧ taS e bs = e) := by
      have e1 : taE bs = opE bs := by unfold taE; rw [if_neg h1]
      exact ⟨e1, by unfold taS; rw [e1, if_neg h1]⟩
    obtain ⟨x, hx⟩ : ∃ x, x = opE bs := ⟨_, rfl⟩
    rw [← hx] at HO HE h1
    have hne : (x != 0) = true := by simp [h1]
    clear hx h1
    go_enter Try.func29, Try.ntmps29
    go_wp2_with (go_at_call 39; refine (HO.out).mono ?_; rintro r w1 ⟨v1, rfl, hb1, hO1⟩)
    go_ret
    exact ⟨by rw [HE.out.1]; rfl, Only.of hb1 hf, by rw [HE.out.2]; exact HR.out.carry fun k hk hS => ⟨hS, hb1.block k hk⟩⟩
end Go.Proofs.Ytijjcopglbcoiaa
namespace Go.Proofs.Ytijjcopglbcoiaa
open Go.RowKit Seal

/-- How many bytes the first j messages make. -/
def sz (l : List (List Int)) (j : Nat) : Nat := 14 + (flat (l.take j)).length
theorem flat_app : ∀ (a b : List (List Int)), flat (a ++ b) = flat a ++ flat b
  | [], _ => rfl
  | m :: a, b => by simp [flat, flat_app a b]
theorem take_snoc {l : List (List Int)} {j : Nat} (h : j < l.length) : l.take (j + 1) = l.take j ++ [l.getD j []] := by
  rw [List.take_add_one, List.getD_eq_getElem?_getD, List.getElem?_eq_getElem h]; rfl
theorem sz_next {l : List (List Int)} {j : Nat} (h : j < l.length) : sz l (j + 1) = sz l j + 2 + (l.getD j []).length := by
  unfold sz; rw [take_snoc h, flat_app, List.length_append]
  have := flat_len_cons (l.getD j []) []
  simp only [flat, List.length_nil, Nat.add_zero] at this
  show 14 + ((flat (l.take j)).length + (flat [l.getD j []]).length) = _
  have e : (flat [l.getD j []]).length = 2 + (l.getD j []).length := by rw [flat_len_cons]; simp [flat]
  omega
theorem drop_cons {l : List (List Int)} {j : Nat} (h : j < l.length) : l.drop j = l.getD j [] :: l.drop (j + 1) := by
  rw [List.drop_eq_getElem_cons h, List.getD_eq_getElem?_getD, List.getElem?_eq_getElem h]; rfl
theorem wd_more {l : List (List Int)} {j k : Nat} (h : j < l.length) (hs : sz l j + 2 + (l.getD j []).length ≤ 16384) : wd (k + 1) (sz l j) (l.drop j) = l.getD j [] :: wd k (sz l (j + 1)) (l.drop (j + 1)) := by
  rw [drop_cons h]
  conv => lhs; unfold wd
  rw [if_pos hs, sz_next h]
theorem wd_stop {l : List (List Int)} {j k : Nat} (h : j < l.length) (hs : ¬ sz l j + 2 + (l.getD j []).length ≤ 16384) : wd (k + 1) (sz l j) (l.drop j) = [] := by
  rw [drop_cons h]
  unfold wd
  rw [if_neg hs]
theorem wd_nil (k s : Nat) : wd k s [] = [] := by cases k <;> rfl
/-- How the first loop ends. -/
theorem win_end {e : E} {j : Nat} (h : win e = e.sent.take j ++ wd (32 - j) (sz e.sent j) (e.sent.drop j)) (hx : wd (32 - j) (sz e.sent j) (e.sent.drop j) = []) : win e = e.sent.take j := by rw [h, hx, List.append_nil]

/-- The first bytes of a datagram. -/
def hd3 (e : E) : List Int := dg e.ep 4 ++ (dg e.come 4 ++ dg e.got 4)
theorem body_eq (e : E) : body e = (hd3 e ++ dg ((win e).length : Int) 2) ++ flat (win e) := by simp [body, bodyOf, hd3]

set_option maxRecDepth 100000 in
set_option maxHeartbeats 1600000 in
theorem rtick_any (S : Nat → Prop) (v : Value) (e : E) (w : World) (h : RE S w v e) (hfit : Fit e) :
    Calls Try.prog 28 #[v] w fun r w' => ∃ u, r = .returned u ∧ Below w.heap.size w w' ∧ Ls (fun k => w.heap.size ≤ k) w' u [tkL e] := by
  obtain ⟨g, f, vs, vn, rfl, h2, h3, h4, h5, h6⟩ := h
  have hg := (Array.getElem?_eq_some_iff.1 h4).1
  obtain ⟨so, scap, rfl, -⟩ := h5.form
  have hgot := hfit.got
  have H4 : Hid (∀ wx, Below w.heap.size w wx → wx.heap[g]? = some (.cells #[.int .u32 e.ep, .slice so e.sent.length scap, .int .u32 e.got, .int .u32 e.come, vn] 57 (0, 0))) := fun wx hb => by rw [hb.block g hg]; exact h4
  have H5 : Hid (∀ wx, Below w.heap.size w wx → Sp (fun k => S k ∧ f k = 1) (fun k => k < w.heap.size) wx (.slice so e.sent.length scap) e.sent) := fun wx hb => h5.carry (fun k hk h => ⟨h, hb.block k hk⟩) (fun k hk _ => ⟨hk, hb.block k hk⟩)
  have HF : Hid (Fit e) := hfit
  clear h5 h6 hfit
  obtain ⟨c0, c1, c2, c3, c4, -⟩ := end_cells h4
  go_enter Try.func28, Try.ntmps28
  go_wp2
  go_loopw [3, 4] (fun n s wr => wr = w ∧ ∃ j : Nat, j ≤ e.sent.length ∧ j ≤ 32 ∧ n = .int .i64 j ∧ s = .int .i64 (sz e.sent j : Nat) ∧ sz e.sent j ≤ 16384 ∧ win e = e.sent.take j ++ wd (32 - j) (sz e.sent j) (e.sent.drop j)) (fun n _ _ => 32 - (intOf n).toNat)
  case atStart => exact ⟨rfl, 0, by omega, by omega, rfl, by simp [sz, flat], by simp [sz, flat], by simp [win, sz, flat]⟩
  case round =>
    obtain ⟨hw, j, hj, hj32, rfl, rfl, hsz, hwin⟩ := hrel
    have HWin : Hid (win e = e.sent.take j ++ wd (32 - j) (sz e.sent j) (e.sent.drop j)) := hwin
    have HNx : Hid (j < e.sent.length → sz e.sent (j + 1) = sz e.sent j + 2 + (e.sent.getD j []).length) := sz_next
    have HWr : Hid (wr = w) := hw
    clear hwin
    rw [hw]
    clear hw
    generalize hs : sz e.sent j = s at *
    have HSz : Hid (sz e.sent j = s) := hs
    clear hs
    obtain ⟨m, hm⟩ : ∃ m, m = (e.sent.getD j []).length := ⟨_, rfl⟩
    have HM : Hid (m = (e.sent.getD j []).length) := hm
    rw [← hm] at HNx
    have hm8 : j < e.sent.length → m ≤ 8192 := fun h => by rw [hm]; exact HF.out.lens _ (getD_mem h)
    have hcell : j < e.sent.length → ∃ b o ua uc, so = some ⟨b, o, none⟩ ∧ w.cell? ⟨b, o + j, none⟩ = some (.slice ua m uc) := fun h => by
      obtain ⟨_, _, e9, -, h9⟩ := (H5.out w (Below.refl _ _)).form
      obtain ⟨b, o, e8, h7⟩ := h9 (fun e => by rw [e] at h; simp at h)
      obtain ⟨um, hum, hus⟩ := h7 j h
      simp only [Value.slice.injEq] at e9
      obtain ⟨ua, uc, rfl, -⟩ := hus
      exact ⟨b, o, ua, uc, e9.1.trans e8, by rw [hm]; exact hum⟩
    have HCell : Hid (j < e.sent.length → ∃ b o ua uc, so = some ⟨b, o, none⟩ ∧ w.cell? ⟨b, o + j, none⟩ = some (.slice ua m uc)) := hcell
    have HM8 : Hid (j < e.sent.length → m ≤ 8192) := hm8
    clear hm hm8 hcell
    go_upto_region 3 with fail
    go_cut [33] (fun s' wx => s' = .bool (decide (j < e.sent.length ∧ j < 32 ∧ s + 2 + m ≤ 16384)) ∧ wx = w)
    case first =>
      by_cases h1 : j < e.sent.length
      · obtain ⟨b, o, ua, uc, rfl, hcl⟩ := HCell.out h1
        have hm8 := HM8.out h1
        by_cases h2 : j < 32
        · go_wp2_with fail
          go_meet
          case rel => exact ⟨by simp [h1, h2]; omega, rfl⟩
        · go_wp2_with fail
          go_meet
          case rel => exact ⟨by simp [h2], rfl⟩
      · go_wp2_with fail
        go_meet
        case rel => exact ⟨by simp [h1], rfl⟩
    case rest =>
      obtain ⟨rfl, hwc⟩ := hcut
      rw [hwc]
      clear hwc
      by_cases hC : j < e.sent.length ∧ j < 32 ∧ s + 2 + m ≤ 16384
      · have hcf : decide (j < e.sent.length ∧ j < 32 ∧ s + 2 + m ≤ 16384) = true := by simp only [decide_eq_true_eq]; exact hC
        rw [hcf]
        obtain ⟨h1, h2, h3'⟩ := hC
        obtain ⟨b, o, ua, uc, rfl, hcl⟩ := HCell.out h1
        have HN1 : Hid (sz e.sent (j + 1) = s + 2 + m) := HNx.out h1
        have HW2 : Hid (win e = e.sent.take (j + 1) ++ wd (32 - (j + 1)) (sz e.sent (j + 1)) (e.sent.drop (j + 1))) := by
          show _ = _
          rw [HWin.out, show 32 - j = (31 - j) + 1 by omega, ← HSz.out, wd_more h1 (by rw [HSz.out, ← HM.out]; exact h3'), take_snoc h1, show 32 - (j + 1) = 31 - j by omega]
          simp
        clear hcf HWin HNx HSz HCell HM8
        go_wp2
        go_roundw
        case rel =>
          exact ⟨by first | rfl | trivial, j + 1, by omega, by omega, by go_num, by rw [HN1.out]; go_num, by rw [HN1.out]; exact h3', HW2.out⟩
        case measure => simp [intOf]; omega
      · have hcf : decide (j < e.sent.length ∧ j < 32 ∧ s + 2 + m ≤ 16384) = false := by simp only [decide_eq_false_iff_not]; exact hC
        rw [hcf]
        have HWE : Hid (win e = e.sent.take j) := by
          refine win_end (j := j) (by rw [HSz.out]; exact HWin.out) ?_
          by_cases h1 : j < e.sent.length
          · by_cases h2 : j < 32
            · rw [show 32 - j = (31 - j) + 1 by omega]
              exact wd_stop h1 (by rw [HSz.out, ← HM.out]; omega)
            · rw [show 32 - j = 0 by omega]; rfl
          · rw [List.drop_of_length_le (by omega), wd_nil]
        clear hcf hC HWin HNx HSz HCell HM8 HM
        have HN : Hid (∀ (n : Int) (k : Nat) (xs : List Int) (vx : Value) (wx : World), k ≤ 4 → Owns w.heap.size wx vx xs → xs.length ≤ 100000 → Below w.heap.size w wx → Calls Try.prog 37 #[vx, .int .u32 n, .int .i64 k] wx fun r w' => ∃ v', r = .returned v' ∧ Below w.heap.size w w' ∧ Owns w.heap.size w' v' (xs ++ dg n k)) := by
          show ∀ _, _
          intro n k xs vx wx hk ho hl hb
          refine (rnum_any w.heap.size k n vx xs wx hk ho hl hb.size).mono ?_
          rintro r w' ⟨v', rfl, X⟩
          exact ⟨v', rfl, hb.trans (X.below ho hb.size), X.own⟩
        go_upto_region 6 with fail
        refine wp_region_noPanic ?_
        refine wp_region_held_drew (S := fun wx => Below w.heap.size w wx) (by kernel_rfl) ((Below.refl _ _).drew) (fun hHeld => ?_)
        refine wpAnyH_take (i := 0) (v := ?_) rfl (by kernel_rfl) (by kernel_rfl) (by kernel_rfl) (fun _ _ _ h => h) (Or.inl ⟨by rfl, ?_⟩) hHeld ?_
        rotate_left
        · intro w hSw
          go_simp
          first | done | with_reducible rfl
        simp only [Act.put, List.getElem_toArray, List.getElem_cons_zero, List.setIfInBounds_toArray, List.set_cons_zero, List.set_cons_succ]
        refine wpAnyH_take (i := 1) (v := ?_) rfl (by kernel_rfl) (by kernel_rfl) (by kernel_rfl) (fun _ _ _ h => h) (Or.inl ⟨by rfl, ?_⟩) hHeld ?_
        rotate_left
        · intro w hSw
          go_simp
          first | done | with_reducible rfl
        simp only [Act.put, List.getElem_toArray, List.getElem_cons_succ, List.getElem_cons_zero, List.setIfInBounds_toArray, List.set_cons_zero, List.set_cons_succ]
        refine wpAnyH_take (i := 2) (v := ?_) rfl (by kernel_rfl) (by kernel_rfl) (by kernel_rfl) (fun _ _ _ h => h) (Or.inl ⟨by rfl, ?_⟩) hHeld ?_
        rotate_left
        · intro w hSw
          go_simp
          first | done | with_reducible rfl
        simp only [Act.put, List.getElem_toArray, List.getElem_cons_succ, List.getElem_cons_zero, List.setIfInBounds_toArray, List.set_cons_zero, List.set_cons_succ]
        refine wpAnyH_take (i := 3) (v := ?_) rfl (by kernel_rfl) (by kernel_rfl) (by kernel_rfl) (fun _ _ _ h => h) (Or.inl ⟨by rfl, ?_⟩) hHeld ?_
        rotate_left
        · intro w hSw
          obtain ⟨x0, x1, x2, x3, x4, -⟩ := end_cells (H4.out _ hSw)
          go_simp
          first | done | with_reducible rfl
        simp only [Act.put, List.getElem_toArray, List.getElem_cons_succ, List.getElem_cons_zero, List.setIfInBounds_toArray, List.set_cons_zero, List.set_cons_succ]
        refine wpAnyH_take (i := 5) (v := ?_) rfl (by kernel_rfl) (by kernel_rfl) (by kernel_rfl) (fun _ _ _ h => h) (Or.inl ⟨by rfl, ?_⟩) hHeld ?_
        rotate_left
        · intro w hSw
          go_simp
          first | done | with_reducible rfl
        simp only [Act.put, List.getElem_toArray, List.getElem_cons_succ, List.getElem_cons_zero, List.setIfInBounds_toArray, List.set_cons_zero, List.set_cons_succ]
        refine wpAnyH_take (i := 6) (v := ?_) rfl (by kernel_rfl) (by kernel_rfl) (by kernel_rfl) (fun _ _ _ h => h) (Or.inl ⟨by rfl, ?_⟩) hHeld ?_
        rotate_left
        · intro w hSw
          go_simp
          first | done | with_reducible rfl
        simp only [Act.put, List.getElem_toArray, List.getElem_cons_succ, List.getElem_cons_zero, List.setIfInBounds_toArray, List.set_cons_zero, List.set_cons_succ]
        refine wpAnyH_take (i := 7) (v := ?_) rfl (by kernel_rfl) (by kernel_rfl) (by kernel_rfl) (fun _ _ _ h => h) (Or.inl ⟨by rfl, ?_⟩) hHeld ?_
        rotate_left
        · intro w hSw
          go_simp
          first | done | with_reducible rfl
        simp only [Act.put, List.getElem_toArray, List.getElem_cons_succ, List.getElem_cons_zero, List.setIfInBounds_toArray, List.set_cons_zero, List.set_cons_succ]
        refine wpAnyH_take (i := 8) (v := ?_) rfl (by kernel_rfl) (by kernel_rfl) (by kernel_rfl) (fun _ _ _ h => h) (Or.inl ⟨by rfl, ?_⟩) hHeld ?_
        rotate_left
        · intro w hSw
          obtain ⟨x0, x1, x2, x3, x4, -⟩ := end_cells (H4.out _ hSw)
          go_simp
          first | done | with_reducible rfl
        simp only [Act.put, List.getElem_toArray, List.getElem_cons_succ, List.getElem_cons_zero, List.setIfInBounds_toArray, List.set_cons_zero, List.set_cons_succ]
        refine wpAnyH_take (i := 10) (v := ?_) rfl (by kernel_rfl) (by kernel_rfl) (by kernel_rfl) (fun _ _ _ h => h) (Or.inl ⟨by rfl, ?_⟩) hHeld ?_
        rotate_left
        · intro w hSw
          go_simp
          first | done | with_reducible rfl
        simp only [Act.put, List.getElem_toArray, List.getElem_cons_succ, List.getElem_cons_zero, List.setIfInBounds_toArray, List.set_cons_zero, List.set_cons_succ]
        refine wpAnyH_take (i := 11) (v := ?_) rfl (by kernel_rfl) (by kernel_rfl) (by kernel_rfl) (fun _ _ _ h => h) (Or.inl ⟨by rfl, ?_⟩) hHeld ?_
        rotate_left
        · intro w hSw
          go_simp
          first | done | with_reducible rfl
        simp only [Act.put, List.getElem_toArray, List.getElem_cons_succ, List.getElem_cons_zero, List.setIfInBounds_toArray, List.set_cons_zero, List.set_cons_succ]
        refine wpAnyH_take (i := 12) (v := ?_) rfl (by kernel_rfl) (by kernel_rfl) (by kernel_rfl) (fun _ _ _ h => h) (Or.inl ⟨by rfl, ?_⟩) hHeld ?_
        rotate_left
        · intro w hSw
          go_simp
          first | done | with_reducible rfl
        simp only [Act.put, List.getElem_toArray, List.getElem_cons_succ, List.getElem_cons_zero, List.setIfInBounds_toArray, List.set_cons_zero, List.set_cons_succ]
        refine wpAnyH_take (i := 13) (v := ?_) rfl (by kernel_rfl) (by kernel_rfl) (by kernel_rfl) (fun _ _ _ h => h) (Or.inl ⟨by rfl, ?_⟩) hHeld ?_
        rotate_left
        · intro w hSw
          obtain ⟨x0, x1, x2, x3, x4, -⟩ := end_cells (H4.out _ hSw)
          go_simp
          first | done | with_reducible rfl
        simp only [Act.put, List.getElem_toArray, List.getElem_cons_succ, List.getElem_cons_zero, List.setIfInBounds_toArray, List.set_cons_zero, List.set_cons_succ]
        refine wpAnyH_ready (rs := [4]) (by kernel_rfl) (by simp) ?_
        refine AllReadyH.cons rfl (fun K hK => ?_) AllReadyH.nil
        go_simp
        go_fit (HN.out e.ep 4 [] nilS _ (by omega) Owns.isNil (by simp) (Below.refl _ _).drew)
        rintro e w1 ⟨v1, rfl, hb1, ho1⟩
        go_simp
        refine hK.out _ _ (hb1) (fun hHeld => ?_)
        clear hK K
        refine wpAnyH_ready (rs := [9]) (by kernel_rfl) (by simp) ?_
        refine AllReadyH.cons rfl (fun K hK => ?_) AllReadyH.nil
        go_simp
        go_fit (HN.out e.come 4 _ v1 w1 (by omega) ho1 (by simp [dg_len]) hb1)
        rintro e w2 ⟨v2, rfl, hb2, ho2⟩
        go_simp
        refine hK.out _ _ (hb2) (fun hHeld => ?_)
        clear hK K
        refine wpAnyH_ready (rs := [14]) (by kernel_rfl) (by simp) ?_
        refine AllReadyH.cons rfl (fun K hK => ?_) AllReadyH.nil
        go_simp
        go_fit (HN.out e.got 4 _ v2 w2 (by omega) ho2 (by simp [dg_len]) hb2)
        rintro e w3 ⟨v3, rfl, hb3, ho3⟩
        go_simp
        refine hK.out _ _ (hb3) (fun hHeld => ?_)
        clear hK K
        refine wpAnyH_take (i := 15) (v := ?_) rfl (by kernel_rfl) (by kernel_rfl) (by kernel_rfl) (fun _ _ _ h => h) (Or.inl ⟨by rfl, ?_⟩) hHeld ?_
        rotate_left
        · intro w hSw
          go_simp
          first | done | with_reducible rfl
        simp only [Act.put, List.getElem_toArray, List.getElem_cons_succ, List.getElem_cons_zero, List.setIfInBounds_toArray, List.set_cons_zero, List.set_cons_succ]
        refine wpAnyH_done (by kernel_rfl) ?_ _
        refine NoPanic.normal ?_
        have HO3 : Hid (Owns w.heap.size w3 v3 (hd3 e)) := by show Owns _ _ _ _; unfold hd3; rw [← List.append_assoc]; exact ho3
        have HB3 : Hid (Below w.heap.size w w3) := hb3
        clear hb1 ho1 hb2 ho2 hb3 ho3
        have HN7 : Hid (Calls Try.prog 37 #[v3, .int .u32 (j : Nat), .int .i64 2] w3 fun r w' => ∃ v', r = .returned v' ∧ Below w.heap.size w w' ∧ Owns w.heap.size w' v' (hd3 e ++ dg j 2)) := HN.out j 2 _ v3 w3 (by omega) HO3.out (by simp [hd3, dg_len]) HB3.out
        have HSZ : Hid (∀ i, i ≤ j → (hd3 e ++ dg j 2 ++ flat ((e.sent.take j).take i)).length ≤ 16384) := by
          show ∀ _, _
          intro i hi
          have hb := body_len e
          rw [body_eq, HWE.out, List.length_append] at hb
          have hf : (flat ((e.sent.take j).take i)).length ≤ (flat (e.sent.take j)).length := by
            conv => rhs; rw [← List.take_append_drop i (e.sent.take j), flat_app, List.length_append]
            omega
          have hl : (dg (((e.sent.take j).length : Nat) : Int) 2).length = (dg (j : Int) 2).length := by rw [dg_len, dg_len]
          rw [List.length_append] at hb
          rw [List.length_append, List.length_append]
          omega
        clear HO3
        go_wp2_with (go_at_call 37; refine (HN7.out).mono ?_; rintro r w4 ⟨v4, rfl, hb4, ho4⟩)
        go_loopw [5, 6] (fun b i wr => ∃ k : Nat, k ≤ j ∧ i = .int .i64 k ∧ Below w.heap.size w wr ∧ Owns w.heap.size wr b (hd3 e ++ dg j 2 ++ flat ((e.sent.take j).take k))) (fun _ i _ => j - (intOf i).toNat)
        case atStart => exact ⟨0, by omega, rfl, hb4, by simpa [flat] using ho4⟩
        case round =>
          obtain ⟨k, hk, rfl, hlow, hown⟩ := hrel
          by_cases hlt : k < j
          · have HLow : Hid (Below w.heap.size w wr) := hlow
            have HOw : Hid (Owns w.heap.size wr u5 (hd3 e ++ dg j 2 ++ flat ((e.sent.take j).take k))) := hown
            have hkl : k < e.sent.length := by omega
            obtain ⟨_, _, e9, -, h9⟩ := (H5.out wr hlow).form
            obtain ⟨b, o, e8, -⟩ := h9 (fun e => by rw [e] at hkl; simp at hkl)
            simp only [Value.slice.injEq] at e9
            have e7 : so = some ⟨b, o, none⟩ := e9.1.trans e8
            clear e9 h9 e8
            subst e7
            obtain ⟨m, hm⟩ : ∃ m, m = e.sent.getD k [] := ⟨_, rfl⟩
            have hm8 : m.length ≤ 8192 := by rw [hm]; exact HF.out.lens _ (getD_mem hkl)
            have HNX : Hid (flat ((e.sent.take j).take (k + 1)) = flat ((e.sent.take j).take k) ++ (dg (m.length : Int) 2 ++ m)) := by
              show _ = _
              rw [take_snoc (by rw [List.length_take]; omega), flat_app]
              have : (e.sent.take j).getD k [] = m := by
                rw [hm]; simp only [List.getD_eq_getElem?_getD, List.getElem?_take, if_pos hlt]
              rw [this]; simp [flat]
            have HEl : Hid (∀ wx, Below w.heap.size w wx → ∃ ua uc, wx.cell? ⟨b, o + k, none⟩ = some (.slice ua m.length uc) ∧ Sl w.heap.size wx (.slice ua m.length uc) m) := by
              show ∀ _, _
              intro wx hb
              obtain ⟨_, _, e9, -, h9⟩ := (H5.out wx hb).form
              obtain ⟨b', o', e8, h7⟩ := h9 (fun e => by rw [e] at hkl; simp at hkl)
              simp only [Value.slice.injEq] at e9
              have e7 := e9.1.trans e8
              simp only [Option.some.injEq, Addr.mk.injEq] at e7
              obtain ⟨rfl, rfl, -⟩ := e7
              obtain ⟨u, hu, hs⟩ := h7 k hkl
              rw [← hm] at hs
              have hs2 : Sl w.heap.size wx u m := hs
              obtain ⟨ua, uc, rfl, -⟩ := hs
              exact ⟨ua, uc, hu, hs2⟩
            have hSk := HSZ.out k hk
            have HSk : Hid ((hd3 e ++ dg j 2 ++ flat ((e.sent.take j).take k)).length ≤ 16384) := hSk
            obtain ⟨ua, uc, hcl, -⟩ := HEl.out wr hlow
            obtain ⟨x0, x1, x2, x3, x4, -⟩ := end_cells (H4.out wr hlow)
            clear hm hlow hown hSk
            go_wp2_with (first
              | (go_at_call 37; refine (HN.out m.length 2 _ u5 wr (by omega) HOw.out (by have := HSk.out; omega) HLow.out).mono ?_; rintro r w5 ⟨v5, rfl, hb5, ho5⟩
                 have HB5 : Hid (Below w.heap.size w w5) := hb5
                 have HO5 : Hid (Owns w.heap.size w5 v5 (hd3 e ++ dg j 2 ++ flat ((e.sent.take j).take k) ++ dg (m.length : Int) 2)) := ho5
                 obtain ⟨ua2, uc2, hcl2, hsl2⟩ := HEl.out w5 hb5
                 have HS2 : Hid (Sl w.heap.size w5 (.slice ua2 m.length uc2) m) := hsl2
                 obtain ⟨y0, y1, y2, y3, y4, -⟩ := end_cells (H4.out w5 hb5)
                 clear hb5 ho5 hsl2)
              | (at_builtin; refine app22 (.tmp 82) (.tmp 89) rfl rfl rfl rfl HO5.out HS2.out HB5.out.size (by have := HSk.out; simp only [List.length_append, dg_len] at this ⊢; omega) ?_; intro v6 w6 X6))
            have HB6 : Hid (Below w.heap.size w w6) := HB5.out.trans (X6.below HO5.out HB5.out.size)
            have HO6 : Hid (Owns w.heap.size w6 v6 (hd3 e ++ dg j 2 ++ flat ((e.sent.take j).take (k + 1)))) := by
              show Owns _ _ _ _
              rw [HNX.out]
              have := X6.own
              simp only [List.append_assoc] at this ⊢
              exact this
            clear X6
            go_roundw
            case rel => exact ⟨k + 1, by omega, by go_num, HB6.out, HO6.out⟩
            case measure => simp [intOf]; omega
          · obtain rfl : k = j := by omega
            have hbody : hd3 e ++ dg k 2 ++ flat ((e.sent.take k).take k) = body e := by
              rw [body_eq, HWE.out, List.take_take, Nat.min_self, List.length_take, Nat.min_eq_left (by omega)]
            rw [hbody] at hown
            have hB : IsB (body e) := bodyOf_isB (win_allB ((H5.out w (Below.refl _ _)).allB))
            have hS := Sl.own hown (by have := body_len e; omega) hB
            have HSL := rseal_any wr.heap.size u5 (body e) wr hS (Nat.le_refl _)
            have hbl := body_len e
            rw [show seE (body e) = 0 from if_neg (by omega), show seL (body e) = tkL e from if_neg (by omega)] at HSL
            have HSL' : Hid (Calls Try.prog 38 #[u5] wr fun r w' => ∃ v', r = .returned (.tuple #[v', .int .i64 0]) ∧ Below wr.heap.size wr w' ∧ Owns wr.heap.size w' v' (tkL e)) := HSL
            have HLow : Hid (Below w.heap.size w wr) := hlow
            have HB9 : Hid (IsB (tkL e) ∧ (tkL e).length ≤ 16388) := ⟨dat_isB hB, tkL_len e⟩
            clear HSL hown hlow hS hB hbody HSZ HN HN7
            go_wp2_with (go_at_call 38; refine (HSL'.out).mono ?_; rintro r w5 ⟨v5, rfl, hb5, ho5⟩; obtain ⟨a5, c5, rfl, -⟩ := Sl.own ho5 (by have := HB9.out.2; omega) HB9.out.1)
            go_ret
            have hb6 : Below w.heap.size w w5 := HLow.out.trans (hb5.mono HLow.out.size)
            have hs5 : SlC (fun k => w.heap.size ≤ k) w5 (.slice a5 (tkL e).length c5) (tkL e) := SlC.own ho5 (by have := HB9.out.2; omega) HB9.out.1 fun k h1 _ => Nat.le_trans HLow.out.size h1
            refine ⟨_, rfl, hb6.trans (((Below.refl _ _).alloc (Nat.le_refl _) _).mono hb6.size), ?_⟩
            refine ⟨_, 1, rfl, Nat.le_refl _, by simp, (fun h => by cases h), fun _ => ⟨w5.heap.size, 0, hb6.size, rfl, fun j hj => ?_⟩⟩
            have hj0 : j = 0 := by simpa using hj
            subst hj0
            exact ⟨_, by rw [cell_of_row _ _ _ _ _ _ (heap_alloc_new _ _)]; rfl, hs5.carry fun k hk h => ⟨h, heap_alloc_old _ _ hk⟩⟩
end Go.Proofs.Ytijjcopglbcoiaa
