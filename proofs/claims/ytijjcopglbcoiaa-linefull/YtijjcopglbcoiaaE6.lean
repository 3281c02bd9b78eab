/-
  Proved here: the document's Take answers and makes what 'taE', 'taS' say. Conditions: all blocks to come are the end's; its numbers are below 2 to 31.
-/
import Derived.Test.YtijjcopglbcoiaaE5
import Derived.BigQuiet
namespace Go.Proofs.Ytijjcopglbcoiaa
open Go.RowKit Seal

theorem fld_nat {bs : List Int} (hB : IsB bs) (a : Nat) : ∃ n : Nat, fld bs a 4 = n ∧ n < 4294967296 := by
  have h := fld_bd hB a 4
  refine ⟨(fld bs a 4).toNat, by have := h.1; omega, ?_⟩
  have e : (2 : Int) ^ (8 * 4) = 4294967296 := by decide
  have := h.2
  omega

theorem sp_len : ∀ {n : Nat} {r : List Int} {l : List (List Int)}, sp n r = some l → l.length = n
  | 0, r, l, h => by
    unfold sp at h
    split at h
    · cases h; rfl
    · cases h
  | n + 1, r, l, h => by
    unfold sp at h
    split at h
    · cases h
    · split at h
      · cases h
      · obtain ⟨x, hx, rfl⟩ := Option.map_eq_some_iff.1 h
        rw [List.length_cons, sp_len hx]
theorem spl_le {d : List Int} {l : List (List Int)} (h : spl d = some l) : l.length ≤ 32 := by
  unfold spl at h
  split at h
  · cases h
  · have := sp_len h
    omega

set_option maxHeartbeats 400000 in
theorem rreset_st {S : Nat → Prop} {f : Nat → Nat} {g : Nat} {w0 w : World} {e : E} {vs vn v1 u2 : Value} {d : List Int} {l : List (List Int)} (p : Nat) (h : St6 S f g w0 w e vs vn v1 u2 d l) :
    Calls Try.prog 30 #[.pointer (some ⟨g, 0, none⟩), .int .u32 (p : Nat)] w fun r w' => r = .returned (.tuple #[]) ∧ St6 S f g w0 w' (E.mk0 p) nilS nilS v1 u2 d l := by
  obtain ⟨c0, c1, c2, c3, c4, z0, z1, z2, z3, z4⟩ := end_cells h.blk
  have HS := h.reset p
  have HS' : Hid _ := HS
  clear h HS
  go_enter Try.func30, Try.ntmps30
  go_wp2
  go_end0
  exact ⟨rfl, HS'.out⟩

set_option maxRecDepth 100000 in
set_option maxHeartbeats 3200000 in
theorem rtake_any (S : Nat → Prop) (v : Value) (e : E) (B : Nat) (u : Value) (bs : List Int) (w : World) (h : RE S w v e) (hf : Fresh S w) (hs : Sl B w u bs) (hB : B ≤ w.heap.size) (hfit : Fit e) :
    Calls Try.prog 29 #[v, u] w fun r w' => r = .returned (.int .i64 (taE bs)) ∧ Only S w w' ∧ RE S w' v (taS e bs) := by
  have hlen := hs.len
  have hI := hs.isB
  have HO : Hid (Calls Try.prog 39 #[u] w fun e w' => ∃ v', e = .returned (.tuple #[v', .int .i64 (opE bs)]) ∧ Below w.heap.size w w' ∧ Owns w.heap.size w' v' (opL bs)) := ropen_any B u bs w hs hB
  have HR : Hid (RE S w v e) := h
  have hdl : (opL bs).length ≤ 140737488355328 := by
    have : (opL bs).length ≤ bs.length := by
      unfold opL; split
      · rw [List.length_take]; omega
      · simp
    omega
  have hdI : IsB (opL bs) := by
    unfold opL; split
    · exact hI.take _
    · exact IsB.nil
  obtain ⟨ao, cap, rfl, -⟩ := hs
  obtain ⟨g0, _, _, _, hv, -⟩ := h
  subst hv
  obtain ⟨d, hd⟩ : ∃ d, d = opL bs := ⟨_, rfl⟩
  rw [← hd] at HO hdl hdI
  have HD : Hid (d = opL bs) := hd
  clear hd hI
  by_cases h1 : opE bs = 0
  · rw [h1] at HO
    by_cases h14 : d.length < 14
    · have HE : Hid (taE bs = 51 ∧ taS e bs = e) := by
        have := HD.out
        show _ ∧ _
        have e1 : taE bs = 51 := by unfold taE; rw [if_pos h1, ← this, if_pos h14]
        exact ⟨e1, by unfold taS; rw [e1]; rfl⟩
      have HH : Hid (d.length < 14) := h14
      clear h1 h14
      go_enter Try.func29, Try.ntmps29
      go_upto_region 2 with (go_at_call 39; refine (HO.out).mono ?_; rintro r w1 ⟨v1, rfl, hb1, hO1⟩)
      obtain ⟨a1, c1, rfl, -⟩ := Sl.own hO1 hdl hdI
      have HB1 : Hid (Below w.heap.size w w1) := hb1
      have hx : decide ((d.length : Int) < 14) = true := by have := HH.out; simp; omega
      clear hb1 hO1 HO
      go_wp2
      go_ret
      exact ⟨by rw [HE.out.1]; rfl, Only.of HB1.out hf, by rw [HE.out.2]; exact HR.out.carry fun k hk hS => ⟨hS, HB1.out.block k hk⟩⟩
    · obtain ⟨p, hp, hp32⟩ := fld_nat hdI 0
      obtain ⟨c, hc, hc32⟩ := fld_nat hdI 4
      obtain ⟨q, hq, hq32⟩ := fld_nat hdI 8
      have HP : Hid (fld d 0 4 = p ∧ fld d 4 4 = c ∧ fld d 8 4 = q) := ⟨hp, hc, hq⟩
      have HH : Hid (14 ≤ d.length) := by show _ ≤ _; omega
      have HT : Hid (taE bs = if spl d = none then 70 else 0) := by
        have := HD.out
        show _ = _
        unfold taE; rw [if_pos h1, ← this, if_neg h14]
      have HTS : Hid (taE bs = 0 → taS e bs = hear e p c q ((spl d).getD [])) := by
        have := HD.out
        show _ → _
        intro h0
        unfold taS
        rw [if_pos h0, ← this, hp, hc, hq]
        simp only [Int.toNat_natCast]
      have hx : decide ((d.length : Int) < 14) = false := by have := HH.out; simp; omega
      clear h1 h14 hp hc hq
      go_enter Try.func29, Try.ntmps29
      go_upto_region 2 with (go_at_call 39; refine (HO.out).mono ?_; rintro r w1 ⟨v1, rfl, hb1, hO1⟩)
      have hd1 : SlC (fun k => w.heap.size ≤ k ∧ k < w1.heap.size) w1 v1 d := SlC.own hO1 hdl hdI fun k h1 h2 => ⟨h1, h2⟩
      have HSP : Hid (Calls Try.prog 40 #[v1] w1 fun r w' => ∃ u, r = .returned (.tuple #[u, .bool (spl d).isSome]) ∧ Below w1.heap.size w1 w' ∧ ∀ l, spl d = some l → Sp (fun k => w1.heap.size ≤ k) (fun k => (w.heap.size ≤ k ∧ k < w1.heap.size) ∧ k < w1.heap.size) w' u l) := rsplit_any _ v1 d w1 hd1 HH.out
      have HD1 : Hid (SlC (fun k => w.heap.size ≤ k ∧ k < w1.heap.size) w1 v1 d) := hd1
      obtain ⟨a1, c1, rfl, -⟩ := hd1
      have HB1 : Hid (Below w.heap.size w w1) := hb1
      clear hb1 hO1 HO
      cases hspl : spl d with
      | none =>
        have HE : Hid (taE bs = 70 ∧ taS e bs = e) := by
          have e1 : taE bs = 70 := by rw [HT.out, hspl]; simp
          exact ⟨e1, by unfold taS; rw [e1]; rfl⟩
        have HSP' : Hid (Calls Try.prog 40 #[.slice a1 d.length c1] w1 fun r w' => ∃ u, r = .returned (.tuple #[u, .bool false]) ∧ Below w1.heap.size w1 w') := by
          refine (HSP.out).mono ?_
          rintro r w' ⟨u, rfl, hb, _⟩
          exact ⟨u, by rw [hspl]; rfl, hb⟩
        have hnot : ∀ (x : Bool) (w : World), (Op.unary .not (.bool x)).run Try.prog w = .ok (.bool (!x)) w := fun _ _ => rfl
        clear HT HTS HSP hspl HD1
        go_wp2_with (go_at_call 40; refine (HSP'.out).mono ?_; rintro r w2 ⟨u2, rfl, hb2⟩)
        go_ret
        have hb : Below w.heap.size w w2 := HB1.out.trans (hb2.mono HB1.out.size)
        exact ⟨by rw [HE.out.1]; rfl, Only.of hb hf, by rw [HE.out.2]; exact HR.out.carry fun k hk hS => ⟨hS, hb.block k hk⟩⟩
      | some l =>
        have e1 : taE bs = 0 := by rw [HT.out, hspl]; simp
        have HE : Hid (taE bs = 0 ∧ taS e bs = hear e p c q l) := ⟨e1, by rw [HTS.out e1, hspl]; rfl⟩
        have hll : l.length ≤ 32 := spl_le hspl
        have HLL : Hid (l.length ≤ 32) := hll
        have HSP' : Hid (Calls Try.prog 40 #[.slice a1 d.length c1] w1 fun r w' => ∃ u, r = .returned (.tuple #[u, .bool true]) ∧ Below w1.heap.size w1 w' ∧ Sp (fun k => w1.heap.size ≤ k) (fun k => (w.heap.size ≤ k ∧ k < w1.heap.size) ∧ k < w1.heap.size) w' u l) := by
          refine (HSP.out).mono ?_
          rintro r w' ⟨u, rfl, hb, hl⟩
          exact ⟨u, by rw [hspl]; rfl, hb, hl l hspl⟩
        have hnot : ∀ (x : Bool) (w : World), (Op.unary .not (.bool x)).run Try.prog w = .ok (.bool (!x)) w := fun _ _ => rfl
        clear HT HTS HSP hspl e1 hll
        go_upto_region 7 with (go_at_call 40; refine (HSP'.out).mono ?_; rintro r w2 ⟨u2, rfl, hb2, hl2⟩)
        obtain ⟨f, g, vs, vn, hg, st⟩ := St6.start HR.out hf HB1.out HD1.out hb2 hl2
        simp only [Value.pointer.injEq, Option.some.injEq, Addr.mk.injEq, and_true] at hg
        subst hg
        obtain ⟨z1, z2, rfl, -⟩ := st.ms.form
        have HST : Hid (St6 S f g0 w w2 e vs vn (.slice a1 d.length c1) (.slice z1 l.length z2) d l) := st
        have HRD : Hid (∀ (wx : World) (e' : E) (vs' vn' : Value) (a n : Nat), St6 S f g0 w wx e' vs' vn' (.slice a1 d.length c1) (.slice z1 l.length z2) d l → a + 4 ≤ d.length → fld d a 4 = n → Calls Try.prog 41 #[.slice a1 d.length c1, .int .i64 a, .int .i64 4] wx fun r w' => r = .returned (.int .u32 (n : Nat)) ∧ w' = wx) := by
          show ∀ _, _
          intro wx e' vs' vn' a n hst ha hn
          have := rread_any wx.heap.size a 4 _ d wx hst.bytes.sl ha (by omega)
          rw [hn] at this
          exact this
        have HR0 : Hid (Calls Try.prog 41 #[.slice a1 d.length c1, .int .i64 0, .int .i64 4] w2 fun r w' => r = .returned (.int .u32 (p : Nat)) ∧ w' = w2) := HRD.out w2 e vs vn 0 p HST.out (by have := HH.out; omega) HP.out.1
        obtain ⟨x0, x1, x2, x3, x4, y0, y1, y2, y3, y4⟩ := end_cells st.blk
        clear hb2 hl2 HSP' st HD1
        by_cases hlow : p < e.ep
        · have HE2 : Hid (hear e p c q l = e) := by show _ = _; unfold hear; rw [if_pos hlow]
          go_wp2_with (go_at_call 41; refine (HR0.out).mono ?_; rintro r w9 ⟨rfl, hw9⟩; rw [hw9]; clear hw9 w9)
          go_ret
          exact ⟨by rw [HE.out.1]; rfl, HST.out.only, by rw [HE.out.2, HE2.out]; exact HST.out.re⟩
        · have HE2 : Hid (hear e p c q l = ad (gt (rs e p) c) q l) := by show _ = _; unfold hear; rw [if_neg hlow]
          go_upto_if 44 with (go_at_call 41; refine (HR0.out).mono ?_; rintro r w9 ⟨rfl, hw9⟩; rw [hw9]; clear hw9 w9)
          go_cut [] (fun wc => ∃ vs' vn', St6 S f g0 w wc (rs e p) vs' vn' (.slice a1 d.length c1) (.slice z1 l.length z2) d l)
          case first =>
            by_cases hgt : e.ep < p
            · go_wp2_with (go_at_call 30; refine (rreset_st p HST.out).mono ?_; rintro r w3 ⟨rfl, h3⟩)
              go_meet
              case rel => exact ⟨nilS, nilS, by rw [show rs e p = E.mk0 p from if_pos hgt]; exact h3⟩
            · go_wp2
              go_meet
              case rel => exact ⟨vs, vn, by rw [show rs e p = e from if_neg hgt]; exact HST.out⟩
          case rest =>
            obtain ⟨vs', vn', st⟩ := hcut
            have hfit1 : Fit (rs e p) := by
              unfold rs; split
              · exact ⟨hp32, by simp [E.mk0], by simp [E.mk0], by simp [E.mk0], by simp [E.mk0]⟩
              · exact hfit
            have HER : Hid (hear e p c q l = ad (gt (rs e p) c) q l) := HE2.out
            generalize rs e p = e1 at *
            obtain ⟨t1, t2, rfl, -⟩ := st.sent.form
            have HST1 : Hid (St6 S f g0 w wc e1 (.slice t1 e1.sent.length t2) vn' (.slice a1 d.length c1) (.slice z1 l.length z2) d l) := st
            have HR4 : Hid (Calls Try.prog 41 #[.slice a1 d.length c1, .int .i64 4, .int .i64 4] wc fun r w' => r = .returned (.int .u32 (c : Nat)) ∧ w' = wc) := HRD.out wc e1 _ _ 4 c st (by have := HH.out; omega) HP.out.2.1
            have hg1 := hfit1.got
            obtain ⟨j0, j1, j2, j3, j4, k0, k1, k2, k3, k4⟩ := end_cells st.blk
            clear st HST HR0 HE2
            go_upto_region 15 with (go_at_call 41; refine (HR4.out).mono ?_; rintro r w9 ⟨rfl, hw9⟩; rw [hw9]; clear hw9 w9)
            go_cut [73] (fun s wx => s = .bool (decide (e1.got < c ∧ c ≤ e1.got + e1.sent.length)) ∧ St6 S f g0 w wx e1 (.slice t1 e1.sent.length t2) vn' (.slice a1 d.length c1) (.slice z1 l.length z2) d l)
            case first =>
              by_cases hc1 : e1.got < c
              · go_quiet (fail)
                go_wp2_with fail
                go_meet
                case rel => exact ⟨by simp [hc1]; omega, HST1.out.drewN _⟩
              · go_quiet (fail)
                go_wp2_with fail
                go_meet
                case rel => exact ⟨by simp [hc1], HST1.out.drewN _⟩
            case rest =>
              obtain ⟨rfl, st⟩ := hcut
              have HST2 : Hid (St6 S f g0 w wc e1 (.slice t1 e1.sent.length t2) vn' (.slice a1 d.length c1) (.slice z1 l.length z2) d l) := st
              clear HST1 HR4 j0 j1 j2 j3 j4 k0 k1 k2 k3 k4
              obtain ⟨j0, j1, j2, j3, j4, k0, k1, k2, k3, k4⟩ := end_cells st.blk
              clear st
              go_upto_if 73 with fail
              go_cut [] (fun wx => ∃ vs2, St6 S f g0 w wx (gt e1 c) vs2 vn' (.slice a1 d.length c1) (.slice z1 l.length z2) d l)
              case first =>
                by_cases hc1 : e1.got < c ∧ c ≤ e1.got + e1.sent.length
                · obtain ⟨k, rfl⟩ : ∃ k, c = e1.got + k := ⟨c - e1.got, by omega⟩
                  have hk : k ≤ e1.sent.length := by omega
                  have hk0 : 0 < k := by omega
                  have hcf : decide (e1.got < e1.got + k ∧ e1.got + k ≤ e1.got + e1.sent.length) = true := by simp only [decide_eq_true_eq]; exact hc1
                  rw [hcf]
                  obtain ⟨_, _, e9, -, h9⟩ := HST2.out.sent.form
                  obtain ⟨b, o, e8, -⟩ := h9 (fun e => by rw [e] at hk; simp at hk; omega)
                  simp only [Value.slice.injEq] at e9
                  have e7 : t1 = some ⟨b, o, none⟩ := e9.1.trans e8
                  clear e9 h9 e8
                  subst e7
                  have HST3 := HST2.out.got k hk
                  have HG : Hid (gt e1 (e1.got + k) = { e1 with sent := e1.sent.drop k, got := e1.got + k }) := by
                    show _ = _
                    unfold gt; rw [if_pos hc1, Nat.add_sub_cancel_left]
                  simp only [Int.natCast_add] at HST3
                  by_cases htk : t2 = k
                  · rw [if_pos htk, show t2 - k = 0 by omega] at HST3
                    have HST4 : Hid _ := HST3
                    clear HST3
                    go_upto_region 16 with fail
                    go_region
                    go_wp2_with fail
                    go_meet
                    case rel => exact ⟨_, by rw [HG.out]; exact HST4.out.drew⟩
                  · rw [if_neg htk] at HST3
                    have HST4 : Hid _ := HST3
                    clear HST3
                    go_upto_region 16 with fail
                    go_region
                    go_wp2_with fail
                    go_meet
                    case rel => exact ⟨_, by rw [HG.out]; exact HST4.out.drew⟩
                · have hcf : decide (e1.got < c ∧ c ≤ e1.got + e1.sent.length) = false := by simp only [decide_eq_false_iff_not]; exact hc1
                  rw [hcf]
                  go_wp2
                  go_meet
                  case rel => exact ⟨_, by rw [show gt e1 c = e1 from if_neg hc1]; exact HST2.out⟩
              case rest =>
                obtain ⟨vs2, st⟩ := hcut
                have hfit2 : (gt e1 c).come < 2000000000 ∧ (gt e1 c).new.length < 2000000000 := by
                  unfold gt; split
                  · exact ⟨hfit1.come, hfit1.new⟩
                  · exact ⟨hfit1.come, hfit1.new⟩
                generalize gt e1 c = e2 at *
                have HST2 : Hid (St6 S f g0 w wc e2 vs2 vn' (.slice a1 d.length c1) (.slice z1 l.length z2) d l) := st
                have HR8 : Hid (Calls Try.prog 41 #[.slice a1 d.length c1, .int .i64 8, .int .i64 4] wc fun r w' => r = .returned (.int .u32 (q : Nat)) ∧ w' = wc) := HRD.out wc e2 _ _ 8 q st (by have := HH.out; omega) HP.out.2.2
                have hl32 := HLL.out
                clear st j0 j1 j2 j3 j4 k0 k1 k2 k3 k4 x0 x1 x2 x3 x4 y0 y1 y2 y3 y4 hg1
                go_wp2_with (go_at_call 41; refine (HR8.out).mono ?_; rintro r w9 ⟨rfl, hw9⟩; rw [hw9]; clear hw9 w9)
                go_loopw [12] (fun i wr => ∃ (j : Nat) (vj : Value), j ≤ l.length ∧ i = .int .i64 j ∧ St6 S f g0 w wr (ad e2 q (l.take j)) vs2 vj (.slice a1 d.length c1) (.slice z1 l.length z2) d l) (fun i _ => l.length - (intOf i).toNat)
                case atStart => exact ⟨0, vn', by omega, rfl, HST2.out⟩
                case round =>
                  obtain ⟨j, vj, hj, rfl, st⟩ := hrel
                  have HSJ : Hid (St6 S f g0 w wr (ad e2 q (l.take j)) vs2 vj (.slice a1 d.length c1) (.slice z1 l.length z2) d l) := st
                  by_cases hlt : j < l.length
                  · have HN := ad_take hlt e2 q
                    have hbd := ad_bd (l.take j) e2 q
                    rw [List.length_take, Nat.min_eq_left hj] at hbd
                    have HNX : Hid (ad e2 q (l.take (j + 1)) = adS (ad e2 q (l.take j)) (q + j) (l.getD j [])) := HN
                    obtain ⟨_, _, e9, -, h9⟩ := st.ms.form
                    obtain ⟨b, o, e8, h7⟩ := h9 (fun e => by rw [e] at hlt; simp at hlt)
                    obtain ⟨um, hum, hus⟩ := h7 j hlt
                    simp only [Value.slice.injEq] at e9
                    have e7 : z1 = some ⟨b, o, none⟩ := e9.1.trans e8
                    clear e9 h9 e8 h7 HN st
                    subst e7
                    obtain ⟨m, hm⟩ : ∃ m, m = l.getD j [] := ⟨_, rfl⟩
                    rw [← hm] at hus HNX
                    clear hm
                    generalize ad e2 q (l.take j) = ej at *
                    have hcj : ej.come < 2000000100 := by omega
                    have hnj : ej.new.length < 2000000100 := by omega
                    obtain ⟨na, nc, rfl, -⟩ := HSJ.out.nw.form
                    obtain ⟨j0, j1, j2, j3, j4, k0, k1, k2, k3, k4⟩ := end_cells HSJ.out.blk
                    clear hbd
                    by_cases hqj : q + j = ej.come
                    · have HA : Hid (adS ej (q + j) m = { ej with new := ej.new ++ [m], come := ej.come + 1 }) := by show _ = _; unfold adS; rw [if_pos hqj]
                      have hqf : ((q : Int) + (j : Int) == (ej.come : Int)) = true := by simp; omega
                      have HU : Hid (SlC (fun k => S k ∧ f k = 4) wr um m) := hus
                      obtain ⟨ua, uc, rfl, -⟩ := hus
                      have HAL : Hid (St6 S f g0 w (wr.alloc (.cells #[.slice ua m.length uc] 31)).drew ej vs2 (.slice na ej.new.length nc) (.slice a1 d.length c1) (.slice (some ⟨b, o, none⟩) l.length z2) d l) := (HSJ.out.alloc _).drew
                      have HUL : Hid (SlC (fun k => S k ∧ f k = 4) (wr.alloc (.cells #[.slice ua m.length uc] 31)).drew (.slice ua m.length uc) m) := HU.out.carry fun k hk h => ⟨h, heap_alloc_old wr _ hk⟩
                      obtain ⟨i0, i1, i2, i3, i4, -⟩ := end_cells (HSJ.out.alloc (.cells #[.slice ua m.length uc] 31)).blk
                      go_upto_region 23 with fail
                      go_region_law (first
                        | (refine stepSp (.tmp 117) (.tmp 122) rfl rfl rfl rfl HAL.out.nw HUL.out (fun k hk ht => by have := (HAL.out.nw.own k hk).2; have := ht.2; omega) (by omega) (by show (wr.alloc _).cell? _ = _; rw [cell_of_row _ _ 0 _ _ _ (heap_alloc_new _ _)]; rfl) ?_
                           intro v3 w3 A3 P3
                           obtain ⟨a3, k3, rfl, -⟩ := P3.form
                           have HS3 := HAL.out.apd A3 P3
                           obtain ⟨hb3, hs3⟩ := HS3
                           obtain ⟨q0, q1, q2, q3, q4, p0, p1, p2, p3, p4⟩ := end_cells hb3
                           have HS4 : Hid _ := hs3
                           clear A3 P3 hs3 hb3))
                      all_goals (
                        go_wp2
                        go_roundw
                        case rel =>
                          have hs4 := HS4.out
                          simp only [List.length_append, List.length_cons, List.length_nil, Nat.zero_add, Int.natCast_add, Int.cast_ofNat_Int] at hs4
                          refine ⟨j + 1, .slice a3 (ej.new.length + 1) k3, by omega, by go_num, ?_⟩
                          rw [HNX.out, HA.out]
                          exact hs4
                        case measure => simp [intOf]; omega)
                    · have HA : Hid (adS ej (q + j) m = ej) := by show _ = _; unfold adS; rw [if_neg hqj]
                      have hqf : ((q : Int) + (j : Int) == (ej.come : Int)) = false := by simp; omega
                      go_wp2
                      go_roundw
                      case rel => exact ⟨j + 1, _, by omega, by go_num, by rw [HNX.out, HA.out]; exact HSJ.out⟩
                      case measure => simp [intOf]; omega
                  · obtain rfl : j = l.length := by omega
                    rw [List.take_length] at HSJ
                    go_wp2
                    go_ret
                    exact ⟨by rw [HE.out.1]; rfl, HSJ.out.only, by rw [HE.out.2, HER.out]; exact HSJ.out.re⟩
  · have HE : Hid (taE bs = opE bs ∧ taS e bs = e) := by
      have e1 : taE bs = opE bs := by unfold taE; rw [if_neg h1]
      exact ⟨e1, by unfold taS; rw [e1, if_neg h1]⟩
    obtain ⟨x, hx⟩ : ∃ x, x = opE bs := ⟨_, rfl⟩
    rw [← hx] at HO HE h1
    have hne : (x != 0) = true := by simp [h1]
    clear hx h1
    go_enter Try.func29, Try.ntmps29
    go_wp2_with (go_at_call 39; refine (HO.out).mono ?_; rintro r w1 ⟨v1, rfl, hb1, hO1⟩)
    go_ret
    exact ⟨by rw [HE.out.1]; rfl, Only.of hb1 hf, by rw [HE.out.2]; exact HR.out.carry fun k hk hS => ⟨hS, hb1.block k hk⟩⟩
end Go.Proofs.Ytijjcopglbcoiaa
