/-
  Proved here: the document's reader's rule: a rule as the plain, loose reading says, its Copies in new memory, or the reader is bad. Condition: the bytes are old and as they say.
-/
import Derived.Test.YtllbbbfkdgjffaaGreatDoorDS
import Derived.Deep.DeepCutAuto
namespace Go.Proofs.YtllbbbfkdgjffaaGreatDoor
open Go.RowKit

theorem only_size {g : Nat} {w w' : World} (h : Only (fun b => b = g) w w') (hg : g < w.heap.size) : w'.heap.size = w.heap.size := by
  have h1 := h.size
  have h2 := h.block w.heap.size (by omega)
  rw [Array.getElem?_eq_none (Nat.le_refl _)] at h2
  have := Array.getElem?_eq_none_iff.1 h2
  omega
def bgB (b : Int) (st : Option (List Int)) : Option (List Int) := if b / 2048 = 0 then st else none
def zer (y : Int) (st : Option (List Int)) : Option (List Int) := if y = 0 then none else st
def MFit (m : Nat → Int) : Prop := (∀ k, k < 22 → InB (m k)) ∧ ∀ k, 22 ≤ k → m k = 0
theorem MFit.zero : MFit zf := ⟨fun _ _ => ⟨by simp [zf], by simp [zf]⟩, fun _ _ => rfl⟩
theorem MFit.upd {m : Nat → Int} (h : MFit m) {k : Nat} (hk : k < 22) {a : Int} (ha : InB a) : MFit (Proofs.YtllbbbfkdgjffaaGreatDoor.upd m k a) := by
  refine ⟨fun i hi => ?_, fun i hi => ?_⟩
  · by_cases e : i = k
    · subst e; rw [upd_same]; exact ha
    · rw [upd_other _ _ _ _ e]; exact h.1 i hi
  · rw [upd_other _ _ _ _ (by omega)]; exact h.2 i hi
theorem i8_wr {n : Int} (h0 : 0 ≤ n) (h1 : n < 256) : IntKind.i8.wrap n = i8 n := by
  unfold i8
  rw [show IntKind.i8.wrap n = (n + 128) % 256 - 128 from by unfold IntKind.wrap; simp [IntKind.signed, IntKind.bits]; omega]
  split <;> omega
theorem rl_fit {a c : Int} {m : Nat → Int} {cp : List (List Ac)} (hm : MFit m) (hf : ∀ l ∈ cp, ∀ a ∈ l, a.Fit) (hc : InB c) : Rl.Fit ⟨i32 a, m, cp, c⟩ := by
  refine ⟨?_, hm.1, hm.2, hf, hc⟩
  show -9223372036854775808 ≤ i32 a ∧ i32 a < 9223372036854775808
  unfold i32
  split <;> omega
theorem row_new (w : World) (cs : Array Value) (t : Nat) (j : Nat) (x : Value) (hz : cs.toList[j]? = some x) : (w.alloc (.cells cs t)).cell? ((⟨w.heap.size, 0, none⟩ : Addr).add j) = some x := by
  rw [Addr.add_lit, Nat.zero_add, cell_of_row _ _ _ _ _ _ (heap_alloc_new _ _), ← hz]; simp
theorem inb_of {a : Int} {k : Nat} (h0 : 0 ≤ a) (h1 : a < 2 ^ (8 * k)) (hk : k ≤ 8) : InB a := by
  refine ⟨h0, ?_⟩
  have h2 : (2 : Int) ^ (8 * k) ≤ 2 ^ 64 := by exact_mod_cast Nat.pow_le_pow_right (by decide : 0 < 2) (by omega : 8 * k ≤ 64)
  have h3 : (2 : Int) ^ 64 = 18446744073709551616 := by decide
  omega
theorem mt_cell {w : World} {g : Nat} {r : Rl} {u : Value} (h : RB w g r u) (k : Nat) (hk : k < 22) : w.cell? ⟨g, 1 + k, none⟩ = some (.int .u64 (r.mt k)) := by
  rw [cell_of_row w g (1 + k) _ _ _ h]; exact rlc_mt r u k hk
/-- What rule leaves. -/
def RuD (T : Nat → Prop) (w x : World) (g : Nat) (v : Value) (bs : List Int) (st : Option (List Int)) (e : Ending) (w' : World) : Prop :=
  ∃ (r : Rl) (u : Value) (st' : Option (List Int)), e = .returned (.agg (rlc r u)) ∧ Rg T w g v bs st' w' ∧ Only (fun b => b = g ∨ x.heap.size ≤ b) x w' ∧ CpR (fun b => x.heap.size ≤ b) w' u r.cp ∧ r.Fit ∧ Got (rdRl false) st r st'
theorem i8_wrap8 : ∀ j : Nat, j < 11 → IntKind.i8.wrap ((j : Int) + 1) = (j : Int) + 1 := by decide +kernel
theorem resRu (tmps : Array Value) (w : World) (q : Nat) (r : Rl) (u : Value) (hp : tmps.getD 2 undef = ptr q) (hg : RB w q r u) : (results Tryz.f25 tmps).run Tryz.prog w = .ok (.agg (rlc r u)) w := by
  have hp' : tmps[2]?.getD undef = ptr q := by simpa using hp
  have h0 : (loadVar 31 ⟨q, 0, none⟩).run Tryz.prog w = .ok (.agg (rlc r u)) w := run_loadVar_row w q 31 31 _ (0, 0) _ hg Tryz.underlying31 rfl (sizeRl r u)
  simp [results, Tryz.results25, hp', asAddr, h0]
set_option maxHeartbeats 6400000 in
set_option maxRecDepth 100000 in
theorem drule_any {T : Nat → Prop} (w x : World) (g : Nat) (v : Value) (bs : List Int) (st : Option (List Int)) (h : Rg T w g v bs st x) (hT : ∀ b, T b → b < w.heap.size) (hg : g < w.heap.size) :
    Calls Tryz.prog 25 #[ptr g] x (RuD T w x g v bs st) := by
  have hwx := h.only.size
  have hgx : g < x.heap.size := by omega
  have HT := hid hT
  have hal : Below x.heap.size x (x.alloc (.cells (rlc zRl nilS) 31)) := (Below.refl _ _).alloc (Nat.le_refl _) _
  have hR1 : Rg T w g v bs st (x.alloc (.cells (rlc zRl nilS) 31)) := h.more hT hg (Only.of hal fun b hb => by omega)
  have hres : RB (x.alloc (.cells (rlc zRl nilS) 31)) x.heap.size zRl nilS := heap_alloc_new _ _
  have hs1 : (x.alloc (.cells (rlc zRl nilS) 31)).heap.size = x.heap.size + 1 := by simp
  have ho1 : Only (fun b => b = g ∨ x.heap.size ≤ b) x (x.alloc (.cells (rlc zRl nilS) 31)) := Only.of hal fun b hb => Or.inr hb
  obtain ⟨W1, hW1⟩ : ∃ W, W = x.alloc (.cells (rlc zRl nilS) 31) := ⟨_, rfl⟩
  rw [← hW1] at hR1 hres hs1 ho1
  have HW1 := hid hW1
  have HN := hid (hR1.n 4 (by omega))
  have HA := hid (And.intro hres (And.intro hs1 ho1))
  clear h hal hR1 hres hs1 ho1 hW1 hT
  go_enter Tryz.func25, Tryz.ntmps25
  go_upto_region 1 with fail
  rw [← zero_rl, ← HW1.out]
  clear HW1
  go_upto_region 2 with (first
    | (go_at_call 23; refine (HM.out).mono ?_; rintro e x3 ⟨c, st3, rfl, ⟨hc0, hc1⟩, -, ho3, hR3, hG3⟩
       have HX3 := hid (And.intro ho3 (And.intro hR3 hG3))
       clear HM ho3 hR3 hG3)
    | (go_at_call 23; refine (HN.out).mono ?_; rintro e x2 ⟨a, st2, rfl, ⟨ha0, ha1⟩, -, ho2, hR2, hG2⟩
       have HM := hid (hR2.n 8 (by omega))
       have HX2 := hid (And.intro ho2 hG2)
       rw [pw4] at ha1
       clear HN ho2 hR2 hG2)
    | (refine bldRl (.tmp 15) (.tmp 17) _ _ rfl rfl rfl rfl ?_)
    | (refine alcRl rfl rfl ?_)
    | (refine stNew 31 (.tmp 3) (.tmp 18) rfl rfl x3 31 _ _ rfl rfl rfl (sizeRl _ _) (by rw [rlc_size, rlc_size]) (rlc_one _ _ rfl) ?_))
  have hs3 : x3.heap.size = x.heap.size + 1 := by
    have e1 := only_size HX2.out.1 (by rw [HA.out.2.1]; omega)
    have e2 := only_size HX3.out.1 (by rw [e1, HA.out.2.1]; omega)
    rw [e2, e1, HA.out.2.1]
  have hI := i32_wrap a
  rw [← hI]
  clear hI
  have hal : Below x3.heap.size x3 (x3.alloc (.cells (rlc ⟨i32 a, zf, [], c⟩ nilS) 31)) := (Below.refl _ _).alloc (Nat.le_refl _) _
  have hRs : Rs T w x g v bs (fun b => x.heap.size + 2 ≤ b) st3 ⟨i32 a, zf, [], c⟩ nilS (x3.alloc (.cells (rlc ⟨i32 a, zf, [], c⟩ nilS) 31)) := by
    have o2 := HX2.out.1
    have o3 := HX3.out.1
    refine ⟨HX3.out.2.1.more HT.out hg (Only.of hal fun b hb => by omega), ?_, ?_, ?_, CpR.nil _ _, by simp; omega, fun b hb => hb⟩
    · exact ((HA.out.2.2.trans (o2.mono fun b hb => Or.inl hb)).trans (o3.mono fun b hb => Or.inl hb)).trans (Only.of hal fun b hb => Or.inr (by omega))
    · exact (hal.block _ (by omega)).trans ((o3.block _ (by omega)).trans ((o2.block _ (by omega)).trans HA.out.1))
    · rw [← hs3]; exact heap_alloc_new _ _
  obtain ⟨V, hV⟩ : ∃ V, V = x3.alloc (.cells (rlc ⟨i32 a, zf, [], c⟩ nilS) 31) := ⟨_, rfl⟩
  rw [← hV] at hRs ⊢
  rw [hs3]
  have HG2 := hid (And.intro HX2.out.2 HX3.out.2.2)
  have HNv := hid (hRs.n hgx 2 (by omega))
  clear hV hal hRs hs3 HX2 HX3 HA
  have hc1 := hc1
  go_upto_if 23 with (go_at_call 23; refine (HNv.out).mono ?_; rintro e x4 ⟨b, st4, rfl, ⟨hb0, hb1⟩, -, -, hR4, hG4⟩; have HR4 := hid hR4; have HG4 := hid hG4; rw [pw2] at hb1; clear HNv hR4 hG4)
  go_cut [] (fun wc => Rs T w x g v bs (fun b => x.heap.size + 2 ≤ b) (bgB b st4) ⟨i32 a, zf, [], c⟩ nilS wc)
  case first =>
    by_cases hb : b / 2048 = 0
    · have d : (b / 2048 != 0) = false := by simp [hb]
      have HB : Hid (bgB b st4 = st4) := if_pos hb
      clear hb
      go_wp2
      go_meet
      case rel => rw [HB.out]; exact HR4.out
    · have d : (b / 2048 != 0) = true := by simp [hb]
      have HB : Hid (bgB b st4 = none) := if_neg hb
      have hfl := HR4.out.rg.rd.flag
      have hfr := HR4.out.rg.rd.free
      clear hb
      go_wp2
      go_meet
      case rel => rw [HB.out]; exact HR4.out.mark hgx true fun _ => rfl
  case rest =>
    have HC := hid hcut
    clear hcut HR4
    go_upto_region 6 with fail
    go_loopw [5] (fun i wr => ∃ (j : Nat) (m : Nat → Int) (st' : Option (List Int)), j ≤ 11 ∧ i = .int .i8 j ∧ MFit m ∧ Rs T w x g v bs (fun b => x.heap.size + 2 ≤ b) st' ⟨i32 a, m, [], c⟩ nilS wr ∧ FsAt b (bgB b st4) j m st') (fun i _ => 11 - (intOf i).toNat)
    case atStart => exact ⟨0, zf, _, by omega, rfl, MFit.zero, HC.out, FsAt.start b _⟩
    case round =>
      obtain ⟨j, m, st5, hj, rfl, hm, hR, hF⟩ := hrel
      generalize wr = wx at *
      have HM := hid hm
      have HR := hid hR
      have HF := hid hF
      clear hm hR hF HC
      by_cases hlt : j < 11
      · have hd : decide ((j : Int) < 11) = true := decide_eq_true (by omega)
        have hw1 := i8_wrap8 j hlt
        obtain ⟨y, hy⟩ : ∃ y, b / 2 ^ j = y := ⟨_, rfl⟩
        have hp : (0 : Int) < 2 ^ j := Int.pow_pos (by omega)
        have y0 : 0 ≤ y := by rw [← hy]; exact Int.ediv_nonneg hb0 (by omega)
        have y1 : y < 18446744073709551616 := by
          have : b / 2 ^ j ≤ b := Int.ediv_le_self _ hb0
          omega
        have ha := and_one y0 y1
        by_cases hbit : y % 2 = 1
        · have ha1 : bits .and .u64 y 1 = 1 := by rw [ha, hbit]
          have HBt : Hid (b / 2 ^ j % 2 = 1) := by show _ = _; rw [hy]; exact hbit
          clear ha hbit y0 y1 hp
          go_upto_region 9 with fail
          have hs6 := sz_le j
          have HSz : Hid (∀ z, Calls Tryz.prog 42 #[.int .i8 (j : Int)] z fun e w' => e = .returned (.int .i64 (sz j : Nat)) ∧ w' = z) := fun z => rsize_any j hlt z
          obtain ⟨s, hs⟩ : ∃ s, s = sz j := ⟨_, rfl⟩
          rw [← hs] at HSz hs6
          have HS := hid hs
          clear hs
          have HN1 := hid (HR.out.n hgx s (by omega))
          go_upto_region 10 with (first
            | (go_at_call 42; refine (HSz.out _).mono ?_; rintro e z ⟨rfl, hz⟩; rw [hz]; clear hz z)
            | (go_at_call 23; refine (HN1.out).mono ?_; rintro e x5 ⟨a1, st6, rfl, ⟨p0, p1⟩, -, -, hR5, hG5⟩
               have HR5 := hid hR5
               have HG5 := hid hG5
               have HP1 := hid (inb_of p0 p1 (by omega))
               have ck := mt_cell hR5.rb j (by omega)
               have fk := rb_free hR5.rb (1 + j)
               clear HN1 hR5 hG5 p1))
          have HR6 := hid (HR5.out.mtj HT.out hg hwx j (by omega) a1)
          clear ck fk HR5 HR
          generalize x5.setCell ⟨x.heap.size + 1, 1 + j, none⟩ (.int .u64 a1) = V2 at HR6 ⊢
          have HN2 := hid (HR6.out.n hgx s (by omega))
          have e12 : 1 + (11 + j) = 12 + j := by omega
          have HE12 := hid e12
          clear e12
          go_upto_region 11 with (first
            | (go_at_call 42; refine (HSz.out _).mono ?_; rintro e z ⟨rfl, hz⟩; rw [hz]; clear hz z)
            | (go_at_call 23; refine (HN2.out).mono ?_; rintro e x6 ⟨a2, st7, rfl, ⟨p0, p1⟩, -, -, hR7, hG7⟩
               have HR7 := hid hR7
               have HG7 := hid hG7
               have HP2 := hid (inb_of p0 p1 (by omega))
               have ck := mt_cell hR7.rb (11 + j) (by omega)
               have fk := rb_free hR7.rb (1 + (11 + j))
               rw [HE12.out] at ck fk
               clear HN2 hR7 hG7 p1))
          have hR8 := HR7.out.mtj HT.out hg hwx (11 + j) (by omega) a2
          rw [HE12.out] at hR8
          have HR8 := hid hR8
          clear hR8 ck fk HR7 HR6 p0
          generalize x6.setCell ⟨x.heap.size + 1, 12 + j, none⟩ (.int .u64 a2) = V3 at HR8 ⊢
          have hfl := HR8.out.rg.rd.flag
          have hfr := HR8.out.rg.rd.free
          have ck : V3.cell? ⟨x.heap.size + 1, 12 + j, none⟩ = some (.int .u64 a2) := by
            have := mt_cell HR8.out.rb (11 + j) (by omega)
            rw [HE12.out] at this
            exact this.trans (by show some (Value.int .u64 (Proofs.YtllbbbfkdgjffaaGreatDoor.upd _ (11 + j) a2 (11 + j))) = _; rw [upd_same])
          have HMf : Hid (MFit (Proofs.YtllbbbfkdgjffaaGreatDoor.upd (Proofs.YtllbbbfkdgjffaaGreatDoor.upd m j a1) (11 + j) a2)) := (HM.out.upd (by omega) HP1.out).upd (by omega) HP2.out
          have HG5' := HG5.out
          have HG7' := HG7.out
          rw [HS.out] at HG5' HG7'
          have hfb := HF.out.bit hlt HBt.out HG5' HG7'
          clear HG5' HG7'
          by_cases hz : a2 = 0
          · have t : (a2 == 0) = true := by simp [hz]
            have hz8 := HR8.out.mark hgx true (fun _ => rfl)
            rw [if_pos hz] at hfb
            have HFb := hid hfb
            have HZ := hid hz8
            clear hfb hz8 hz
            cases st7 with
            | none =>
              have hfl' : V3.cell? ⟨g, 2, none⟩ = some (.bool true) := hfl
              clear hfl
              go_wp2
              go_roundw
              case rel => exact ⟨j + 1, _, _, by omega, by go_num, HMf.out, HZ.out, HFb.out⟩
              case measure => simp [intOf]; omega
            | some r7 =>
              have hfl' : V3.cell? ⟨g, 2, none⟩ = some (.bool false) := hfl
              clear hfl
              go_wp2
              go_roundw
              case rel => exact ⟨j + 1, _, _, by omega, by go_num, HMf.out, HZ.out, HFb.out⟩
              case measure => simp [intOf]; omega
          · have t : (a2 == 0) = false := by simp [hz]
            rw [if_neg hz] at hfb
            have HFb := hid hfb
            clear hfb hz
            cases st7 with
            | none =>
              have hz8 := HR8.out.mark hgx true (fun _ => rfl)
              have HZ := hid hz8
              have hfl' : V3.cell? ⟨g, 2, none⟩ = some (.bool true) := hfl
              clear hz8 hfl
              go_wp2
              go_roundw
              case rel => exact ⟨j + 1, _, _, by omega, by go_num, HMf.out, HZ.out, HFb.out⟩
              case measure => simp [intOf]; omega
            | some r7 =>
              have hz8 := HR8.out.mark hgx false (fun h => by cases h)
              have HZ := hid hz8
              have hfl' : V3.cell? ⟨g, 2, none⟩ = some (.bool false) := hfl
              clear hz8 hfl
              go_wp2
              go_roundw
              case rel => exact ⟨j + 1, _, _, by omega, by go_num, HMf.out, HZ.out, HFb.out⟩
              case measure => simp [intOf]; omega
        · have ha0 : bits .and .u64 y 1 = 0 := by rw [ha]; omega
          have HBt : Hid (¬ b / 2 ^ j % 2 = 1) := by show ¬ _; rw [hy]; exact hbit
          clear ha hbit y0 y1 hp
          go_wp2
          go_roundw
          case rel => exact ⟨j + 1, m, st5, by omega, by go_num, HM.out, HR.out, HF.out.skip hlt HBt.out⟩
          case measure => simp [intOf]; omega
      · obtain rfl : j = 11 := by omega
        have HFd := hid (HF.out.done)
        have HMt : Hid (Got (rdMt false) st3 m st5) := Got.mt HG4.out HFd.out
        have HN9 := hid (HR.out.n hgx 2 (by omega))
        clear HF HFd HR HG4
        go_upto_region 14 with (go_at_call 23; refine (HN9.out).mono ?_; rintro e y1 ⟨n, st6, rfl, ⟨hn0, hn1⟩, -, -, hR1, hG1⟩; have hn2 : n < 65536 := (by simpa using hn1); have HR1 := hid hR1; have HG1 := hid hG1; clear HN9 hn1 hR1 hG1)
        obtain ⟨X, rfl⟩ := Int.eq_ofNat_of_zero_le hn0
        have HCk : Hid (InB c) := inb_of hc0 hc1 (by omega)
        go_loopw [7] (fun i wr => ∃ (k : Nat) (cp : List (List Ac)) (u : Value) (st' : Option (List Int)), k ≤ X ∧ i = .int .i64 k ∧ cp.length = k ∧ (∀ l ∈ cp, ∀ a ∈ l, a.Fit) ∧ Rs T w x g v bs (fun b => x.heap.size + 2 ≤ b) st' ⟨i32 a, m, cp, c⟩ u wr ∧ Got (rdl (rdL (rdAc false)) k) st6 cp st') (fun i _ => X - (intOf i).toNat)
        case atStart => exact ⟨0, [], nilS, st6, by omega, rfl, rfl, by simp, HR1.out, Got.zero st6⟩
        case round =>
          obtain ⟨k, cp, u, st7, hk, rfl, hl, hfit, hR, hG⟩ := hrel
          subst hl
          generalize wr = wx at *
          have hfl := hR.rg.rd.flag
          have HR := hid hR
          have HG := hid hG
          have HFt := hid hfit
          have HFin : Hid (∀ st8, Got (rdl (rdL (rdAc false)) X) st6 cp st8 → Got (rdRl false) st ⟨i32 a, m, cp, c⟩ st8) := fun st8 h8 => Got.rl HG2.out.1 HG2.out.2 HMt.out (Got.list HG1.out h8)
          clear hR hG hfit HR1
          by_cases hlt : cp.length < X
          · have hkl : decide ((cp.length : Int) < (X : Int)) = true := decide_eq_true (by omega)
            cases st7 with
            | none =>
              have hfl' : wx.cell? ⟨g, 2, none⟩ = some (.bool true) := hfl
              have HZ := hid (HFin.out none (Got.more (Nat.le_of_lt hlt) HG.out))
              clear hfl HFin
              have hrb := HR.out.rb
              have hrs := HR.out.res
              have hu1 := HR.out.cp.one
              go_wp2_with (first
                | (refine ldRow 31 (.tmp 3) rfl rfl (x.heap.size + 1) rfl 31 _ _ Tryz.underlying31 rfl (sizeRl _ _) hrb ?_)
                | (refine stRow 31 (.tmp 2) (.tmp 116) rfl rfl x.heap.size (rlc ⟨i32 a, m, cp, c⟩ u) rfl rfl 31 (rlc zRl nilS) hrs (sizeRl _ _) (by rw [rlc_size, rlc_size]) (rlc_one _ _ hu1) ?_))
              obtain ⟨f1, f2, f3, f4⟩ := HR.out.fin HT.out hg hwx
              refine bodyPost_ret (v := .agg (rlc ⟨i32 a, m, cp, c⟩ u)) (resRu _ _ x.heap.size _ _ rfl f1) rfl ?_
              exact ⟨_, u, none, rfl, f2, f3, f4, rl_fit HM.out HFt.out HCk.out, HZ.out⟩
            | some r7 =>
              have hfl' : wx.cell? ⟨g, 2, none⟩ = some (.bool false) := hfl
              have HN := hid (HR.out.n hgx 2 (by omega))
              clear hfl HFin
              go_upto_region 19 with (go_at_call 23; refine (HN.out).mono ?_; rintro e y2 ⟨n2, st8, rfl, ⟨q0, q1⟩, -, -, hR2, hG8⟩; have q2 : n2 < 65536 := (by simpa using q1); have HR2 := hid hR2; have HG8 := hid hG8; clear HN q1 hR2 hG8)
              obtain ⟨Y, rfl⟩ := Int.eq_ofNat_of_zero_le q0
              clear hfl' HR
              go_loopw [8, 10] (fun s i wr => ∃ (q : Nat) (s' : Value) (l : List Ac) (st' : Option (List Int)), q ≤ Y ∧ i = .int .i64 q ∧ s' = s ∧ l.length = q ∧ Rs T w x g v bs (fun b => x.heap.size + 2 ≤ b ∧ b < y2.heap.size) st' ⟨i32 a, m, cp, c⟩ u wr ∧ AcR (fun b => y2.heap.size ≤ b) wr s' l ∧ y2.heap.size ≤ wr.heap.size ∧ Got (rdl (rdAc false) q) st8 l st') (fun _ i _ => Y - (intOf i).toNat)
              case atStart => exact ⟨0, _, [], st8, by omega, rfl, rfl, rfl, HR2.out.bnd, AcR.nil _ _, Nat.le_refl _, Got.zero st8⟩
              case round =>
                obtain ⟨q, s, l, st9, hq, rfl, rfl, hl, hRi, hAi, hsz, hGi⟩ := hrel
                subst hl
                generalize wr = wy at *
                have hfl := hRi.rg.rd.flag
                obtain ⟨s1, k1, hs1⟩ := hAi.rw.form
                subst hs1
                have HRi := hid hRi
                have HAi := hid hAi
                have HGi := hid hGi
                clear hRi hAi hGi
                by_cases hlt2 : l.length < Y
                · have hkl2 : decide ((l.length : Int) < (Y : Int)) = true := decide_eq_true (by omega)
                  cases st9 with
                  | none =>
                    have hfl' : wy.cell? ⟨g, 2, none⟩ = some (.bool true) := hfl
                    clear hfl
                    have HR' : Hid (Rs T w x g v bs (fun b => x.heap.size + 2 ≤ b) none ⟨i32 a, m, cp, c⟩ u wy) := HRi.out.wide
                    have HAc' : Hid (AcR (fun b => x.heap.size + 2 ≤ b) wy (.slice s1 l.length k1) l) := HAi.out.mono fun b _ hb => by have := HR2.out.two; omega
                    have HGl : Hid (Got (rdL (rdAc false)) (some r7) l none) := Got.list HG8.out (Got.more (Nat.le_of_lt hlt2) HGi.out)
                    obtain ⟨us, g1, g2, g3, -⟩ := HR'.out.cp
                    have HUs : Hid (us.length = cp.length ∧ Rw (fun b => x.heap.size + 2 ≤ b) 1 87 wy u cp.length us ∧ ∀ (j : Nat) x' l, us[j]? = some x' → cp[j]? = some l → AcR (fun b => x.heap.size + 2 ≤ b) wy x' l) := ⟨g1, g2, g3⟩
                    obtain ⟨u1, u2, hu⟩ : ∃ u1 u2, u = .slice u1 cp.length u2 := g2.form
                    have hc23 : wy.cell? ⟨x.heap.size + 1, 23, none⟩ = some u := (rl_cells HR'.out.rb).2.1
                    subst hu
                    clear g1 g2 g3 HRi HAi
                    go_wp2_with (first
                      | (at_builtin
                         go_loud
                          (refine appAll (v := .slice u1 cp.length u2) (us := [.slice s1 l.length k1]) (.tmp 111) (.tmp 113) 29 rfl rfl rfl rfl Tryz.underlying29 infoAA rfl (by omega) (by omega) (HUs.out.2.1.keep fun b cur _ hb => ((Below.refl wy.heap.size wy).alloc (Nat.le_refl _) _).block b (Array.getElem?_eq_some_iff.1 hb).1) rfl (fun _ => ⟨_, rfl, one_new _ _ _⟩) (fun z hz => by simp at hz; subst hz; rfl) (by omega) ?_
                           intro v3 x3 hA3 hR3
                           have HAp := hid (HR'.out.app HT.out hg hwx HUs.out.1 HUs.out.2.1 HUs.out.2.2 HAc'.out hA3 hR3 (by show cp.length < 65535; omega))
                           obtain ⟨s3, k3, rfl⟩ := hR3.form
                           have hq23 : x3.cell? ⟨x.heap.size + 1, 23, none⟩ = some (.slice u1 cp.length u2) := (rl_cells HAp.out.1).2.1
                           have hf23 := rb_free HAp.out.1 23
                           clear hA3 hR3)))
                    go_roundw
                    case rel =>
                      refine ⟨cp.length + 1, cp ++ [l], _, none, by omega, by go_num, by simp, ?_, HAp.out.2, Got.snoc HG.out HGl.out⟩
                      intro y hy
                      rcases List.mem_append.1 hy with hy | hy
                      · exact HFt.out y hy
                      · simp only [List.mem_cons, List.not_mem_nil, or_false] at hy
                        subst hy
                        exact HAc'.out.fit
                    case measure => simp [intOf]; omega
                  | some r9 =>
                    have hfl' : wy.cell? ⟨g, 2, none⟩ = some (.bool false) := hfl
                    have HNa := hid (HRi.out.n hgx 1 (by omega))
                    clear hfl
                    have htwo := HR2.out.two
                    go_wp2_with (first
                      | (go_at_call 23; refine (HNc.out).mono ?_; rintro e z3 ⟨n3, st12, rfl, ⟨c0, c1⟩, -, o3, hR3, hG3⟩
                         have HI3 := hid (inb_of c0 c1 (by omega))
                         have hA3 : AcR (fun b => y2.heap.size ≤ b) z3 (.slice s1 l.length k1) l := HA2.out.keep fun b _ hb _ => o3.block b (by omega)
                         have hz3 : y2.heap.size ≤ z3.heap.size := Nat.le_trans hz2 o3.size
                         have hal : Below z3.heap.size z3 (z3.alloc (.cells #[.int .i8 (i8 n1), .int .i8 (i8 n4), .int .u64 n3] 93)) := (Below.refl _ _).alloc (Nat.le_refl _) _
                         have HW3 : Hid (Rw (fun b => y2.heap.size ≤ b) 3 93 (z3.alloc (.cells #[.int .i8 (i8 n1), .int .i8 (i8 n4), .int .u64 n3] 93)) (.slice s1 l.length k1) l.length (l.flatMap acc)) := hA3.rw.keep fun b _ _ hb => hal.block b (Array.getElem?_eq_some_iff.1 hb).1
                         have HX3 := hid (And.intro hR3 (And.intro hG3 (And.intro hA3 hal)))
                         clear HNc c1 o3 hR3 hG3 hA3 hal)
                      | (go_at_call 23; refine (HNb.out).mono ?_; rintro e z2 ⟨n4, st11, rfl, ⟨b0, b1⟩, -, o2, hR3, hG3⟩
                         have b2 : n4 < 256 := (by simpa using b1)
                         have hwb := i8_wr b0 b2
                         have HA2 : Hid (AcR (fun b => y2.heap.size ≤ b) z2 (.slice s1 l.length k1) l) := HA1.out.keep fun b _ hb _ => o2.block b (by omega)
                         have hz2 : y2.heap.size ≤ z2.heap.size := Nat.le_trans hz1 o2.size
                         have HNc := hid (hR3.n hgx 8 (by omega))
                         have HX2 := hid hG3
                         clear HNb HA1 b1 o2 hR3 hG3)
                      | (go_at_call 23; refine (HNa.out).mono ?_; rintro e z1 ⟨n1, st10, rfl, ⟨a0, a1⟩, -, o1, hR3, hG3⟩
                         have a2 : n1 < 256 := (by simpa using a1)
                         have hwa := i8_wr a0 a2
                         have HA1 : Hid (AcR (fun b => y2.heap.size ≤ b) z1 (.slice s1 l.length k1) l) := HAi.out.keep fun b _ hb _ => o1.block b (by omega)
                         have hz1 : y2.heap.size ≤ z1.heap.size := Nat.le_trans hsz o1.size
                         have HNb := hid (hR3.n hgx 1 (by omega))
                         have HX1 := hid hG3
                         clear HNa HAi a1 o1 hR3 hG3)
                      | (at_builtin
                         go_loud
                          (refine appAll (v := .slice s1 l.length k1) (us := acc ⟨i8 n1, i8 n4, n3⟩) (.tmp 98) (.tmp 108) 87 rfl rfl rfl rfl Tryz.underlying87 infoA rfl (by omega) (by omega) HW3.out rfl (fun _ => ⟨_, rfl, fun j x hx => row_new _ _ _ j x hx⟩) (fun z hz => by simp [acc] at hz; rcases hz with rfl | rfl | rfl <;> rfl) (by omega) ?_
                           intro v3 x3 hA4 hR4
                           have HA4 := hid hA4
                           have HR4 := hid hR4
                           obtain ⟨s3, k3, rfl⟩ := hR4.form
                           clear hA4 hR4)))
                    go_roundw
                    case rel =>
                      obtain ⟨m1, m2, m3, m4⟩ := HX3.out
                      have hO3 : Only (fun b => y2.heap.size ≤ b) z3 x3 := (Only.of m4 (fun b hb => Nat.le_trans hz3 hb)).trans (HA4.out.only (fun b hb => Nat.le_trans hz3 (Nat.le_trans m4.size hb)) (fun b hb => HW3.out.own b hb))
                      have hb1 := i8_bd a0 a2
                      have hb2 := i8_bd b0 b2
                      exact ⟨l.length + 1, _, l ++ [⟨i8 n1, i8 n4, n3⟩], st12, by omega, by go_num, rfl, by simp, m1.new HT.out hg hwx htwo (fun b hb => hb.2) hO3, m3.add ⟨⟨hb1.1, hb1.2.1⟩, ⟨hb2.1, hb2.2.1⟩, HI3.out⟩ (fun b hb => Nat.le_trans hz3 (Nat.le_trans m4.size hb)) HR4.out (by omega), Nat.le_trans hz3 hO3.size, Got.snoc HGi.out (Got.ac HX1.out HX2.out m2)⟩
                    case measure => simp [intOf]; omega
                · obtain rfl : l.length = Y := by omega
                  have hkl2 : decide ((l.length : Int) < (l.length : Int)) = false := by simp
                  clear hfl
                  have HR' : Hid (Rs T w x g v bs (fun b => x.heap.size + 2 ≤ b) st9 ⟨i32 a, m, cp, c⟩ u wy) := HRi.out.wide
                  have HAc' : Hid (AcR (fun b => x.heap.size + 2 ≤ b) wy (.slice s1 l.length k1) l) := HAi.out.mono fun b _ hb => by have := HR2.out.two; omega
                  have HGl : Hid (Got (rdL (rdAc false)) (some r7) l st9) := Got.list HG8.out (HGi.out)
                  obtain ⟨us, g1, g2, g3, -⟩ := HR'.out.cp
                  have HUs : Hid (us.length = cp.length ∧ Rw (fun b => x.heap.size + 2 ≤ b) 1 87 wy u cp.length us ∧ ∀ (j : Nat) x' l, us[j]? = some x' → cp[j]? = some l → AcR (fun b => x.heap.size + 2 ≤ b) wy x' l) := ⟨g1, g2, g3⟩
                  obtain ⟨u1, u2, hu⟩ : ∃ u1 u2, u = .slice u1 cp.length u2 := g2.form
                  have hc23 : wy.cell? ⟨x.heap.size + 1, 23, none⟩ = some u := (rl_cells HR'.out.rb).2.1
                  subst hu
                  clear g1 g2 g3 HRi HAi
                  go_wp2_with (first
                    | (at_builtin
                       go_loud
                        (refine appAll (v := .slice u1 cp.length u2) (us := [.slice s1 l.length k1]) (.tmp 111) (.tmp 113) 29 rfl rfl rfl rfl Tryz.underlying29 infoAA rfl (by omega) (by omega) (HUs.out.2.1.keep fun b cur _ hb => ((Below.refl wy.heap.size wy).alloc (Nat.le_refl _) _).block b (Array.getElem?_eq_some_iff.1 hb).1) rfl (fun _ => ⟨_, rfl, one_new _ _ _⟩) (fun z hz => by simp at hz; subst hz; rfl) (by omega) ?_
                         intro v3 x3 hA3 hR3
                         have HAp := hid (HR'.out.app HT.out hg hwx HUs.out.1 HUs.out.2.1 HUs.out.2.2 HAc'.out hA3 hR3 (by show cp.length < 65535; omega))
                         obtain ⟨s3, k3, rfl⟩ := hR3.form
                         have hq23 : x3.cell? ⟨x.heap.size + 1, 23, none⟩ = some (.slice u1 cp.length u2) := (rl_cells HAp.out.1).2.1
                         have hf23 := rb_free HAp.out.1 23
                         clear hA3 hR3)))
                  go_roundw
                  case rel =>
                    refine ⟨cp.length + 1, cp ++ [l], _, st9, by omega, by go_num, by simp, ?_, HAp.out.2, Got.snoc HG.out HGl.out⟩
                    intro y hy
                    rcases List.mem_append.1 hy with hy | hy
                    · exact HFt.out y hy
                    · simp only [List.mem_cons, List.not_mem_nil, or_false] at hy
                      subst hy
                      exact HAc'.out.fit
                  case measure => simp [intOf]; omega
          · obtain rfl : cp.length = X := by omega
            have hkl : decide ((cp.length : Int) < (cp.length : Int)) = false := by simp
            have HZ := hid (HFin.out st7 HG.out)
            clear hfl HFin
            have hrb := HR.out.rb
            have hrs := HR.out.res
            have hu1 := HR.out.cp.one
            go_wp2_with (first
              | (refine ldRow 31 (.tmp 3) rfl rfl (x.heap.size + 1) rfl 31 _ _ Tryz.underlying31 rfl (sizeRl _ _) hrb ?_)
              | (refine stRow 31 (.tmp 2) (.tmp 116) rfl rfl x.heap.size (rlc ⟨i32 a, m, cp, c⟩ u) rfl rfl 31 (rlc zRl nilS) hrs (sizeRl _ _) (by rw [rlc_size, rlc_size]) (rlc_one _ _ hu1) ?_))
            obtain ⟨f1, f2, f3, f4⟩ := HR.out.fin HT.out hg hwx
            refine bodyPost_ret (v := .agg (rlc ⟨i32 a, m, cp, c⟩ u)) (resRu _ _ x.heap.size _ _ rfl f1) rfl ?_
            exact ⟨_, u, st7, rfl, f2, f3, f4, rl_fit HM.out HFt.out HCk.out, HZ.out⟩
end Go.Proofs.YtllbbbfkdgjffaaGreatDoor
