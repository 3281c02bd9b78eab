/-
  Proved here: Decode answers a message, or ErrShort, or ErrMessage, as 'deE' says; no old memory turns. Conditions: the tables hold their numbers; the bytes' memory is old.
-/
/-
  Plain facts: what is read is written as it was: the bytes of a message that was read are the bytes that were read. No program is spoken of.
-/
/-
  Plain facts: a message's bytes are bytes; fewer of them, or one more, are no message. No program is spoken of.
-/
import Derived.Test.YtllbbbfkdgjffaaGreatDoorRM
import Derived.Test.YtllbbbfkdgjffaaGreatDoorEN
namespace Go.Proofs.YtllbbbfkdgjffaaGreatDoor
open Go.RowKit

theorem zero_ms0 : msc zMs zSl = #[.int .i8 0, .int .u32 0, .int .i8 0, .int .i64 0, .int .u64 0, .int .u64 0, .int .u64 0, .int .u64 0, .int .u64 0, .int .u64 0, .int .u64 0, .int .u64 0, .int .u64 0, .int .u64 0, .int .u64 0, .int .u64 0, .int .u64 0, .int .u64 0, .int .u64 0, .int .u64 0, .int .u64 0, .int .u64 0, .int .u64 0, .int .u64 0, .int .u64 0, .int .u64 0, nilS, .int .u64 0, .int .u16 0, .bool false, .int .u16 0, nilS, nilS, nilS, nilS, .int .u16 0] := by kernel_rfl
theorem zms_one : (msc zMs zSl).all (·.oneCell') = true := msc_one _ _ rfl rfl rfl rfl rfl

theorem buildMs (w : World) : (Instr.build 37 #[]).run Tryz.prog w = .ok (.agg (msc zMs zSl)) w := by
  rw [zero_ms0]
  show _ = _
  kernel_rfl
theorem bldMs {ops : Array Oper} {rest : List Oper} {o : Oper} {a : Act} {w : World} {Q : Exit → Act → World → Prop} (ho : o.op = .build 37 #[]) (hw : Region.wanted o (yielded ops a.tmps) = true)
    (h : wpList Tryz.prog ops Q rest (a.put o.dst (.agg (msc zMs zSl))) w) : wpList Tryz.prog ops Q (o :: rest) a w := by
  unfold wpList
  rw [if_pos hw]
  refine Or.inl ?_
  unfold Oper.wp execOp
  have := buildMs w
  simp only [ho, List.map_toArray, List.map_nil, Sem.run_bind, Sem.run_pure, Result.andThen_ok, this]
  exact h

def shE (bs : List Int) : Bool := decide (bs.length < 8 ∨ (bs.length : Int) < fld bs 2 2)
section
variable {T : Nat → Prop} {bs : List Int} {w : World}
set_option maxHeartbeats 400000 in
theorem isShort_any {v : Value} (h : SlC T w v bs) (hT : ∀ x, T x → x < w.heap.size) :
    Calls Tryz.prog 19 #[v] w fun e w' => e = .returned (.bool (shE bs)) ∧ Below w.heap.size w w' := by
  obtain ⟨ao, cap, rfl, hcap, hlen, -, hno, h6⟩ := id h
  by_cases h8 : bs.length < 8
  · have HS : Hid (shE bs = true) := decide_eq_true (Or.inl h8)
    have hd : decide (((bs.length : Nat) : Int) < 8) = true := decide_eq_true (by omega)
    clear h hno h6
    go_enter Tryz.func19, Tryz.ntmps19
    go_wp2
    go_ret
    exact ⟨by rw [HS.out]; rfl, Below.refl _ _⟩
  · have hd : decide (((bs.length : Nat) : Int) < 8) = false := decide_eq_false (by omega)
    obtain ⟨b, o, hTb, rfl, -⟩ := h6 (fun e => by rw [e] at h8; simp at h8)
    have hck : ¬ cap = 2 := by omega
    have hsl : SlC T w (.slice (some ⟨b, o + 2, none⟩) (bs.length - 2) (cap - 2)) (bs.drop 2) := by
      have := h.cutif 2 (bs.length - 2) (by omega)
      rw [List.take_of_length_le (by rw [List.length_drop]; exact Nat.le_refl _), if_neg hck] at this
      exact this
    have HS : Hid (shE bs = decide ((bs.length : Int) < fld bs 2 2)) := by
      show decide _ = _
      exact decide_eq_decide.2 ⟨fun h => h.resolve_left h8, Or.inr⟩
    have hcur : Cur T (w.alloc (.cells #[.slice (some ⟨b, o + 2, none⟩) (bs.length - 2) (cap - 2)] 59)) w.heap.size (bs.drop 2) := ⟨_, heap_alloc_new _ _, hsl.carry fun k hk hT => ⟨hT, heap_alloc_old _ _ hk⟩⟩
    have HN := hid (ccount_any w.heap.size (bs.drop 2) _ hcur (fun h => by have := hT _ h; omega))
    have e3 : tk 2 (bs.drop 2) = some (fld bs 2 2, bs.drop 4) := tkd (by omega)
    rw [e3] at HN
    clear h hno h6 hcur hsl e3
    go_enter Tryz.func19, Tryz.ntmps19
    go_wp2_with (go_at_call 39; refine (HN.out).mono ?_; intro e w1 h9; obtain ⟨v, rfl, h1, h2, rfl⟩ := RdP.get h9; have H1 := hid h1; clear h1 h2 h9)
    go_ret
    exact ⟨by rw [HS.out]; rfl, ((Below.refl _ _).alloc (Nat.le_refl _) _).trans (H1.out.below fun k hk => by rcases hk with h | h; omega; simp at h; omega)⟩
end

set_option maxHeartbeats 400000 in
theorem dcatch_panicking (p q : Nat) (m : Ms) (s : Sls) (y : Int) (t : TypeId) (pw : Value) (older : List PanicEntry) (w : World) (hP : MB w p m s) (hQ : w.heap[q]? = some (.cells #[.int .i64 y] 38 (0, 0))) (hne : q ≠ p) :
    CallsD Tryz.prog 20 #[ptr p, ptr q] (.panicking ({ v := .iface t pw, recovered := false } :: older)) w fun e u' w' =>
      e = .returned (.tuple #[]) ∧ u' = .panicking ({ v := .iface t pw, recovered := true } :: older) ∧ w' = (w.setRow p (msc zMs zSl)).setCell ⟨q, 0, none⟩ (.int .i64 70) := by
  have hQ' : (w.setRow p (msc zMs zSl)).heap[q]? = some (.cells #[.int .i64 y] 38 (0, 0)) := (setRow_other w p q _ hne).trans hQ
  have c1 := cell_of_one hQ'
  have f1 := free_of_one hQ'
  have HP := hid hP
  refine callsD_of_wpS Tryz.func20 rfl fun c₀ cs hu => ?_
  apply wpS_seq
  apply wpS_region
  simp [wpOpsS, go_sem, recoverD, hu, Tryz.ntmps20, Exit.thenS]
  refine wpS_cond (t := true) (by simp [Act.eval, Array.replicate]) ?_
  simp only [if_true]
  refine wpS_of_wp ?_
  clear hQ hQ' hP
  go_wp2_with (refine stRow 37 (.tmp 0) (.tmp 4) rfl rfl p (msc zMs zSl) rfl (by rw [zero_ms0]; rfl) 37 (msc m s) HP.out (sizeMs _ _) (by rw [msc_size, msc_size]) zms_one ?_)
  simp [bodyPostS, results, Tryz.results20]

set_option maxHeartbeats 400000 in
theorem dcatch_idle (p q : Addr) (w : World) :
    CallsD Tryz.prog 20 #[.pointer (some p), .pointer (some q)] .returning w fun e u' w' => e = .returned (.tuple #[]) ∧ u' = .returning ∧ w' = w := by
  refine callsD_of_wpS Tryz.func20 rfl fun c₀ cs hu => ?_
  apply wpS_seq
  apply wpS_region
  simp [wpOpsS, go_sem, recoverD, hu, Tryz.ntmps20, Exit.thenS]
  refine wpS_cond (t := false) (by simp [Act.eval, Array.replicate]) ?_
  simp only [Bool.false_eq_true, if_false]
  refine wpS_of_wp (wp_skip ?_)
  cases c₀
  simp_all [bodyPostS, results, Tryz.results20]

theorem resDec (tmps : Array Value) (w : World) (p q : Nat) (m : Ms) (s : Sls) (x : Int) (hp : tmps.getD 2 undef = ptr p) (hq : tmps.getD 3 undef = ptr q) (hg : MB w p m s) (hc : w.heap[q]? = some (.cells #[.int .i64 x] 38 (0, 0))) :
    (results Tryz.f11 tmps).run Tryz.prog w = .ok (.tuple #[.agg (msc m s), .int .i64 x]) w := by
  have hp' : tmps[2]?.getD undef = ptr p := by simpa using hp
  have hq' : tmps[3]?.getD undef = ptr q := by simpa using hq
  have c1 := cell_of_one hc
  have h1 : (loadVar 38 ⟨q, 0, none⟩).run Tryz.prog w = .ok (.int .i64 x) w := by simp [loadVar, go_sem, c1]
  have h0 : (loadVar 37 ⟨p, 0, none⟩).run Tryz.prog w = .ok (.agg (msc m s)) w := run_loadVar_row w p 37 37 _ (0, 0) _ hg Tryz.underlying37 rfl (sizeMs _ _)
  simp [results, Tryz.results11, hp', hq', asAddr, h0, h1]

def deM (bs : List Int) : Ms := if deE bs = 0 then (dec bs).getD zMs else zMs
theorem de_short {bs : List Int} (h : shE bs = true) : deE bs = 51 ∧ deM bs = zMs := by
  have : deE bs = 51 := by unfold deE; rw [if_pos (of_decide_eq_true h)]
  exact ⟨this, by simp [deM, this]⟩
theorem de_none {bs : List Int} (h : shE bs = false) (hd : dec bs = none) : deE bs = 70 ∧ deM bs = zMs := by
  have : deE bs = 70 := by unfold deE; rw [if_neg (of_decide_eq_false h), hd]
  exact ⟨this, by simp [deM, this]⟩
theorem de_some {bs : List Int} {m : Ms} (h : shE bs = false) (hd : dec bs = some m) : deE bs = 0 ∧ deM bs = m := by
  have : deE bs = 0 := by unfold deE; rw [if_neg (of_decide_eq_false h), hd]
  exact ⟨this, by simp [deM, this, hd]⟩

set_option maxHeartbeats 1600000 in
set_option maxRecDepth 100000 in
theorem decode_any {T : Nat → Prop} (bs : List Int) (v : Value) (w : World) (h : SlC T w v bs) (hT : ∀ x, T x → x < w.heap.size) (ht : Tab w) :
    Calls Tryz.prog 11 #[v] w fun e w' => Below w.heap.size w w' ∧ ∃ s, e = .returned (.tuple #[.agg (msc (deM bs) s), .int .i64 (deE bs)]) ∧ Mss (fun x => w.heap.size ≤ x ∧ x < w'.heap.size) w' (deM bs) s := by
  have hmf : ∀ (fn : Fn) (first cap : Array Value) (w : World), (Instr.makeFunc fn first cap).run Tryz.prog w = .ok (.func fn first cap) w := fun _ _ _ _ => rfl
  obtain ⟨W, HW, hb, hz, h0, h1⟩ := two_new w (.cells (msc zMs zSl) 37) (.cells #[.int .i64 0] 38)
  have hpos : 2 ≤ w.heap.size := by have := ht.pos; omega
  have hsl : SlC T W v bs := h.carry fun k hk hT => ⟨hT, hb.block k hk⟩
  have HI := hid (isShort_any hsl (fun x hx => by have := hT x hx; omega))
  have H0 : Hid (MB W w.heap.size zMs zSl) := h0
  have H1 := hid h1
  have HB := hid hb
  have HSl := hid hsl
  have HTb := hid (ht.on hb)
  have HTo := hid hT
  obtain ⟨ao, cap, rfl, -⟩ := h
  clear hsl h0 h1 hb hT ht
  go_enter_defers Tryz.func11, Tryz.ntmps11
  go_upto_region 1 with fail
  rw [← zero_ms0, show (w.alloc (.cells (msc zMs zSl) 37)).alloc (.cells #[.int .i64 0] 38) = W from HW.out.symm]
  cases hs : shE bs with
  | true =>
    rw [hs] at HI
    have HN := hid (de_short hs)
    clear hs
    go_upto_region 2 with (go_at_call 19; refine (HI.out).mono ?_; rintro e w1 ⟨rfl, hb⟩; have HB1 := hid hb; clear hb)
    have hM1 : MB w1 w.heap.size zMs zSl := (HB1.out.block _ (by omega)).trans H0.out
    have hQ1 : w1.heap[w.heap.size + 1]? = some (.cells #[.int .i64 0] 38 (0, 0)) := (HB1.out.block _ (by omega)).trans H1.out
    have hq2 : (w1.setRow w.heap.size (msc zMs zSl)).heap[w.heap.size + 1]? = some (.cells #[.int .i64 0] 38 (0, 0)) := (setRow_other w1 w.heap.size (w.heap.size + 1) _ (by omega)).trans hQ1
    have hRF := setRow_heap w1 w.heap.size (msc zMs zSl) (msc zMs zSl) 37 _ hM1
    have c1 := cell_of_one hq2
    have f1 := free_of_one hq2
    have HM1 := hid hM1
    have HQ2 := hid hq2
    have HRF : Hid (MB (w1.setRow w.heap.size (msc zMs zSl)) w.heap.size zMs zSl) := hRF
    have HBR : Hid (Below w.heap.size w (w1.setRow w.heap.size (msc zMs zSl))) := (HB.out.trans (HB1.out.mono (by omega))).trans ⟨rfl, rfl, rfl, by simp [World.setRow], fun k hk => setRow_other w1 w.heap.size k _ (by omega)⟩
    clear hM1 hQ1 hq2 hRF
    refine wp_region_list ?_
    refine bldMs rfl rfl ?_
    refine stRow 37 (.tmp 2) (.tmp 7) rfl rfl w.heap.size (msc zMs zSl) rfl rfl 37 (msc zMs zSl) HM1.out (sizeMs _ _) rfl zms_one ?_
    generalize w1.setRow w.heap.size (msc zMs zSl) = V at HRF HQ2 HBR c1 f1 ⊢
    have hq3 := one_setCell (u := .int .i64 51) HQ2.out
    have hm3 : MB (V.setCell ⟨w.heap.size + 1, 0, none⟩ (.int .i64 51)) w.heap.size zMs zSl := (heap_setCell_other _ ⟨w.heap.size + 1, 0, none⟩ w.heap.size _ (show w.heap.size ≠ w.heap.size + 1 by omega)).trans HRF.out
    have HQ3 := hid hq3
    have HM3 := hid hm3
    clear hq3 hm3
    go_wp2
    refine ⟨_, resDec _ _ w.heap.size (w.heap.size + 1) zMs zSl 51 rfl rfl HM3.out HQ3.out, HBR.out.setCell (by simp) _, zSl, by rw [HN.out.1, HN.out.2], ?_⟩
    rw [HN.out.2]
    exact Mss.zero _ _ 0 0
  | false =>
    rw [hs] at HI
    have HSh := hid hs
    have h8 : 8 ≤ bs.length := by have := of_decide_eq_false hs; omega
    clear hs
    go_upto_region 3 with (go_at_call 19; refine (HI.out).mono ?_; rintro e w1 ⟨rfl, hb⟩; have HB1 := hid hb; clear hb)
    have hz1 := HB1.out.size
    have hbA : Below w1.heap.size w1 (w1.alloc (.cells #[.slice ao bs.length cap] 59)) := (Below.refl _ _).alloc (Nat.le_refl _) _
    have hcur : Cur T (w1.alloc (.cells #[.slice ao bs.length cap] 59)) w1.heap.size bs := ⟨_, heap_alloc_new _ _, HSl.out.carry fun k hk hT => ⟨hT, (hbA.block k (by omega)).trans (HB1.out.block k hk)⟩⟩
    have hM1 : MB (w1.alloc (.cells #[.slice ao bs.length cap] 59)) w.heap.size zMs zSl := (hbA.block _ (by omega)).trans ((HB1.out.block _ (by omega)).trans H0.out)
    have hQ1 : (w1.alloc (.cells #[.slice ao bs.length cap] 59)).heap[w.heap.size + 1]? = some (.cells #[.int .i64 0] 38 (0, 0)) := (hbA.block _ (by omega)).trans ((HB1.out.block _ (by omega)).trans H1.out)
    have hb2 : Below w.heap.size w (w1.alloc (.cells #[.slice ao bs.length cap] 59)) := (HB.out.trans (HB1.out.mono (by omega))).trans (hbA.mono (by omega))
    have hRc : Rc T (w1.alloc (.cells #[.slice ao bs.length cap] 59)) w1.heap.size bs := ⟨hcur, fun h => by have := HTo.out _ h; omega, (HTb.out.on HB1.out).on hbA, by omega, fun x hx => by have := HTo.out x hx; simp; omega⟩
    have hzA : (w1.alloc (.cells #[.slice ao bs.length cap] 59)).heap.size = w1.heap.size + 1 := by simp
    clear HI HB1 hbA hcur H0 H1 HB HSl HTb HW
    go_upto_region 5 with fail
    have HC := hid (cmessage_any hRc h8)
    have HM1 := hid hM1
    have HQ1 := hid hQ1
    have HB2 := hid hb2
    clear hRc hM1 hQ1 hb2
    generalize w1.alloc (.cells #[.slice ao bs.length cap] 59) = V at HC HM1 HQ1 HB2 hzA ⊢
    generalize w1.heap.size = c at HC hzA hz1 ⊢
    clear w1
    cases hd : dec bs with
    | none =>
      have HN := hid (de_none HSh.out hd)
      have HE : Hid (Calls Tryz.prog 21 #[ptr c] V fun e w' => e = .panicked PC ∧ Only (fun x => x = c ∨ V.heap.size ≤ x) V w') := by
        refine HC.out.mono ?_
        rintro e w' ⟨ho, ⟨_, h9⟩ | ⟨_, _, h9, _⟩⟩
        · exact ⟨h9, ho⟩
        · rw [hd] at h9; cases h9
      clear HC hd
      go_wp2_with (go_at_call 21; refine (HE.out).mono ?_; rintro e w2 ⟨rfl, ho⟩; have HO := hid ho; clear ho)
      have hM2 : MB w2 w.heap.size zMs zSl := (HO.out.block _ (by rintro (e | e) <;> omega)).trans HM1.out
      have hQ2 : w2.heap[w.heap.size + 1]? = some (.cells #[.int .i64 0] 38 (0, 0)) := (HO.out.block _ (by rintro (e | e) <;> omega)).trans HQ1.out
      have hB2 : Below w.heap.size w w2 := HB2.out.trans (HO.out.below fun k hk => by rcases hk with h | h <;> omega)
      refine leaves_cons (f := 20) (args := #[ptr w.heap.size, ptr (w.heap.size + 1)]) (by simp) (by simp [go_sem]) ?_
      refine (dcatch_panicking w.heap.size (w.heap.size + 1) zMs zSl 0 38 _ [] _ hM2 hQ2 (by omega)).mono ?_
      rintro e u' w'' ⟨rfl, rfl, rfl⟩
      have hRF : MB (w2.setRow w.heap.size (msc zMs zSl)) w.heap.size zMs zSl := setRow_heap w2 w.heap.size (msc zMs zSl) (msc zMs zSl) 37 _ hM2
      have hq2 : (w2.setRow w.heap.size (msc zMs zSl)).heap[w.heap.size + 1]? = some (.cells #[.int .i64 0] 38 (0, 0)) := (setRow_other w2 w.heap.size (w.heap.size + 1) _ (by omega)).trans hQ2
      have hbr : Below w.heap.size w (w2.setRow w.heap.size (msc zMs zSl)) := hB2.trans ⟨rfl, rfl, rfl, by simp [World.setRow], fun k hk => setRow_other w2 w.heap.size k _ (by omega)⟩
      generalize w2.setRow w.heap.size (msc zMs zSl) = V2 at hRF hq2 hbr ⊢
      have hm3 : MB (V2.setCell ⟨w.heap.size + 1, 0, none⟩ (.int .i64 70)) w.heap.size zMs zSl := (heap_setCell_other _ ⟨w.heap.size + 1, 0, none⟩ w.heap.size _ (show w.heap.size ≠ w.heap.size + 1 by omega)).trans hRF
      refine ⟨_, resDec _ _ w.heap.size (w.heap.size + 1) zMs zSl 70 rfl rfl hm3 (one_setCell hq2), hbr.setCell (by simp) _, zSl, by rw [HN.out.1, HN.out.2], ?_⟩
      rw [HN.out.2]
      exact Mss.zero _ _ 0 0
    | some m =>
      have HN := hid (de_some HSh.out hd)
      have HE : Hid (Calls Tryz.prog 21 #[ptr c] V fun e w' => ∃ s, e = .returned (.agg (msc m s)) ∧ Only (fun x => x = c ∨ V.heap.size ≤ x) V w' ∧ Mss (fun x => V.heap.size ≤ x ∧ x < w'.heap.size) w' m s) := by
        refine HC.out.mono ?_
        rintro e w' ⟨ho, ⟨h9, _⟩ | ⟨m', s, h9, h10, h11⟩⟩
        · rw [hd] at h9; cases h9
        · rw [hd] at h9; cases h9
          exact ⟨s, h10, ho, h11⟩
      clear HC hd
      go_wp2_with (first
        | (refine stRow 37 (.tmp 2) (.tmp 11) rfl rfl w.heap.size (msc m s) rfl rfl 37 (msc zMs zSl) HM2.out (sizeMs _ _) (by rw [msc_size, msc_size]) HOne.out ?_
           generalize w2.setRow w.heap.size (msc m s) = V2 at HRF HQ2 HBR HMs2 ⊢
           have c1 := cell_of_one HQ2.out
           have f1 := free_of_one HQ2.out)
        | (go_at_call 21; refine (HE.out).mono ?_; rintro e w2 ⟨s, rfl, ho, hms⟩
           have hM2 : MB w2 w.heap.size zMs zSl := (ho.block _ (by rintro (e | e) <;> omega)).trans HM1.out
           have hQ2 : w2.heap[w.heap.size + 1]? = some (.cells #[.int .i64 0] 38 (0, 0)) := (ho.block _ (by rintro (e | e) <;> omega)).trans HQ1.out
           have hB2 : Below w.heap.size w w2 := HB2.out.trans (ho.below fun k hk => by rcases hk with h | h <;> omega)
           have hRF : MB (w2.setRow w.heap.size (msc m s)) w.heap.size m s := setRow_heap w2 w.heap.size (msc zMs zSl) (msc m s) 37 _ hM2
           have hq2 : (w2.setRow w.heap.size (msc m s)).heap[w.heap.size + 1]? = some (.cells #[.int .i64 0] 38 (0, 0)) := (setRow_other w2 w.heap.size (w.heap.size + 1) _ (by omega)).trans hQ2
           have hbr : Below w.heap.size w (w2.setRow w.heap.size (msc m s)) := hB2.trans ⟨rfl, rfl, rfl, by simp [World.setRow], fun k hk => setRow_other w2 w.heap.size k _ (by omega)⟩
           have hms2 : Mss (fun x => V.heap.size ≤ x ∧ x < (w2.setRow w.heap.size (msc m s)).heap.size) (w2.setRow w.heap.size (msc m s)) m s := hms.carry fun x hx h => ⟨⟨h.1, by simpa [World.setRow] using hx⟩, setRow_other w2 w.heap.size x _ (by omega)⟩
           have HM2 := hid hM2
           have HRF := hid hRF
           have HQ2 := hid hq2
           have HBR := hid hbr
           have HMs2 := hid hms2
           have HOne := hid hms.one
           clear hM2 hQ2 hB2 hRF hq2 hbr hms2 hms ho))
      refine leaves_cons (f := 20) (args := #[ptr w.heap.size, ptr (w.heap.size + 1)]) (by simp) (by simp [go_sem]) ?_
      refine (dcatch_idle _ _ _).mono ?_
      rintro e u' w'' ⟨rfl, rfl, rfl⟩
      have hm3 : MB (V2.setCell ⟨w.heap.size + 1, 0, none⟩ (.int .i64 0)) w.heap.size m s := (heap_setCell_other _ ⟨w.heap.size + 1, 0, none⟩ w.heap.size _ (show w.heap.size ≠ w.heap.size + 1 by omega)).trans HRF.out
      refine ⟨_, resDec _ _ w.heap.size (w.heap.size + 1) m s 0 rfl rfl hm3 (one_setCell HQ2.out), HBR.out.setCell (by simp) _, s, by rw [HN.out.1, HN.out.2], ?_⟩
      rw [HN.out.2]
      have hsz := setCell_size V2 ⟨w.heap.size + 1, 0, none⟩ (.int .i64 0)
      exact HMs2.out.carry fun x hx h => ⟨⟨by omega, by omega⟩, heap_setCell_other _ ⟨w.heap.size + 1, 0, none⟩ x _ (show x ≠ w.heap.size + 1 by omega)⟩
end Go.Proofs.YtllbbbfkdgjffaaGreatDoor
namespace Go.Proofs.YtllbbbfkdgjffaaGreatDoor

theorem blank_z0 : blank zMs = true := by decide
theorem blank_z (x y : Int) : blank { zMs with ty := x, id := y } = true := blank_z0
theorem rdPs_inv {ty : Int} {m0' m : Ms} {r : List Int} (hB : IsB r) (hz : m0' = { zMs with ty := ty, id := m0'.id }) (hf : m0'.Fit) (h : rdPs true (pts ty) m0' r = some (m, [])) : r = (pts ty).flatMap (encF m) ∧ m.ty = ty ∧ m.id = m0'.id ∧ m.Fit ∧ (pts ty).all (okF m) = true ∧ blank ((pts ty).foldl clF m) = true := by
  rcases pts_cases ty with e | e | e | e | e | e | e <;> rw [e] at h ⊢ <;> simp only [rdPs, Option.bind_eq_some_iff, Option.some.injEq, Prod.mk.injEq] at h
  case inr.inr.inr.inr.inr.inr =>
    obtain ⟨rfl, rfl⟩ := h
    exact ⟨rfl, by rw [hz], rfl, hf, rfl, by rw [hz]; exact blank_z _ _⟩
  case inr.inr.inr.inr.inr.inl =>
    obtain ⟨⟨m1, r1⟩, h1, rfl, rfl⟩ := h
    obtain ⟨a1, a2, a3, a4, a5⟩ := rdF_inv hB h1
    refine ⟨by simpa using a1, by rw [a4, hz]; rfl, by rw [a4]; rfl, a5 hf, by simp [a3], ?_⟩
    rw [a4, hz]; exact blank_z _ _
  case inl =>
    obtain ⟨⟨m1, r1⟩, h1, ⟨m2, r2⟩, h2, ⟨m3, r3⟩, h3, rfl, rfl⟩ := h
    obtain ⟨a1, a2, a3, a4, a5⟩ := rdF_inv hB h1
    obtain ⟨b1, b2, b3, b4, b5⟩ := rdF_inv a2 h2
    obtain ⟨c1, c2, c3, c4, c5⟩ := rdF_inv b2 h3
    have k1 : encF m3 .sw = encF m1 .sw := by rw [c4, b4]; rfl
    have k2 : encF m3 .ps = encF m2 .ps := by rw [c4]; rfl
    refine ⟨?_, by rw [c4, b4, a4, hz]; rfl, by rw [c4, b4, a4]; rfl, c5 (b5 (a5 hf)), ?_, ?_⟩
    · rw [a1, b1, c1, ← k1, ← k2]; simp
    · simp [okF]
    · rw [c4, b4, a4, hz]; exact blank_z _ _
  all_goals
    obtain ⟨⟨m1, r1⟩, h1, ⟨m2, r2⟩, h2, rfl, rfl⟩ := h
    obtain ⟨a1, a2, a3, a4, a5⟩ := rdF_inv hB h1
    obtain ⟨b1, b2, b3, b4, b5⟩ := rdF_inv a2 h2
  case inr.inl =>
    have k1 : encF m2 .dw = encF m1 .dw := by rw [b4]; rfl
    have k2 : okF m2 .dw = okF m1 .dw := by rw [b4]; rfl
    exact ⟨by rw [a1, b1, ← k1]; simp, by rw [b4, a4, hz]; rfl, by rw [b4, a4]; rfl, b5 (a5 hf), by simp [b3, k2, a3], by rw [b4, a4, hz]; exact blank_z _ _⟩
  case inr.inr.inl =>
    have k1 : encF m2 .po = encF m1 .po := by rw [b4]; rfl
    exact ⟨by rw [a1, b1, ← k1]; simp, by rw [b4, a4, hz]; rfl, by rw [b4, a4]; rfl, b5 (a5 hf), by simp [okF], by rw [b4, a4, hz]; exact blank_z _ _⟩
  case inr.inr.inr.inl =>
    have k1 : encF m2 .mo = encF m1 .mo := by rw [b4]; rfl
    have k2 : okF m2 .mo = okF m1 .mo := by rw [b4]; rfl
    exact ⟨by rw [a1, b1, ← k1]; simp, by rw [b4, a4, hz]; rfl, by rw [b4, a4]; rfl, b5 (a5 hf), by simp [b3, k2, a3], by rw [b4, a4, hz]; exact blank_z _ _⟩
  case inr.inr.inr.inr.inl =>
    have k1 : encF m2 .po = encF m1 .po := by rw [b4]; rfl
    exact ⟨by rw [a1, b1, ← k1]; simp, by rw [b4, a4, hz]; rfl, by rw [b4, a4]; rfl, b5 (a5 hf), by simp [okF], by rw [b4, a4, hz]; exact blank_z _ _⟩
theorem m0_fit {bs : List Int} (hB : IsB bs) : (m0 bs).Fit := by
  have h1 := fld_bd hB 1 1
  have h4 := fld_bd hB 4 4
  have i16 : In16 0 := by unfold In16; decide
  have iB : InB 0 := by unfold InB; decide
  refine ⟨?_, ⟨h4.1, by have := h4.2; show fld bs 4 4 < 4294967296; simpa using this⟩, (by decide : (-128 : Int) ≤ 0 ∧ (0 : Int) < 128), ⟨(by decide : (-9223372036854775808 : Int) ≤ 0 ∧ (0 : Int) < 9223372036854775808), fun _ _ => iB, fun _ _ => rfl, by simp [m0, zMs, zRl], iB⟩, i16, i16, by simp [m0, zMs], by simp [m0, zMs], by simp [m0, zMs, IsB], by simp [m0, zMs], i16⟩
  show -128 ≤ i8 (fld bs 1 1) ∧ i8 (fld bs 1 1) < 128
  have h2 : fld bs 1 1 < 256 := by have := h1.2; simpa using this
  unfold i8
  split <;> omega
theorem fld_dg {bs : List Int} (hB : IsB bs) {a k : Nat} (h : a + k ≤ bs.length) : bs.drop a = dg (fld bs a k) k ++ bs.drop (a + k) := (tk_inv (hB.drop a) (tkd h)).1
/-- WHAT IS READ IS WRITTEN AS IT WAS. -/
theorem dec_inv {bs : List Int} {m : Ms} (hB : IsB bs) (h8 : 8 ≤ bs.length) (h : dec bs = some m) : encMs m = bs ∧ okMs m = true ∧ m.Fit ∧ bs.length ≤ 8192 := by
  unfold dec at h
  split at h
  case isFalse => cases h
  case isTrue hc =>
    obtain ⟨c1, c2, c3, c4⟩ := hc
    simp only [prs, Option.bind_eq_some_iff] at h
    obtain ⟨⟨m', r⟩, h1, h2⟩ := h
    split at h2
    case isFalse => cases h2
    case isTrue hr =>
      obtain rfl : r = [] := hr
      obtain rfl : m' = m := by simpa using h2
      obtain ⟨d1, d2, d3, d4, d5, d6⟩ := rdPs_inv (hB.drop 8) rfl (m0_fit hB) h1
      have hty := isTy_bd c3
      have hb1 := fld_bd hB 1 1
      have hb2 : fld bs 1 1 < 256 := by have := hb1.2; simpa using this
      have ht : fld bs 1 1 = tyOf bs := by
        have h0 := hty.1
        unfold tyOf i8 at h0 ⊢
        split at h0 <;> simp_all <;> omega
      have e0 : bs = dg (fld bs 0 1) 1 ++ bs.drop 1 := by have := fld_dg hB (a := 0) (k := 1) (by omega); simpa using this
      have e1 := fld_dg hB (a := 1) (k := 1) (by omega)
      have e2 := fld_dg hB (a := 2) (k := 2) (by omega)
      have e4 := fld_dg hB (a := 4) (k := 4) (by omega)
      have hbody : body m' = bs.drop 8 := by unfold body; rw [d2]; exact d1.symm
      refine ⟨?_, ?_, d4, c1⟩
      · have hlen : ((8 + (body m').length : Nat) : Int) = fld bs 2 2 := by rw [hbody, c4, List.length_drop]; omega
        unfold encMs
        rw [hlen, d2, d3, hbody, ← ht]
        show dg 1 1 ++ (dg (fld bs 1 1) 1 ++ (dg (fld bs 2 2) 2 ++ (dg (fld bs 4 4) 4 ++ bs.drop 8))) = bs
        rw [← e4, ← e2, ← e1, ← c2]
        exact e0.symm
      · unfold okMs rest
        rw [d2, c3, d6, d5]; rfl
end Go.Proofs.YtllbbbfkdgjffaaGreatDoor
namespace Go.Proofs.YtllbbbfkdgjffaaGreatDoor

theorem flat_isB {α : Type} {enc : α → List Int} : ∀ (l : List α), (∀ x ∈ l, IsB (enc x)) → IsB (l.flatMap enc)
  | [], _ => IsB.nil
  | x :: l, h => by
    rw [List.flatMap_cons]
    exact (h x List.mem_cons_self).app (flat_isB l fun y hy => h y (List.mem_cons_of_mem _ hy))
theorem encAc_isB (a : Ac) : IsB (encAc a) := (dg_isB _ _).app ((dg_isB _ _).app (dg_isB _ _))
theorem encCp_isB (l : List Ac) : IsB (encCp l) := (dg_isB _ _).app (flat_isB l fun x _ => encAc_isB x)
theorem fs_isB (m : Nat → Int) : ∀ k, IsB (fs m k)
  | 0 => IsB.nil
  | k + 1 => (fs_isB m k).app (by
    unfold ent
    split
    · exact IsB.nil
    · exact (dg_isB _ _).app (dg_isB _ _))
theorem encRl_isB (r : Rl) : IsB (encRl r) := (dg_isB _ _).app ((dg_isB _ _).app (((dg_isB _ _).app (fs_isB _ _)).app ((dg_isB _ _).app (flat_isB _ fun x _ => encCp_isB x))))
theorem encHd_isB (h : Hd) : IsB (encHd h) := (encRl_isB _).app ((dg_isB _ _).app (dg_isB _ _))
theorem encF_isB {m : Ms} (hf : m.Fit) (k : Fk) : IsB (encF m k) := by
  cases k
  case sw => exact dg_isB _ _
  case ps => exact (dg_isB _ _).app (flat_isB _ fun _ _ => dg_isB _ _)
  case ed => exact (dg_isB _ _).app (flat_isB _ fun _ _ => dg_isB _ _)
  case dw => exact dg_isB _ _
  case rl => exact encRl_isB _
  case po => exact dg_isB _ _
  case mo => exact dg_isB _ _
  case fr => exact (dg_isB _ _).app hf.fr
  case hs => exact (dg_isB _ _).app (flat_isB _ fun x _ => encHd_isB x)
  case up => exact dg_isB _ _
  case co => exact dg_isB _ _
theorem encMs_isB {m : Ms} (hf : m.Fit) : IsB (encMs m) :=
  (dg_isB _ _).app ((dg_isB _ _).app ((dg_isB _ _).app ((dg_isB _ _).app (flat_isB _ fun k _ => encF_isB hf k))))
theorem encMs_len (m : Ms) : (encMs m).length = 8 + (body m).length := by
  simp [encMs, dg_len]; omega
theorem fld_encMs {m : Ms} (h : (encMs m).length ≤ 8192) (r : List Int) : fld (encMs m ++ r) 2 2 = (encMs m).length := by
  have hl := encMs_len m
  unfold fld
  have e : ((encMs m ++ r).drop 2).take 2 = dg (8 + (body m).length : Nat) 2 := by
    unfold encMs
    simp [dg]
  rw [e, num_dg (by omega) (by rw [pw2]; omega), hl]
/-- FEWER BYTES ARE SHORT. -/
theorem de_cut {m : Ms} (h : (encMs m).length ≤ 8192) {k : Nat} (hk : k < (encMs m).length) : deE ((encMs m).take k) = 51 := by
  have hl := encMs_len m
  unfold deE
  rw [if_pos]
  by_cases h8 : k < 8
  · left; simp; omega
  · right
    have h0 := fld_encMs h []
    rw [List.append_nil] at h0
    have : fld ((encMs m).take k) 2 2 = fld (encMs m) 2 2 := by
      unfold fld
      rw [List.drop_take, List.take_take, Nat.min_eq_left (by omega)]
    rw [this, h0, List.length_take]
    omega
/-- MORE BYTES ARE NONE. -/
theorem de_more {m : Ms} (h : (encMs m).length ≤ 8192) (x : Int) : deE (encMs m ++ [x]) = 70 := by
  have hl := encMs_len m
  have h0 := fld_encMs h [x]
  have e : dec (encMs m ++ [x]) = none := by
    unfold dec
    rw [if_neg]
    rintro ⟨-, -, -, h4⟩
    rw [h0] at h4
    simp at h4
    omega
  unfold deE
  rw [if_neg (by rw [h0]; simp; omega), e]
end Go.Proofs.YtllbbbfkdgjffaaGreatDoor
