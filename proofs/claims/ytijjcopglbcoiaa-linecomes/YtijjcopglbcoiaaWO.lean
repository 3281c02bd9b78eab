/-
  Proved here: LineOrder's own text: it returns true for every two lists of messages and every air. Condition: the seven functions of package line serve ends.
-/
import Derived.Test.YtijjcopglbcoiaaWS
import Derived.Test.YtijjcopglbcoiaaV1
import Derived.Deep.CutBlock
namespace Go.Proofs.Ytijjcopglbcoiaa
open Go.RowKit Seal

/-- A slice value that holds whole numbers of 64 bits. -/
def SlI (S : Nat → Prop) (w : World) (v : Value) (ns : List Int) : Prop :=
  ∃ ao cap, v = .slice ao ns.length cap ∧ ns.length ≤ cap ∧ (∀ n ∈ ns, -9223372036854775808 ≤ n ∧ n ≤ 9223372036854775807) ∧ (ao = none → cap = 0) ∧
    (ns ≠ [] → ∃ b o, S b ∧ ao = some ⟨b, o, none⟩ ∧ ∀ j, j < ns.length → w.cell? ⟨b, o + j, none⟩ = some (.int .i64 (ns.getD j 0)))

theorem flat_bd : ∀ (l : List (List Int)) (n : Nat), (∀ m ∈ l, m.length ≤ n) → (flat l).length ≤ l.length * (2 + n)
  | [], n, _ => by simp [flat]
  | m :: r, n, h => by
    have h1 := flat_bd r n fun x hx => h x (List.mem_cons_of_mem _ hx)
    have h2 := h m List.mem_cons_self
    rw [flat_len_cons, List.length_cons, Nat.add_mul]; omega
/-- The beginning of a list. -/
theorem Ls.pre {S : Nat → Prop} {w : World} {ao : Option Addr} {n cap : Nat} {ll : List (List Int)} (h : Ls S w (.slice ao n cap) ll) (k : Nat) (hk : k ≤ ll.length) : Ls S w (.slice ao k cap) (ll.take k) := by
  obtain ⟨ao', cap', e, h1, h2, h3, h4⟩ := h
  simp only [Value.slice.injEq] at e
  obtain ⟨rfl, _, rfl⟩ := e
  have hl : (ll.take k).length = k := by rw [List.length_take]; omega
  refine ⟨ao, cap, by rw [hl], by omega, by omega, h3, fun hne => ?_⟩
  obtain ⟨b, o, hb, e, hc⟩ := h4 (fun e => by subst e; simp at hne)
  refine ⟨b, o, hb, e, fun j hj => ?_⟩
  rw [hl] at hj
  obtain ⟨u, hu, hs⟩ := hc j (by omega)
  refine ⟨u, hu, ?_⟩
  have : (ll.take k).getD j [] = ll.getD j [] := by simp only [List.getD_eq_getElem?_getD, List.getElem?_take, if_pos hj]
  rw [this]; exact hs
/-- What holds between two rounds. -/
structure Ord (A : PApi) (P Q : List (List Int)) (w0 w : World) (c : Nat → Nat) (va vb t1 t2 x1 x2 : Value) (ea eb : E) (la lb X Y : List (List Int)) : Prop where
  s2 : S2 A w0 w c va vb ea eb
  t1 : Sp (Col c 4) (Col c 3) w t1 la
  t2 : Sp (Col c 5) (Col c 3) w t2 lb
  x1 : Sp (Col c 6) (Col c 3) w x1 X
  x2 : Sp (Col c 8) (Col c 3) w x2 Y
  da : Dir P X ea eb
  db : Dir Q Y eb ea
  ep : ea.ep = 7 ∧ eb.ep = 7
  ga : ∀ d ∈ la, Good P ea d
  gb : ∀ d ∈ lb, Good Q eb d
  na : ea.got + ea.sent.length ≤ P.length
  nb : eb.got + eb.sent.length ≤ Q.length
section
variable {A : PApi} {P Q : List (List Int)} {w0 w : World} {c : Nat → Nat} {va vb t1 t2 x1 x2 : Value} {ea eb : E} {la lb X Y : List (List Int)}
theorem dir_fit {P x : List (List Int)} {Q y : List (List Int)} {A B : E} (h1 : Dir P x A B) (h2 : Dir Q y B A) (hp : smL P = true) (hq : smL Q = true) (he : A.ep = 7) (hn : A.got + A.sent.length ≤ P.length) : Fit A := by
  have sp := of_decide_eq_true hp
  have sq := of_decide_eq_true hq
  have hl := congrArg List.length h2.rel.all
  rw [List.length_append, List.length_take] at hl
  have := h2.rel.le
  refine ⟨by omega, by omega, by omega, by omega, fun m hm => ?_⟩
  rw [h1.sent] at hm
  have := sp.2 m (List.mem_of_mem_drop hm)
  omega
theorem Ord.fitA (h : Ord A P Q w0 w c va vb t1 t2 x1 x2 ea eb la lb X Y) (hp : smL P = true) (hq : smL Q = true) : Fit ea := dir_fit h.da h.db hp hq h.ep.1 h.na
theorem Ord.fitB (h : Ord A P Q w0 w c va vb t1 t2 x1 x2 ea eb la lb X Y) (hp : smL P = true) (hq : smL Q = true) : Fit eb := dir_fit h.db h.da hq hp h.ep.2 h.nb
theorem Keep.sp {c c' : Nat → Nat} {i j k : Nat} {w w' : World} (h : Keep c c' i w w') (hj : j ≠ i) (hk : k ≠ i) {v : Value} {ll : List (List Int)} (hl : Sp (Col c j) (Col c k) w v ll) : Sp (Col c' j) (Col c' k) w' v ll :=
  hl.carry (fun b hb hc => by
    have hc' : c b = j := hc
    have := h.same b hb (by omega)
    exact ⟨this.1.trans hc', this.2⟩) (fun b hb hc => by
    have hc' : c b = k := hc
    have := h.same b hb (by omega)
    exact ⟨this.1.trans hc', this.2⟩)
/-- The first end turns (into e'), by a call. -/
theorem Ord.turnA (h : Ord A P Q w0 w c va vb t1 t2 x1 x2 ea eb la lb X Y) {c' : Nat → Nat} {w' : World} {e' : E} (k : Keep c c' 1 w w') (hs : S2 A w0 w' c' va vb e' eb) (h1 : Dir P X e' eb) (h2 : Dir Q Y eb e') (he : e'.ep = ea.ep) (hc : ea.come ≤ e'.come) (hg : ea.got ≤ e'.got) (hn : e'.got + e'.sent.length ≤ P.length) : Ord A P Q w0 w' c' va vb t1 t2 x1 x2 e' eb la lb X Y :=
  ⟨hs, k.sp (by omega) (by omega) h.t1, k.sp (by omega) (by omega) h.t2, k.sp (by omega) (by omega) h.x1, k.sp (by omega) (by omega) h.x2, h1, h2, ⟨he.trans h.ep.1, h.ep.2⟩, fun d hd => (h.ga d hd).mono he hc hg, h.gb, hn, h.nb⟩
theorem Ord.turnB (h : Ord A P Q w0 w c va vb t1 t2 x1 x2 ea eb la lb X Y) {c' : Nat → Nat} {w' : World} {e' : E} (k : Keep c c' 2 w w') (hs : S2 A w0 w' c' va vb ea e') (h1 : Dir P X ea e') (h2 : Dir Q Y e' ea) (he : e'.ep = eb.ep) (hc : eb.come ≤ e'.come) (hg : eb.got ≤ e'.got) (hn : e'.got + e'.sent.length ≤ Q.length) : Ord A P Q w0 w' c' va vb t1 t2 x1 x2 ea e' la lb X Y :=
  ⟨hs, k.sp (by omega) (by omega) h.t1, k.sp (by omega) (by omega) h.t2, k.sp (by omega) (by omega) h.x1, k.sp (by omega) (by omega) h.x2, h1, h2, ⟨h.ep.1, he.trans h.ep.2⟩, h.ga, fun d hd => (h.gb d hd).mono he hc hg, h.na, hn⟩
/-- Memory of the colour 7 turns. -/
theorem Ord.other (h : Ord A P Q w0 w c va vb t1 t2 x1 x2 ea eb la lb X Y) {c' : Nat → Nat} {w' : World} (k : Keep c c' 7 w w') : Ord A P Q w0 w' c' va vb t1 t2 x1 x2 ea eb la lb X Y :=
  ⟨h.s2.other k (by omega) (by omega) (by omega), k.sp (by omega) (by omega) h.t1, k.sp (by omega) (by omega) h.t2, k.sp (by omega) (by omega) h.x1, k.sp (by omega) (by omega) h.x2, h.da, h.db, h.ep, h.ga, h.gb, h.na, h.nb⟩
end
/-- An append to a row of colour i keeps all else. -/
theorem apd_keep {c : Nat → Nat} {i j : Nat} {w w' : World} {v : Value} {ll : List (List Int)} (h : Sp (Col c i) (Col c j) w v ll) (A : Apd w v w') : Keep c (tint c w.heap.size i) i w w' :=
  ⟨A.os, A.tape, A.output, A.size, fun k hk hc => ⟨tint_old hk, A.block k hk fun e => hc (h.own k e)⟩⟩
/-- A row of slices is appended, in colours. -/
theorem appC {ops : Array Oper} {rest : List Oper} {o : Oper} {a : Act} {w : World} {Q : Exit → Act → World → Prop} (s x : Operand) (ho : o.op = .call { callee := .builtin .append, args := #[s, x], argTypes := #[30, 30] })
    (hw : Region.wanted o (yielded ops a.tmps) = true) {c : Nat → Nat} {i : Nat} (hi : i ≠ 3) {v u : Value} {ll ms : List (List Int)} (hs : a.eval s = v) (hx : a.eval x = u) (h : Sp (Col c i) (Col c 3) w v ll) (hu : Ls (Col c 3) w u ms) (hl : ll.length + ms.length < 2147483648)
    (hK : ∀ v' w', Keep c (tint c w.heap.size i) i w w' → Sp (Col (tint c w.heap.size i) i) (Col (tint c w.heap.size i) 3) w' v' (ll ++ ms) → wpList Try.prog ops Q rest (a.put o.dst v') w') : wpList Try.prog ops Q (o :: rest) a w := by
  refine appL s x ho hw hs hx (h.carry (fun _ _ h => ⟨h, rfl⟩) (fun _ hk h => ⟨(⟨h, hk⟩ : _ ∧ _), rfl⟩)) (hu.carry fun _ hk h => ⟨⟨h, hk⟩, rfl⟩) (fun k hk ht => ?_) hl fun v' w' A' P' => hK v' w' (apd_keep h A') ?_
  · have h1 : c k = i := h.own k hk
    have h2 : c k = 3 := ht.1
    omega
  · refine P'.carry (fun k _ hk => ⟨?_, rfl⟩) (fun k _ hk => ⟨(tint_old hk.2).trans hk.1, rfl⟩)
    rcases hk with hk | hk
    · by_cases h9 : k < w.heap.size
      · exact (tint_old h9).trans hk
      · exact tint_new (by omega)
    · exact tint_new hk
section
variable {A : PApi} {P Q : List (List Int)} {w0 w : World} {c : Nat → Nat} {va vb t1 t2 x1 x2 : Value} {ea eb : E} {la lb X Y : List (List Int)}
theorem Ord.app1 (h : Ord A P Q w0 w c va vb t1 t2 x1 x2 ea eb la lb X Y) {c' : Nat → Nat} {w' : World} {t : Value} {d : List Int} (k : Keep c c' 4 w w') (hs : Sp (Col c' 4) (Col c' 3) w' t (la ++ [d])) (hd : Good P ea d) : Ord A P Q w0 w' c' va vb t t2 x1 x2 ea eb (la ++ [d]) lb X Y :=
  ⟨h.s2.other k (by omega) (by omega) (by omega), hs, k.sp (by omega) (by omega) h.t2, k.sp (by omega) (by omega) h.x1, k.sp (by omega) (by omega) h.x2, h.da, h.db, h.ep, fun d' hd' => by
    rcases List.mem_append.1 hd' with h1 | h1
    · exact h.ga d' h1
    · have : d' = d := by simpa using h1
      rw [this]; exact hd, h.gb, h.na, h.nb⟩
theorem Ord.app2 (h : Ord A P Q w0 w c va vb t1 t2 x1 x2 ea eb la lb X Y) {c' : Nat → Nat} {w' : World} {t : Value} {d : List Int} (k : Keep c c' 5 w w') (hs : Sp (Col c' 5) (Col c' 3) w' t (lb ++ [d])) (hd : Good Q eb d) : Ord A P Q w0 w' c' va vb t1 t x1 x2 ea eb la (lb ++ [d]) X Y :=
  ⟨h.s2.other k (by omega) (by omega) (by omega), k.sp (by omega) (by omega) h.t1, hs, k.sp (by omega) (by omega) h.x1, k.sp (by omega) (by omega) h.x2, h.da, h.db, h.ep, h.ga, fun d' hd' => by
    rcases List.mem_append.1 hd' with h1 | h1
    · exact h.gb d' h1
    · have : d' = d := by simpa using h1
      rw [this]; exact hd, h.na, h.nb⟩
theorem Ord.came1 (h : Ord A P Q w0 w c va vb t1 t2 x1 x2 ea eb la lb X Y) {c1 c2 : Nat → Nat} {w1 w2 : World} {x : Value} (k1 : Keep c c1 2 w w1) (hs : S2 A w0 w1 c1 va vb ea (cmS eb)) (k2 : Keep c1 c2 6 w1 w2) (hx : Sp (Col c2 6) (Col c2 3) w2 x (X ++ eb.new)) : Ord A P Q w0 w2 c2 va vb t1 t2 x x2 ea (cmS eb) la lb (X ++ eb.new) Y :=
  ⟨hs.other k2 (by omega) (by omega) (by omega), k2.sp (by omega) (by omega) (k1.sp (by omega) (by omega) h.t1), k2.sp (by omega) (by omega) (k1.sp (by omega) (by omega) h.t2), hx, k2.sp (by omega) (by omega) (k1.sp (by omega) (by omega) h.x2), h.da.came, h.db.other, h.ep, h.ga, fun d hd => (h.gb d hd).mono rfl (Nat.le_refl _) (Nat.le_refl _), h.na, h.nb⟩
theorem Ord.came2 (h : Ord A P Q w0 w c va vb t1 t2 x1 x2 ea eb la lb X Y) {c1 c2 : Nat → Nat} {w1 w2 : World} {x : Value} (k1 : Keep c c1 1 w w1) (hs : S2 A w0 w1 c1 va vb (cmS ea) eb) (k2 : Keep c1 c2 8 w1 w2) (hx : Sp (Col c2 8) (Col c2 3) w2 x (Y ++ ea.new)) : Ord A P Q w0 w2 c2 va vb t1 t2 x1 x (cmS ea) eb la lb X (Y ++ ea.new) :=
  ⟨hs.other k2 (by omega) (by omega) (by omega), k2.sp (by omega) (by omega) (k1.sp (by omega) (by omega) h.t1), k2.sp (by omega) (by omega) (k1.sp (by omega) (by omega) h.t2), k2.sp (by omega) (by omega) (k1.sp (by omega) (by omega) h.x1), hx, h.da.other, h.db.came, h.ep, fun d hd => (h.ga d hd).mono rfl (Nat.le_refl _) (Nat.le_refl _), h.gb, h.na, h.nb⟩
end

set_option maxRecDepth 100000 in
set_option maxHeartbeats 1600000 in
theorem order_main (A : PApi) (pv qv av : Value) (P Q : List (List Int)) (ns : List Int) (w : World) (hp : Ls (fun k => k < w.heap.size) w pv P) (hq : Ls (fun k => k < w.heap.size) w qv Q) (hn : SlI (fun k => k < w.heap.size) w av ns) (sp : smL P = true) (sq : smL Q = true) (hl : ns.length ≤ 400) :
    Calls Try.prog 6 #[pv, qv, av] w fun r w' => r = .returned (.bool true) ∧ Below w.heap.size w w' := by
  have HPL : Hid (Ls (fun k => k < w.heap.size) w pv P) := hp
  have HQL : Hid (Ls (fun k => k < w.heap.size) w qv Q) := hq
  have HSM : Hid (smL P = true ∧ smL Q = true) := ⟨sp, sq⟩
  have HSP : Hid (Calls Try.prog 23 #[pv] w fun r w' => r = .returned (.bool true) ∧ w' = w) := by
    have := small_any _ pv P w hp; rw [sp] at this; exact this
  have HSQ : Hid (Calls Try.prog 23 #[qv] w fun r w' => r = .returned (.bool true) ∧ w' = w) := by
    have := small_any _ qv Q w hq; rw [sq] at this; exact this
  have HAB : Hid (AllB P ∧ AllB Q) := ⟨hp.allB, hq.allB⟩
  have hPn := (of_decide_eq_true sp).1
  have hQn := (of_decide_eq_true sq).1
  obtain ⟨pa, pc, rfl, hpc, -, -, -⟩ := hp
  obtain ⟨qa, qc, rfl, hqc, -, -, -⟩ := hq
  obtain ⟨na, nc, rfl, hnc, hrange, -, hncl⟩ := hn
  have HNC : Hid (ns ≠ [] → ∃ b o, b < w.heap.size ∧ na = some ⟨b, o, none⟩ ∧ ∀ j, j < ns.length → w.cell? ⟨b, o + j, none⟩ = some (.int .i64 (ns.getD j 0))) := hncl
  have HRG : Hid (∀ n ∈ ns, -9223372036854775808 ≤ n ∧ n ≤ 9223372036854775807) := hrange
  have hnot : ∀ (x : Bool) (w : World), (Op.unary .not (.bool x)).run Try.prog w = .ok (.bool (!x)) w := fun _ _ => rfl
  clear hncl hrange sp sq
  go_enter Try.func6, Try.ntmps6
  go_wp2_with fail
  go_fit HSP.out
  rintro r w1 ⟨rfl, h1⟩
  rw [h1]; clear h1 w1
  go_wp2_with fail
  go_fit HSQ.out
  rintro r w1 ⟨rfl, h1⟩
  rw [h1]; clear h1 w1
  go_wp2_with fail
  go_fit (make1 A w 7 (by decide))
  rintro r w1 ⟨va, c1, rfl, hl1, ho1, hp1⟩
  have H1 : Hid (Below w.heap.size w w1 ∧ (∀ k, k < w.heap.size → c1 k = 0) ∧ A.PE (Col c1 1) w1 va (E.mk0 7)) := ⟨hl1, ho1, hp1⟩
  clear hl1 ho1 hp1 HSP HSQ
  go_wp2_with fail
  go_fit (S2.make H1.out.1 H1.out.2.1 H1.out.2.2 7 (by decide))
  rintro r w2 ⟨vb, c2, rfl, -, h2⟩
  have T2 : Hid (S2 A w w2 c2 va vb (E.mk0 7) (E.mk0 7)) := h2
  clear h2 H1
  go_wp2_with fail
  go_fit (sent_any A c2 1 7 va _ P w2 T2.out.a (by omega) (HPL.out.carry fun k _ h => ⟨T2.out.old k h, T2.out.low.block k h⟩) (by decide) HSM.out.1)
  rintro r w3 ⟨c3, rfl, k3, h3⟩
  have T3 : Hid (S2 A w w3 c3 va vb ⟨7, P, 0, 0, []⟩ (E.mk0 7)) := T2.out.stepA k3 h3
  clear k3 h3 T2
  go_wp2_with fail
  go_fit (sent_any A c3 2 7 vb _ Q w3 T3.out.b (by omega) (HQL.out.carry fun k _ h => ⟨T3.out.old k h, T3.out.low.block k h⟩) (by decide) HSM.out.2)
  rintro r w4 ⟨c4, rfl, k4, h4⟩
  have T4 : Hid (S2 A w w4 c4 va vb ⟨7, P, 0, 0, []⟩ ⟨7, Q, 0, 0, []⟩) := T3.out.stepB k4 h4
  clear k4 h4 T3
  go_wp2_with fail
  go_loopw [9, 10, 11, 12, 13, 14, 15, 16, 17] (fun t1 t2 x1 x2 i _ _ _ _ wr => ∃ (k : Nat) (c : Nat → Nat) (ea eb : E) (la lb X Y : List (List Int)), k ≤ ns.length ∧ i = .int .i64 k ∧ la.length ≤ k ∧ lb.length ≤ k ∧ Ord A P Q w wr c va vb t1 t2 x1 x2 ea eb la lb X Y ∧ ea.new = [] ∧ eb.new = []) (fun _ _ _ _ i _ _ _ _ _ => ns.length - (intOf i).toNat)
  case atStart =>
    refine ⟨0, c4, _, _, [], [], [], [], by omega, rfl, by simp, by simp, ⟨T4.out, Sp.nil _ _ _, Sp.nil _ _ _, Sp.nil _ _ _, Sp.nil _ _ _, ⟨rfl, Nat.le_refl _, rfl, Nat.zero_le _⟩, ⟨rfl, Nat.le_refl _, rfl, Nat.zero_le _⟩, ⟨rfl, rfl⟩, (fun _ h => by cases h), (fun _ h => by cases h), by simp, by simp⟩, rfl, rfl⟩
  case round =>
    obtain ⟨k, c, ea, eb, la, lb, X, Y, hk, rfl, hla, hlb, hord, hea, heb⟩ := hrel
    have HO : Hid (Ord A P Q w wr c va vb u9 u10 u11 u12 ea eb la lb X Y) := hord
    have HNW : Hid (ea.new = [] ∧ eb.new = []) := ⟨hea, heb⟩
    clear hord hea heb
    by_cases hlt : k < ns.length
    · obtain ⟨b, o, hb, rfl, hcl⟩ := HNC.out (fun e => by rw [e] at hlt; simp at hlt)
      have hrg := HRG.out (ns.getD k 0) (by rw [List.getD_eq_getElem?_getD, List.getElem?_eq_getElem hlt]; exact List.getElem_mem hlt)
      have hcell : wr.cell? ⟨b, o + k, none⟩ = some (.int .i64 (ns.getD k 0)) := by rw [HO.out.s2.low.cell (p := ⟨b, o + k, none⟩) hb]; exact hcl k hlt
      generalize ns.getD k 0 = n at *
      clear hcl hb
      go_upto_if 55 with fail
      go_cut [14] (fun s wx => ∃ N : Int, 0 ≤ N ∧ N ≤ 9223372036854775807 ∧ s = .int .i64 N ∧ wx = wr)
      case first =>
        by_cases h0 : n < 0
        · go_wp2_with fail
          go_meet
          case rel => exact ⟨-(n + 1), by omega, by omega, rfl, rfl⟩
        · go_wp2_with fail
          go_meet
          case rel => exact ⟨n, by omega, by omega, rfl, rfl⟩
      case rest =>
        obtain ⟨N, hN0, hN1, rfl, hwc⟩ := hcut
        rw [hwc]
        clear hwc wc hcell hrg
        go_upto_if 63 with fail
        go_cut [15, 16] (fun s1 s2 wx => ((s1 = vb ∧ s2 = u9) ∨ (s1 = va ∧ s2 = u10)) ∧ wx = wr)
        case first =>
          cases hb : (bits .and .i64 N 1 == 1) with
          | true =>
            go_wp2_with fail
            go_meet
            case rel => exact ⟨Or.inr ⟨rfl, rfl⟩, rfl⟩
          | false =>
            go_wp2_with fail
            go_meet
            case rel => exact ⟨Or.inl ⟨rfl, rfl⟩, rfl⟩
        case rest =>
          obtain ⟨hside, hwc⟩ := hcut
          rw [hwc]
          clear hwc wc
          have HSD : Hid ((u15 = vb ∧ u16 = u9) ∨ (u15 = va ∧ u16 = u10)) := hside
          clear hside
          go_upto_block 2 with fail
          go_cut [9, 10, 15, 16, 17, 66, 67, 68] (fun s9 s10 _ _ _ _ _ _ wx => ∃ (c' : Nat → Nat) (ea' eb' : E) (la' lb' : List (List Int)), la'.length ≤ k + 1 ∧ lb'.length ≤ k + 1 ∧ Ord A P Q w wx c' va vb s9 s10 u11 u12 ea' eb' la' lb' X Y)
          case first =>
            --SWITCH
            rcases (by omega : N / 2 % 4 = 0 ∨ N / 2 % 4 = 1 ∨ N / 2 % 4 = 2 ∨ N / 2 % 4 = 3) with hM | hM | hM | hM
            · go_wp2_with fail
              go_fit (HO.out.s2.tickA (HO.out.fitA HSM.out.1 HSM.out.2) 3)
              rintro r w5 ⟨v5, c5, rfl, k5, h5, l5⟩
              have O5 : Hid (Ord A P Q w w5 c5 va vb u9 u10 u11 u12 ea eb la lb X Y) := HO.out.turnA k5 h5 HO.out.da HO.out.db rfl (Nat.le_refl _) (Nat.le_refl _) HO.out.na
              have L5 : Hid (Ls (Col c5 3) w5 v5 [tkL ea]) := l5
              have G5 : Hid (Good P ea (tkL ea)) := by
                have hf := HO.out.fitA HSM.out.1 HSM.out.2
                have sp := of_decide_eq_true HSM.out.1
                exact Good.tick HO.out.da.sent HAB.out.1 (fun m hm => by have := sp.2 m hm; omega) (by have := hf.come; omega) (by have := hf.got; omega) hf.ep
              clear k5 h5 l5
              go_wp2_with (at_builtin; refine appC (.tmp 71) (.tmp 73) rfl rfl (i := 4) (by omega) rfl rfl O5.out.t1 L5.out (by simp only [List.length_cons, List.length_nil]; omega) ?_; intro v6 w6 k6 s6)
              have O6 : Hid (Ord A P Q w w6 (tint c5 w5.heap.size 4) va vb v6 u10 u11 u12 ea eb (la ++ [tkL ea]) lb X Y) := O5.out.app1 k6 s6 G5.out
              clear k6 s6 O5 L5 G5
              go_fit (O6.out.s2.tickB (O6.out.fitB HSM.out.1 HSM.out.2) 3)
              rintro r w7 ⟨v7, c7, rfl, k7, h7, l7⟩
              have O7 : Hid (Ord A P Q w w7 c7 va vb v6 u10 u11 u12 ea eb (la ++ [tkL ea]) lb X Y) := O6.out.turnB k7 h7 O6.out.da O6.out.db rfl (Nat.le_refl _) (Nat.le_refl _) O6.out.nb
              have L7 : Hid (Ls (Col c7 3) w7 v7 [tkL eb]) := l7
              have G7 : Hid (Good Q eb (tkL eb)) := by
                have hf := O6.out.fitB HSM.out.1 HSM.out.2
                have sq := of_decide_eq_true HSM.out.2
                exact Good.tick O6.out.db.sent HAB.out.2 (fun m hm => by have := sq.2 m hm; omega) (by have := hf.come; omega) (by have := hf.got; omega) hf.ep
              clear k7 h7 l7 O6
              go_wp2_with (at_builtin; refine appC (.tmp 75) (.tmp 77) rfl rfl (i := 5) (by omega) rfl rfl O7.out.t2 L7.out (by simp only [List.length_cons, List.length_nil]; omega) ?_; intro v8 w8 k8 s8)
              have O8 : Hid (Ord A P Q w w8 (tint c7 w7.heap.size 5) va vb v6 v8 u11 u12 ea eb (la ++ [tkL ea]) (lb ++ [tkL eb]) X Y) := O7.out.app2 k8 s8 G7.out
              clear k8 s8 O7 L7 G7
              go_wp2_with fail
              go_meet
              case rel => exact ⟨_, ea, eb, _, _, by simp; omega, by simp; omega, O8.out⟩
            · skip
              rcases HSD.out with ⟨h15, h16⟩ | ⟨h15, h16⟩
              · replace h15 := h15.symm
                subst h15
                replace h16 := h16.symm
                subst h16
                obtain ⟨ta, tc, rfl, h1, h2⟩ := HO.out.t1.form
                by_cases hla : la = []
                · have hl0 : la.length = 0 := by rw [hla]; rfl
                  clear hla h1 h2
                  go_wp2_with fail
                  go_meet
                  case rel =>
                    have hh := HO.out
                    rw [hl0] at hh
                    exact ⟨c, ea, eb, la, lb, by omega, by omega, hh⟩
                · have hpos : 0 < la.length := List.length_pos_iff.2 hla
                  obtain ⟨b9, o9, rfl, h3⟩ := h2 hla
                  obtain ⟨j, hj, hjl⟩ : ∃ j : Nat, N / 8 % (la.length : Int) = j ∧ j < la.length := by
                    have e1 := Int.emod_nonneg (N / 8) (show (la.length : Int) ≠ 0 by omega)
                    have e2 := Int.emod_lt_of_pos (N / 8) (show (0 : Int) < la.length by omega)
                    exact ⟨(N / 8 % (la.length : Int)).toNat, by omega, by omega⟩
                  obtain ⟨um, hum, hus⟩ := h3 j hjl
                  have HUS : Hid (SlC (Col c 3) wr um (la.getD j [])) := hus
                  obtain ⟨ua, uc, rfl, -⟩ := hus
                  have HG : Hid (Good P ea (la.getD j [])) := HO.out.ga _ (getD_mem hjl)
                  clear h3 h2 hla h1
                  generalize la.getD j [] = d at *
                  have D := Dir.take HO.out.da HO.out.db (HO.out.ep.2.trans HO.out.ep.1.symm) HG.out HO.out.nb
                  have D : Hid _ := D
                  go_wp2_with fail
                  go_fit (HO.out.s2.takeB (HO.out.fitB HSM.out.1 HSM.out.2) (j := 3) (by omega) HUS.out)
                  rintro r w5 ⟨c5, rfl, k5, h5⟩
                  rw [D.out.1]
                  have O5 : Hid (Ord A P Q w w5 c5 va vb (.slice (some ⟨b9, o9, none⟩) la.length tc) u10 u11 u12 ea (taS eb d) la lb X Y) := HO.out.turnB k5 h5 D.out.2.1 D.out.2.2.1 D.out.2.2.2.1 D.out.2.2.2.2.1 D.out.2.2.2.2.2.1 D.out.2.2.2.2.2.2
                  clear k5 h5
                  go_wp2_with fail
                  go_meet
                  case rel => exact ⟨c5, _, _, la, lb, by omega, by omega, O5.out⟩
              · replace h15 := h15.symm
                subst h15
                replace h16 := h16.symm
                subst h16
                obtain ⟨ta, tc, rfl, h1, h2⟩ := HO.out.t2.form
                by_cases hla : lb = []
                · have hl0 : lb.length = 0 := by rw [hla]; rfl
                  clear hla h1 h2
                  go_wp2_with fail
                  go_meet
                  case rel =>
                    have hh := HO.out
                    rw [hl0] at hh
                    exact ⟨c, ea, eb, la, lb, by omega, by omega, hh⟩
                · have hpos : 0 < lb.length := List.length_pos_iff.2 hla
                  obtain ⟨b9, o9, rfl, h3⟩ := h2 hla
                  obtain ⟨j, hj, hjl⟩ : ∃ j : Nat, N / 8 % (lb.length : Int) = j ∧ j < lb.length := by
                    have e1 := Int.emod_nonneg (N / 8) (show (lb.length : Int) ≠ 0 by omega)
                    have e2 := Int.emod_lt_of_pos (N / 8) (show (0 : Int) < lb.length by omega)
                    exact ⟨(N / 8 % (lb.length : Int)).toNat, by omega, by omega⟩
                  obtain ⟨um, hum, hus⟩ := h3 j hjl
                  have HUS : Hid (SlC (Col c 3) wr um (lb.getD j [])) := hus
                  obtain ⟨ua, uc, rfl, -⟩ := hus
                  have HG : Hid (Good Q eb (lb.getD j [])) := HO.out.gb _ (getD_mem hjl)
                  clear h3 h2 hla h1
                  generalize lb.getD j [] = d at *
                  have D := Dir.take HO.out.db HO.out.da (HO.out.ep.1.trans HO.out.ep.2.symm) HG.out HO.out.na
                  have D : Hid _ := D
                  go_wp2_with fail
                  go_fit (HO.out.s2.takeA (HO.out.fitA HSM.out.1 HSM.out.2) (j := 3) (by omega) HUS.out)
                  rintro r w5 ⟨c5, rfl, k5, h5⟩
                  rw [D.out.1]
                  have O5 : Hid (Ord A P Q w w5 c5 va vb u9 (.slice (some ⟨b9, o9, none⟩) lb.length tc) u11 u12 (taS ea d) eb la lb X Y) := HO.out.turnA k5 h5 D.out.2.2.1 D.out.2.1 D.out.2.2.2.1 D.out.2.2.2.2.1 D.out.2.2.2.2.2.1 D.out.2.2.2.2.2.2
                  clear k5 h5
                  go_wp2_with fail
                  go_meet
                  case rel => exact ⟨c5, _, _, la, lb, by omega, by omega, O5.out⟩
            · skip
              rcases HSD.out with ⟨h15, h16⟩ | ⟨h15, h16⟩
              · replace h15 := h15.symm
                subst h15
                replace h16 := h16.symm
                subst h16
                obtain ⟨ta, tc, rfl, h1, h2⟩ := HO.out.t1.form
                by_cases hla : la = []
                · have hl0 : la.length = 0 := by rw [hla]; rfl
                  clear hla h1 h2
                  go_wp2_with fail
                  go_meet
                  case rel =>
                    have hh := HO.out
                    rw [hl0] at hh
                    exact ⟨c, ea, eb, la, lb, by omega, by omega, hh⟩
                · have hpos : 0 < la.length := List.length_pos_iff.2 hla
                  obtain ⟨b9, o9, rfl, h3⟩ := h2 hla
                  obtain ⟨j, hj, hjl⟩ : ∃ j : Nat, N / 8 % (la.length : Int) = j ∧ j < la.length := by
                    have e1 := Int.emod_nonneg (N / 8) (show (la.length : Int) ≠ 0 by omega)
                    have e2 := Int.emod_lt_of_pos (N / 8) (show (0 : Int) < la.length by omega)
                    exact ⟨(N / 8 % (la.length : Int)).toNat, by omega, by omega⟩
                  obtain ⟨um, hum, hus⟩ := h3 j hjl
                  have HUS : Hid (SlC (Col c 3) wr um (la.getD j [])) := hus
                  obtain ⟨ua, uc, rfl, -⟩ := hus
                  have HG : Hid (Good P ea (la.getD j [])) := HO.out.ga _ (getD_mem hjl)
                  clear h3 h2 hla h1
                  generalize la.getD j [] = d at *
                  have D := Dir.take HO.out.da HO.out.db (HO.out.ep.2.trans HO.out.ep.1.symm) HG.out HO.out.nb
                  have D : Hid _ := D
                  go_wp2_with fail
                  go_fit (HO.out.s2.takeB (HO.out.fitB HSM.out.1 HSM.out.2) (j := 3) (by omega) HUS.out)
                  rintro r w5 ⟨c5, rfl, k5, h5⟩
                  rw [D.out.1]
                  have O5 : Hid (Ord A P Q w w5 c5 va vb (.slice (some ⟨b9, o9, none⟩) la.length tc) u10 u11 u12 ea (taS eb d) la lb X Y) := HO.out.turnB k5 h5 D.out.2.1 D.out.2.2.1 D.out.2.2.2.1 D.out.2.2.2.2.1 D.out.2.2.2.2.2.1 D.out.2.2.2.2.2.2
                  clear k5 h5
                  go_wp2_with fail
                  go_meet
                  case rel => exact ⟨c5, _, _, la, lb, by omega, by omega, O5.out⟩
              · replace h15 := h15.symm
                subst h15
                replace h16 := h16.symm
                subst h16
                obtain ⟨ta, tc, rfl, h1, h2⟩ := HO.out.t2.form
                by_cases hla : lb = []
                · have hl0 : lb.length = 0 := by rw [hla]; rfl
                  clear hla h1 h2
                  go_wp2_with fail
                  go_meet
                  case rel =>
                    have hh := HO.out
                    rw [hl0] at hh
                    exact ⟨c, ea, eb, la, lb, by omega, by omega, hh⟩
                · have hpos : 0 < lb.length := List.length_pos_iff.2 hla
                  obtain ⟨b9, o9, rfl, h3⟩ := h2 hla
                  obtain ⟨j, hj, hjl⟩ : ∃ j : Nat, N / 8 % (lb.length : Int) = j ∧ j < lb.length := by
                    have e1 := Int.emod_nonneg (N / 8) (show (lb.length : Int) ≠ 0 by omega)
                    have e2 := Int.emod_lt_of_pos (N / 8) (show (0 : Int) < lb.length by omega)
                    exact ⟨(N / 8 % (lb.length : Int)).toNat, by omega, by omega⟩
                  obtain ⟨um, hum, hus⟩ := h3 j hjl
                  have HUS : Hid (SlC (Col c 3) wr um (lb.getD j [])) := hus
                  obtain ⟨ua, uc, rfl, -⟩ := hus
                  have HG : Hid (Good Q eb (lb.getD j [])) := HO.out.gb _ (getD_mem hjl)
                  clear h3 h2 hla h1
                  generalize lb.getD j [] = d at *
                  have D := Dir.take HO.out.db HO.out.da (HO.out.ep.1.trans HO.out.ep.2.symm) HG.out HO.out.na
                  have D : Hid _ := D
                  go_wp2_with fail
                  go_fit (HO.out.s2.takeA (HO.out.fitA HSM.out.1 HSM.out.2) (j := 3) (by omega) HUS.out)
                  rintro r w5 ⟨c5, rfl, k5, h5⟩
                  rw [D.out.1]
                  have O5 : Hid (Ord A P Q w w5 c5 va vb u9 (.slice (some ⟨b9, o9, none⟩) lb.length tc) u11 u12 (taS ea d) eb la lb X Y) := HO.out.turnA k5 h5 D.out.2.2.1 D.out.2.1 D.out.2.2.2.1 D.out.2.2.2.2.1 D.out.2.2.2.2.2.1 D.out.2.2.2.2.2.2
                  clear k5 h5
                  go_wp2_with fail
                  go_meet
                  case rel => exact ⟨c5, _, _, la, lb, by omega, by omega, O5.out⟩
            · skip
              rcases HSD.out with ⟨h15, h16⟩ | ⟨h15, h16⟩
              · replace h15 := h15.symm
                subst h15
                replace h16 := h16.symm
                subst h16
                obtain ⟨ta, tc, rfl, h1, h2⟩ := HO.out.t1.form
                by_cases hla : la = []
                · have hl0 : la.length = 0 := by rw [hla]; rfl
                  clear hla h1 h2
                  go_wp2_with fail
                  go_meet
                  case rel =>
                    have hh := HO.out
                    rw [hl0] at hh
                    exact ⟨c, ea, eb, la, lb, by omega, by omega, hh⟩
                · have hpos : 0 < la.length := List.length_pos_iff.2 hla
                  obtain ⟨b9, o9, rfl, h3⟩ := h2 hla
                  obtain ⟨j, hj, hjl⟩ : ∃ j : Nat, N / 8 % (la.length : Int) = j ∧ j < la.length := by
                    have e1 := Int.emod_nonneg (N / 8) (show (la.length : Int) ≠ 0 by omega)
                    have e2 := Int.emod_lt_of_pos (N / 8) (show (0 : Int) < la.length by omega)
                    exact ⟨(N / 8 % (la.length : Int)).toNat, by omega, by omega⟩
                  obtain ⟨um, hum, hus⟩ := h3 j hjl
                  have HUS : Hid (SlC (Col c 3) wr um (la.getD j [])) := hus
                  obtain ⟨ua, uc, rfl, -⟩ := hus
                  have HG : Hid (Good P ea (la.getD j [])) := HO.out.ga _ (getD_mem hjl)
                  clear h3 h2 hla h1
                  generalize la.getD j [] = d at *
                  obtain ⟨bb, hbb, hbB, hbl⟩ : ∃ bb, d = dat bb ∧ IsB bb ∧ bb.length ≤ 1000000 := by
                    obtain ⟨c9, g9, ms, e9, -, -, -, hl9, hB9, hm9, -⟩ := HG.out
                    refine ⟨_, e9, bodyOf_isB hB9, ?_⟩
                    rw [bodyOf_len]
                    have := flat_bd ms 8192 hm9
                    have : ms.length * (2 + 8192) ≤ 32 * (2 + 8192) := Nat.mul_le_mul_right _ hl9
                    omega
                  have hdl : d.length = bb.length + 4 := by rw [hbb, dat_len]
                  have hd4 : 4 ≤ d.length := by omega
                  have hd5 : d.length ≤ 1000004 := by omega
                  have HDL : Hid (d.length = bb.length + 4) := hdl
                  clear hdl hbl
                  have HBB : Hid (d = dat bb ∧ IsB bb) := ⟨hbb, hbB⟩
                  clear hbb hbB
                  have l4 : Below wr.heap.size wr (wr.alloc (.cells #[] 5)) := (Below.refl _ _).alloc (Nat.le_refl _) _
                  have HL4 : Hid (Below wr.heap.size wr (wr.alloc (.cells #[] 5))) := l4
                  have HOE : Hid (Owns wr.heap.size (wr.alloc (.cells #[] 5)) (.slice (some ⟨wr.heap.size, 0, none⟩) 0 0) []) := owns_empty wr (Nat.le_refl _)
                  have HSD4 : Hid (Sl wr.heap.size (wr.alloc (.cells #[] 5)) (.slice ua d.length uc) d) := HUS.out.sl.on l4
                  have hum4 : (wr.alloc (.cells #[] 5)).cell? ⟨b9, o9 + j, none⟩ = some (.slice ua d.length uc) := by rw [l4.cell (p := ⟨b9, o9 + j, none⟩) (cell_lt hum)]; exact hum
                  clear l4
                  go_upto_region 30 with (at_builtin; refine app22 (.tmp 103) (.tmp 111) rfl rfl rfl rfl HOE.out HSD4.out (by simp) (by simp only [List.length_nil]; omega) ?_; intro v5 w5 X5)
                  have X5' : Ext wr.heap.size (wr.alloc (.cells #[] 5)) (.slice (some ⟨wr.heap.size, 0, none⟩) 0 0) w5 v5 d := X5
                  obtain ⟨g5, k5, rfl, hg5⟩ := X5'.own.form (by omega)
                  obtain ⟨i5, hi5, hil⟩ : ∃ i : Nat, N / 16 % (d.length : Int) = i ∧ i < d.length := by
                    have e1 := Int.emod_nonneg (N / 16) (show (d.length : Int) ≠ 0 by omega)
                    have e2 := Int.emod_lt_of_pos (N / 16) (show (0 : Int) < d.length by omega)
                    exact ⟨(N / 16 % (d.length : Int)).toNat, by omega, by omega⟩
                  obtain ⟨q5, hq5, hq1, hq2⟩ : ∃ q : Nat, 1 + N / 32 % 255 = (q : Int) ∧ 0 < q ∧ q < 256 := ⟨(1 + N / 32 % 255).toNat, by omega, by omega, by omega⟩
                  obtain ⟨hc5, hz5⟩ := X5'.own.cell i5 hil
                  have hx5 := (HUS.out.isB).at i5
                  have HX5 : Hid (∀ y, Owns wr.heap.size (w5.setCell ⟨g5, i5, none⟩ (.int .u8 y)) (.slice (some ⟨g5, 0, none⟩) d.length k5) (d.set i5 y)) := fun y => X5'.own.set i5 y
                  have HB5 : Hid (Below wr.heap.size wr w5) := HL4.out.trans (X5'.below HOE.out (by simp))
                  obtain ⟨x5, hx⟩ : ∃ x, x = d.getD i5 0 := ⟨_, rfl⟩
                  rw [← hx] at hc5 hx5
                  have HXX : Hid (x5 = d.getD i5 0) := hx
                  have hxor : bits .xor .u8 x5 (q5 : Int) = ((x5.toNat ^^^ q5 : Nat) : Int) := by rw [u8_xor x5 _ hx5.1 hx5.2 (by omega) (by omega), Int.toNat_natCast]
                  have hy256 : x5.toNat ^^^ q5 < 256 := Nat.xor_lt_two_pow (n := 8) (by omega) hq2
                  generalize hyy : x5.toNat ^^^ q5 = y5 at *
                  have HT : Hid (taE (d.set i5 (y5 : Int)) = 50 ∧ taS eb (d.set i5 (y5 : Int)) = eb) := by
                    have ht := torn HBB.out.2 (i := i5) (q := q5) (y := (y5 : Int)) (by have := HDL.out; omega) hq2 (by omega) (by rw [← HBB.out.1, ← HXX.out, Int.toNat_natCast]; exact hyy.symm) (by omega) (by omega)
                    rw [← HBB.out.1] at ht
                    exact ⟨(taE_torn ht).1, (taE_torn ht).2 _⟩
                  have HK5 : Hid (Keep c (tint c wr.heap.size 7) 7 wr (w5.setCell ⟨g5, i5, none⟩ (.int .u8 (y5 : Int)))) := Keep.below c 7 (HB5.out.setCell (p := ⟨g5, i5, none⟩) hg5 _)
                  have HS5 : Hid (SlC (Col (tint c wr.heap.size 7) 7) (w5.setCell ⟨g5, i5, none⟩ (.int .u8 (y5 : Int))) (.slice (some ⟨g5, 0, none⟩) d.length k5) (d.set i5 (y5 : Int))) := SlC.own (HX5.out _) (by simp; omega) ((HUS.out.isB).set i5 (by omega) (by omega)) fun k h1 _ => tint_new h1
                  have O5 : Hid (Ord A P Q w (w5.setCell ⟨g5, i5, none⟩ (.int .u8 (y5 : Int))) (tint c wr.heap.size 7) va vb (.slice (some ⟨b9, o9, none⟩) la.length tc) u10 u11 u12 ea eb la lb X Y) := HO.out.other HK5.out
                  clear X5 X5' hx hyy hum hum4
                  go_wp2_with fail
                  go_fit (O5.out.s2.takeB (O5.out.fitB HSM.out.1 HSM.out.2) (j := 7) (by omega) HS5.out)
                  rintro r w6 ⟨c6, rfl, k6, h6⟩
                  rw [HT.out.1]
                  rw [HT.out.2] at h6
                  have O6 : Hid (Ord A P Q w w6 c6 va vb (.slice (some ⟨b9, o9, none⟩) la.length tc) u10 u11 u12 ea eb la lb X Y) := O5.out.turnB k6 h6 O5.out.da O5.out.db rfl (Nat.le_refl _) (Nat.le_refl _) O5.out.nb
                  clear k6 h6
                  go_wp2_with fail
                  go_meet
                  case rel => exact ⟨c6, _, _, la, lb, by omega, by omega, O6.out⟩
              · replace h15 := h15.symm
                subst h15
                replace h16 := h16.symm
                subst h16
                obtain ⟨ta, tc, rfl, h1, h2⟩ := HO.out.t2.form
                by_cases hla : lb = []
                · have hl0 : lb.length = 0 := by rw [hla]; rfl
                  clear hla h1 h2
                  go_wp2_with fail
                  go_meet
                  case rel =>
                    have hh := HO.out
                    rw [hl0] at hh
                    exact ⟨c, ea, eb, la, lb, by omega, by omega, hh⟩
                · have hpos : 0 < lb.length := List.length_pos_iff.2 hla
                  obtain ⟨b9, o9, rfl, h3⟩ := h2 hla
                  obtain ⟨j, hj, hjl⟩ : ∃ j : Nat, N / 8 % (lb.length : Int) = j ∧ j < lb.length := by
                    have e1 := Int.emod_nonneg (N / 8) (show (lb.length : Int) ≠ 0 by omega)
                    have e2 := Int.emod_lt_of_pos (N / 8) (show (0 : Int) < lb.length by omega)
                    exact ⟨(N / 8 % (lb.length : Int)).toNat, by omega, by omega⟩
                  obtain ⟨um, hum, hus⟩ := h3 j hjl
                  have HUS : Hid (SlC (Col c 3) wr um (lb.getD j [])) := hus
                  obtain ⟨ua, uc, rfl, -⟩ := hus
                  have HG : Hid (Good Q eb (lb.getD j [])) := HO.out.gb _ (getD_mem hjl)
                  clear h3 h2 hla h1
                  generalize lb.getD j [] = d at *
                  obtain ⟨bb, hbb, hbB, hbl⟩ : ∃ bb, d = dat bb ∧ IsB bb ∧ bb.length ≤ 1000000 := by
                    obtain ⟨c9, g9, ms, e9, -, -, -, hl9, hB9, hm9, -⟩ := HG.out
                    refine ⟨_, e9, bodyOf_isB hB9, ?_⟩
                    rw [bodyOf_len]
                    have := flat_bd ms 8192 hm9
                    have : ms.length * (2 + 8192) ≤ 32 * (2 + 8192) := Nat.mul_le_mul_right _ hl9
                    omega
                  have hdl : d.length = bb.length + 4 := by rw [hbb, dat_len]
                  have hd4 : 4 ≤ d.length := by omega
                  have hd5 : d.length ≤ 1000004 := by omega
                  have HDL : Hid (d.length = bb.length + 4) := hdl
                  clear hdl hbl
                  have HBB : Hid (d = dat bb ∧ IsB bb) := ⟨hbb, hbB⟩
                  clear hbb hbB
                  have l4 : Below wr.heap.size wr (wr.alloc (.cells #[] 5)) := (Below.refl _ _).alloc (Nat.le_refl _) _
                  have HL4 : Hid (Below wr.heap.size wr (wr.alloc (.cells #[] 5))) := l4
                  have HOE : Hid (Owns wr.heap.size (wr.alloc (.cells #[] 5)) (.slice (some ⟨wr.heap.size, 0, none⟩) 0 0) []) := owns_empty wr (Nat.le_refl _)
                  have HSD4 : Hid (Sl wr.heap.size (wr.alloc (.cells #[] 5)) (.slice ua d.length uc) d) := HUS.out.sl.on l4
                  have hum4 : (wr.alloc (.cells #[] 5)).cell? ⟨b9, o9 + j, none⟩ = some (.slice ua d.length uc) := by rw [l4.cell (p := ⟨b9, o9 + j, none⟩) (cell_lt hum)]; exact hum
                  clear l4
                  go_upto_region 30 with (at_builtin; refine app22 (.tmp 103) (.tmp 111) rfl rfl rfl rfl HOE.out HSD4.out (by simp) (by simp only [List.length_nil]; omega) ?_; intro v5 w5 X5)
                  have X5' : Ext wr.heap.size (wr.alloc (.cells #[] 5)) (.slice (some ⟨wr.heap.size, 0, none⟩) 0 0) w5 v5 d := X5
                  obtain ⟨g5, k5, rfl, hg5⟩ := X5'.own.form (by omega)
                  obtain ⟨i5, hi5, hil⟩ : ∃ i : Nat, N / 16 % (d.length : Int) = i ∧ i < d.length := by
                    have e1 := Int.emod_nonneg (N / 16) (show (d.length : Int) ≠ 0 by omega)
                    have e2 := Int.emod_lt_of_pos (N / 16) (show (0 : Int) < d.length by omega)
                    exact ⟨(N / 16 % (d.length : Int)).toNat, by omega, by omega⟩
                  obtain ⟨q5, hq5, hq1, hq2⟩ : ∃ q : Nat, 1 + N / 32 % 255 = (q : Int) ∧ 0 < q ∧ q < 256 := ⟨(1 + N / 32 % 255).toNat, by omega, by omega, by omega⟩
                  obtain ⟨hc5, hz5⟩ := X5'.own.cell i5 hil
                  have hx5 := (HUS.out.isB).at i5
                  have HX5 : Hid (∀ y, Owns wr.heap.size (w5.setCell ⟨g5, i5, none⟩ (.int .u8 y)) (.slice (some ⟨g5, 0, none⟩) d.length k5) (d.set i5 y)) := fun y => X5'.own.set i5 y
                  have HB5 : Hid (Below wr.heap.size wr w5) := HL4.out.trans (X5'.below HOE.out (by simp))
                  obtain ⟨x5, hx⟩ : ∃ x, x = d.getD i5 0 := ⟨_, rfl⟩
                  rw [← hx] at hc5 hx5
                  have HXX : Hid (x5 = d.getD i5 0) := hx
                  have hxor : bits .xor .u8 x5 (q5 : Int) = ((x5.toNat ^^^ q5 : Nat) : Int) := by rw [u8_xor x5 _ hx5.1 hx5.2 (by omega) (by omega), Int.toNat_natCast]
                  have hy256 : x5.toNat ^^^ q5 < 256 := Nat.xor_lt_two_pow (n := 8) (by omega) hq2
                  generalize hyy : x5.toNat ^^^ q5 = y5 at *
                  have HT : Hid (taE (d.set i5 (y5 : Int)) = 50 ∧ taS ea (d.set i5 (y5 : Int)) = ea) := by
                    have ht := torn HBB.out.2 (i := i5) (q := q5) (y := (y5 : Int)) (by have := HDL.out; omega) hq2 (by omega) (by rw [← HBB.out.1, ← HXX.out, Int.toNat_natCast]; exact hyy.symm) (by omega) (by omega)
                    rw [← HBB.out.1] at ht
                    exact ⟨(taE_torn ht).1, (taE_torn ht).2 _⟩
                  have HK5 : Hid (Keep c (tint c wr.heap.size 7) 7 wr (w5.setCell ⟨g5, i5, none⟩ (.int .u8 (y5 : Int)))) := Keep.below c 7 (HB5.out.setCell (p := ⟨g5, i5, none⟩) hg5 _)
                  have HS5 : Hid (SlC (Col (tint c wr.heap.size 7) 7) (w5.setCell ⟨g5, i5, none⟩ (.int .u8 (y5 : Int))) (.slice (some ⟨g5, 0, none⟩) d.length k5) (d.set i5 (y5 : Int))) := SlC.own (HX5.out _) (by simp; omega) ((HUS.out.isB).set i5 (by omega) (by omega)) fun k h1 _ => tint_new h1
                  have O5 : Hid (Ord A P Q w (w5.setCell ⟨g5, i5, none⟩ (.int .u8 (y5 : Int))) (tint c wr.heap.size 7) va vb u9 (.slice (some ⟨b9, o9, none⟩) lb.length tc) u11 u12 ea eb la lb X Y) := HO.out.other HK5.out
                  clear X5 X5' hx hyy hum hum4
                  go_wp2_with fail
                  go_fit (O5.out.s2.takeA (O5.out.fitA HSM.out.1 HSM.out.2) (j := 7) (by omega) HS5.out)
                  rintro r w6 ⟨c6, rfl, k6, h6⟩
                  rw [HT.out.1]
                  rw [HT.out.2] at h6
                  have O6 : Hid (Ord A P Q w w6 c6 va vb u9 (.slice (some ⟨b9, o9, none⟩) lb.length tc) u11 u12 ea eb la lb X Y) := O5.out.turnA k6 h6 O5.out.da O5.out.db rfl (Nat.le_refl _) (Nat.le_refl _) O5.out.na
                  clear k6 h6
                  go_wp2_with fail
                  go_meet
                  case rel => exact ⟨c6, _, _, la, lb, by omega, by omega, O6.out⟩
          case rest =>
            obtain ⟨c5, ea5, eb5, la5, lb5, hla5, hlb5, hO5⟩ := hcut
            have O5 : Hid (Ord A P Q w wc c5 va vb u9 u10 u11 u12 ea5 eb5 la5 lb5 X Y) := hO5
            have hX : X.length + eb5.new.length ≤ 60 := by
              have := congrArg List.length hO5.da.rel.all
              rw [List.length_append, List.length_take] at this
              omega
            have hY : Y.length + ea5.new.length ≤ 60 := by
              have := congrArg List.length hO5.db.rel.all
              rw [List.length_append, List.length_take] at this
              omega
            clear hO5 HO HSD
            go_wp2_with fail
            go_fit (O5.out.s2.cameB (O5.out.fitB HSM.out.1 HSM.out.2) 3)
            rintro r w6 ⟨v6, c6, rfl, k6, h6, l6⟩
            have S6 : Hid (Sp (Col c6 6) (Col c6 3) w6 u11 X) := k6.sp (by omega) (by omega) O5.out.x1
            have L6 : Hid (Ls (Col c6 3) w6 v6 eb5.new) := l6
            have K6 : Hid (Keep c5 c6 2 wc w6 ∧ S2 A w w6 c6 va vb ea5 (cmS eb5)) := ⟨k6, h6⟩
            clear k6 h6 l6
            go_wp2_with (at_builtin; refine appC (.tmp 132) (.tmp 134) rfl rfl (i := 6) (by omega) rfl rfl S6.out L6.out (by omega) ?_; intro v7 w7 k7 s7)
            have O7 : Hid (Ord A P Q w w7 (tint c6 w6.heap.size 6) va vb u9 u10 v7 u12 ea5 (cmS eb5) la5 lb5 (X ++ eb5.new) Y) := O5.out.came1 K6.out.1 K6.out.2 k7 s7
            clear k7 s7 O5 S6 L6 K6
            go_fit (O7.out.s2.cameA (O7.out.fitA HSM.out.1 HSM.out.2) 3)
            rintro r w8 ⟨v8, c8, rfl, k8, h8, l8⟩
            have S8 : Hid (Sp (Col c8 8) (Col c8 3) w8 u12 Y) := k8.sp (by omega) (by omega) O7.out.x2
            have L8 : Hid (Ls (Col c8 3) w8 v8 ea5.new) := l8
            have K8 : Hid (Keep (tint c6 w6.heap.size 6) c8 1 w7 w8 ∧ S2 A w w8 c8 va vb (cmS ea5) (cmS eb5)) := ⟨k8, h8⟩
            clear k8 h8 l8
            go_wp2_with (at_builtin; refine appC (.tmp 136) (.tmp 138) rfl rfl (i := 8) (by omega) rfl rfl S8.out L8.out (by omega) ?_; intro v9 w9 k9 s9)
            have O9 : Hid (Ord A P Q w w9 (tint c8 w8.heap.size 8) va vb u9 u10 v7 v9 (cmS ea5) (cmS eb5) la5 lb5 (X ++ eb5.new) (Y ++ ea5.new)) := O7.out.came2 K8.out.1 K8.out.2 k9 s9
            clear k9 s9 O7 S8 L8 K8
            go_wp2
            go_roundw
            case rel =>
              exact ⟨k + 1, _, _, _, la5, lb5, _, _, by omega, by go_num, hla5, hlb5, O9.out, rfl, rfl⟩
            case measure => simp [intOf]; omega
    · obtain rfl : k = ns.length := by omega
      have hxe : X = P.take X.length ∧ X.length ≤ P.length := by
        have h := HO.out.da.rel.all
        rw [HNW.out.2, List.append_nil] at h
        have hl := congrArg List.length h
        rw [List.length_take, Nat.min_eq_left HO.out.da.rel.le] at hl
        exact ⟨by rw [hl]; exact h, by rw [hl]; exact HO.out.da.rel.le⟩
      have hye : Y = Q.take Y.length ∧ Y.length ≤ Q.length := by
        have h := HO.out.db.rel.all
        rw [HNW.out.1, List.append_nil] at h
        have hl := congrArg List.length h
        rw [List.length_take, Nat.min_eq_left HO.out.db.rel.le] at hl
        exact ⟨by rw [hl]; exact h, by rw [hl]; exact HO.out.db.rel.le⟩
      have HXE : Hid (X = P.take X.length) := hxe.1
      have HYE : Hid (Y = Q.take Y.length) := hye.1
      have hxl := hxe.2
      have hyl := hye.2
      clear hxe hye
      have LX : Hid (Ls (fun _ => True) wr u11 X) := HO.out.x1.ls (by omega) (fun _ _ => trivial) (fun _ _ => trivial)
      have LY : Hid (Ls (fun _ => True) wr u12 Y) := HO.out.x2.ls (by omega) (fun _ _ => trivial) (fun _ _ => trivial)
      obtain ⟨xa, xc, rfl, -⟩ := HO.out.x1.form
      obtain ⟨ya, yc, rfl, -⟩ := HO.out.x2.form
      have HLow : Hid (Below w.heap.size w wr) := HO.out.s2.low
      have LP : Hid (Ls (fun k => k < w.heap.size) wr (.slice pa X.length pc) X) := by
        have := (HPL.out.carry (T := fun k => k < w.heap.size) (w' := wr) fun k hk h => ⟨h, HLow.out.block k h⟩).pre X.length hxl
        rw [← HXE.out] at this
        exact this
      have LQ : Hid (Ls (fun k => k < w.heap.size) wr (.slice qa Y.length qc) Y) := by
        have := (HQL.out.carry (T := fun k => k < w.heap.size) (w' := wr) fun k hk h => ⟨h, HLow.out.block k h⟩).pre Y.length hyl
        rw [← HYE.out] at this
        exact this
      clear HO HXE HYE
      go_wp2_with fail
      go_fit (all_any _ _ _ _ X X wr LX.out LP.out)
      rintro r w5 ⟨rfl, h5⟩
      rw [decide_eq_true (rfl : X = X)]
      have H5 : Hid (Below wr.heap.size wr w5) := h5
      have LY5 : Hid (Ls (fun k => k < wr.heap.size) w5 (.slice ya Y.length yc) Y) := LY.out.carry fun k hk _ => ⟨hk, h5.block k hk⟩
      have LQ5 : Hid (Ls (fun k => k < wr.heap.size) w5 (.slice qa Y.length qc) Y) := LQ.out.carry fun k hk _ => ⟨hk, h5.block k hk⟩
      clear h5 LX LP LY LQ
      go_wp2_with fail
      go_fit (all_any _ _ _ _ Y Y w5 LY5.out LQ5.out)
      rintro r w6 ⟨rfl, h6⟩
      rw [decide_eq_true (rfl : Y = Y)]
      have H6 : Hid (Below w.heap.size w w6) := (HLow.out.trans (H5.out.mono HLow.out.size)).trans (h6.mono (HLow.out.trans (H5.out.mono HLow.out.size)).size)
      clear h6 H5 LY5 LQ5
      go_wp2_with fail
      go_fit (wakes_any A w6)
      rintro r w7 ⟨rfl, h7⟩
      have H7 : Hid (Below w.heap.size w w7) := H6.out.trans (h7.mono H6.out.size)
      clear h7 H6
      go_wp2
      go_ret
      exact ⟨rfl, H7.out⟩
end Go.Proofs.Ytijjcopglbcoiaa
