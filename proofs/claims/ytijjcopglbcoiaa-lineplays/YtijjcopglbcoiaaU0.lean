/-
  Proved here: what holds between an act's parts: two ends that stand for the same, what they told, an act's bytes; how numbers grow. No condition.
-/
import Derived.Test.YtijjcopglbcoiaaW3
import Derived.Test.YtijjcopglbcoiaaV1
import Derived.Test.YtijjcopglbcoiaaM3
import Derived.OneCell
namespace Go.Proofs.Ytijjcopglbcoiaa
open Go.RowKit Seal

/-- An end's numbers behind n acts. -/
structure FitN (n : Nat) (e : E) : Prop where
  ep : e.ep < 4294967296
  got : e.got + e.sent.length ≤ n
  come : e.come ≤ 32 * n
  new : e.new.length ≤ 32 * n
  lens : ∀ m ∈ e.sent, m.length ≤ 8192
theorem FitN.fit {n : Nat} {e : E} (h : FitN n e) (hn : n ≤ 100000) : Fit e := ⟨h.ep, by have := h.got; omega, by have := h.come; omega, by have := h.new; omega, h.lens⟩
theorem FitN.next {n : Nat} {e : E} (h : FitN n e) : FitN (n + 1) e := ⟨h.ep, by have := h.got; omega, by have := h.come; omega, by have := h.new; omega, h.lens⟩
theorem FitN.mk0 (n p : Nat) (h : p < 4294967296) : FitN n (E.mk0 p) := ⟨h, by simp [E.mk0], by simp [E.mk0], by simp [E.mk0], by simp [E.mk0]⟩
theorem FitN.send {n : Nat} {e : E} (h : FitN n e) (b : List Int) : FitN (n + 1) (sdS e b) := by
  unfold sdS
  split
  · rename_i h0
    have hb : b.length ≤ 8192 := by
      unfold sdE at h0
      split at h0
      · simp at h0
      · omega
    refine ⟨h.ep, by have := h.got; simp; omega, by have := h.come; simp; omega, by have := h.new; simp; omega, fun m hm => ?_⟩
    rcases List.mem_append.1 hm with hm | hm
    · exact h.lens m hm
    · have : m = b := by simpa using hm
      rw [this]; exact hb
  · exact h.next
theorem FitN.came {n : Nat} {e : E} (h : FitN n e) : FitN n (cmS e) := ⟨h.ep, h.got, h.come, by simp [cmS], h.lens⟩
theorem FitN.gt {n : Nat} {e : E} (h : FitN n e) (c : Nat) : FitN n (gt e c) := by
  unfold Go.Proofs.Ytijjcopglbcoiaa.gt
  split
  · rename_i h0
    refine ⟨h.ep, ?_, h.come, h.new, fun m hm => h.lens m (List.mem_of_mem_drop hm)⟩
    have := h.got
    simp only [List.length_drop]
    omega
  · exact h
theorem FitN.hear {n : Nat} {e : E} (h : FitN n e) {p c q : Nat} {l : List (List Int)} (hp : p < 4294967296) (hl : l.length ≤ 32) : FitN (n + 1) (hear e p c q l) := by
  unfold Go.Proofs.Ytijjcopglbcoiaa.hear
  split
  · exact h.next
  · have h1 : FitN n (rs e p) := by
      unfold rs; split
      · exact FitN.mk0 n p hp
      · exact h
    have h2 := h1.gt c
    have hb := ad_bd l (Go.Proofs.Ytijjcopglbcoiaa.gt (rs e p) c) q
    exact ⟨by rw [hb.1]; exact h2.ep, by rw [hb.2.1, hb.2.2.1]; have := h2.got; omega, by have := h2.come; have := hb.2.2.2.1; omega, by have := h2.new; have := hb.2.2.2.2; omega, by rw [hb.2.1]; exact h2.lens⟩
theorem FitN.take {n : Nat} {e : E} (h : FitN n e) {bs : List Int} (hB : IsB bs) : FitN (n + 1) (taS e bs) := by
  unfold taS
  split
  · have hI : IsB (opL bs) := by
      unfold opL; split
      · exact hB.take _
      · exact IsB.nil
    obtain ⟨p, hp, hp32⟩ := fld_nat hI 0
    rw [hp, Int.toNat_natCast]
    refine h.hear hp32 ?_
    cases hs : spl (opL bs) with
    | none => simp
    | some l => simpa using spl_le hs
  · exact h.next

/-- What is of no colour of P stays as it is, and keeps its colour. -/
structure KM (P : Nat → Prop) (c c' : Nat → Nat) (w w' : World) : Prop where
  os : w'.os = w.os
  tape : w'.tape = w.tape
  output : w'.output = w.output
  size : w.heap.size ≤ w'.heap.size
  same : ∀ k, k < w.heap.size → ¬ P (c k) → c' k = c k ∧ w'.heap[k]? = w.heap[k]?
theorem KM.refl (P : Nat → Prop) (c : Nat → Nat) (w : World) : KM P c c w w := ⟨rfl, rfl, rfl, Nat.le_refl _, fun _ _ _ => ⟨rfl, rfl⟩⟩
theorem KM.trans {P : Nat → Prop} {c c' c2 : Nat → Nat} {w w' w2 : World} (h : KM P c c' w w') (h2 : KM P c' c2 w' w2) : KM P c c2 w w2 :=
  ⟨h2.os.trans h.os, h2.tape.trans h.tape, h2.output.trans h.output, Nat.le_trans h.size h2.size, fun k hk hc => by
    have a := h.same k hk hc
    have b := h2.same k (Nat.lt_of_lt_of_le hk h.size) (by rw [a.1]; exact hc)
    exact ⟨b.1.trans a.1, b.2.trans a.2⟩⟩
theorem KM.of {P : Nat → Prop} {c c' : Nat → Nat} {i : Nat} {w w' : World} (h : Keep c c' i w w') (hi : P i) : KM P c c' w w' :=
  ⟨h.os, h.tape, h.output, h.size, fun k hk hc => h.same k hk (fun e => hc (e ▸ hi))⟩
theorem KM.ls {P : Nat → Prop} {c c' : Nat → Nat} {j : Nat} {w w' : World} (h : KM P c c' w w') (hj : ¬ P j) {v : Value} {ll : List (List Int)} (hl : Ls (Col c j) w v ll) : Ls (Col c' j) w' v ll :=
  hl.carry fun k hk hc => by
    have hc' : c k = j := hc
    have := h.same k hk (by rw [hc']; exact hj)
    exact ⟨this.1.trans hc', this.2⟩
theorem KM.sl {P : Nat → Prop} {c c' : Nat → Nat} {j : Nat} {w w' : World} (h : KM P c c' w w') (hj : ¬ P j) {v : Value} {bs : List Int} (hl : SlC (Col c j) w v bs) : SlC (Col c' j) w' v bs :=
  hl.carry fun k hk hc => by
    have hc' : c k = j := hc
    have := h.same k hk (by rw [hc']; exact hj)
    exact ⟨this.1.trans hc', this.2⟩
theorem KM.pe {fNew fReset fSend fTick fTake fCame fLeft : FuncId} (A : Api fNew fReset fSend fTick fTake fCame fLeft) {P : Nat → Prop} {c c' : Nat → Nat} {j : Nat} {w w' : World} (h : KM P c c' w w') (hj : ¬ P j) {v : Value} {e : E} (hl : A.PE (Col c j) w v e) : A.PE (Col c' j) w' v e :=
  A.carry hl fun k hk hc => by
    have hc' : c k = j := hc
    have := h.same k hk (by rw [hc']; exact hj)
    exact ⟨this.1.trans hc', this.2⟩
theorem KM.old {P : Nat → Prop} {c c' : Nat → Nat} {B : Nat} {w w' : World} (h : KM P c c' w w') (h0 : ¬ P 0) (hB : B ≤ w.heap.size) (ho : ∀ k, k < B → c k = 0) : Below B w w' ∧ ∀ k, k < B → c' k = 0 :=
  ⟨⟨h.os, h.tape, h.output, h.size, fun k hk => (h.same k (by omega) (by rw [ho k hk]; exact h0)).2⟩, fun k hk => by rw [(h.same k (by omega) (by rw [ho k hk]; exact h0)).1]; exact ho k hk⟩

/-- The colours that an act on the ends i, j may turn. -/
abbrev Mj (i j : Nat) : Nat → Prop := fun q => q = i ∨ q = j ∨ 5 ≤ q
/-- Within an act: the program's end v (colour i) and the document's u (colour j) stand for e; block t (colour 5) holds the row tv of what was told, tl (colours 6 and 7); xb are the act's bytes. -/
structure AcS (A : PApi) (c : Nat → Nat) (i j t : Nat) (v u tv xb : Value) (e e2 : E) (tl : List (List Int)) (bs : List Int) (w : World) : Prop where
  pe : A.PE (Col c i) w v e
  re : rapi.PE (Col c j) w u e2
  xb : SlC (Col c 0) w xb bs
  tb : w.heap[t]? = some (.cells #[tv] 30 (0, 0))
  tc : c t = 5
  sp : Sp (Col c 6) (Col c 7) w tv tl
section
variable {A : PApi} {c c' : Nat → Nat} {i j t : Nat} {v u tv xb : Value} {e e2 : E} {tl : List (List Int)} {bs : List Int} {w w' : World}
theorem AcS.blk (h : AcS A c i j t v u tv xb e e2 tl bs w) {q : Nat} (k : Keep c c' q w w') (hq : q ≠ 5) : w'.heap[t]? = some (.cells #[tv] 30 (0, 0)) ∧ c' t = 5 := by
  have := k.same t (Array.getElem?_eq_some_iff.1 h.tb).1 (by rw [h.tc]; omega)
  exact ⟨by rw [this.2]; exact h.tb, by rw [this.1]; exact h.tc⟩
theorem AcS.row (h : AcS A c i j t v u tv xb e e2 tl bs w) {q : Nat} (k : Keep c c' q w w') (h6 : q ≠ 6) (h7 : q ≠ 7) : Sp (Col c' 6) (Col c' 7) w' tv tl :=
  h.sp.carry (fun b hb hc => by have hc' : c b = 6 := hc; have := k.same b hb (by omega); exact ⟨this.1.trans hc', this.2⟩) (fun b hb hc => by have hc' : c b = 7 := hc; have := k.same b hb (by omega); exact ⟨this.1.trans hc', this.2⟩)
/-- Memory of a colour of its own turns. -/
theorem AcS.other (h : AcS A c i j t v u tv xb e e2 tl bs w) {q : Nat} (k : Keep c c' q w w') (hi : q ≠ i) (hj : q ≠ j) (hq : 8 ≤ q) : AcS A c' i j t v u tv xb e e2 tl bs w' :=
  ⟨k.pe A (by omega) h.pe, k.pe rapi (by omega) h.re, k.sl (by omega) h.xb, (h.blk k (by omega)).1, (h.blk k (by omega)).2, h.row k (by omega) (by omega)⟩
theorem AcS.stepA (h : AcS A c i j t v u tv xb e e2 tl bs w) {e' : E} (k : Keep c c' i w w') (hp : A.PE (Col c' i) w' v e') (h0 : i ≠ 0) (hij : i ≠ j) (hi : i < 5) : AcS A c' i j t v u tv xb e' e2 tl bs w' :=
  ⟨hp, k.pe rapi (by omega) h.re, k.sl (by omega) h.xb, (h.blk k (by omega)).1, (h.blk k (by omega)).2, h.row k (by omega) (by omega)⟩
theorem AcS.stepB (h : AcS A c i j t v u tv xb e e2 tl bs w) {e' : E} (k : Keep c c' j w w') (hp : rapi.PE (Col c' j) w' u e') (h0 : j ≠ 0) (hij : i ≠ j) (hi : j < 5) : AcS A c' i j t v u tv xb e e' tl bs w' :=
  ⟨k.pe A (by omega) h.pe, hp, k.sl (by omega) h.xb, (h.blk k (by omega)).1, (h.blk k (by omega)).2, h.row k (by omega) (by omega)⟩
theorem AcS.drewN (h : AcS A c i j t v u tv xb e e2 tl bs w) (n : Nat) : AcS A c i j t v u tv xb e e2 tl bs (w.drewN n) :=
  ⟨A.carry h.pe fun _ _ h => ⟨h, rfl⟩, rapi.carry h.re fun _ _ h => ⟨h, rfl⟩, h.xb.carry fun _ _ h => ⟨h, rfl⟩, h.tb, h.tc, h.sp.carry (fun _ _ h => ⟨h, rfl⟩) (fun _ _ h => ⟨h, rfl⟩)⟩
theorem AcS.drew (h : AcS A c i j t v u tv xb e e2 tl bs w) : AcS A c i j t v u tv xb e e2 tl bs w.drew :=
  ⟨A.carry h.pe fun _ _ h => ⟨h, rfl⟩, rapi.carry h.re fun _ _ h => ⟨h, rfl⟩, h.xb.carry fun _ _ h => ⟨h, rfl⟩, h.tb, h.tc, h.sp.carry (fun _ _ h => ⟨h, rfl⟩) (fun _ _ h => ⟨h, rfl⟩)⟩
end
/-- A byte turned over is a byte. -/
theorem flip_bd {y : Int} (h0 : 0 ≤ y) (h1 : y < 256) : 0 ≤ bits .xor .u8 (if IntKind.u8.signed = true then -1 else IntKind.u8.max) y ∧ bits .xor .u8 (if IntKind.u8.signed = true then -1 else IntKind.u8.max) y < 256 := by
  have e : (if IntKind.u8.signed = true then (-1 : Int) else IntKind.u8.max) = 255 := by decide
  rw [e, u8_xor 255 y (by omega) (by omega) h0 h1]
  have : (255 : Int).toNat ^^^ y.toNat < 2 ^ 8 := Nat.xor_lt_two_pow (by decide) (by omega)
  omega
/-- Bytes of one's own, in a block of colour 9, whatever they are. -/
def Mine (c : Nat → Nat) (w : World) (v : Value) (n : Nat) : Prop :=
  ∃ ao cap, v = .slice ao n cap ∧ (0 < n → ∃ g cur, ao = some ⟨g, 0, none⟩ ∧ c g = 9 ∧ w.heap[g]? = some (.cells cur 5 (0, 0)) ∧ n ≤ cur.size ∧ ∀ j, j < n → ∃ y, cur[j]? = some (.int .u8 y) ∧ 0 ≤ y ∧ y < 256)
theorem Mine.keep {c c' : Nat → Nat} {q n : Nat} {w w' : World} {v : Value} (h : Mine c w v n) (k : Keep c c' q w w') (hq : q ≠ 9) : Mine c' w' v n := by
  obtain ⟨ao, cap, rfl, h2⟩ := h
  refine ⟨ao, cap, rfl, fun hn => ?_⟩
  obtain ⟨g, cur, h3, h4, h5, h6⟩ := h2 hn
  have := k.same g (Array.getElem?_eq_some_iff.1 h5).1 (by omega)
  exact ⟨g, cur, h3, this.1.trans h4, by rw [this.2]; exact h5, h6⟩
/-- A byte of one's own is read, and may be written. -/
theorem Mine.at {c : Nat → Nat} {n k : Nat} {w : World} {ao : Option Addr} {cap : Nat} (h : Mine c w (.slice ao n cap) n) (hk : k < n) :
    ∃ g, ao = some ⟨g, 0, none⟩ ∧ (∃ y, w.cell? ⟨g, k, none⟩ = some (.int .u8 y) ∧ 0 ≤ y ∧ y < 256) ∧ w.frozen? ⟨g, k, none⟩ = false ∧ ∀ z, 0 ≤ z → z < 256 → Mine c (w.setCell ⟨g, k, none⟩ (.int .u8 z)) (.slice ao n cap) n ∧ Keep c c 9 w (w.setCell ⟨g, k, none⟩ (.int .u8 z)) := by
  obtain ⟨ao', cap', e, h2⟩ := h
  simp only [Value.slice.injEq] at e
  obtain ⟨rfl, _, rfl⟩ := e
  obtain ⟨g, cur, h3, h4, h5, h6, h7⟩ := h2 (by omega)
  obtain ⟨y, hy, hy0, hy1⟩ := h7 k hk
  refine ⟨g, h3, ⟨y, by rw [cell_of_row w g k cur 5 (0, 0) h5]; exact hy, hy0, hy1⟩, by simp [World.frozen?, h5], fun z hz0 hz1 => ⟨⟨ao, cap, rfl, fun _ => ⟨g, _, h3, h4, heap_setCell_same w g k cur 5 _ h5, by simpa using h6, fun j hj => ?_⟩⟩, ?_⟩⟩
  · by_cases hjk : j = k
    · subst hjk
      exact ⟨z, by rw [Array.getElem?_setIfInBounds, if_pos rfl, if_pos (by omega)], hz0, hz1⟩
    · obtain ⟨x, hx⟩ := h7 j hj
      exact ⟨x, by rw [Array.getElem?_setIfInBounds, if_neg (by omega)]; exact hx.1, hx.2⟩
  · have hb : Below 0 w (w.setCell ⟨g, k, none⟩ (.int .u8 z)) := (Below.refl 0 w).setCell (p := ⟨g, k, none⟩) (Nat.zero_le _) _
    exact ⟨hb.os, hb.tape, hb.output, hb.size, fun b _ hc => ⟨rfl, heap_setCell_other w ⟨g, k, none⟩ b _ (show b ≠ g from fun e => hc (by rw [e]; exact h4))⟩⟩
/-- What was copied is one's own. -/
theorem mine_own (c : Nat → Nat) {w w' : World} {v : Value} {bs : List Int} (hl : bs.length ≤ 140737488355328) (hB : IsB bs) (hb : Below w.heap.size w w') (ho : Owns w.heap.size w' v bs) :
    ∃ c', Keep c c' 9 w w' ∧ SlC (Col c' 9) w' v bs ∧ Mine c' w' v bs.length := by
  refine ⟨tint c w.heap.size 9, Keep.below c 9 hb, SlC.own ho hl hB fun k h1 _ => tint_new h1, ?_⟩
  have hsl := Sl.own ho hl hB
  obtain ⟨ao, cap, rfl, -⟩ := hsl
  refine ⟨ao, cap, rfl, fun hn => ?_⟩
  rcases ho.2 with ⟨_, e⟩ | ⟨g, cap', cur, e, hg, hcur, h1, h2, h3, h4⟩
  · omega
  · simp only [Value.slice.injEq] at e
    obtain ⟨rfl, _, rfl⟩ := e
    refine ⟨g, cur, rfl, tint_new hg, hcur, by omega, fun j hj => ?_⟩
    have hx := congrArg (·[j]?) h4
    simp only [List.getElem?_take, List.getElem?_map] at hx
    rw [if_pos (by omega), List.getElem?_eq_getElem hj] at hx
    exact ⟨bs[j], by simpa using hx, hB _ (List.getElem_mem hj)⟩
/-- An act as a value's cells. -/
abbrev acv (wo dw an : Int) (n : Nat) (vb : Value) : Array Value := #[.int .i64 wo, .int .i64 dw, .int .i64 an, .int .u32 (n : Nat), vb]
/-- What an act leaves. -/
def ActOk (A : PApi) (c : Nat → Nat) (i j t : Nat) (v u xb : Value) (e : E) (tl : List (List Int)) (bs : List Int) (w : World) (r : Ending) (w' : World) : Prop :=
  ∃ e' tl' tv' c', r = .returned (.bool true) ∧ KM (Mj i j) c c' w w' ∧ AcS A c' i j t v u tv' xb e' e' tl' bs w' ∧ ∀ n, FitN n e → tl.length ≤ n → FitN (n + 1) e' ∧ tl'.length ≤ n + 1
/-- A row of slices is appended to a row of slices, in a walk. -/
theorem appSpL {ops : Array Oper} {rest : List Oper} {o : Oper} {a : Act} {w : World} {Q : Exit → Act → World → Prop} (s x : Operand) (ho : o.op = .call { callee := .builtin .append, args := #[s, x], argTypes := #[30, 30] })
    (hw : Region.wanted o (yielded ops a.tmps) = true) {S T : Nat → Prop} {v u : Value} {ll ms : List (List Int)} (hs : a.eval s = v) (hx : a.eval x = u) (h : Sp S T w v ll) (hu : Ls T w u ms) (hd : ∀ k, v.ownBlock = some k → ¬ T k) (hl : ll.length + ms.length < 2147483648)
    (hK : ∀ v' w', Apd w v w' → Sp (fun k => S k ∨ w.heap.size ≤ k) T w' v' (ll ++ ms) → wpList Try.prog ops Q rest (a.put o.dst v') w') : wpList Try.prog ops Q (o :: rest) a w := by
  obtain ⟨v', w', hr, h1, h2⟩ := run_sp_appL (ty := o.type) h hu hd hl
  unfold wpList
  rw [if_pos hw]
  refine Or.inl ?_
  unfold Oper.wp execOp
  simp only [ho, resolve, invoke, builtin, Sem.run_bind, Sem.run_pure, Result.andThen_ok, List.map_toArray, List.map_cons, List.map_nil, hs, hx, hr]
  exact hK v' w' h1 h2
/-- What was told is appended to. -/
theorem told_app {A : PApi} {c : Nat → Nat} {i j t : Nat} {v u tv xb v4 : Value} {e e2 : E} {tl ms : List (List Int)} {bs : List Int} {w w4 : World} (h : AcS A c i j t v u tv xb e e2 tl bs w) (hi : i < 5) (hj : j < 5) (A4 : Apd w tv w4) (P4 : Sp (fun k => (c k = 6 ∧ k < w.heap.size) ∨ w.heap.size ≤ k) (fun k => c k = 7 ∧ k < w.heap.size) w4 v4 (tl ++ ms)) :
    ∃ c', KM (Mj i j) c c' w (w4.setCell ⟨t, 0, none⟩ v4) ∧ AcS A c' i j t v u v4 xb e e2 (tl ++ ms) bs (w4.setCell ⟨t, 0, none⟩ v4) ∧ w4.cell? ⟨t, 0, none⟩ = some tv ∧ w4.frozen? ⟨t, 0, none⟩ = false := by
  have ht := (Array.getElem?_eq_some_iff.1 h.tb).1
  have hown : ∀ k, tv.ownBlock = some k → c k = 6 := fun k hk => h.sp.own k hk
  have h4t : w4.heap[t]? = some (.cells #[tv] 30 (0, 0)) := by
    rw [A4.block t ht (fun e => by have := hown t e; have := h.tc; omega)]; exact h.tb
  have hsz : w.heap.size ≤ (w4.setCell ⟨t, 0, none⟩ v4).heap.size := Nat.le_trans A4.size ((Below.refl 0 w4).setCell (p := ⟨t, 0, none⟩) (Nat.zero_le _) v4).size
  have hset : ∀ k, k ≠ t → (w4.setCell ⟨t, 0, none⟩ v4).heap[k]? = w4.heap[k]? := fun k hk => heap_setCell_other w4 ⟨t, 0, none⟩ k v4 hk
  have hold : ∀ k, k < w.heap.size → c k ≠ 5 → c k ≠ 6 → tint c w.heap.size 6 k = c k ∧ (w4.setCell ⟨t, 0, none⟩ v4).heap[k]? = w.heap[k]? := fun k hk h5 h6 => by
    refine ⟨tint_old hk, ?_⟩
    rw [hset k (fun e => h5 (by rw [e]; exact h.tc)), A4.block k hk (fun e => h6 (hown k e))]
  have hcol : ∀ q, q ≠ 5 → q ≠ 6 → ∀ k, k < w.heap.size → Col c q k → Col (tint c w.heap.size 6) q k ∧ (w4.setCell ⟨t, 0, none⟩ v4).heap[k]? = w.heap[k]? := fun q h5 h6 k hk hc => by
    have hc' : c k = q := hc
    have := hold k hk (by omega) (by omega)
    exact ⟨this.1.trans hc', this.2⟩
  have hb := (Below.refl 0 w4).setCell (p := ⟨t, 0, none⟩) (Nat.zero_le _) v4
  refine ⟨tint c w.heap.size 6, ⟨hb.os.trans A4.os, hb.tape.trans A4.tape, hb.output.trans A4.output, hsz, fun k hk hP => hold k hk (fun e => hP (by rw [e]; omega)) (fun e => hP (by rw [e]; omega))⟩, ⟨A.carry h.pe (hcol i (by omega) (by omega)), rapi.carry h.re (hcol j (by omega) (by omega)), h.xb.carry (hcol 0 (by omega) (by omega)), one_setCell h4t, (tint_old ht).trans h.tc, ?_⟩, cell_of_one h4t, free_of_one h4t⟩
  refine P4.carry (fun k hk hc => ?_) (fun k hk hc => ?_)
  · rcases hc with hc | hc
    · exact ⟨(tint_old hc.2).trans hc.1, hset k (fun e => by subst e; have := h.tc; omega)⟩
    · exact ⟨tint_new hc, hset k (by omega)⟩
  · exact ⟨(tint_old hc.2).trans hc.1, hset k (fun e => by subst e; have := h.tc; omega)⟩
theorem AcS.rowLt {A : PApi} {c : Nat → Nat} {i j t : Nat} {v u tv xb : Value} {e e2 : E} {tl : List (List Int)} {bs : List Int} {w : World} (h : AcS A c i j t v u tv xb e e2 tl bs w) : Sp (fun k => c k = 6 ∧ k < w.heap.size) (fun k => c k = 7 ∧ k < w.heap.size) w tv tl :=
  h.sp.carry (fun _ hk hc => ⟨⟨hc, hk⟩, rfl⟩) (fun _ hk hc => ⟨⟨hc, hk⟩, rfl⟩)
/-- All, of two rows that hold the same. -/
theorem all_same (S T : Nat → Prop) (u v : Value) (xs : List (List Int)) (w : World) (h1 : Ls S w u xs) (h2 : Ls T w v xs) : Calls Try.prog 14 #[u, v] w fun r w' => r = .returned (.bool true) ∧ Below w.heap.size w w' := by
  refine (all_any S T u v xs xs w h1 h2).mono ?_
  rintro r w' ⟨rfl, h⟩
  exact ⟨by simp, h⟩
end Go.Proofs.Ytijjcopglbcoiaa
