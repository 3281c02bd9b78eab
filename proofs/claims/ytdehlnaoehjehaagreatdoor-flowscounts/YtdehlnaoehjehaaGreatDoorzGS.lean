/-
  Proved here: the closure of FlowsCounts that puts what was found: by Cookies, modulo 2 to 64. Condition: fewer than 2 to 31 Cookies.
-/
/-
  Proved here: a table of rules and what was found of it, side by side in new memory, with their counts (Ctf), under each call of FlowsCounts. Conditions: the widths' table holds its numbers; at most 150 calls.
-/
import Derived.Test.YtdehlnaoehjehaaGreatDoorzS3
import Derived.Test.YtdehlnaoehjehaaGreatDoorzGN
import Derived.Test.YtdehlnaoehjehaaGreatDoorzGP
import Derived.Test.YtdehlnaoehjehaaGreatDoorzOB
namespace Go.Proofs.YtdehlnaoehjehaaGreatDoor
set_option maxRecDepth 100000
open Go.RowKit Go.Maps

def fH (f : Int × Int) : Hel := ⟨⟨0, zf, [], f.1⟩, f.2, 0⟩
def fcl (fs : List (Int × Int)) : List Value := cel hen (fs.map fun f => (fH f, nilS))
theorem fcl_len (fs : List (Int × Int)) : (fcl fs).length = fs.length * 27 := by
  unfold fcl
  rw [cel_len hen_len, List.length_map]
theorem fcl_at (fs : List (Int × Int)) (j i : Nat) (hj : j < fs.length) (hi : i < 27) : (fcl fs)[j * 27 + i]? = (hdc (fH fs[j]) nilS)[i]? := by
  unfold fcl
  rw [cel_at hen_len _ j i (by rw [List.length_map]; exact hj) hi]
  simp [hen]
theorem hdc_set (r : Rl) (pk bt x : Int) (u : Value) (i : Nat) (hi : i < 27) (hne : i ≠ 25) : (hdc ⟨r, x, bt⟩ u)[i]? = (hdc ⟨r, pk, bt⟩ u)[i]? := by
  by_cases h : i < 25
  · rw [hdc_rl _ _ i h, hdc_rl _ _ i h]
  · obtain rfl : i = 26 := by omega
    rw [hdc_bt, hdc_bt]
theorem fcl_set {fs : List (Int × Int)} {c n : Int} {i : Nat} (hi : i < fs.length) (hc : fs[i].1 = c) (hnd : fs.Pairwise fun a b => a.1 ≠ b.1) : fcl (fs.map fun f => if f.1 = c then (f.1, wr64 (f.2 + n)) else f) = (fcl fs).set (i * 27 + 25) (.int .u64 (wr64 (fs[i].2 + n))) := by
  apply List.ext_getElem?
  intro q
  rw [List.getElem?_set]
  by_cases hq : q < fs.length * 27
  · obtain ⟨j, p, hp, rfl⟩ : ∃ j p, p < 27 ∧ q = j * 27 + p := ⟨q / 27, q % 27, Nat.mod_lt _ (by omega), by omega⟩
    have hj : j < fs.length := by omega
    rw [fcl_at _ j p (by rw [List.length_map]; exact hj) hp, List.getElem_map]
    by_cases e : j = i
    · subst e
      rw [if_pos hc]
      by_cases e2 : p = 25
      · subst e2
        rw [if_pos rfl, if_pos (by rw [fcl_len]; omega), hdc_pk]; rfl
      · rw [if_neg (by omega), fcl_at _ j p hj hp]
        exact hdc_set _ _ _ _ _ p hp e2
    · have hne : fs[j].1 ≠ c := fun e2 => by
        rcases Nat.lt_or_ge j i with h | h
        · exact List.pairwise_iff_getElem.1 hnd j i hj hi h (e2.trans hc.symm)
        · exact List.pairwise_iff_getElem.1 hnd i j hi hj (by omega) (hc.trans e2.symm)
      rw [if_neg hne, if_neg (by omega), fcl_at _ j p hj hp]
  · rw [if_neg (by omega), List.getElem?_eq_none (by rw [fcl_len, List.length_map]; omega), List.getElem?_eq_none (by rw [fcl_len]; omega)]
theorem put_hit {fs : List (Int × Int)} {c : Int} (n : Int) {i : Nat} (hi : i < fs.length) (hc : fs[i].1 = c) : putF fs c n = fs.map fun f => if f.1 = c then (f.1, wr64 (f.2 + n)) else f := by
  unfold putF
  rw [if_pos (List.any_eq_true.2 ⟨fs[i], List.getElem_mem hi, by simp [hc]⟩)]
theorem put_miss {fs : List (Int × Int)} {c : Int} (n : Int) (h : ∀ j (hj : j < fs.length), fs[j].1 ≠ c) : putF fs c n = fs ++ [(c, n)] := by
  unfold putF
  rw [if_neg]
  intro ha
  obtain ⟨x, hx, e⟩ := List.any_eq_true.1 ha
  obtain ⟨j, hj, rfl⟩ := List.getElem_of_mem hx
  exact h j hj (by simpa using e)
theorem put_len (fs : List (Int × Int)) (c n : Int) : (putF fs c n).length ≤ fs.length + 1 := by
  unfold putF
  split <;> simp
/-- What put leaves: nothing of old has turned but the box and the list. -/
def PuF (T : Nat → Prop) (bf : Nat) (fs : List (Int × Int)) (c n : Int) (w : World) (e : Ending) (w' : World) : Prop :=
  e = .returned (.tuple #[]) ∧ Only (fun b => b = bf ∨ T b ∨ w.heap.size ≤ b) w w' ∧ ∃ v, w'.heap[bf]? = some (.cells #[v] 45 (0, 0)) ∧ Rw (fun b => T b ∨ w.heap.size ≤ b) 27 52 w' v (putF fs c n).length (fcl (putF fs c n))
theorem runBldN {o : Oper} {a : Act} {w : World} (x : Operand) (ho : o.op = .build 50 #[(0, x)]) (n : Int) (hx : a.eval x = .int .u64 n) : (execOp a.eval o).run Tryz.prog w = .ok (.value (.agg #[.int .u64 n, .int .u64 0])) w := by
  unfold execOp
  simp only [ho, hx, List.map_toArray, List.map_cons, List.map_nil, Sem.run_bind, Sem.run_pure]
  show _ = _
  kernel_rfl
set_option maxHeartbeats 3200000 in
set_option maxRecDepth 100000 in
theorem putf_any {T : Nat → Prop} (w : World) (bf : Nat) (v : Value) (fs : List (Int × Int)) (c n : Int) (hbox : w.heap[bf]? = some (.cells #[v] 45 (0, 0))) (hR : Rw T 27 52 w v fs.length (fcl fs)) (hT : ∀ b, T b → b ≠ bf) (hnd : fs.Pairwise fun a b => a.1 ≠ b.1) (hl : fs.length < 2147483000) :
    Calls Tryz.prog 21 #[.int .u64 c, .int .u64 n, pv bf] w (PuF T bf fs c n w) := by
  have hbl := (Array.getElem?_eq_some_iff.1 hbox).1
  obtain ⟨ao, cap, rfl⟩ := hR.form
  have hcb : w.cell? ⟨bf, 0, none⟩ = some (.slice ao fs.length cap) := by rw [cell_of_row _ _ _ _ _ _ hbox]; rfl
  have hfb : w.frozen? ⟨bf, 0, none⟩ = false := by simp [World.frozen?, hbox]
  have HR := hid hR
  have HB := hid hbox
  have HT := hid hT
  have HND := hid hnd
  have HC : Hid (∀ i (hi : i < fs.length), ∃ g o, ao = some ⟨g, o, none⟩ ∧ g ≠ bf ∧ w.cell? ⟨g, o + i * 27 + 24, none⟩ = some (.int .u64 fs[i].1) ∧ w.cell? ⟨g, o + i * 27 + 25, none⟩ = some (.int .u64 fs[i].2) ∧ w.frozen? ⟨g, o + i * 27 + 25, none⟩ = false) := fun i hi => by
    rcases hR.2 with ⟨_, e⟩ | ⟨g, o, cap', cur, e, h2, h3, h4, h5, h6⟩
    · omega
    · obtain ⟨rfl, rfl⟩ : ao = some ⟨g, o, none⟩ ∧ cap = cap' := by simpa using e
      have at' : ∀ p, p < 27 → w.cell? ⟨g, o + i * 27 + p, none⟩ = (hdc (fH fs[i]) nilS)[p]? := fun p hp => by
        rw [cell_of_row _ _ _ _ _ _ h3, Nat.add_assoc, cells_at h6 (j := i * 27 + p) (by omega), fcl_at _ i p hi hp]
      refine ⟨g, o, rfl, hT g h2, ?_, ?_, by simp [World.frozen?, h3]⟩
      · rw [at' 24 (by omega), hdc_rl _ _ 24 (by omega)]; exact (rc_cp _ _ _ _).2
      · rw [at' 25 (by omega), hdc_pk]; rfl
  obtain ⟨iR, hiR, hiz, his, -⟩ := info_parts infoHELD
  clear hR hT hnd
  go_enter Tryz.func21, Tryz.ntmps21
  go_upto_region 1 with fail
  go_loopw [8] (fun i wr => wr = w ∧ ∃ k : Nat, k ≤ fs.length ∧ i = .int .i64 k ∧ ∀ j (hj : j < fs.length), j < k → fs[j].1 ≠ c) (fun i _ => fs.length - (intOf i).toNat)
  case atStart => exact ⟨rfl, 0, by omega, rfl, fun j hj h => by omega⟩
  case round =>
    obtain ⟨rfl, k, hk, rfl, hmiss⟩ := hrel
    have HM := hid hmiss
    clear hmiss
    by_cases hlt : k < fs.length
    · obtain ⟨g, o, rfl, hgne, hc1, hc2, hf2⟩ := HC.out k hlt
      have hw1 : IntKind.i64.wrap ((k : Int) + 1) = (k : Int) + 1 := by rw [IntKind.wrap_i64]; omega
      obtain ⟨z, hz⟩ : ∃ z, z = fs[k] := ⟨_, rfl⟩
      rw [← hz] at hc1 hc2
      by_cases hhit : z.1 = c
      · have hd : (z.1 == c) = true := by simp [hhit]
        have hwr : IntKind.u64.wrap (z.2 + n) = wr64 (z.2 + n) := by simp [IntKind.wrap, IntKind.bits, IntKind.signed, wr64]
        have HF : Hid (PuF T bf fs c n wr (.returned (.tuple #[])) (wr.setCell ⟨g, o + k * 27 + 25, none⟩ (.int .u64 (wr64 (z.2 + n))))) := by
          have hRS := HR.out.set (k * 27 + 25) (by omega) (.int .u64 (wr64 (z.2 + n)))
          have hgT : T g := HR.out.own g rfl
          rw [hz] at hRS hhit ⊢
          rw [← fcl_set hlt hhit HND.out, ← put_hit n hlt hhit] at hRS
          rw [Nat.add_assoc]
          refine ⟨rfl, (Only.refl _ _).setCell (Or.inr (Or.inl hgT)) _, _, (heap_setCell_other wr _ bf _ (Ne.symm hgne)).trans HB.out, ?_⟩
          have hlp : (putF fs c n).length = fs.length := by rw [put_hit n hlt hhit, List.length_map]
          rw [hlp]
          exact hRS.carry fun b _ hS => ⟨Or.inl hS, rfl⟩
        clear hz hhit HC
        go_wp2
        refine bodyPost_ret (results_none rfl _ _ _) rfl ?_
        exact HF.out
      · have hd : (z.1 == c) = false := by simp [hhit]
        have HZ := hid hz
        clear hc2 hf2 hz
        go_wp2
        go_roundw
        case rel => exact ⟨trivial, k + 1, by omega, by go_num, fun j hj h => by
          by_cases e : j = k
          · subst e; rw [← HZ.out]; exact hhit
          · exact HM.out j hj (by omega)⟩
        case measure => simp [intOf]; omega
    · obtain rfl : k = fs.length := by omega
      have hpm := put_miss n fun j hj => HM.out j hj hj
      have HN : Hid (∀ w3, w3 = wr.alloc (.cells (hdc (fH (c, n)) nilS) 52) → w3.cell? ⟨bf, 0, none⟩ = some (.slice ao fs.length cap) ∧ Rw T 27 52 w3 (.slice ao fs.length cap) fs.length (fcl fs) ∧ (∀ j z, (hdc (fH (c, n)) nilS).toList[j]? = some z → w3.cell? (Addr.add ⟨wr.heap.size, 0, none⟩ j) = some z) ∧
          ∀ w4 v4, Apd w3 (.slice ao fs.length cap) w4 → (∀ S, Rw S 27 52 w3 (.slice ao fs.length cap) fs.length (fcl fs) → Rw (fun b => S b ∨ w3.heap.size ≤ b) 27 52 w4 v4 (fs.length + 1) (fcl fs ++ (hdc (fH (c, n)) nilS).toList)) → (∃ ao4 cap4, v4 = .slice ao4 (fs.length + 1) cap4) ∧ w4.cell? ⟨bf, 0, none⟩ = some (.slice ao fs.length cap) ∧ w4.frozen? ⟨bf, 0, none⟩ = false ∧ PuF T bf fs c n wr (.returned (.tuple #[])) (w4.setCell ⟨bf, 0, none⟩ v4)) := fun w3 h3 => by
        have hB3 : Below wr.heap.size wr w3 := by rw [h3]; exact (Below.refl _ _).alloc (Nat.le_refl _) _
        have hR3 : Rw T 27 52 w3 (.slice ao fs.length cap) fs.length (fcl fs) := HR.out.carry fun b hb hS => ⟨hS, hB3.block b hb⟩
        refine ⟨cell_on hB3 hcb, hR3, fun j z hz => ?_, fun w4 v4 hA hR4 => ?_⟩
        · rw [Addr.add_lit, Nat.zero_add, h3, cell_of_row _ _ _ _ _ _ (heap_alloc_new _ _), ← hz]; simp
        · have hR' := hR4 _ hR3
          have hown : (Value.slice ao fs.length cap).ownBlock ≠ some bf := fun e => HT.out _ (HR.out.own bf e) rfl
          have hbx : w4.heap[bf]? = some (.cells #[.slice ao fs.length cap] 45 (0, 0)) := by
            rw [hA.block bf (by have := hB3.size; omega) hown, hB3.block bf hbl]; exact HB.out
          refine ⟨hR'.form, by rw [cell_of_row _ _ _ _ _ _ hbx]; rfl, by simp [World.frozen?, hbx], rfl, ?_, v4, ?_, ?_⟩
          · refine Only.setCell ?_ (Or.inl rfl) _
            refine ⟨hA.os.trans hB3.os, hA.tape.trans hB3.tape, hA.output.trans hB3.output, by have := hA.size; have := hB3.size; omega, fun b hb => ?_⟩
            have hbl' : b < wr.heap.size := by
              rcases Nat.lt_or_ge b wr.heap.size with h | h
              · exact h
              · exact absurd (Or.inr (Or.inr h)) hb
            rw [hA.block b (by have := hB3.size; omega) (fun e => hb (Or.inr (Or.inl (HR.out.own b e)))), hB3.block b hbl']
          · have := heap_setCell_same w4 bf 0 _ _ v4 hbx
            rw [this]; rfl
          · rw [hpm, List.length_append]
            have e : fcl (fs ++ [(c, n)]) = fcl fs ++ (hdc (fH (c, n)) nilS).toList := by simp [fcl, cel, hen]
            rw [e]
            refine hR'.carry fun b hb hS => ⟨?_, heap_setCell_other w4 ⟨bf, 0, none⟩ b v4 ?_⟩
            · have := hB3.size
              rcases hS with q | q
              · exact Or.inl q
              · exact Or.inr (by omega)
            · have := hB3.size
              rcases hS with q | q
              · exact HT.out b q
              · show b ≠ bf
                omega
      have H1c : Hid (∀ z ∈ (hdc (fH (c, n)) nilS).toList, z.oneCell' = true) := fun z hz => Array.all_eq_true'.1 (hdc_one rfl) z (by simpa using hz)
      obtain ⟨y0, y1, y2, y3⟩ := HN.out _ rfl
      have HY1 := hid y1
      have HY2 := hid y2
      have HY3 := hid y3
      clear y0 y1 y2 y3 HN HC hpm
      go_wp2_with (first
        | (refine stepVal (.agg (rlc ⟨0, zf, [], c⟩ nilS)) rfl (runBldC (.tmp 32) rfl c rfl) ?_)
        | (refine stepVal (.agg #[.int .u64 n, .int .u64 0]) rfl (runBldN (.tmp 34) rfl n rfl) ?_)
        | (refine stepVal (.agg (hdc (fH (c, n)) nilS)) rfl (runBldH (.tmp 33) (.tmp 35) rfl (fH (c, n)) nilS rfl rfl) ?_)
        | (refine bldSl 45 52 (.tmp 36) rfl rfl (hdc (fH (c, n)) nilS) rfl Tryz.underlying45 iR _ 27 hiR hiz his (hdc_size _ _) (by omega) (by omega) ?_)
        | (refine appRw (.tmp 31) (.tmp 37) 45 rfl rfl (k := 27) (t := 52) (n := fs.length) (m := 1) (c := 1) (us := (hdc (fH (c, n)) nilS).toList) (ad := ⟨wr.heap.size, 0, none⟩) rfl rfl Tryz.underlying45 infoHELD (hdc_size _ _) (by omega) (by omega) HY1.out (hen_len (fH (c, n), nilS)) HY2.out H1c.out (by omega) (Or.inl (by omega)) ?_; intro v4 w4 hA4 hR4; obtain ⟨⟨ao4, cap4, rfl⟩, z1, z2, z3⟩ := HY3.out w4 v4 hA4 hR4; have HZ := hid z3; clear hA4 hR4 z3 HY1 HY2 HY3))
      first | go_end0 | refine bodyPost_ret (results_none rfl _ _ _) rfl ?_
      exact HZ.out
end Go.Proofs.YtdehlnaoehjehaaGreatDoor
namespace Go.Proofs.YtdehlnaoehjehaaGreatDoor
set_option maxRecDepth 100000
open Go.RowKit Go.Maps

/-- A table and what was found, in new memory, apart from one another. -/
structure Cs (w wr : World) (g bf : Nat) (room ad : Int) (es : List Fe) (gs : List Ge) (fs : List (Int × Int)) : Prop where
  low : Below w.heap.size w wr
  st : ∃ (F : Nat → Prop) (v : Value), (∀ b, F b → w.heap.size ≤ b ∧ b < wr.heap.size) ∧ Fl (fun b => w.heap.size ≤ b ∧ ¬ F b) wr g room ad es gs ∧ F bf ∧ wr.heap[bf]? = some (.cells #[v] 45 (0, 0)) ∧ Rw (fun b => F b ∧ b ≠ bf) 27 52 wr v fs.length (fcl fs)
section
variable {w wr : World} {g bf : Nat} {room ad : Int} {es : List Fe} {gs : List Ge} {fs : List (Int × Int)}
theorem Cs.on {w' : World} (h : Cs w wr g bf room ad es gs fs) (hb : Below wr.heap.size wr w') : Cs w w' g bf room ad es gs fs := by
  obtain ⟨F, v, h1, h2, h3, h4, h5⟩ := h.st
  have hs := hb.size
  exact ⟨h.low.trans (hb.mono h.low.size), F, v, fun b hF => ⟨(h1 b hF).1, by have := (h1 b hF).2; omega⟩, h2.on hb, h3, (hb.block bf (h1 bf h3).2).trans h4, h5.carry fun b hb' hS => ⟨hS, hb.block b hb'⟩⟩
theorem Cs.new {x1 : World} (h : Own w x1 g room 0 [] 0) : Cs w (x1.alloc (.cells #[nilS] 45)) g x1.heap.size room 0 [] [] [] := by
  obtain ⟨gs, h1, h2⟩ := h.fl
  obtain rfl : gs = [] := List.length_eq_zero_iff.1 (by omega)
  have hs := h.low.size
  refine ⟨h.low.alloc hs _, fun b => b = x1.heap.size, nilS, fun b hb => ?_, ?_, rfl, heap_alloc_new _ _, Rw.nil _ _ _ _⟩
  · subst hb; simp; exact hs
  · exact h1.carry fun b hb hS => ⟨⟨hS, fun e => by omega⟩, heap_alloc_old _ _ hb⟩
theorem Cs.fl (h : Cs w wr g bf room ad es gs fs) : ∃ S, Fl S wr g room ad es gs := by
  obtain ⟨F, v, -, h2, -⟩ := h.st
  exact ⟨_, h2⟩
theorem Fl.gon {S : Nat → Prop} (h : Fl S wr g room ad es gs) : (gs.Pairwise fun a b => a.ck ≠ b.ck) ∧ ∀ x ∈ gs, InB x.ck ∧ InB x.pk ∧ InB x.bt := by
  obtain ⟨o, vm, br, bp, bg, Gr, Gp, Gg, -, h2⟩ := h
  exact ⟨h2.once, h2.fig⟩
theorem cs_do (h : Cs w wr g bf room ad es gs fs) (ht : Tab w) (what : Int) (hwh : -128 ≤ what ∧ what < 128) (r : Rl) (hr : r.Fit) (had : ad < 2147483640) (hN : gs.length < 2147480000) {T : Nat → Prop} {u : Value} (hu : Cps T wr u r.cp) (hT : ∀ b, T b → b < w.heap.size) :
    Calls Tryz.prog 13 #[pv g, .int .i8 what, .agg (rlc r u)] wr fun e w' => ∃ (n er ad' : Int) (es' : List Fe) (gs' : List Ge), e = .returned (.tuple #[.int .i64 n, .int .i64 er]) ∧ Cs w w' g bf room ad' es' gs' fs ∧ gs'.length ≤ gs.length + 1024 ∧ (ad ≤ ad' ∧ ad' ≤ ad + 1) ∧ Stp es (gfn gs) ad room what r n er es' (gfn gs') ad' := by
  obtain ⟨F, v, h1, h2, h3, h4, h5⟩ := h.st
  have hpos := ht.pos
  have hs := h.low.size
  refine (do_flows wr g room ad es gs h2 (fun b hb => ⟨by omega, fun hF => by have := (h1 b hF).2; omega⟩) (ht.on h.low) (fun h0 => by have := h0.1; omega) what hwh r u hr had (by omega) hu (fun b hb => ⟨by have := hT b hb; omega, fun h0 => by have := hT b hb; have := h0.1; omega⟩)).mono ?_
  rintro e w' ⟨n, er, ad', es', gs', rfl, q1, q2, q3, q4, q5⟩
  refine ⟨n, er, ad', es', gs', rfl, ⟨h.low.trans (q1.below fun k hk => hk.1), F, v, fun b hF => ⟨(h1 b hF).1, by have := (h1 b hF).2; have := q1.size; omega⟩, q2, h3, (q1.block bf fun hS => hS.2 h3).trans h4, h5.carry fun b _ hS => ⟨hS, q1.block b fun hS' => hS'.2 hS.1⟩⟩, q3, q4, q5⟩
theorem cs_find (h : Cs w wr g bf room ad es gs fs) (hd : Nat → Int) (hw : Wf hd) (n : Int) (hn : I64 n) (had : ad < 2147483640) :
    Calls Tryz.prog 10 #[pv g, hv hd, .int .i64 n] wr fun e w' => (e = .returned (.tuple #[.agg (rc 0 zf nilS 0), .bool false]) ∧ Cs w w' g bf room ad es gs fs) ∨ ∃ x ∈ es, ∃ u', u'.oneCell' = true ∧ e = .returned (.tuple #[.agg (rlc x.r u'), .bool true]) ∧ Cs w w' g bf room ad (upE es x.k (sumE x.pk 1) (sumE x.bt (max n 0))) gs fs := by
  obtain ⟨F, v, h1, h2, h3, h4, h5⟩ := h.st
  have hs := h.low.size
  refine (find_flows wr g room ad es gs h2 (fun b hb => ⟨by omega, fun hF => by have := (h1 b hF).2; omega⟩) hd hw n hn had).mono ?_
  rintro e w' ⟨q1, f, q2, q3⟩
  have mk : ∀ es', Fl (fun b => w.heap.size ≤ b ∧ ¬ F b) w' g room ad es' gs → Cs w w' g bf room ad es' gs fs := fun es' q => ⟨h.low.trans (q1.below fun k hk => hk.1), F, v, fun b hF => ⟨(h1 b hF).1, by have := (h1 b hF).2; have := q1.size; omega⟩, q, h3, (q1.block bf fun hS => hS.2 h3).trans h4, h5.carry fun b _ hS => ⟨hS, q1.block b fun hS' => hS'.2 hS.1⟩⟩
  cases f with
  | none => exact Or.inl ⟨q3.1, mk _ q3.2⟩
  | some x =>
    obtain ⟨u', q4, q5, q6⟩ := q3
    exact Or.inr ⟨x, q2.1, u', Lst.oneC q5, q4, mk _ q6⟩
theorem cs_put (h : Cs w wr g bf room ad es gs fs) (hnd : fs.Pairwise fun a b => a.1 ≠ b.1) (hl : fs.length < 2147483000) (c n : Int) :
    Calls Tryz.prog 21 #[.int .u64 c, .int .u64 n, pv bf] wr fun e w' => e = .returned (.tuple #[]) ∧ Cs w w' g bf room ad es gs (putF fs c n) := by
  obtain ⟨F, v, h1, h2, h3, h4, h5⟩ := h.st
  have hs := h.low.size
  refine (putf_any wr bf v fs c n h4 h5 (fun b hb => hb.2) hnd hl).mono ?_
  rintro e w' ⟨rfl, q1, v', q2, q3⟩
  refine ⟨rfl, h.low.trans (q1.below fun b hb => ?_), fun b => F b ∨ (wr.heap.size ≤ b ∧ b < w'.heap.size), v', fun b hb => ?_, h2.carry fun b hb hS => ⟨⟨hS.1, fun q => ?_⟩, q1.block b fun q => ?_⟩, Or.inl h3, q2, q3.carry fun b hb hS => ⟨?_, rfl⟩⟩
  · rcases hb with rfl | hb | hb
    · exact (h1 _ h3).1
    · exact (h1 _ hb.1).1
    · omega
  · rcases hb with hb | hb
    · have := h1 b hb; have := q1.size; omega
    · omega
  · rcases q with q | q
    · exact hS.2 q
    · omega
  · rcases q with rfl | q | q
    · exact hS.2 h3
    · exact hS.2 q.1
    · omega
  · rcases hS with q | q
    · exact ⟨Or.inl q.1, q.2⟩
    · exact ⟨Or.inr ⟨q, hb⟩, fun e => by have := (h1 bf h3).2; omega⟩
end
/-- Behind k deals: what was found is what rules and what is gone have counted. -/
def Ctf (w wr : World) (g bf : Nat) (room : Int) (k : Nat) : Prop :=
  ∃ (ad : Int) (es : List Fe) (gs : List Ge) (fs : List (Int × Int)), Cs w wr g bf room ad es gs fs ∧ ad ≤ k ∧ gs.length ≤ 1024 * k ∧ FsOk fs ∧ fs.length ≤ k ∧ (∀ c, wr64 (smE (fs.map (vlF c))) = wr64 (ctE c es + ctG c (gfn gs))) ∧ ∀ c, ctE c es + ctG c (gfn gs) ≤ k
section
variable {w wr : World} {g bf : Nat} {room : Int} {k : Nat}
theorem Ctf.low (h : Ctf w wr g bf room k) : Below w.heap.size w wr := by
  obtain ⟨ad, es, gs, fs, h1, -⟩ := h
  exact h1.low
theorem Ctf.on {w' : World} (h : Ctf w wr g bf room k) (hb : Below wr.heap.size wr w') : Ctf w w' g bf room k := by
  obtain ⟨ad, es, gs, fs, h1, h2⟩ := h
  exact ⟨ad, es, gs, fs, h1.on hb, h2⟩
theorem Ctf.new {x1 : World} (h : Own w x1 g room 0 [] 0) : Ctf w (x1.alloc (.cells #[nilS] 45)) g x1.heap.size room 0 :=
  ⟨0, [], [], [], Cs.new h, by omega, by simp, ⟨List.Pairwise.nil, fun f hf => by cases hf⟩, by simp, fun c => rfl, fun c => by show (0 : Int) + 0 ≤ _; omega⟩
theorem ct_do (h : Ctf w wr g bf room k) (hk : k ≤ 150) (ht : Tab w) (what : Int) (hwh : -128 ≤ what ∧ what < 128) (r : Rl) (hr : r.Fit) {T : Nat → Prop} {u : Value} (hu : Cps T wr u r.cp) (hT : ∀ b, T b → b < w.heap.size) :
    Calls Tryz.prog 13 #[pv g, .int .i8 what, .agg (rlc r u)] wr fun e w' => (∃ n er : Int, e = .returned (.tuple #[.int .i64 n, .int .i64 er])) ∧ Ctf w w' g bf room (k + 1) := by
  obtain ⟨ad, es, gs, fs, h1, h2, h3, h4, h5, h6, h7⟩ := h
  obtain ⟨S, hF⟩ := h1.fl
  obtain ⟨i1, -, -, -, i5, -⟩ := hF.inv
  refine (cs_do h1 ht what hwh r hr (by omega) (by omega) hu hT).mono ?_
  rintro e w' ⟨n, er, ad', es', gs', rfl, q1, q2, q3, q4⟩
  have hc := ct_stp q4 i1 (fun x hx => (i5 x hx).2.2.1.1) (fun c => by have := h7 c; omega)
  exact ⟨⟨n, er, rfl⟩, ad', es', gs', fs, q1, by omega, by omega, h4, by omega, fun c => by rw [hc c]; exact h6 c, fun c => by rw [hc c]; have := h7 c; omega⟩
theorem ct_fnd (h : Ctf w wr g bf room k) (hk : k ≤ 150) (hd : Nat → Int) (hw : Wf hd) (n : Int) (hn : I64 n) :
    Calls Tryz.prog 10 #[pv g, hv hd, .int .i64 n] wr fun e w' => (e = .returned (.tuple #[.agg (rc 0 zf nilS 0), .bool false]) ∧ Ctf w w' g bf room (k + 1)) ∨ ∃ (r : Rl) (u' : Value), u'.oneCell' = true ∧ e = .returned (.tuple #[.agg (rlc r u'), .bool true]) ∧ Below w.heap.size w w' ∧ ∀ w2, Below w'.heap.size w' w2 → Calls Tryz.prog 21 #[.int .u64 r.ck, .int .u64 1, pv bf] w2 fun e w3 => e = .returned (.tuple #[]) ∧ Ctf w w3 g bf room (k + 1) := by
  obtain ⟨ad, es, gs, fs, h1, h2, h3, h4, h5, h6, h7⟩ := h
  obtain ⟨S, hF⟩ := h1.fl
  obtain ⟨i1, -, -, -, i5, -⟩ := hF.inv
  refine (cs_find h1 hd hw n hn (by omega)).mono ?_
  rintro e w' (⟨rfl, q⟩ | ⟨x, hx, u', hu, rfl, q⟩)
  · exact Or.inl ⟨rfl, ad, es, gs, fs, q, by omega, by omega, h4, by omega, h6, fun c => by have := h7 c; omega⟩
  · refine Or.inr ⟨x.r, u', hu, rfl, q.low, fun w2 hb => (cs_put (q.on hb) h4.nd (by omega) x.r.ck 1).mono ?_⟩
    rintro e w3 ⟨rfl, q3⟩
    have hx0 : ∀ y ∈ es, 0 ≤ y.pk := fun y hy => (i5 y hy).2.2.1.1
    have hG0 : 0 ≤ ctG x.r.ck (gfn gs) := by
      rw [ctG_gs hF.gon.1]
      refine smE_pos fun y hy => ?_
      obtain ⟨z, hz, rfl⟩ := List.mem_map.1 hy
      unfold vlG
      have := (hF.gon.2 z hz).2.1.1
      split <;> omega
    have hle : x.pk ≤ 150 := by
      have a1 := ctE_le (c := x.r.ck) hx0 hx
      have a2 : vlE x.r.ck x = x.pk := if_pos rfl
      have a3 := h7 x.r.ck
      omega
    have hf := fun c => ct_find (bt := sumE x.bt (max n 0)) i1 hx (by omega) c
    refine ⟨rfl, ad, _, gs, _, q3, by omega, by omega, h4.put (i5 x hx).1.ck (by unfold InB; omega), by have := put_len fs x.r.ck 1; omega, fun c => ?_, fun c => ?_⟩
    · rw [put_any' h4, hf c]
      have := h6 c
      unfold wr64 at *
      omega
    · rw [hf c]
      have := h7 c
      split <;> omega
end
def vlH (c : Int) (h : Hel) : Int := if h.r.ck = c then h.pk else 0
/-- What was found, behind the deals: beside it lies a list that stays. -/
structure Cg (w x0 wr : World) (N0 bf : Nat) (fs : List (Int × Int)) : Prop where
  low : Below w.heap.size w wr
  st : ∃ (F : Nat → Prop) (v : Value), (∀ b, F b → w.heap.size ≤ b ∧ b < wr.heap.size ∧ ¬ (N0 ≤ b ∧ b < x0.heap.size)) ∧ F bf ∧ wr.heap[bf]? = some (.cells #[v] 45 (0, 0)) ∧ Rw (fun b => F b ∧ b ≠ bf) 27 52 wr v fs.length (fcl fs)
  size : x0.heap.size ≤ wr.heap.size
  same : ∀ b, N0 ≤ b → b < x0.heap.size → wr.heap[b]? = x0.heap[b]?
section
variable {w x0 wr : World} {N0 bf : Nat} {fs : List (Int × Int)}
theorem Cg.on {w' : World} (h : Cg w x0 wr N0 bf fs) (hb : Below wr.heap.size wr w') : Cg w x0 w' N0 bf fs := by
  obtain ⟨F, v, h1, h3, h4, h5⟩ := h.st
  have hs := hb.size
  have hz := h.size
  exact ⟨h.low.trans (hb.mono h.low.size), ⟨F, v, fun b hF => ⟨(h1 b hF).1, by have := (h1 b hF).2.1; omega, (h1 b hF).2.2⟩, h3, (hb.block bf (h1 bf h3).2.1).trans h4, h5.carry fun b hb' hS => ⟨hS, hb.block b hb'⟩⟩, by omega, fun b q1 q2 => (hb.block b (by omega)).trans (h.same b q1 q2)⟩
theorem cg_put (h : Cg w x0 wr N0 bf fs) (hnd : fs.Pairwise fun a b => a.1 ≠ b.1) (hl : fs.length < 2147483000) (c n : Int) :
    Calls Tryz.prog 21 #[.int .u64 c, .int .u64 n, pv bf] wr fun e w' => e = .returned (.tuple #[]) ∧ Cg w x0 w' N0 bf (putF fs c n) := by
  obtain ⟨F, v, h1, h3, h4, h5⟩ := h.st
  have hs := h.low.size
  have hz := h.size
  refine (putf_any wr bf v fs c n h4 h5 (fun b hb => hb.2) hnd hl).mono ?_
  rintro e w' ⟨rfl, q1, v', q2, q3⟩
  have hq := q1.size
  refine ⟨rfl, h.low.trans (q1.below fun b hb => ?_), ⟨fun b => F b ∨ (wr.heap.size ≤ b ∧ b < w'.heap.size), v', fun b hb => ?_, Or.inl h3, q2, q3.carry fun b hb hS => ⟨?_, rfl⟩⟩, by omega, fun b k1 k2 => (q1.block b fun q => ?_).trans (h.same b k1 k2)⟩
  · rcases hb with rfl | hb | hb
    · exact (h1 _ h3).1
    · exact (h1 _ hb.1).1
    · omega
  · rcases hb with hb | hb
    · have := h1 b hb
      exact ⟨this.1, by omega, this.2.2⟩
    · exact ⟨by omega, hb.2, by omega⟩
  · rcases hS with q | q
    · exact ⟨Or.inl q.1, q.2⟩
    · exact ⟨Or.inr ⟨q, hb⟩, fun e => by have := (h1 bf h3).2.1; omega⟩
  · rcases q with rfl | q | q
    · exact (h1 _ h3).2.2 ⟨k1, k2⟩
    · exact (h1 _ q.1).2.2 ⟨k1, k2⟩
    · omega
end
/-- A list of held rules that is the caller's own, its cells. -/
def Yrw (N0 : Nat) (x0 : World) (v : Value) (ys : List (Hel × Value)) : Prop := Rw (fun b => N0 ≤ b) 27 52 x0 v ys.length (cel hen ys)
theorem Yrw.at {N0 : Nat} {x0 : World} {v : Value} {ys : List (Hel × Value)} (h : Yrw N0 x0 v ys) {k : Nat} (hk : k < ys.length) : ∃ b o cap, v = .slice (some ⟨b, o, none⟩) ys.length cap ∧ N0 ≤ b ∧ b < x0.heap.size ∧ x0.rangeAt b (o + k * 27) (hdc ys[k].1 ys[k].2).toList := by
  rcases h.2 with ⟨_, e⟩ | ⟨g, o, cap, cur, e, h2, h3, h4, h5, h6⟩
  · omega
  · refine ⟨g, o, cap, e, h2, (Array.getElem?_eq_some_iff.1 h3).1, range_of fun i hi => ?_⟩
    rw [hdc_size] at hi
    rw [cell_of_row _ _ _ _ _ _ h3, Nat.add_assoc, cells_at h6 (j := k * 27 + i) (by omega), cel_at hen_len _ k i hk hi]
    simp [hen]
end Go.Proofs.YtdehlnaoehjehaaGreatDoor
