/-
  Proved here: act of layer 20's laws: what it makes of a store; NodesAgain answers true, no old memory turns. Conditions: the acts lie where they are said to; the tables hold their numbers.
-/
import Derived.Test.YtggbokghhohofaaDoorDD
import Derived.Test.YtggbokghhohofaaDoorDA
import Derived.Test.YtggbokghhohofaaDoorWN
namespace Go.Proofs.YtggbokghhohofaaDoor
open Go.RowKit Go.Maps
set_option maxRecDepth 100000

abbrev atc (x : At) (u : Value) : Array Value := #[.int .i64 x.dw, u, .int .i8 x.fd, .int .u64 x.n, .int .i64 x.hi, .int .i64 x.lo]
theorem infoLACT (x : At) (u : Value) : (Tryd.prog.info? 35).map (·.size) = some (atc x u).size := by show _ = some 6; kernel_rfl
/-- What act reads. -/
structure Hac (b : Nat) (x : At) (u : Value) (w : World) : Prop where
  c0 : w.cell? ⟨b, 0, none⟩ = some (.int .i64 x.dw)
  c1 : w.cell? ⟨b, 1, none⟩ = some u
  c2 : w.cell? ⟨b, 2, none⟩ = some (.int .i8 x.fd)
  c3 : w.cell? ⟨b, 3, none⟩ = some (.int .u64 x.n)
  c4 : w.cell? ⟨b, 4, none⟩ = some (.int .i64 x.hi)
  c5 : w.cell? ⟨b, 5, none⟩ = some (.int .i64 x.lo)
set_option maxHeartbeats 6400000 in
theorem act_any {D : Nat → Prop} {B p : Nat} {T : Nat → Prop} {w : World} {all : List Nd} (h : StD D B p w all) (hD : ∀ b, D b → b < w.heap.size) (x : At) (u : Value) (hc : Cps T w u x.rows) (hTl : ∀ b, T b → b < w.heap.size) (ht : tot x.rows ≤ 40000) (hf : Tf x.fd x.n x.hi x.lo) (hT : Tabs B w) (hB : B ≤ w.heap.size) :
    Calls Tryd.prog 20 #[ptr p, .agg (atc x u)] w fun e w' => ∃ id er all', e = .returned (.tuple #[.int .i64 id, .int .i64 er]) ∧ ActR x all id er all' ∧ StD D B p w' all' ∧ StFr B w w' := by
  obtain ⟨a0, k0, rfl, -⟩ := hc.form
  obtain ⟨W1, hW1⟩ : ∃ W1, W1 = w.alloc (.cells (atc x (.slice a0 x.rows.length k0)) 35) := ⟨_, rfl⟩
  have hal : Below w.heap.size w W1 := by rw [hW1]; exact (Below.refl _ _).alloc (Nat.le_refl _) _
  have hnew : W1.heap[w.heap.size]? = some (.cells (atc x (.slice a0 x.rows.length k0)) 35 (0, 0)) := by rw [hW1]; exact heap_alloc_new _ _
  have HW : Hid (w.alloc (.cells (atc x (.slice a0 x.rows.length k0)) 35) = W1) := hW1.symm
  have HX : Hid (Hac w.heap.size x (.slice a0 x.rows.length k0) W1) := ⟨(cell_of_row _ _ _ _ _ _ hnew).trans rfl, (cell_of_row _ _ _ _ _ _ hnew).trans rfl, (cell_of_row _ _ _ _ _ _ hnew).trans rfl, (cell_of_row _ _ _ _ _ _ hnew).trans rfl, (cell_of_row _ _ _ _ _ _ hnew).trans rfl, (cell_of_row _ _ _ _ _ _ hnew).trans rfl⟩
  have hT1 := hT.on (hal.mono hB)
  have CL := hid (leafD (h.on hal) (fun b hb => Nat.lt_of_lt_of_le (hD b hb) hal.size) (.slice a0 x.rows.length k0) x.rows (hc.on hal) (fun b hb => Nat.lt_of_lt_of_le (hTl b hb) hal.size) ht hT1.tab hT1.pow (Nat.le_trans hB hal.size))
  have CT := hid (testD (h.on hal) (fun b hb => Nat.lt_of_lt_of_le (hD b hb) hal.size) x.fd x.n x.hi x.lo hf hT1.tab)
  have HAl := hid hal
  clear hW1 hal hnew hT1 hT h hD hc hTl hf
  go_enter Tryd.func20, Tryd.ntmps20
  go_upto_region 1 with fail
  rw [show w.alloc (.cells #[.int .i64 x.dw, .slice a0 x.rows.length k0, .int .i8 x.fd, .int .u64 x.n, .int .i64 x.hi, .int .i64 x.lo] 35) = W1 from HW.out]
  clear HW
  obtain ⟨c0, c1, c2, c3, c4, c5⟩ := HX.out
  by_cases hx : x.dw = 0
  · have hq : (x.dw == 0) = true := by simp [hx]
    have HQ := hid hx
    clear hx
    go_wp2_with (go_at_call 11; refine (CL.out).mono ?_; rintro e W2 ⟨id, er, all2, rfl, hr, hs, hfr⟩; have HR : Hid (ActR x all id er all2) := (by show ActR _ _ _ _ _; unfold ActR; rw [if_pos HQ.out]; exact hr); have HS := hid hs; have HF := hid ((StFr.of HAl.out).trans hfr); clear hr hs hfr CL CT)
    refine bodyPost_ret (results_tmp2 rfl _ _ _) rfl ?_
    exact ⟨id, er, all2, rfl, HR.out, HS.out, HF.out⟩
  · have hq : (x.dw == 0) = false := beq_eq_false_iff_ne.2 hx
    have HQ := hid hx
    clear hx
    go_wp2_with (go_at_call 13; refine (CT.out).mono ?_; rintro e W2 ⟨id, er, all2, rfl, hr, hs, hfr⟩; have HR : Hid (ActR x all id er all2) := (by show ActR _ _ _ _ _; unfold ActR; rw [if_neg HQ.out]; exact hr); have HS := hid hs; have HF := hid ((StFr.of HAl.out).trans hfr); clear hr hs hfr CL CT)
    refine bodyPost_ret (results_tmp2 rfl _ _ _) rfl ?_
    exact ⟨id, er, all2, rfl, HR.out, HS.out, HF.out⟩
theorem Rw.fr {S : Nat → Prop} {k t B : Nat} {w w' : World} {v : Value} {n : Nat} {xs : List Value} (h : Rw S k t w v n xs) (h1 : t ≠ 59) (h2 : t ≠ 41) (hf : StFr B w w') : Rw S k t w' v n xs := by
  rcases h.ge with ⟨e, _⟩ | ⟨g, o, cap, cu, e, -, q, -⟩
  · exact h.self.carry fun b _ hS => by rw [e] at hS; simp [Value.ownBlock] at hS
  · exact h.self.carry fun b hb hS => by
      have hg : g = b := by have := hS.2; rw [e] at this; simpa [Value.ownBlock] using this
      subst hg
      exact ⟨hS.1, hf.blk g hb (Or.inr ⟨cu, t, _, q, h1, h2⟩)⟩
theorem Rw.apart {S S1 : Nat → Prop} {k t k1 t1 : Nat} {w : World} {v v1 : Value} {n n1 : Nat} {xs xs1 : List Value} (h : Rw S k t w v n xs) (h1 : Rw S1 k1 t1 w v1 n1 xs1) (hne : t1 ≠ t) : ∀ b, v.ownBlock = some b → v1.ownBlock ≠ some b := fun b hb hb1 => by
  rcases h.ge with ⟨e, _⟩ | ⟨g, o, cap, cu, e, -, q, -⟩
  · rw [e] at hb; simp [Value.ownBlock] at hb
  · rcases h1.ge with ⟨e1, _⟩ | ⟨g1, o1, cap1, cu1, e1, -, q1, -⟩
    · rw [e1] at hb1; simp [Value.ownBlock] at hb1
    · rw [e] at hb
      rw [e1] at hb1
      simp [Value.ownBlock] at hb hb1
      subst hb hb1
      rw [q] at q1
      simp at q1
      exact hne q1.2.symm
theorem Rw.cell1 {S : Nat → Prop} {t : Nat} {w : World} {v : Value} {n : Nat} {xs : List Value} (h : Rw S 1 t w v n xs) (j : Nat) (hj : j < n) : ∃ g o cap, v = .slice (some ⟨g, o, none⟩) n cap ∧ n ≤ cap ∧ w.cell? ⟨g, o + j, none⟩ = xs[j]? := by
  have hl := h.len
  rcases h.2 with ⟨rfl, h0⟩ | ⟨g, o, cap, cur, rfl, h2, h3, h4, h5, h6⟩
  · omega
  · exact ⟨g, o, cap, rfl, h4, by rw [cell_of_row _ _ _ _ _ _ h3, cells_at h6 (by omega)]⟩
/-- A store, and two lists beside it. -/
structure AgQ (w : World) (p : Nat) (vi ve : Value) (n m : Nat) (xs ys : List Value) (all : List Nd) (wr : World) : Prop where
  st : StD (fun b => vi.ownBlock = some b ∨ ve.ownBlock = some b) w.heap.size p wr all
  low : Below w.heap.size w wr
  tab : Tabs w.heap.size wr
  ri : Rw (fun b => w.heap.size ≤ b) 1 3 wr vi n xs
  re : Rw (fun b => w.heap.size ≤ b) 1 36 wr ve m ys
theorem AgQ.on {w : World} {p : Nat} {vi ve : Value} {n m : Nat} {xs ys : List Value} {all : List Nd} {wr w' : World} (h : AgQ w p vi ve n m xs ys all wr) (hb : Below wr.heap.size wr w') : AgQ w p vi ve n m xs ys all w' :=
  ⟨h.st.on hb, h.low.trans (hb.mono h.low.size), h.tab.on (hb.mono h.low.size), h.ri.carry fun b hlt hS => ⟨hS, hb.block b hlt⟩, h.re.carry fun b hlt hS => ⟨hS, hb.block b hlt⟩⟩
theorem AgQ.own {w : World} {p : Nat} {vi ve : Value} {n m : Nat} {xs ys : List Value} {all : List Nd} {wr : World} (h : AgQ w p vi ve n m xs ys all wr) : ∀ b, (vi.ownBlock = some b ∨ ve.ownBlock = some b) → b < wr.heap.size := fun b hb => by
  rcases hb with e | e
  · exact h.ri.ownLt b e
  · exact h.re.ownLt b e
theorem AgQ.act {w : World} {p : Nat} {vi ve : Value} {n m : Nat} {xs ys : List Value} {all all' : List Nd} {wr w' : World} (h : AgQ w p vi ve n m xs ys all wr) (hs : StD (fun b => vi.ownBlock = some b ∨ ve.ownBlock = some b) w.heap.size p w' all') (hf : StFr w.heap.size wr w') : AgQ w p vi ve n m xs ys all' w' :=
  ⟨hs, h.low.trans (hf.below h.low.size), h.tab.on (hf.below h.low.size), h.ri.fr (by decide) (by decide) hf, h.re.fr (by decide) (by decide) hf⟩
theorem AgQ.appI {w : World} {p : Nat} {vi vi' ve : Value} {n m : Nat} {xs ys : List Value} {all : List Nd} {wr w' : World} (h : AgQ w p vi ve n m xs ys all wr) (u : Value) (hA : Apd wr vi w') (hR : ∀ S, Rw S 1 3 wr vi n xs → Rw (fun b => S b ∨ wr.heap.size ≤ b) 1 3 w' vi' (n + 1) (xs ++ [u])) : AgQ w p vi' ve (n + 1) m (xs ++ [u]) ys all w' := by
  have h1 := hR _ h.ri
  have h2 := hR _ h.ri.self
  have hz := h.low.size
  have hlow : Below w.heap.size wr w' := ⟨hA.os, hA.tape, hA.output, hA.size, fun k hk => hA.block k (by omega) fun e => by have := h.ri.own k e; omega⟩
  refine ⟨?_, h.low.trans hlow, h.tab.on hlow, h1.carry fun b _ hS => ⟨by omega, rfl⟩, h.re.self.carry fun b hb hS => ⟨hS.1, hA.block b hb (h.re.apart h.ri (by decide) b hS.2)⟩⟩
  have hs := h.st.ext (D' := fun b => (vi.ownBlock = some b ∨ ve.ownBlock = some b) ∨ vi'.ownBlock = some b) fun b hb => by
    rcases hb with e | e
    · exact Or.inl e
    · rcases h2.own b e with ⟨_, q⟩ | q
      · exact Or.inl (Or.inl q)
      · exact Or.inr q
  exact (hs.keep fun b hb hd => hA.block b hb fun e => hd (Or.inl (Or.inl e))).ext fun b hb => Or.inl (by
    rcases hb with e | e
    · exact Or.inr e
    · exact Or.inl (Or.inr e))
theorem AgQ.appE {w : World} {p : Nat} {vi ve ve' : Value} {n m : Nat} {xs ys : List Value} {all : List Nd} {wr w' : World} (h : AgQ w p vi ve n m xs ys all wr) (u : Value) (hA : Apd wr ve w') (hR : ∀ S, Rw S 1 36 wr ve m ys → Rw (fun b => S b ∨ wr.heap.size ≤ b) 1 36 w' ve' (m + 1) (ys ++ [u])) : AgQ w p vi ve' n (m + 1) xs (ys ++ [u]) all w' := by
  have h1 := hR _ h.re
  have h2 := hR _ h.re.self
  have hz := h.low.size
  have hlow : Below w.heap.size wr w' := ⟨hA.os, hA.tape, hA.output, hA.size, fun k hk => hA.block k (by omega) fun e => by have := h.re.own k e; omega⟩
  refine ⟨?_, h.low.trans hlow, h.tab.on hlow, h.ri.self.carry fun b hb hS => ⟨hS.1, hA.block b hb (h.ri.apart h.re (by decide) b hS.2)⟩, h1.carry fun b _ hS => ⟨by omega, rfl⟩⟩
  have hs := h.st.ext (D' := fun b => (vi.ownBlock = some b ∨ ve.ownBlock = some b) ∨ ve'.ownBlock = some b) fun b hb => by
    rcases hb with e | e
    · exact Or.inl e
    · rcases h2.own b e with ⟨_, q⟩ | q
      · exact Or.inl (Or.inr q)
      · exact Or.inr q
  exact (hs.keep fun b hb hd => hA.block b hb fun e => hd (Or.inl (Or.inr e))).ext fun b hb => Or.inl (by
    rcases hb with e | e
    · exact Or.inl (Or.inl e)
    · exact Or.inr e)
theorem infoI : (Tryd.prog.info? 3).map (fun i => (i.zero, i.size, i.bytes)) = some (some (.int .i64 0), 1, 8) := by kernel_rfl
theorem infoE : (Tryd.prog.info? 36).map (fun i => (i.zero, i.size, i.bytes)) = some (some (.int .i64 0), 1, 8) := by kernel_rfl
abbrev iv (l : List Int) : List Value := l.map fun x => .int .i64 x
def ToldAll (l : List At) (idl erl : List Int) (all : List Nd) : Prop := ∀ j (h : j < l.length), j < idl.length → erl.getD j 1 = 0 → Told l[j] (idl.getD j 0) all
theorem ToldAll.next {l : List At} {idl erl : List Int} {all all' : List Nd} {id er : Int} (h : ToldAll l idl erl all) (hle : erl.length = idl.length) (hi : idl.length < l.length) (hr : ActR l[idl.length] all id er all') : ToldAll l (idl ++ [id]) (erl ++ [er]) all' := fun j hj hj2 he => by
  simp only [List.length_append, List.length_cons, List.length_nil] at hj2
  by_cases h1 : j < idl.length
  · rw [List.getD_eq_getElem?_getD, List.getElem?_append_left h1, ← List.getD_eq_getElem?_getD]
    rw [List.getD_eq_getElem?_getD, List.getElem?_append_left (by omega), ← List.getD_eq_getElem?_getD] at he
    exact (h j hj h1 he).pre hr.pre.1
  · obtain rfl : j = idl.length := by omega
    rw [List.getD_eq_getElem?_getD, List.getElem?_append_right (Nat.le_refl _)]
    rw [List.getD_eq_getElem?_getD, List.getElem?_append_right (by omega), hle] at he
    simp at he ⊢
    exact hr.told he
set_option maxHeartbeats 25600000 in
theorem nodesAgain_any {T : Nat → Prop} (w : World) (v : Value) (l : List At) (turn : Int) (h : Ats T w v l) (_hTl : ∀ b, T b → b < w.heap.size) (hT : Tabs w.heap.size w) : Calls Tryd.prog 6 #[v, .int .i64 turn] w fun e w' => e = .returned (.bool true) ∧ Below w.heap.size w w' := by
  have hg := great_any w v l h
  have HWk := hid (wakes_any w.heap.size w hT (Nat.le_refl _))
  by_cases hbig : l.length ≤ 200 ∧ totA l ≤ 8192
  case neg =>
    have HG : Hid (Calls Tryd.prog 8 #[v] w fun e w' => e = .returned (.bool true) ∧ w' = w) := hg.mono fun e w' ⟨h1, h2⟩ => ⟨by rw [h1, decide_eq_false hbig]; rfl, h2⟩
    obtain ⟨ao, cap, rfl, hcap⟩ := h.form
    clear hg hbig h hT
    go_enter Tryd.func6, Tryd.ntmps6
    go_wp2_with (first
      | (go_at_call 8; refine (HG.out).mono ?_; rintro e w' ⟨rfl, hw⟩; obtain rfl : w = w' := hw.symm)
      | (go_at_call 9; refine (HWk.out).mono ?_; rintro e W2 ⟨rfl, hb⟩; have HB := hid hb; clear hb HWk))
    go_ret
    exact ⟨rfl, HB.out⟩
  have HG : Hid (Calls Tryd.prog 8 #[v] w fun e w' => e = .returned (.bool false) ∧ w' = w) := hg.mono fun e w' ⟨h1, h2⟩ => ⟨by rw [h1, decide_eq_true hbig]; rfl, h2⟩
  have HTot := hid hbig.2
  have HA := hid h
  obtain ⟨ao, cap, rfl, hcap⟩ := h.form
  have HT := hid hT
  clear hg hbig h hT
  by_cases h100 : l.length ≤ 100
  case neg =>
    have g1 : decide (100 < (l.length : Int)) = true := decide_eq_true (by omega)
    clear h100
    go_enter Tryd.func6, Tryd.ntmps6
    go_wp2_with (first
      | (go_at_call 8; refine (HG.out).mono ?_; rintro e w' ⟨rfl, hw⟩; obtain rfl : w = w' := hw.symm)
      | (go_at_call 9; refine (HWk.out).mono ?_; rintro e W2 ⟨rfl, hb⟩; have HB := hid hb; clear hb HWk))
    go_ret
    exact ⟨rfl, HB.out⟩
  have g1 : decide (100 < (l.length : Int)) = false := decide_eq_false (by omega)
  clear HWk
  go_enter Tryd.func6, Tryd.ntmps6
  go_upto_region 7 with (first
    | (go_at_call 8; refine (HG.out).mono ?_; rintro e w' ⟨rfl, hw⟩; obtain rfl : w = w' := hw.symm; clear HG)
    | (go_at_call 10; refine (new_any _).mono ?_; rintro e W1 ⟨p, rfl, hb, hs⟩; have HQ0 : Hid (AgQ w p nilS nilS 0 0 [] [] [] W1) := ⟨hs.off.ext (fun b hb => by simp [Value.ownBlock] at hb), hb, HT.out.on hb, Rw.nil _ _ _ _, Rw.nil _ _ _ _⟩; clear hb hs))
  clear g1
  go_loopw [6, 7, 8] (fun si se sk wr => ∃ (i : Nat) (vi ve : Value) (idl erl : List Int) (all : List Nd), vi = si ∧ ve = se ∧ sk = .int .i64 ((i : Nat) : Int) ∧ i ≤ l.length ∧ idl.length = i ∧ erl.length = i ∧ Hid (AgQ w p vi ve i i (iv idl) (iv erl) all wr ∧ all.Nodup ∧ ToldAll l idl erl all)) (fun _ _ sk _ => l.length - (intOf sk).toNat)
  case atStart => exact ⟨0, _, _, [], [], [], rfl, rfl, rfl, Nat.zero_le _, rfl, rfl, HQ0.out, List.nodup_nil, fun j _ h2 => absurd h2 (by simp)⟩
  case round =>
    clear HQ0
    obtain ⟨i, vi, ve, idl, erl, all, rfl, rfl, rfl, hi1, hli, hle, HQ⟩ := hrel
    by_cases hi : i < l.length
    · have hd : decide ((i : Int) < (l.length : Int)) = true := by simp; omega
      have hiw : IntKind.i64.wrap ((i : Int) + 1) = (i : Int) + 1 := by rw [IntKind.wrap_i64]; omega
      have hic : i < cap := by omega
      have ha : Ats (fun b => b < w.heap.size) wr (.slice ao l.length cap) l := Ats.carry (fun b hb hT => ⟨hb, HQ.out.1.low.block b hb⟩) HA.out
      have htx := Nat.le_trans (totA_mem (List.getElem_mem hi)) HTot.out
      obtain ⟨b, o, rfl, hTb, h0, ⟨u, hu, hcp⟩, h2, h3, h4, h5, hTf, -⟩ := ha.cell i hi
      have hra : wr.rangeAt b (o + i * 6) (atc l[i] u).toList := range_of fun j hj => by
        have hj : j = 0 ∨ j = 1 ∨ j = 2 ∨ j = 3 ∨ j = 4 ∨ j = 5 := by simp at hj; omega
        rcases hj with rfl | rfl | rfl | rfl | rfl | rfl
        · exact h0
        · exact hu
        · exact h2
        · exact h3
        · exact h4
        · exact h5
      have HTN : Hid (∀ id er all', ActR l[i] all id er all' → ToldAll l (idl ++ [id]) (erl ++ [er]) all') := fun id er all' hr => by
        subst hli
        exact HQ.out.2.2.next hle hi hr
      have CA := hid (act_any HQ.out.1.st HQ.out.1.own l[i] u hcp (fun b hb => Nat.lt_of_lt_of_le hb HQ.out.1.low.size) (by omega) hTf HQ.out.1.tab HQ.out.1.low.size)
      obtain ⟨a1, k1, rfl, -⟩ := hcp.form
      have HRA := hid hra
      clear ha h0 hu hcp h2 h3 h4 h5 hTf hra
      generalize l[i] = x at htx HRA HTN CA
      go_upto_region 10 with (first
        | (refine ldMid 35 (.tmp 35) rfl rfl b (o + i * 6) rfl (atc x (.slice a1 x.rows.length k1)) _ Tryd.underlying35 rfl (infoLACT _ _) HRA.out ?_)
        | (go_at_call 20; refine (CA.out).mono ?_; rintro e W2 ⟨id, er, all2, rfl, hr, hs, hfr⟩; have HQ2 := hid (HQ.out.1.act hs hfr); have HT2 := hid (HTN.out id er all2 hr); have HN2 := hid (hr.pre.2.1 HQ.out.2.1); clear hr hs hfr CA HTN HQ))
      have hal : Below W2.heap.size W2 (W2.alloc (.cells #[.int .i64 id] 3)) := (Below.refl _ _).alloc (Nat.le_refl _) _
      have HQ3 := hid (HQ2.out.on hal)
      have HC3 : Hid (∀ (i : Nat) (x : Value), ([Value.int .i64 id] : List Value)[i]? = some x → (W2.alloc (.cells #[.int .i64 id] 3)).cell? (Addr.add ⟨W2.heap.size, 0, none⟩ i) = some x) := (fun i x hx => by rw [Addr.add_lit, Nat.zero_add, cell_of_row _ _ _ _ _ _ (heap_alloc_new _ _), ← hx]; simp)
      clear hal HQ2
      go_upto_region 11 with (refine appRw (v := vi) (S := fun b => w.heap.size ≤ b) (k := 1) (t := 3) (n := i) (m := 1) (c := 1) (xs := iv idl) (us := [.int .i64 id]) (ad := ⟨W2.heap.size, 0, none⟩) (.tmp 40) (.tmp 42) 48 rfl rfl rfl rfl Tryd.underlying48 infoI rfl (by omega) (by omega) HQ3.out.ri (by simp) HC3.out (by intro x hx; obtain rfl := List.mem_singleton.1 hx; rfl) (by omega) (Or.inl (by omega)) ?_; intro v6 w6 hap hrw; have HQ6 := hid (HQ3.out.appI _ hap hrw); clear hap hrw HQ3 HC3)
      have hal : Below w6.heap.size w6 (w6.alloc (.cells #[.int .i64 er] 36)) := (Below.refl _ _).alloc (Nat.le_refl _) _
      have HQ7 := hid (HQ6.out.on hal)
      have HC7 : Hid (∀ (i : Nat) (x : Value), ([Value.int .i64 er] : List Value)[i]? = some x → (w6.alloc (.cells #[.int .i64 er] 36)).cell? (Addr.add ⟨w6.heap.size, 0, none⟩ i) = some x) := (fun i x hx => by rw [Addr.add_lit, Nat.zero_add, cell_of_row _ _ _ _ _ _ (heap_alloc_new _ _), ← hx]; simp)
      clear hal HQ6
      go_wp2_with (refine appRw (v := ve) (S := fun b => w.heap.size ≤ b) (k := 1) (t := 36) (n := i) (m := 1) (c := 1) (xs := iv erl) (us := [.int .i64 er]) (ad := ⟨w6.heap.size, 0, none⟩) (.tmp 44) (.tmp 46) 49 rfl rfl rfl rfl Tryd.underlying49 infoE rfl (by omega) (by omega) HQ7.out.re (by simp) HC7.out (by intro x hx; obtain rfl := List.mem_singleton.1 hx; rfl) (by omega) (Or.inl (by omega)) ?_; intro v8 w8 hap hrw; have HQ8 := hid (HQ7.out.appE _ hap hrw); clear hap hrw HQ7 HC7)
      go_roundw
      case rel => exact ⟨i + 1, v6, v8, idl ++ [id], erl ++ [er], all2, rfl, rfl, by rw [show (((i + 1 : Nat) : Nat) : Int) = (i : Int) + 1 by omega], hi, by simp [hli], by simp [hle], by
        have := HQ8.out
        simp only [iv, List.map_append, List.map_cons, List.map_nil]
        exact this, HN2.out, HT2.out⟩
      case measure => simp [intOf]; omega
    · have hd : decide ((i : Int) < (l.length : Int)) = false := by simp; omega
      obtain rfl : i = l.length := by omega
      have CL := hid (len_any HQ.out.1.st.st)
      go_upto_region 14 with (go_at_call 18; refine (CL.out).mono ?_; rintro e w' ⟨rfl, hw⟩; obtain rfl : wr = w' := hw.symm; clear CL)
      clear hd
      generalize wr = W3 at HQ ⊢
      have hw0 : IntKind.i64.wrap (2 * (l.length : Int)) = 2 * (l.length : Int) := by rw [IntKind.wrap_i64]; omega
      go_loopw [12] (fun sj wr => ∃ j : Nat, sj = .int .i64 ((j : Nat) : Int) ∧ j ≤ 2 * l.length ∧ Hid (AgQ w p vi ve l.length l.length (iv idl) (iv erl) all wr)) (fun sj _ => 2 * l.length - (intOf sj).toNat)
      case atStart => exact ⟨0, rfl, Nat.zero_le _, HQ.out.1⟩
      case round =>
        obtain ⟨j, rfl, hj1, HR⟩ := hrel
        have HTd := hid HQ.out.2.2
        have HNd := hid HQ.out.2.1
        by_cases hj : j < 2 * l.length
        · have hd : decide ((j : Int) < 2 * (l.length : Int)) = true := decide_eq_true (by omega)
          have hn0 : 0 < l.length := by omega
          have g0 : ((l.length : Int) == 0) = false := beq_eq_false_iff_ne.2 (by omega)
          have hw7 : IntKind.i64.wrap ((j : Int) * 7) = (j : Int) * 7 := by rw [IntKind.wrap_i64]; omega
          obtain ⟨x, hx⟩ : ∃ x, IntKind.i64.wrap ((j : Int) * 7 + turn) = x := ⟨_, rfl⟩
          obtain ⟨q1, q2, q3, q4⟩ := gI_in hn0 x
          have hr1 : IntKind.i64.wrap (x.tmod (l.length : Int)) = x.tmod (l.length : Int) := by rw [IntKind.wrap_i64]; omega
          have hr2 : IntKind.i64.wrap (x.tmod (l.length : Int) + (l.length : Int)) = x.tmod (l.length : Int) + (l.length : Int) := by rw [IntKind.wrap_i64]; omega
          obtain ⟨k, hk⟩ : ∃ k : Nat, (x.tmod (l.length : Int) + (l.length : Int)).tmod (l.length : Int) = (k : Int) := ⟨_, (Int.toNat_of_nonneg q3).symm⟩
          have hr3 : IntKind.i64.wrap ((k : Nat) : Int) = ((k : Nat) : Int) := by rw [IntKind.wrap_i64]; omega
          have hkl : k < l.length := by omega
          have hjw : IntKind.i64.wrap ((j : Int) + 1) = (j : Int) + 1 := by rw [IntKind.wrap_i64]; omega
          clear q1 q2 q3 q4
          go_upto_region 17 with fail
          clear hx hk hr1 hr2 hr3 hw7
          obtain ⟨ge, oe, ce, rfl, hce, hce2⟩ := HR.out.re.cell1 k hkl
          obtain ⟨gi, oi, ci, rfl, hci, hci2⟩ := HR.out.ri.cell1 k hkl
          have hke : k < erl.length := by omega
          have hki : k < idl.length := by omega
          rw [List.getElem?_map, List.getElem?_eq_getElem hke] at hce2
          rw [List.getElem?_map, List.getElem?_eq_getElem hki] at hci2
          simp only [Option.map_some] at hce2 hci2
          have hkce : k < ce := by omega
          have hkci : k < ci := by omega
          by_cases he : erl[k] = 0
          · have te : (erl[k] != 0) = false := by simp [he]
            have HTk : Hid (Told l[k] idl[k] all) := by
              have := HTd.out k hkl hki (by rw [List.getD_eq_getElem?_getD, List.getElem?_eq_getElem hke, Option.getD_some]; exact he)
              rw [List.getD_eq_getElem?_getD, List.getElem?_eq_getElem hki, Option.getD_some] at this
              exact this
            have HCi := hid hci2
            clear hci2
            generalize erl[k] = ek at hce2 te
            generalize hik : idl[k] = ik at HCi HTk
            have HIK := hid hik
            clear hik HCi
            have ha : Ats (fun b => b < w.heap.size) wr (.slice ao l.length cap) l := Ats.carry (fun b hb hT => ⟨hb, HR.out.low.block b hb⟩) HA.out
            have htx := Nat.le_trans (totA_mem (List.getElem_mem hkl)) HTot.out
            obtain ⟨b, o, rfl, hTb, h0, ⟨u, hu, hcp⟩, h2, h3, h4, h5, hTf, -⟩ := ha.cell k hkl
            have hra : wr.rangeAt b (o + k * 6) (atc l[k] u).toList := range_of fun j hj => by
              have hj : j = 0 ∨ j = 1 ∨ j = 2 ∨ j = 3 ∨ j = 4 ∨ j = 5 := by simp at hj; omega
              rcases hj with rfl | rfl | rfl | rfl | rfl | rfl
              · exact h0
              · exact hu
              · exact h2
              · exact h3
              · exact h4
              · exact h5
            have CA := hid (act_any HR.out.st HR.out.own l[k] u hcp (fun b hb => Nat.lt_of_lt_of_le hb HR.out.low.size) (by omega) hTf HR.out.tab HR.out.low.size)
            obtain ⟨a1, k1, rfl, -⟩ := hcp.form
            have HRA := hid hra
            have hkc : k < cap := by omega
            clear ha h0 hu hcp h2 h3 h4 h5 hTf hra
            generalize l[k] = y at htx HRA HTk CA
            go_upto_region 19 with (first
              | (refine ldMid 35 (.tmp 79) rfl rfl b (o + k * 6) rfl (atc y (.slice a1 y.rows.length k1)) _ Tryd.underlying35 rfl (infoLACT _ _) HRA.out ?_)
              | (go_at_call 20; refine (CA.out).mono ?_; rintro e W4 ⟨id, er, all2, rfl, hr, hs, hfr⟩; obtain ⟨rfl, rfl, rfl⟩ := HTk.out.again HNd.out hr; have HR4 := hid (HR.out.act hs hfr); clear hr hs hfr CA HR))
            obtain ⟨gi', oi', ci', e1, -, e2⟩ := HR4.out.ri.cell1 k hkl
            simp only [Value.slice.injEq, Option.some.injEq, Addr.mk.injEq] at e1
            have ci4 : W4.cell? ⟨gi, oi + k, none⟩ = some (.int .i64 id) := by
              rw [e1.1.1, e1.1.2.1, e2, List.getElem?_map, List.getElem?_eq_getElem hki, HIK.out]; rfl
            have tn : (id != id) = false := by simp
            clear e1 e2 hce2
            go_wp2
            go_roundw
            case rel => exact ⟨j + 1, by rw [show (((j + 1 : Nat) : Nat) : Int) = (j : Int) + 1 by omega], hj, HR4⟩
            case measure => simp [intOf]; omega
          · have te : (erl[k] != 0) = true := by simp [he]
            clear hci2
            go_wp2
            go_roundw
            case rel => exact ⟨j + 1, by rw [show (((j + 1 : Nat) : Nat) : Int) = (j : Int) + 1 by omega], hj, HR⟩
            case measure => simp [intOf]; omega
        · have hd : decide ((j : Int) < 2 * (l.length : Int)) = false := decide_eq_false (by omega)
          have CL := hid (len_any HR.out.st.st)
          have HWk := hid (wakes_any w.heap.size wr HR.out.tab HR.out.low.size)
          go_wp2_with (first
            | (go_at_call 18; refine (CL.out).mono ?_; rintro e w' ⟨rfl, hw⟩; obtain rfl : wr = w' := hw.symm; clear CL)
            | (go_at_call 9; refine (HWk.out).mono ?_; rintro e W4 ⟨rfl, hb⟩; have HB := hid (HR.out.low.trans (hb.mono HR.out.low.size)); clear hb HWk))
          go_ret
          exact ⟨rfl, HB.out⟩
end Go.Proofs.YtggbokghhohofaaDoor
