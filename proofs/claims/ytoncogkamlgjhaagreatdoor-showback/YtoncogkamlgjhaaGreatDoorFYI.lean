/-
  Proved here: tellKids of package show, given tell for the kids. Conditions: the tables.
-/
import Derived.Test.YtoncogkamlgjhaaGreatDoorFYH
namespace Go.Proofs.YtoncogkamlgjhaaGreatDoor
set_option maxRecDepth 100000
open Go.RowKit
set_option maxRecDepth 100000

def wdB (ts : List Tk) : List ByteArray := ts.map (·.t)
theorem wdB_app (a b : List Tk) : wdB (a ++ b) = wdB a ++ wdB b := List.map_append
mutual
theorem tks_len : ∀ t : Tm, (tks t).length + 3 ≤ 6 * sz t
  | .mk op fd n ks => by
    have hk : ∀ op' b, (tkk op' b ks).length ≤ 6 * szs ks := fun op' b => tkk_len op' b ks
    rw [tks, sz]
    have h3 := hk 3 true
    have h6 := hk 6 true
    have h10 := hk 10 true
    have ho := hk op true
    split
    · simp; omega
    · split
      · simp; omega
      · split
        · simp; omega
        · split
          · simp; omega
          · split
            · have : ∀ (l : List Tm) (r : List Tk), (tkF l r).length ≤ r.length + 1 := fun l r => by
                cases l with
                | nil => simp [tkF]
                | cons k l =>
                  rw [tkF]
                  split
                  · simp
                  · split
                    · simp
                    · simp
              have := this ks (tkk 6 true ks)
              omega
            · split
              · simp; omega
              · omega
theorem tkk_len (op : Nat) (b : Bool) : ∀ ks : List Tm, (tkk op b ks).length ≤ 6 * szs ks
  | [] => by rw [tkk_nil]; simp
  | k :: ks => by
    have h1 := tks_len k
    have h2 := tkk_len op false ks
    have h3 : (tkA (ask op) k).length ≤ (tks k).length + 2 := by unfold tkA; split <;> simp
    rw [szs]
    cases b with
    | true => rw [tkk_cons, List.length_append]; omega
    | false => rw [tkk_more, List.length_cons, List.length_append]; omega
end
abbrev sayV (R : Nat) : Value := .func (.func 23) #[] #[ptr R]
/-- what tell tells -/
def TlP (S : Nat → Prop) (R : Nat) (ws : List ByteArray) (ts : List Tk) (w : World) (e : Ending) (w' : World) : Prop := e = .returned (.tuple #[]) ∧ ∃ S', Ws S' R (ws ++ wdB ts) w' ∧ Sw S w S' w'
/-- tell, for terms of at most N -/
def Tl (N : Nat) : Prop := ∀ (b : Bool) (t : Tm) (cs : Array Value) (S : Nat → Prop) (R : Nat) (ws : List ByteArray) (w : World), sz t ≤ N → N ≤ 4096 → okT b t = true → UmV (fun b => ¬ S b ∧ b < w.heap.size) w t cs → Ws S R ws w → TabS w → ws.length + 6 * sz t ≤ 1000000 → Calls Tryz.prog 24 #[.agg cs, sayV R] w (TlP S R ws (tks t) w)
theorem wd1_one (w : World) (x : ByteArray) : Wd1 (w.alloc (.cells #[.string x] 9)) (some ⟨w.heap.size, 0, none⟩) [x] := fun _ => ⟨_, rfl, fun j u hj => by
  rw [Addr.add_lit, cell_of_row _ _ _ _ _ _ (heap_alloc_new w _), Nat.zero_add]
  simpa using hj⟩
/-- a word said -/
theorem say1 {S : Nat → Prop} {R : Nat} {ws : List ByteArray} {w : World} (h : Ws S R ws w) (x : ByteArray) (hl : ws.length < 2000000) : Calls Tryz.prog 23 #[.slice (some ⟨w.heap.size, 0, none⟩) 1 1, ptr R] (w.alloc (.cells #[.string x] 9)) fun e w' => e = .returned (.tuple #[]) ∧ ∃ S', Ws S' R (ws ++ [x]) w' ∧ Sw S w S' w' := by
  have hb : Below w.heap.size w (w.alloc (.cells #[.string x] 9)) := (Below.refl _ _).alloc (Nat.le_refl _) _
  refine (say_any (us := [x]) (c := 1) (h.bel hb) (wd1_one w x) (by simp; omega)).mono ?_
  rintro e w' ⟨rfl, S', h1, h2⟩
  exact ⟨rfl, S', h1, ((Sw.refl S w).bel hb).trans h2⟩
/-- where tellKids' loop is: what it holds since W2 -/
structure KdS (S : Nat → Prop) (R : Nat) (ws : List ByteArray) (op : Nat) (ks : List Tm) (v : Value) (W2 : World) (j : Nat) (wr : World) : Prop where
  st : ∃ S', Ws S' R (ws ++ wdB (tkk op true (ks.take j))) wr ∧ Sw S W2 S' wr
theorem take_tkk (op : Nat) : ∀ (b : Bool) (ks : List Tm) (j : Nat) (hj : j < ks.length), tkk op b (ks.take (j + 1)) = tkk op b (ks.take j) ++ ((if b = true ∧ j = 0 then [] else [tS (sgT op)]) ++ tkA (ask op) ks[j])
  | b, [], j, hj => by simp at hj
  | b, k :: ks, 0, hj => by
    rw [List.take_succ_cons, List.take_zero, List.take_zero, tkk_nil]
    cases b with
    | true => rw [tkk_one]; simp
    | false => rw [tkk_more, tkk_nil]; simp
  | b, k :: ks, j + 1, hj => by
    have ih := take_tkk op false ks j (by simpa using hj)
    rw [List.take_succ_cons, List.take_succ_cons]
    cases b with
    | true => rw [tkk_cons, tkk_cons, ih]; simp
    | false => rw [tkk_more, tkk_more, ih]; simp
theorem okT_op {b : Bool} {t : Tm} (h : okT b t = true) : t.op < 11 := by
  obtain ⟨op, fd, n, ks⟩ := t
  obtain ⟨h1, -, -⟩ := okT_shape h
  show op < 11
  rcases h1 with h | h <;> omega
theorem tmL_at {S : Nat → Prop} {w : World} {ks : List Tm} {ao : Option Addr} {cap : Nat} {xs : List Value} (h : Rx S 4 w (.slice ao ks.length cap) ks.length xs) (hl : UmL S w ks xs) {j : Nat} (hj : j < ks.length) : ∃ g o, ao = some ⟨g, o, none⟩ ∧ ks.length ≤ cap ∧ S g ∧ g < w.heap.size ∧ ∃ ds, UmV S w ks[j] ds ∧ w.rangeAt g (o + j * 4) ds.toList := by
  obtain ⟨g, o, e, hc, hS, hg, hr⟩ := h.at hj
  obtain ⟨ds, h4, h5⟩ := UmL.at ks xs j hj hl
  refine ⟨g, o, e, hc, hS, hg, ds, h4, hr _ fun i hi => ?_⟩
  have hi4 : i < 4 := by have := h4.size; simp at hi; omega
  rw [h5 i hi4]
  simp
/-- what a kid's turn holds -/
structure KT (S1 : Nat → Prop) (R : Nat) (wx : List ByteArray) (K H op lim : Nat) (ds : Array Value) (t : Tm) (w4 : World) : Prop where
  ws : Ws S1 R wx w4
  k : w4.heap[K]? = some (.cells ds 26 (0, 0))
  h : w4.heap[H]? = some (.cells (shc op) 80 (0, 0))
  tm : UmV (fun b => ¬ S1 b ∧ b < lim) w4 t ds
  tab : TabS w4
  kn : ¬ S1 K
  hn : ¬ S1 H
  lm : lim ≤ w4.heap.size
theorem KT.thn {S1 S2 : Nat → Prop} {R : Nat} {wx wy : List ByteArray} {K H op lim : Nat} {ds : Array Value} {t : Tm} {w4 w5 : World} (h : KT S1 R wx K H op lim ds t w4) (s : Sw S1 w4 S2 w5) (hw : Ws S2 R wy w5) : KT S2 R wy K H op lim ds t w5 := by
  have hk := (Array.getElem?_eq_some_iff.1 h.k).1
  have hh := (Array.getElem?_eq_some_iff.1 h.h).1
  have hg : 9 ≤ w4.heap.size := by have := h.ws.gl R h.ws.r; have := h.ws.lt R h.ws.r; omega
  have hlm := h.lm
  exact ⟨hw, (s.block h.kn hk).trans h.k, (s.block h.hn hh).trans h.h, um_on h.tm fun b hb hS => ⟨⟨fun e => by rcases s.sub b e with e | e; exact hS.1 e; omega, hS.2⟩, s.block hS.1 hb⟩, h.tab.keep fun k hk => s.block (fun e => by have := h.ws.gl k e; omega) (by omega),
    fun e => by rcases s.sub K e with e | e; exact h.kn e; omega, fun e => by rcases s.sub H e with e | e; exact h.hn e; omega, Nat.le_trans hlm s.only.size⟩
theorem KT.drew {S1 : Nat → Prop} {R : Nat} {wx : List ByteArray} {K H op lim : Nat} {ds : Array Value} {t : Tm} {w4 : World} (h : KT S1 R wx K H op lim ds t w4) : KT S1 R wx K H op lim ds t w4.drew :=
  h.thn ((Sw.refl S1 w4).bel (bel_drew (Below.refl _ _))) (h.ws.bel (bel_drew (Below.refl _ _)))
theorem Sw.drew {S S1 : Nat → Prop} {w w1 : World} (h : Sw S w S1 w1) : Sw S w S1 w1.drew := h.bel (bel_drew (Below.refl _ _))
set_option maxHeartbeats 25600000 in
theorem kids_any (N : Nat) (hIH : Tl N) (b' : Bool) (op fd n : Nat) (ks : List Tm) (cs : Array Value) (S : Nat → Prop) (R : Nat) (ws : List ByteArray) (w : World) (hN : szs ks ≤ N) (hN4 : N ≤ 4096) (hop : op < 11) (hok : okK b' ks = true) (ht : UmV (fun b => ¬ S b ∧ b < w.heap.size) w (.mk op fd n ks) cs) (hW : Ws S R ws w) (hT : TabS w) (hl : ws.length + 6 * szs ks + 4 ≤ 1000000) : Calls Tryz.prog 41 #[.agg cs, sayV R] w (TlP S R ws (tkk op true ks) w) := by
  obtain ⟨v, xs, rfl, h2, h3⟩ := ht.get
  obtain ⟨ao, cap, rfl⟩ := h2.form
  obtain ⟨W1, hW1⟩ : ∃ W1, W1 = w.alloc (.cells (tmc op fd n (.slice ao ks.length cap)) 26) := ⟨_, rfl⟩
  have HE : Hid (w.alloc (.cells #[.int .i8 ((op : Nat) : Int), .int .i8 ((fd : Nat) : Int), .int .u64 ((n : Nat) : Int), .slice ao ks.length cap] 26) = W1) := hW1.symm
  have hb1 : Below w.heap.size w W1 := by rw [hW1]; exact (Below.refl _ _).alloc (Nat.le_refl _) _
  have hN1 : W1.heap[w.heap.size]? = some (.cells (tmc op fd n (.slice ao ks.length cap)) 26 (0, 0)) := by rw [hW1]; exact heap_alloc_new _ _
  have hgz : 9 ≤ w.heap.size := by have := hW.gl R hW.r; have := hW.lt R hW.r; omega
  have hS1 := (hT.on hb1 hgz).sh op hop
  have c0 := (four_cells hN1).1
  have hb2 : Below w.heap.size w (W1.alloc (.cells (shc op) 80)) := hb1.alloc hb1.size _
  have hN2 : (W1.alloc (.cells (shc op) 80)).heap[w.heap.size]? = some (.cells (tmc op fd n (.slice ao ks.length cap)) 26 (0, 0)) := (heap_alloc_old _ _ (Array.getElem?_eq_some_iff.1 hN1).1).trans hN1
  have hM2 : (W1.alloc (.cells (shc op) 80)).heap[W1.heap.size]? = some (.cells (shc op) 80 (0, 0)) := heap_alloc_new _ _
  have hz1 := hb1.size
  have HB2 := hid hb2
  have HS1 := hid hS1
  have HN2 := hid hN2
  have HM2 := hid hM2
  have HW2 := hid (hW.bel hb2)
  have HWw := hid hW
  have HT2 := hid (hT.on hb2 hgz)
  have HK := hid (And.intro h2 h3)
  have HIH := hid hIH
  have HOK := hid hok
  clear ht h2 h3 hW hT hIH hok hW1 hb1 hN1 hb2 hN2 hM2 hS1
  go_enter Tryz.func41, Tryz.ntmps41
  go_upto_region 1 with fail
  rw [show w.alloc (.cells #[.int .i8 ((op : Nat) : Int), .int .i8 ((fd : Nat) : Int), .int .u64 ((n : Nat) : Int), .slice ao ks.length cap] 26) = W1 from HE.out]
  clear HE
  go_upto_region 2 with (first
    | (refine ldMid 80 (.tmp 9) rfl rfl 0 (op * 5) rfl (shc op) _ Tryz.underlying80 rfl infoSH HS1.out ?_)
    | (refine stNew 80 (.tmp 4) (.tmp 10) rfl rfl W1 80 #[.int .i64 0, .int .i64 0, .string ⟨#[]⟩, .int .i64 0, .int .i64 0] (shc op) rfl rfl rfl infoSH rfl rfl ?_))
  clear c0 HS1
  have hz2 : W1.heap.size < (W1.alloc (.cells (shc op) 80)).heap.size := by simp
  generalize W1.alloc (.cells (shc op) 80) = W2 at HB2 HN2 HM2 HW2 HT2 hz2 ⊢
  generalize W1.heap.size = H at HM2 hz1 hz2 ⊢
  have d3 := (four_cells HN2.out).2.2.2
  go_upto_region 3 with fail
  clear d3
  have hk6 := tkk_len op true ks
  go_loopw [14] (fun v wr => ∃ j : Nat, v = .int .i64 ((j : Nat) : Int) ∧ j ≤ ks.length ∧ Hid (KdS S R ws op ks (.slice ao ks.length cap) W2 j wr)) (fun v _ => ks.length - (intOf v).toNat)
  case atStart => exact ⟨0, rfl, Nat.zero_le _, ⟨S, by rw [List.take_zero, tkk_nil]; show Ws S R (ws ++ []) W2; rw [List.append_nil]; exact HW2.out, Sw.refl _ _⟩⟩
  case round =>
    obtain ⟨j, rfl, hj1, HS⟩ := hrel
    obtain ⟨S1, hs1, hs2⟩ := HS.out.st
    by_cases hj : j < ks.length
    · have hs3 : decide ((j : Int) < (ks.length : Int)) = true := by simp; omega
      have hkl : ks.length ≤ 4096 := by have := len_szs ks ks.length (Nat.le_refl _); rw [List.take_length] at this; omega
      have hw3 : IntKind.i64.wrap ((j : Int) + 1) = (j : Int) + 1 := by rw [IntKind.wrap_i64]; omega
      have hcar : ∀ b, b < w.heap.size → (¬ S b ∧ b < w.heap.size) → (¬ S1 b ∧ b < w.heap.size) ∧ wr.heap[b]? = w.heap[b]? := fun b hb hS => by
        have hb2 : b < W2.heap.size := by omega
        exact ⟨⟨fun e => by rcases hs2.sub b e with e | e; exact hS.1 e; omega, hS.2⟩, (hs2.block hS.1 hb2).trans (HB2.out.block b hb)⟩
      obtain ⟨g, p, e1, hcap, -, -, ds, ht, hra⟩ := tmL_at (HK.out.1.carry hcar) (UmL.carry hcar _ _ HK.out.2) hj
      subst e1
      have hjc : j < cap := by omega
      have hokj : okT b' ks[j] = true := okK_mem HOK.out _ (List.getElem_mem hj)
      have hkop := okT_op hokj
      have hszj : sz ks[j] ≤ N := by have := szs_mem (List.getElem_mem hj); omega
      have hzr := hs2.only.size
      have hb3 : Below wr.heap.size wr (wr.alloc (.cells ds 26)) := (Below.refl _ _).alloc (Nat.le_refl _) _
      have hN3 : (wr.alloc (.cells ds 26)).heap[wr.heap.size]? = some (.cells ds 26 (0, 0)) := heap_alloc_new _ _
      have HT0 := hid ht
      have HRA := hid hra
      have HWs3 := hid (hs1.bel hb3)
      have HSw3 := hid (hs2.bel hb3)
      have HTm3 : Hid (UmV (fun b => ¬ S1 b ∧ b < w.heap.size) (wr.alloc (.cells ds 26)) ks[j] ds) := um_on ht fun b hb hS => ⟨hS, hb3.block b hb⟩
      have HKd : Hid (∃ op' fd' n' v', ds = tmc op' fd' n' v' ∧ op' = (ks[j]).op) := by
        generalize ks[j] = t at ht
        obtain ⟨o1, f1, n1, k1⟩ := t
        obtain ⟨v', xs', e, -⟩ := ht.get
        exact ⟨o1, f1, n1, v', e, rfl⟩
      have HTK := hid (take_tkk op true ks j hj)
      have HLn : Hid ((ws ++ wdB (tkk op true (ks.take j))).length + 2 + 6 * sz ks[j] ≤ 1000000) := by
        show _ ≤ _
        have h1 := tkk_len op true (ks.take j)
        have h2 := szs_le ks (j + 1)
        rw [szs_take hj] at h2
        rw [List.length_append]; unfold wdB; rw [List.length_map]; omega
      have hzS1 := hs1.gl R hs1.r
      have HG3 : Hid ((wr.alloc (.cells ds 26)).heap[H]? = some (.cells (shc op) 80 (0, 0))) := (hb3.block H (by omega)).trans ((hs2.block (fun e => by have := HWw.out.lt H e; omega) hz2).trans HM2.out)
      have HTb3 : Hid (TabS (wr.alloc (.cells ds 26))) := HT2.out.keep fun k hk => (hb3.block k (by omega)).trans (hs2.block (fun e => by have := HWw.out.gl k e; omega) (by omega))
      have HKn : Hid (∀ b, S1 b → b ≠ wr.heap.size) := fun b hb e => by have := hs1.lt b hb; omega
      have HHn : Hid (¬ S1 H) := fun e => by rcases hs2.sub H e with e | e; exact absurd (HWw.out.lt H e) (by omega); omega
      clear hs1 hs2 ht hra HS hcar
      go_upto_region 5 with (first
        | (refine ldMid 26 (.tmp 17) rfl rfl g (p + j * 4) rfl ds _ Tryz.underlying26 rfl HT0.out.info HRA.out ?_)
        | (refine stNew 26 (.tmp 6) (.tmp 18) rfl rfl wr 26 (tmc 0 0 0 nilS) ds rfl rfl rfl HT0.out.info (by rw [HT0.out.size]; rfl) HT0.out.one ?_))
      have hK3 := (Array.getElem?_eq_some_iff.1 hN3).1
      have HInf := hid HT0.out.info
      clear HRA HT0 hb3
      have HN3 := hid hN3
      clear hN3
      generalize wr.alloc (.cells ds 26) = w3 at HWs3 HSw3 HTm3 HG3 HTb3 HN3 hK3 ⊢
      have HKT3 : Hid (KT S1 R (ws ++ wdB (tkk op true (ks.take j))) wr.heap.size H op w.heap.size ds ks[j] w3) := ⟨HWs3.out, HN3.out, HG3.out, HTm3.out, HTb3.out, fun e => HKn.out _ e rfl, fun e => HHn.out e, by omega⟩
      clear HWs3 HN3 HG3 HTm3 HTb3
      by_cases hj0 : j = 0
      · have g0 : decide ((0 : Int) < (j : Int)) = false := decide_eq_false (by omega)
        have g0n : decide (0 < j) = false := decide_eq_false (by omega)
        obtain ⟨wx, hwx⟩ : ∃ wx, wx = ws ++ wdB (tkk op true (ks.take j)) := ⟨_, rfl⟩
        have HWx := hid hwx
        have HLx : Hid (wx.length + 1 + 6 * sz ks[j] ≤ 1000000) := by show _ ≤ _; rw [hwx]; have := HLn.out; omega
        have HKT : Hid (KT S1 R wx wr.heap.size H op w.heap.size ds ks[j] w3) := by rw [hwx]; exact HKT3.out
        rw [if_pos ⟨rfl, hj0⟩] at HTK
        clear hwx HLn HKT3 hj0
        have HSw4 := hid HSw3.out
        obtain ⟨S4, hS4⟩ : ∃ S4, S4 = S1 := ⟨_, rfl⟩
        subst hS4
        obtain ⟨w4, hw4⟩ : ∃ w4, w4 = w3 := ⟨_, rfl⟩
        subst hw4
        clear HSw3
        obtain ⟨o1, f1, n1, v1, rfl, ho1⟩ := HKd.out
        have ho11 : o1 < 11 := by omega
        have HO1 := hid ho1
        clear ho1
        have HKT4 := hid HKT.out
        have c0 := (four_cells HKT4.out.k).1
        have s0 : w4.cell? ⟨0, o1 * 5, none⟩ = some (.int .i64 ((hld o1 : Nat) : Int)) := HKT4.out.tab.sh o1 (by omega) 0 _ rfl
        have a1 : w4.cell? ⟨H, 1, none⟩ = some (.int .i64 ((ask op : Nat) : Int)) := (cell_of_row _ _ _ _ _ _ HKT4.out.h).trans rfl
        by_cases hh : ask op ≤ hld o1
        · have gh : decide (((ask op : Nat) : Int) ≤ ((hld o1 : Nat) : Int)) = true := decide_eq_true (by omega)
          have ghn : decide (ask op ≤ hld o1) = true := decide_eq_true hh
          have HTA : Hid (tkA (ask op) ks[j] = tks ks[j]) := by show _ = _; unfold tkA; rw [if_pos (by rw [← HO1.out]; exact hh)]
          generalize hld o1 = hv1 at s0 gh ghn
          generalize ask op = av1 at a1 gh ghn HTA HTK
          clear hh
          go_wp2
          go_region
          have HK5 := hid HKT4.out.drew
          have HS5 := hid HSw4.out.drew
          clear c0 s0 a1 HKT4 HSw4 HKT
          generalize w4.drew = w5 at HK5 HS5 ⊢
          have HTl := hid (HIH.out b' ks[j] _ S4 R wx w5 hszj hN4 hokj (um_on HK5.out.tm fun b hb hS => ⟨⟨hS.1, hb⟩, rfl⟩) HK5.out.ws HK5.out.tab (by have := HLx.out; omega))
          go_wp2_with (first
            | (refine ldRow 26 (.tmp 6) rfl rfl wr.heap.size rfl 26 (tmc o1 f1 n1 v1) _ Tryz.underlying26 rfl sizeTM HK5.out.k ?_)
            | (go_at_call 24; refine (HTl.out).mono ?_; rintro e w6 ⟨rfl, S6, h1, h2⟩; have HX := hid (And.intro h1 (HS5.out.trans h2)); clear h1 h2))
          have hX : ∃ k : Nat, Value.int .i64 ((j : Int) + 1) = .int .i64 ((k : Nat) : Int) ∧ k ≤ ks.length ∧ Hid (KdS S R ws op ks (.slice (some ⟨g, p, none⟩) ks.length cap) W2 k w6) := ⟨j + 1, by rw [show (((j + 1 : Nat) : Nat) : Int) = (j : Int) + 1 by omega], hj, ⟨S6, by rw [HTK.out, HTA.out]; simpa [HWx.out, wdB] using HX.out.1, HX.out.2⟩⟩
          refine ⟨?_, ?_⟩
          · first
              | exact hX
              | ((repeat apply Exists.intro); refine ⟨?_, rfl⟩; exact hX)
          · simp [intOf]; omega
        · have gh : decide (((ask op : Nat) : Int) ≤ ((hld o1 : Nat) : Int)) = false := decide_eq_false (by omega)
          have ghn : decide (ask op ≤ hld o1) = false := decide_eq_false hh
          have HTA : Hid (tkA (ask op) ks[j] = tS Slp :: (tks ks[j] ++ [tS Srp])) := by show _ = _; unfold tkA; rw [if_neg (by rw [← HO1.out]; exact hh)]
          generalize hld o1 = hv1 at s0 gh ghn
          generalize ask op = av1 at a1 gh ghn HTA HTK
          clear hh
          go_wp2
          go_region
          have HK5 := hid HKT4.out.drew
          have HS5 := hid HSw4.out.drew
          clear c0 s0 a1 HKT4 HSw4 HKT
          generalize w4.drew = w5 at HK5 HS5 ⊢
          have HSy := hid (say1 HK5.out.ws Slp (by have := HLx.out; omega))
          go_upto_region 10 with (go_at_call 23; refine (HSy.out).mono ?_; rintro e w6 ⟨rfl, S6, h1, h2⟩; have HK6 := hid (HK5.out.thn h2 h1); have HS6 := hid (HS5.out.trans h2); clear h1 h2)
          clear HSy HK5 HS5
          have HTl := hid (HIH.out b' ks[j] _ S6 R (wx ++ [Slp]) w6 hszj hN4 hokj (um_on HK6.out.tm fun b hb hS => ⟨⟨hS.1, hb⟩, rfl⟩) HK6.out.ws HK6.out.tab (by have := HLx.out; rw [List.length_append, List.length_singleton]; omega))
          go_upto_region 11 with (first
            | (refine ldRow 26 (.tmp 6) rfl rfl wr.heap.size rfl 26 (tmc o1 f1 n1 v1) _ Tryz.underlying26 rfl sizeTM HK6.out.k ?_)
            | (go_at_call 24; refine (HTl.out).mono ?_; rintro e w7 ⟨rfl, S7, h1, h2⟩; have HS7 := hid (HS6.out.trans h2); have HW7 := hid h1; clear h1 h2))
          clear HTl HK6 HS6
          have HSy := hid (say1 HW7.out Srp (by have := HLx.out; have := tks_len ks[j]; simp only [wdB, List.length_append, List.length_singleton, List.length_map]; omega))
          go_wp2_with (go_at_call 23; refine (HSy.out).mono ?_; rintro e w8 ⟨rfl, S8, h1, h2⟩; have HX := hid (And.intro h1 (HS7.out.trans h2)); clear h1 h2)
          have hX : ∃ k : Nat, Value.int .i64 ((j : Int) + 1) = .int .i64 ((k : Nat) : Int) ∧ k ≤ ks.length ∧ Hid (KdS S R ws op ks (.slice (some ⟨g, p, none⟩) ks.length cap) W2 k w8) := ⟨j + 1, by rw [show (((j + 1 : Nat) : Nat) : Int) = (j : Int) + 1 by omega], hj, ⟨S8, by rw [HTK.out, HTA.out]; simpa [HWx.out, wdB] using HX.out.1, HX.out.2⟩⟩
          refine ⟨?_, ?_⟩
          · first
              | exact hX
              | ((repeat apply Exists.intro); refine ⟨?_, rfl⟩; exact hX)
          · simp [intOf]; omega
      · have g0 : decide ((0 : Int) < (j : Int)) = true := decide_eq_true (by omega)
        have g0n : decide (0 < j) = true := decide_eq_true (by omega)
        have a2 : w3.cell? ⟨H, 2, none⟩ = some (.string (sgT op)) := (cell_of_row _ _ _ _ _ _ HKT3.out.h).trans rfl
        have HSy := hid (say1 HKT3.out.ws (sgT op) (by have := HLn.out; omega))
        rw [if_neg (fun h => hj0 h.2)] at HTK
        go_upto_region 7 with (go_at_call 23; refine (HSy.out).mono ?_; rintro e w4 ⟨rfl, S4, h1, h2⟩; have HKT' := hid (HKT3.out.thn h2 h1); have HSw4 := hid (HSw3.out.trans h2); clear h1 h2)
        obtain ⟨wx, hwx⟩ : ∃ wx, wx = ws ++ wdB (tkk op true (ks.take j)) ++ [sgT op] := ⟨_, rfl⟩
        have HWx := hid hwx
        have HLx : Hid (wx.length + 1 + 6 * sz ks[j] ≤ 1000000) := by show _ ≤ _; rw [hwx]; have := HLn.out; rw [List.length_append, List.length_singleton]; omega
        have HKT : Hid (KT S4 R wx wr.heap.size H op w.heap.size ds ks[j] w4) := by rw [hwx]; exact HKT'.out
        clear hwx HLn HKT3 HKT' HSw3 HSy a2
        obtain ⟨o1, f1, n1, v1, rfl, ho1⟩ := HKd.out
        have ho11 : o1 < 11 := by omega
        have HO1 := hid ho1
        clear ho1
        have HKT4 := hid HKT.out
        have c0 := (four_cells HKT4.out.k).1
        have s0 : w4.cell? ⟨0, o1 * 5, none⟩ = some (.int .i64 ((hld o1 : Nat) : Int)) := HKT4.out.tab.sh o1 (by omega) 0 _ rfl
        have a1 : w4.cell? ⟨H, 1, none⟩ = some (.int .i64 ((ask op : Nat) : Int)) := (cell_of_row _ _ _ _ _ _ HKT4.out.h).trans rfl
        by_cases hh : ask op ≤ hld o1
        · have gh : decide (((ask op : Nat) : Int) ≤ ((hld o1 : Nat) : Int)) = true := decide_eq_true (by omega)
          have ghn : decide (ask op ≤ hld o1) = true := decide_eq_true hh
          have HTA : Hid (tkA (ask op) ks[j] = tks ks[j]) := by show _ = _; unfold tkA; rw [if_pos (by rw [← HO1.out]; exact hh)]
          generalize hld o1 = hv1 at s0 gh ghn
          generalize ask op = av1 at a1 gh ghn HTA HTK
          clear hh
          go_wp2
          go_region
          have HK5 := hid HKT4.out.drew
          have HS5 := hid HSw4.out.drew
          clear c0 s0 a1 HKT4 HSw4 HKT
          generalize w4.drew = w5 at HK5 HS5 ⊢
          have HTl := hid (HIH.out b' ks[j] _ S4 R wx w5 hszj hN4 hokj (um_on HK5.out.tm fun b hb hS => ⟨⟨hS.1, hb⟩, rfl⟩) HK5.out.ws HK5.out.tab (by have := HLx.out; omega))
          go_wp2_with (first
            | (refine ldRow 26 (.tmp 6) rfl rfl wr.heap.size rfl 26 (tmc o1 f1 n1 v1) _ Tryz.underlying26 rfl sizeTM HK5.out.k ?_)
            | (go_at_call 24; refine (HTl.out).mono ?_; rintro e w6 ⟨rfl, S6, h1, h2⟩; have HX := hid (And.intro h1 (HS5.out.trans h2)); clear h1 h2))
          have hX : ∃ k : Nat, Value.int .i64 ((j : Int) + 1) = .int .i64 ((k : Nat) : Int) ∧ k ≤ ks.length ∧ Hid (KdS S R ws op ks (.slice (some ⟨g, p, none⟩) ks.length cap) W2 k w6) := ⟨j + 1, by rw [show (((j + 1 : Nat) : Nat) : Int) = (j : Int) + 1 by omega], hj, ⟨S6, by rw [HTK.out, HTA.out]; simpa [HWx.out, wdB] using HX.out.1, HX.out.2⟩⟩
          refine ⟨?_, ?_⟩
          · first
              | exact hX
              | ((repeat apply Exists.intro); refine ⟨?_, rfl⟩; exact hX)
          · simp [intOf]; omega
        · have gh : decide (((ask op : Nat) : Int) ≤ ((hld o1 : Nat) : Int)) = false := decide_eq_false (by omega)
          have ghn : decide (ask op ≤ hld o1) = false := decide_eq_false hh
          have HTA : Hid (tkA (ask op) ks[j] = tS Slp :: (tks ks[j] ++ [tS Srp])) := by show _ = _; unfold tkA; rw [if_neg (by rw [← HO1.out]; exact hh)]
          generalize hld o1 = hv1 at s0 gh ghn
          generalize ask op = av1 at a1 gh ghn HTA HTK
          clear hh
          go_wp2
          go_region
          have HK5 := hid HKT4.out.drew
          have HS5 := hid HSw4.out.drew
          clear c0 s0 a1 HKT4 HSw4 HKT
          generalize w4.drew = w5 at HK5 HS5 ⊢
          have HSy := hid (say1 HK5.out.ws Slp (by have := HLx.out; omega))
          go_upto_region 10 with (go_at_call 23; refine (HSy.out).mono ?_; rintro e w6 ⟨rfl, S6, h1, h2⟩; have HK6 := hid (HK5.out.thn h2 h1); have HS6 := hid (HS5.out.trans h2); clear h1 h2)
          clear HSy HK5 HS5
          have HTl := hid (HIH.out b' ks[j] _ S6 R (wx ++ [Slp]) w6 hszj hN4 hokj (um_on HK6.out.tm fun b hb hS => ⟨⟨hS.1, hb⟩, rfl⟩) HK6.out.ws HK6.out.tab (by have := HLx.out; rw [List.length_append, List.length_singleton]; omega))
          go_upto_region 11 with (first
            | (refine ldRow 26 (.tmp 6) rfl rfl wr.heap.size rfl 26 (tmc o1 f1 n1 v1) _ Tryz.underlying26 rfl sizeTM HK6.out.k ?_)
            | (go_at_call 24; refine (HTl.out).mono ?_; rintro e w7 ⟨rfl, S7, h1, h2⟩; have HS7 := hid (HS6.out.trans h2); have HW7 := hid h1; clear h1 h2))
          clear HTl HK6 HS6
          have HSy := hid (say1 HW7.out Srp (by have := HLx.out; have := tks_len ks[j]; simp only [wdB, List.length_append, List.length_singleton, List.length_map]; omega))
          go_wp2_with (go_at_call 23; refine (HSy.out).mono ?_; rintro e w8 ⟨rfl, S8, h1, h2⟩; have HX := hid (And.intro h1 (HS7.out.trans h2)); clear h1 h2)
          have hX : ∃ k : Nat, Value.int .i64 ((j : Int) + 1) = .int .i64 ((k : Nat) : Int) ∧ k ≤ ks.length ∧ Hid (KdS S R ws op ks (.slice (some ⟨g, p, none⟩) ks.length cap) W2 k w8) := ⟨j + 1, by rw [show (((j + 1 : Nat) : Nat) : Int) = (j : Int) + 1 by omega], hj, ⟨S8, by rw [HTK.out, HTA.out]; simpa [HWx.out, wdB] using HX.out.1, HX.out.2⟩⟩
          refine ⟨?_, ?_⟩
          · first
              | exact hX
              | ((repeat apply Exists.intro); refine ⟨?_, rfl⟩; exact hX)
          · simp [intOf]; omega
    · have hs3 : decide ((j : Int) < (ks.length : Int)) = false := by simp; omega
      obtain rfl : j = ks.length := by omega
      have HX : Hid (TlP S R ws (tkk op true ks) w (.returned (.tuple #[])) wr) := by
        rw [List.take_length] at hs1
        exact ⟨rfl, S1, hs1, ((Sw.refl S w).bel HB2.out).trans hs2⟩
      clear hs1 hs2 HS
      go_wp2
      first | go_end0 | refine bodyPost_ret (results_none rfl _ _ _) rfl ?_
      exact HX.out
end Go.Proofs.YtoncogkamlgjhaaGreatDoor
