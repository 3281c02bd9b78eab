/-
  Proved here: Leaf and Test of package nodes, over a store in memory that keeps off the blocks of D. Conditions: as without D.
-/
import Derived.Test.YtggbokghhohofaaDoorWA
namespace Go.Proofs.YtggbokghhohofaaDoor
open Go.RowKit Go.Maps
set_option maxRecDepth 100000

/-- A store keeps off the blocks of D. -/
structure Off (D : Nat → Prop) (B p : Nat) (w : World) (va : Value) (bt bl : Nat) (d : List Nv) : Prop where
  own : ∀ b, Own1 p bt bl va b → ¬ D b
  lf : ∀ x ∈ d, Cps (fun b => ¬ D b ∧ B ≤ b ∧ ¬ Own1 p bt bl va b) w x.1 x.2.lf
theorem Off.on {D : Nat → Prop} {B p : Nat} {w w' : World} {va : Value} {bt bl : Nat} {d : List Nv} (h : Off D B p w va bt bl d) (hb : Below w.heap.size w w') : Off D B p w' va bt bl d := ⟨h.own, fun x hx => (h.lf x hx).on hb⟩
theorem Off.grow {D : Nat → Prop} {B p : Nat} {w w1 w2 : World} {all : List Nd} {va va' : Value} {bt bl nt nl bm : Nat} {Gt Gl : Lit → Option Value} {d : List Nv} {u : Value} {x : Nd} (h : Off D B p w va bt bl d) (hs : StM B p w all va bt bl nt nl Gt Gl d) (hD : ∀ b, D b → b < w.heap.size) (hA : AddP B p w va bt bl d (u, x) va' w1) (hT : Tur w1 w2 bm) (hbm : bm = bt ∨ bm = bl)
    (hu : Cps (fun b => ¬ D b ∧ B ≤ b ∧ b < w.heap.size ∧ ¬ Own1 p bt bl va b) w u x.lf) : Off D B p w2 va' bt bl (d ++ [(u, x)]) := by
  have hold : ∀ b, b < w.heap.size → ¬ Own1 p bt bl va b → w2.heap[b]? = w.heap[b]? := fun b hb hn => by
    rw [hT.block b (fun e => hn (by rcases hbm with rfl | rfl <;> simp [Own1, e])), hA.only.block b fun hS => by
      rcases hS with e | e | e
      · exact hn (Or.inl e)
      · exact hn (Or.inr (Or.inr (Or.inr e)))
      · omega]
  refine ⟨fun b hb hd => ?_, fun y hy => ?_⟩
  · have hlt := hD b hd
    rcases hb with e | e | e | e
    · exact h.own b (Or.inl e) hd
    · exact h.own b (Or.inr (Or.inl e)) hd
    · exact h.own b (Or.inr (Or.inr (Or.inl e))) hd
    · rcases hA.own b e with e | e
      · exact h.own b (Or.inr (Or.inr (Or.inr e))) hd
      · omega
  · have hc : ∀ b, b < w.heap.size → (¬ D b ∧ B ≤ b ∧ ¬ Own1 p bt bl va b) → (¬ D b ∧ B ≤ b ∧ ¬ Own1 p bt bl va' b) ∧ w2.heap[b]? = w.heap[b]? := fun b hb hS => by
      have hn := hS.2.2
      simp only [Own1, not_or] at hn
      refine ⟨⟨hS.1, hS.2.1, ?_⟩, hold b hb hS.2.2⟩
      simp only [Own1, not_or]
      refine ⟨hn.1, hn.2.1, hn.2.2.1, fun e => ?_⟩
      rcases hA.own b e with e | e
      · exact hn.2.2.2 e
      · omega
    rcases List.mem_append.1 hy with hy | hy
    · exact (h.lf y hy).carry hc
    · obtain rfl := List.mem_singleton.1 hy
      exact Cps.carry hc (hu.carry fun b _ hS => ⟨⟨hS.1, hS.2.1, hS.2.2.2⟩, rfl⟩)
def StD (D : Nat → Prop) (B p : Nat) (w : World) (all : List Nd) : Prop := ∃ va bt bl nt nl Gt Gl d, StM B p w all va bt bl nt nl Gt Gl d ∧ Off D B p w va bt bl d
theorem StD.st {D : Nat → Prop} {B p : Nat} {w : World} {all : List Nd} (h : StD D B p w all) : St B p w all := by
  obtain ⟨va, bt, bl, nt, nl, Gt, Gl, d, h, _⟩ := h
  exact ⟨va, bt, bl, nt, nl, Gt, Gl, d, h⟩
theorem StD.on {D : Nat → Prop} {B p : Nat} {w w' : World} {all : List Nd} (h : StD D B p w all) (hb : Below w.heap.size w w') : StD D B p w' all := by
  obtain ⟨va, bt, bl, nt, nl, Gt, Gl, d, h, k⟩ := h
  exact ⟨va, bt, bl, nt, nl, Gt, Gl, d, h.keep fun b _ h2 => hb.block b h2, k.on hb⟩
theorem St.off {B p : Nat} {w : World} {all : List Nd} (h : St B p w all) : StD (fun _ => False) B p w all := by
  obtain ⟨va, bt, bl, nt, nl, Gt, Gl, d, h⟩ := h
  exact ⟨va, bt, bl, nt, nl, Gt, Gl, d, h, fun _ _ h => h, fun x hx => (h.lf x hx).carry fun b _ hS => ⟨⟨fun h => h, hS.1, by simp only [Own1, not_or]; exact hS.2⟩, rfl⟩⟩
/-- It keeps off what is new, too. -/
theorem StD.ext {D D' : Nat → Prop} {B p : Nat} {w : World} {all : List Nd} (h : StD D B p w all) (hD : ∀ b, D' b → D b ∨ w.heap.size ≤ b) : StD D' B p w all := by
  obtain ⟨va, bt, bl, nt, nl, Gt, Gl, d, h, k⟩ := h
  refine ⟨va, bt, bl, nt, nl, Gt, Gl, d, h, fun b hb hd => ?_, fun x hx => (k.lf x hx).carry fun b hb hS => ⟨⟨fun hd => ?_, hS.2⟩, rfl⟩⟩
  · rcases hD b hd with e | e
    · exact k.own b hb e
    · have := (h.own b hb).2; omega
  · rcases hD b hd with e | e
    · exact hS.1 e
    · omega
/-- What touches the blocks of D alone leaves it as it was. -/
theorem StD.keep {D : Nat → Prop} {B p : Nat} {w w' : World} {all : List Nd} (h : StD D B p w all) (hb : ∀ b, b < w.heap.size → ¬ D b → w'.heap[b]? = w.heap[b]?) : StD D B p w' all := by
  obtain ⟨va, bt, bl, nt, nl, Gt, Gl, d, h, k⟩ := h
  have ho : ∀ b, Own1 p bt bl va b → w'.heap[b]? = w.heap[b]? := fun b hO => hb b (h.own b hO).2 (k.own b hO)
  refine ⟨va, bt, bl, nt, nl, Gt, Gl, d, ⟨h.dm, h.hB, (ho p (Or.inl rfl)).trans h.hp, h.rw.self.carry fun b _ hS => ⟨hS.1, ho b (Or.inr (Or.inr (Or.inr hS.2)))⟩, h.mt.carry (ho bt (Or.inr (Or.inl rfl))), h.ml.carry (ho bl (Or.inr (Or.inr (Or.inl rfl)))), h.ntl, h.nll, fun x hx => (k.lf x hx).carry fun b hlt hS => ⟨⟨hS.2.1, ?_⟩, hb b hlt hS.1⟩, h.ok, h.gt, h.gl, h.len⟩, k.own, fun x hx => (k.lf x hx).carry fun b hlt hS => ⟨hS, hb b hlt hS.1⟩⟩
  have := hS.2.2
  simp only [Own1, not_or] at this
  exact this
set_option maxHeartbeats 12800000 in
theorem leafD {D : Nat → Prop} {B p : Nat} {T : Nat → Prop} {w : World} {all : List Nd} (h : StD D B p w all) (hD : ∀ b, D b → b < w.heap.size) (v : Value) (L : List (List Ac)) (hc : Cps T w v L) (hTl : ∀ b, T b → b < w.heap.size) (ht : tot L ≤ 40000) (hT : Tab w) (hP : Pow B w) (hB : B ≤ w.heap.size) : Calls Tryd.prog 11 #[ptr p, v] w fun e w' => ∃ id er all', e = .returned (.tuple #[.int .i64 id, .int .i64 er]) ∧ LeafR all L id er all' ∧ StD D B p w' all' ∧ StFr B w w' := by
  have HH0 := hid h
  have HDl := hid hD
  clear hD
  obtain ⟨hn1, hn2⟩ := tot_len L
  have hlr := leafRows_any w v L hc hT hTl (by omega) (fun r hr => by have := hn2 r hr; omega)
  have HFit : Hid (∀ r ∈ L, ∀ a ∈ r, InB a.n) := fun r hr a ha => (hc.fit r hr a ha).2.2
  have HP := hid hP
  obtain ⟨ao, cap, rfl, -⟩ := hc.form
  clear hc hT hP hn1 hn2
  cases hN : nrows L with
  | none =>
    have HC : Hid (Calls Tryd.prog 21 #[.slice ao L.length cap] w fun e w' => e = .returned (.tuple #[nilS, .bool false]) ∧ Below w.heap.size w w') := hlr.mono (by
      rintro e w' ⟨hb, ⟨_, he⟩ | ⟨v', K, hK, _⟩⟩
      · exact ⟨he, hb⟩
      · rw [hN] at hK; cases hK)
    have HN := hid hN
    clear hlr hN h
    go_enter Tryd.func11, Tryd.ntmps11
    go_wp2_with (go_at_call 21; refine (HC.out).mono ?_; rintro e w1 ⟨rfl, hb⟩; have HB := hid hb; clear hb HC)
    refine bodyPost_ret (results_tmp2 rfl _ _ _) rfl ?_
    exact ⟨0, 2, all, rfl, Or.inl ⟨HN.out, rfl, rfl, rfl⟩, HH0.out.on HB.out, StFr.of HB.out⟩
  | some K =>
    have HC : Hid (Calls Tryd.prog 21 #[.slice ao L.length cap] w fun e w' => ∃ (a : Option Addr) (n c : Nat), e = .returned (.tuple #[.slice a n c, .bool true]) ∧ Below w.heap.size w w' ∧ Cps (fun b => w.heap.size ≤ b) w' (.slice a n c) K) := hlr.mono (by
      rintro e w' ⟨hb, ⟨hK, _⟩ | ⟨v', K', hK, he, hcp⟩⟩
      · rw [hN] at hK; cases hK
      · rw [hN] at hK
        simp only [Option.some.injEq] at hK
        subst hK
        obtain ⟨a, c, rfl, -⟩ := hcp.form
        exact ⟨a, _, c, he, hb, hcp⟩)
    have HN := hid hN
    have HOk := hid (nrows_oks hN HFit.out)
    have htK : tot K ≤ 40000 := Nat.le_trans (tot_nrows hN) ht
    have hlK := rtx_len HOk.out
    have hkey : keyOf Tryd.prog 9 (.string ⟨(rtx K).toArray⟩) = some (keyR K) := by
      rw [key_s (by show (rtx K).toArray.size ≤ maxLen; simp [maxLen]; omega)]; rfl
    clear hlr hN
    obtain ⟨va, bt, bl, nt, nl, Gt, Gl, d, hs0, off0⟩ := h
    have HOff := hid off0
    clear off0
    have HS0 := hid hs0
    clear hs0
    go_enter Tryd.func11, Tryd.ntmps11
    go_upto_region 6 with (go_at_call 21; refine (HC.out).mono ?_; rintro e W1 ⟨a1, n1, c1, rfl, hb, hcp⟩; have HB1 := hid hb; have HK1 := hid hcp; clear hb hcp HC)
    have HRT := hid (rowsText_any (T := fun b => w.heap.size ≤ b ∧ b < W1.heap.size) W1 (.slice a1 n1 c1) K (HK1.out.carry fun b hb hS => ⟨⟨hS, hb⟩, rfl⟩) (fun b hb => hb.2) HOk.out htK (HP.out.up (HB1.out.mono hB) (Nat.le_trans hB HB1.out.size)))
    go_upto_region 7 with (go_at_call 22; refine (HRT.out).mono ?_; rintro e W2 ⟨rfl, hb⟩; have HB2 := hid hb; clear hb HRT)
    have HWB := hid (HB1.out.trans (HB2.out.mono HB1.out.size))
    have HS2 := hid (HS0.out.keep (w' := W2) fun b _ h2 => HWB.out.block b h2)
    have HK2 : Hid (Cps (fun b => w.heap.size ≤ b) W2 (.slice a1 n1 c1) K) := HK1.out.on HB2.out
    have HOwn := hid HS0.out.own
    have c2 := HS2.out.cells.2.2
    have hLk := HS2.out.ml.look_ok lawS Tryd.underlying57 (z64 W2) hkey
    clear HK1 HB1 HB2 HS0
    go_upto_region 8 with fail
    clear hLk c2
    cases hG : Gl (keyR K) with
    | some v =>
      obtain ⟨i, hi1, K', e1, e2, rfl⟩ := (HS2.out.gl _ _).1 hG
      have hok1 := (HS2.out.ok _ (List.getElem_mem hi1)).oks
      rw [e1] at hok1
      have e3 : K = K' := rtx_inj HOk.out hok1 (by simpa [keyR] using e2)
      subst e3
      have E1 := hid e1
      clear hG e1 e2 hok1
      go_wp2
      refine bodyPost_ret (results_tmp2 rfl _ _ _) rfl ?_
      exact ⟨i, 0, all, rfl, Or.inr ⟨K, HN.out, Or.inl ⟨i, hi1, E1.out, rfl, rfl, rfl⟩⟩, ⟨_, _, _, _, _, _, _, _, HS2.out, HOff.out.on HWB.out⟩, StFr.of HWB.out⟩
    | none =>
      have HGN := hid hG
      have HNM : Hid (lfN K ∉ all) := fun hm => by
        obtain ⟨i, hi1, e⟩ := List.getElem_of_mem hm
        have := (HS2.out.gl (keyR K) (.int .i64 ((i : Nat) : Int))).2 ⟨i, hi1, K, e, rfl, rfl⟩
        rw [HGN.out] at this; cases this
      clear hG
      have HFu := hid (full_any (⟨_, _, _, _, _, _, _, _, HS2.out⟩ : St B p W2 all))
      by_cases hfl : 65536 ≤ all.length
      · rw [decide_eq_true hfl] at HFu
        go_wp2_with (go_at_call 23; refine (HFu.out).mono ?_; rintro e W2 ⟨rfl, rfl⟩)
        refine bodyPost_ret (results_tmp2 rfl _ _ _) rfl ?_
        exact ⟨0, 200, all, rfl, Or.inr ⟨K, HN.out, Or.inr (Or.inl ⟨HNM.out, hfl, rfl, rfl, rfl⟩)⟩, ⟨_, _, _, _, _, _, _, _, HS2.out, HOff.out.on HWB.out⟩, StFr.of HWB.out⟩
      · rw [decide_eq_false hfl] at HFu
        have hbL := fun W => run_bL a1 n1 c1 K W
        have HAd := hid (add_any (.slice a1 n1 c1) (lfN K) HS2.out rfl (by omega))
        go_upto_region 13 with (first
          | (go_at_call 23; refine (HFu.out).mono ?_; rintro e W2 ⟨rfl, rfl⟩)
          | (go_at_call 24; refine (HAd.out).mono ?_; rintro e W4 ⟨rfl, va', hA⟩; have HA := hid hA; clear hA HFu HAd))
        have hbt4 : W4.heap[bt]? = W2.heap[bt]? := by
          obtain ⟨m1, m2, m3, m4⟩ := HS2.out.map_lt
          exact HA.out.only.block bt fun hS => by
            rcases hS with e | e | e
            · exact m1 e
            · exact m3 e
            · have := HS2.out.mt.lt; omega
        have hbl4 : W4.heap[bl]? = W2.heap[bl]? := by
          obtain ⟨m1, m2, m3, m4⟩ := HS2.out.map_lt
          exact HA.out.only.block bl fun hS => by
            rcases hS with e | e | e
            · exact m2 e
            · exact m4 e
            · have := HS2.out.ml.lt; omega
        have HM4 := hid (HS2.out.ml.carry hbl4)
        have HT4 := hid (HS2.out.mt.carry hbt4)
        have c4 : W4.cell? ⟨p, 2, none⟩ = some (.map (some bl)) := (cell_of_row _ _ _ _ _ _ HA.out.hp).trans rfl
        have hnl : nl < 2147483648 := by have := HS2.out.nll; omega
        have HKY := hid hkey
        clear hbt4 hbl4 hbL
        obtain ⟨w5, hmu, hM5', hT5⟩ := HM4.out.store (e := 3) (t := 57) (key := .string ⟨(rtx K).toArray⟩) (val := .int .i64 ((all.length : Nat) : Int)) lawS Tryd.underlying57 hnl HKY.out
        have HM5 := hid hM5'
        have HT5 := hid hT5
        clear hM5' hT5 HM4
        go_upto_region 14 with fail
        clear hmu
        have hM5 := HM5.out
        rw [HGN.out] at hM5
        have HGr := hid (HS2.out.grow (w2 := w5) (bm := bl) (nt' := nt) (nl' := nl + 1) (Gt' := Gt) HA.out HT5.out (Or.inr rfl) (HT4.out.carry (HT5.out.block bt HS2.out.hB.2.2.2)) hM5 (by have := HS2.out.ntl; omega) (by have := HS2.out.nll; omega)
          (HK2.out.carry fun b hb hS => ⟨⟨by omega, hb, fun ho => by have := (HOwn.out b ho).2; omega⟩, rfl⟩)
          ⟨⟨by show (-128 : Int) ≤ -1 ∧ (-1 : Int) < 128; omega, by simp [InB], by simp [I64], by simp [I64]⟩, HOk.out, htK⟩
          (fun k v => ⟨fun hh => Or.inl hh, fun hh => by
            rcases hh with hh | ⟨e, _⟩
            · exact hh
            · simp only at e
              omega⟩)
          (fun k v => by rw [updL_iff HGN.out]; exact ⟨fun hh => hh.imp id fun ⟨a1, a2⟩ => ⟨rfl, a1, a2⟩, fun hh => hh.imp id fun ⟨_, a1, a2⟩ => ⟨a1, a2⟩⟩) (by omega))
        clear hM5 c4
        go_wp2
        refine bodyPost_ret (results_tmp2 rfl _ _ _) rfl ?_
        exact ⟨all.length, 0, all ++ [lfN K], rfl, Or.inr ⟨K, HN.out, Or.inr (Or.inr ⟨HNM.out, by omega, rfl, rfl, rfl⟩)⟩, ⟨_, _, _, _, _, _, _, _, HGr.out.1, (HOff.out.on HWB.out).grow HS2.out (fun b hb => Nat.lt_of_lt_of_le (HDl.out b hb) HWB.out.size) HA.out HT5.out (Or.inr rfl) (HK2.out.carry fun b hb hS => ⟨⟨fun hd => by have := HDl.out b hd; omega, by omega, hb, fun ho => by have := (HOwn.out b ho).2; omega⟩, rfl⟩)⟩, (StFr.of HWB.out).trans HGr.out.2⟩
set_option maxHeartbeats 12800000 in
theorem testD {D : Nat → Prop} {B p : Nat} {w : World} {all : List Nd} (h : StD D B p w all) (hD : ∀ b, D b → b < w.heap.size) (fd n hi lo : Int) (hf : Tf fd n hi lo) (hT : Tab w) : Calls Tryd.prog 13 #[ptr p, .int .i8 fd, .int .u64 n, .int .i64 hi, .int .i64 lo] w fun e w' => ∃ id er all', e = .returned (.tuple #[.int .i64 id, .int .i64 er]) ∧ TestR all fd n hi lo id er all' ∧ StD D B p w' all' ∧ StFr B w w' := by
  have HHD := hid h
  have HH0 := hid h.st
  have HDl := hid hD
  have hlen : all.length ≤ 65536 := by obtain ⟨va, bt, bl, nt, nl, Gt, Gl, d, hs, _⟩ := h; exact hs.len
  clear hD
  have HT := hid hT
  have HTf := hid hf
  clear hT h hf
  go_enter Tryd.func13, Tryd.ntmps13
  go_upto_region 3 with fail
  go_cut [19] from 20 (fun s19 wc => s19 = .bool (!okT all fd n hi lo) ∧ Hid (Below w.heap.size w wc))
  case first =>
    have HF := hid (fits_any fd n HTf.out.n w HT.out)
    have HX := hid (fun i => has_any HH0.out i)
    cases e1 : fitB fd n
    · have HK : Hid (okT all fd n hi lo = false) := by show _ = _; unfold okT; rw [e1]; rfl
      rw [e1] at HF
      go_wp2_with (go_at_call 27; refine (HF.out).mono ?_; rintro e w' ⟨rfl, rfl⟩)
      go_meet
      case rel => exact ⟨by rw [HK.out]; rfl, Below.refl _ _⟩
    · cases e2 : inL all hi
      · have HK : Hid (okT all fd n hi lo = false) := by show _ = _; unfold okT; rw [e1, e2]; rfl
        rw [e1] at HF
        go_wp2_with (first
          | (go_at_call 27; refine (HF.out).mono ?_; rintro e w' ⟨rfl, rfl⟩)
          | (go_at_call 28; refine (HX.out _).mono ?_; rintro e w' ⟨rfl, rfl⟩))
        go_meet
        case rel => exact ⟨by rw [HK.out]; rfl, Below.refl _ _⟩
      · cases e3 : inL all lo
        · have HK : Hid (okT all fd n hi lo = false) := by show _ = _; unfold okT; rw [e1, e2, e3]; rfl
          rw [e1] at HF
          go_wp2_with (first
            | (go_at_call 27; refine (HF.out).mono ?_; rintro e w' ⟨rfl, rfl⟩)
            | (go_at_call 28; refine (HX.out _).mono ?_; rintro e w' ⟨rfl, rfl⟩))
          go_meet
          case rel => exact ⟨by rw [HK.out]; rfl, Below.refl _ _⟩
        · obtain ⟨i, rfl, hi1⟩ := inL_iff e2
          obtain ⟨j, rfl, hj1⟩ := inL_iff e3
          have HO := hid (ordered_any HH0.out fd n i j hi1 hj1 hlen)
          have HK : Hid (okT all fd n ((i : Nat) : Int) ((j : Nat) : Int) = (ordH all[i] fd && ordL all[j] fd n)) := by show _ = _; unfold okT; rw [e1, e2, e3, nd_at i hi1, nd_at j hj1]; rfl
          generalize (ordH all[i] fd && ordL all[j] fd n) = b at HO HK
          rw [e1] at HF
          clear e1
          go_wp2_with (first
            | (go_at_call 27; refine (HF.out).mono ?_; rintro e w' ⟨rfl, rfl⟩)
            | (go_at_call 28; refine (HX.out _).mono ?_; rintro e w' ⟨rfl, rfl⟩)
            | (go_at_call 29; refine (HO.out).mono ?_; rintro e w' ⟨rfl, hb⟩; have HBo := hid hb; clear hb))
          go_meet
          case rel => exact ⟨by rw [HK.out], HBo⟩
  case rest =>
  obtain ⟨rfl, HB1⟩ := hcut
  rename World => W1
  cases hok : okT all fd n hi lo
  · have HOK := hid hok
    go_wp2
    refine bodyPost_ret (results_tmp2 rfl _ _ _) rfl ?_
    exact ⟨0, 2, all, rfl, Or.inl ⟨HOK.out, rfl, rfl, rfl⟩, HHD.out.on HB1.out, StFr.of HB1.out⟩
  · have HOK := hid hok
    have hfd : 0 ≤ fd := by
      have := hok
      simp only [okT, fitB, Bool.and_eq_true, decide_eq_true_eq] at this
      exact this.1.1.1
    clear hok
    by_cases he : hi = lo
    · have he1 : (hi == lo) = true := beq_iff_eq.2 he
      have HE := hid he
      clear he
      go_wp2
      refine bodyPost_ret (results_tmp2 rfl _ _ _) rfl ?_
      exact ⟨hi, 0, all, rfl, Or.inr (Or.inl ⟨HOK.out, HE.out, rfl, rfl, rfl⟩), HHD.out.on HB1.out, StFr.of HB1.out⟩
    · have he1 : (hi == lo) = false := beq_eq_false_iff_ne.2 he
      have HE := hid he
      clear he
      go_upto_region 8 with (refine stNew 70 (.tmp 12) (.tmp 54) rfl rfl W1 70 (tkc 0 0 0 0) (tkc fd n hi lo) rfl rfl rfl (infoTEST _ _ _ _) rfl rfl ?_)
      obtain ⟨va, bt, bl, nt, nl, Gt, Gl, d, hs0, off0⟩ := HHD.out
      have HOff := hid off0
      clear off0
      have hB2 : Below W1.heap.size W1 (W1.alloc (.cells (tkc fd n hi lo) 70)) := (Below.refl _ _).alloc (Nat.le_refl _) _
      have hwB2 : Below w.heap.size w (W1.alloc (.cells (tkc fd n hi lo) 70)) := HB1.out.trans (hB2.mono HB1.out.size)
      have hs2 := hs0.keep (w' := W1.alloc (.cells (tkc fd n hi lo) 70)) fun b _ h2 => hwB2.block b h2
      have htb := heap_alloc_new W1 (.cells (tkc fd n hi lo) 70)
      have HP := hid (hs0.own)
      obtain ⟨tb, etb⟩ : ∃ tb, tb = W1.heap.size := ⟨_, rfl⟩
      have htw : w.heap.size ≤ tb := by rw [etb]; exact HB1.out.size
      rw [← etb] at htb ⊢
      have HS2 := hid hs2
      have HTB := hid htb
      have HWB := hid hwB2
      have HTW := hid htw
      clear hB2 hwB2 hs2 htb hs0 htw
      generalize W1.alloc (.cells (tkc fd n hi lo) 70) = W2 at HS2 HTB HWB ⊢
      clear etb
      have HL0 : Hid (Hlk p tb bt nt Gt fd n hi lo W2) := ⟨HS2.out.cells.2.1, (Hup.of HS2.out.cells.2.1 HTB.out).tb, HS2.out.mt⟩
      refine wp_region_held_drew (S := Hlk p tb bt nt Gt fd n hi lo) (by kernel_rfl) ⟨HL0.out.c1, HL0.out.tb, HL0.out.mp⟩ (fun hHeld => ?_)
      refine wpAnyH_take (i := 0) (v := ?_) rfl (by kernel_rfl) (by kernel_rfl) (by kernel_rfl) (fun _ _ _ h => h) (Or.inl ⟨by rfl, ?_⟩) hHeld ?_
      rotate_left
      · intro w' hSw
        clear hSw
        go_simp
        first | done | with_reducible rfl
      simp only [Act.put, List.getElem_toArray, List.getElem_cons_zero, List.setIfInBounds_toArray, List.set_cons_zero, List.set_cons_succ]
      refine wpAnyH_take (i := 1) (v := ?_) rfl (by kernel_rfl) (by kernel_rfl) (by kernel_rfl) (fun _ _ _ h => h) (Or.inl ⟨by rfl, ?_⟩) hHeld ?_
      rotate_left
      · intro w' hSw
        clear hSw
        go_simp
        first | done | with_reducible rfl
      simp only [Act.put, List.getElem_toArray, List.getElem_cons_succ, List.getElem_cons_zero, List.setIfInBounds_toArray, List.set_cons_zero, List.set_cons_succ]
      refine wpAnyH_take (i := 2) (v := ?_) rfl (by kernel_rfl) (by kernel_rfl) (by kernel_rfl) (fun _ _ _ h => h) (Or.inl ⟨by rfl, ?_⟩) hHeld ?_
      rotate_left
      · intro w' hSw
        clear hSw
        go_simp
        first | done | with_reducible rfl
      simp only [Act.put, List.getElem_toArray, List.getElem_cons_succ, List.getElem_cons_zero, List.setIfInBounds_toArray, List.set_cons_zero, List.set_cons_succ]
      refine wpAnyH_take (i := 3) (v := ?_) rfl (by kernel_rfl) (by kernel_rfl) (by kernel_rfl) (fun _ _ _ h => h) (Or.inl ⟨by rfl, ?_⟩) hHeld ?_
      rotate_left
      · intro w' hSw
        have c1 := hSw.c1
        clear hSw
        go_simp
        first | done | with_reducible rfl
      simp only [Act.put, List.getElem_toArray, List.getElem_cons_succ, List.getElem_cons_zero, List.setIfInBounds_toArray, List.set_cons_zero, List.set_cons_succ]
      refine wpAnyH_take (i := 4) (v := .agg (tkc fd n hi lo)) rfl (by kernel_rfl) (by kernel_rfl) (by kernel_rfl) (fun _ _ _ h => h) (Or.inl ⟨by rfl, ?_⟩) hHeld ?_
      · intro w' hSw
        exact runLd 70 (.tmp 12) rfl tb 0 rfl (tkc fd n hi lo) _ hSw.tb Tryd.underlying70 rfl (infoTEST _ _ _ _)
      simp only [Act.put, List.getElem_toArray, List.getElem_cons_succ, List.getElem_cons_zero, List.setIfInBounds_toArray, List.set_cons_zero, List.set_cons_succ]
      refine wpAnyH_take (i := 5) (v := .tuple #[(Gt (kt fd n hi lo)).getD (.int .i64 0), .bool (Gt (kt fd n hi lo)).isSome]) rfl (by kernel_rfl) (by kernel_rfl) (by kernel_rfl) (fun _ _ _ h => h) (Or.inl ⟨by rfl, ?_⟩) hHeld ?_
      · intro w' hSw
        exact runLk (.tmp 59) (.tmp 60) rfl rfl rfl (hSw.mp.look_ok lawT Tryd.underlying56 (z64 _) (key_t HTf.out))
      simp only [Act.put, List.getElem_toArray, List.getElem_cons_succ, List.getElem_cons_zero, List.setIfInBounds_toArray, List.set_cons_zero, List.set_cons_succ]
      refine wpAnyH_take (i := 6) (v := ?_) rfl (by kernel_rfl) (by kernel_rfl) (by kernel_rfl) (fun _ _ _ h => h) (Or.inl ⟨by rfl, ?_⟩) hHeld ?_
      rotate_left
      · intro w' hSw
        clear hSw
        go_simp
        first | done | with_reducible rfl
      simp only [Act.put, List.getElem_toArray, List.getElem_cons_succ, List.getElem_cons_zero, List.setIfInBounds_toArray, List.set_cons_zero, List.set_cons_succ]
      refine wpAnyH_take (i := 7) (v := ?_) rfl (by kernel_rfl) (by kernel_rfl) (by kernel_rfl) (fun _ _ _ h => h) (Or.inl ⟨by rfl, ?_⟩) hHeld ?_
      rotate_left
      · intro w' hSw
        clear hSw
        go_simp
        first | done | with_reducible rfl
      simp only [Act.put, List.getElem_toArray, List.getElem_cons_succ, List.getElem_cons_zero, List.setIfInBounds_toArray, List.set_cons_zero, List.set_cons_succ]
      refine wpAnyH_take (i := 8) (v := ?_) rfl (by kernel_rfl) (by kernel_rfl) (by kernel_rfl) (fun _ _ _ h => h) (Or.inl ⟨by rfl, ?_⟩) hHeld ?_
      rotate_left
      · intro w' hSw
        clear hSw
        go_simp
        first | done | with_reducible rfl
      simp only [Act.put, List.getElem_toArray, List.getElem_cons_succ, List.getElem_cons_zero, List.setIfInBounds_toArray, List.set_cons_zero, List.set_cons_succ]
      refine wpAnyH_take (i := 9) (v := ?_) rfl (by kernel_rfl) (by kernel_rfl) (by kernel_rfl) (fun _ _ _ h => h) (Or.inl ⟨by rfl, ?_⟩) hHeld ?_
      rotate_left
      · intro w' hSw
        clear hSw
        go_simp
        first | done | with_reducible rfl
      simp only [Act.put, List.getElem_toArray, List.getElem_cons_succ, List.getElem_cons_zero, List.setIfInBounds_toArray, List.set_cons_zero, List.set_cons_succ]
      refine wpAnyH_take (i := 10) (v := ?_) rfl (by kernel_rfl) (by kernel_rfl) (by kernel_rfl) (fun _ _ _ h => h) (Or.inl ⟨by rfl, ?_⟩) hHeld ?_
      rotate_left
      · intro w' hSw
        clear hSw
        go_simp
        first | done | with_reducible rfl
      simp only [Act.put, List.getElem_toArray, List.getElem_cons_succ, List.getElem_cons_zero, List.setIfInBounds_toArray, List.set_cons_zero, List.set_cons_succ]
      refine wpAnyH_done (by kernel_rfl) ?_ _
      clear hHeld HL0
      have hbd : Below w.heap.size w W2.drew := ⟨HWB.out.os, HWB.out.tape, HWB.out.output, HWB.out.size, HWB.out.block⟩
      have hs3 := HS2.out.keep (w' := W2.drew) fun b _ _ => rfl
      have htb3 : W2.drew.heap[tb]? = some (.cells (tkc fd n hi lo) 70 (0, 0)) := HTB.out
      have HS3 := hid hs3
      have HTB3 := hid htb3
      have HB3 := hid hbd
      clear hbd hs3 htb3 HS2 HTB HWB
      generalize W2.drew = W3 at HS3 HTB3 HB3 ⊢
      cases hG : Gt (kt fd n hi lo) with
      | some v =>
        obtain ⟨i, hi1, fd', n', h', l', e1, e2, e3, rfl⟩ := (HS3.out.gt _ _).1 hG
        have hok1 := (HS3.out.ok _ (List.getElem_mem hi1)).fit
        rw [e1] at hok1
        obtain ⟨rfl, rfl, rfl, rfl⟩ := kt_inj HTf.out hok1 e3
        have E1 := hid e1
        clear hG e1 e2 e3 hok1
        go_wp2
        refine bodyPost_ret (results_tmp2 rfl _ _ _) rfl ?_
        exact ⟨i, 0, all, rfl, Or.inr (Or.inr ⟨HOK.out, HE.out, Or.inl ⟨i, hi1, E1.out, rfl, rfl, rfl⟩⟩), ⟨_, _, _, _, _, _, _, _, HS3.out, HOff.out.on HB3.out⟩, StFr.of HB3.out⟩
      | none =>
        have HGN := hid hG
        have HNM : Hid (tsN fd n hi lo ∉ all) := fun hm => by
          obtain ⟨i, hi1, e⟩ := List.getElem_of_mem hm
          have := (HS3.out.gt (kt fd n hi lo) (.int .i64 ((i : Nat) : Int))).2 ⟨i, hi1, fd, n, hi, lo, e, hfd, rfl, rfl⟩
          rw [HGN.out] at this; cases this
        clear hG
        have HFu := hid (full_any (⟨_, _, _, _, _, _, _, _, HS3.out⟩ : St B p W3 all))
        by_cases hfl : 65536 ≤ all.length
        · rw [decide_eq_true hfl] at HFu
          go_wp2_with (go_at_call 23; refine (HFu.out).mono ?_; rintro e w' ⟨rfl, rfl⟩)
          refine bodyPost_ret (results_tmp2 rfl _ _ _) rfl ?_
          exact ⟨0, 200, all, rfl, Or.inr (Or.inr ⟨HOK.out, HE.out, Or.inr (Or.inl ⟨HNM.out, hfl, rfl, rfl, rfl⟩)⟩), ⟨_, _, _, _, _, _, _, _, HS3.out, HOff.out.on HB3.out⟩, StFr.of HB3.out⟩
        · rw [decide_eq_false hfl] at HFu
          have hbN := fun W => run_bN fd n hi lo W
          have HAd := hid (add_any nilS (tsN fd n hi lo) HS3.out rfl (by omega))
          go_upto_region 14 with (first
            | (go_at_call 23; refine (HFu.out).mono ?_; rintro e W3 ⟨rfl, rfl⟩)
            | (go_at_call 24; refine (HAd.out).mono ?_; rintro e W4 ⟨rfl, va', hA⟩; have HA := hid hA; clear hA HFu))
          have hpo := HP.out
          have htb4 : W4.heap[tb]? = some (.cells (tkc fd n hi lo) 70 (0, 0)) := by
            have htl := (Array.getElem?_eq_some_iff.1 HTB3.out).1
            rw [HA.out.only.block tb fun hS => by
              have h1 := (hpo p (Or.inl rfl)).2
              have h3 := HTW.out
              rcases hS with e | e | e
              · omega
              · have := (hpo tb (Or.inr (Or.inr (Or.inr e)))).2; omega
              · omega]
            exact HTB3.out
          have hbt4 : W4.heap[bt]? = W3.heap[bt]? := by
            obtain ⟨m1, m2, m3, m4⟩ := HS3.out.map_lt
            exact HA.out.only.block bt fun hS => by
              rcases hS with e | e | e
              · exact m1 e
              · exact m3 e
              · have := HS3.out.mt.lt; omega
          have hbl4 : W4.heap[bl]? = W3.heap[bl]? := by
            obtain ⟨m1, m2, m3, m4⟩ := HS3.out.map_lt
            exact HA.out.only.block bl fun hS => by
              rcases hS with e | e | e
              · exact m2 e
              · exact m4 e
              · have := HS3.out.ml.lt; omega
          have HU : Hid (Hup p tb bt fd n hi lo W4) := Hup.of ((cell_of_row _ _ _ _ _ _ HA.out.hp).trans rfl) htb4
          have HM4 : Hid (Mp W4.drew 70 bt nt Gt) := (HS3.out.mt.carry hbt4).carry rfl
          have HL4 : Hid (Mp W4 9 bl nl Gl) := HS3.out.ml.carry hbl4
          have HTB4 := hid htb4
          have HPT : Hid (p ≠ bt ∧ tb ≠ bt ∧ bl ≠ bt) := ⟨HS3.out.map_lt.1.symm, fun e => by
            subst e
            have h1 := (hpo tb (Or.inr (Or.inl rfl))).2
            have h3 := HTW.out
            omega, HS3.out.hB.2.2.2.symm⟩
          have hnt : nt < 2147483648 := by have := HS3.out.ntl; omega
          clear hpo htb4 hbt4 hbl4 hbN HAd
          refine wp_region_held_drew (S := Hup p tb bt fd n hi lo) (by kernel_rfl) ⟨HU.out.c1, HU.out.tb⟩ (fun hHeld => ?_)
          refine wpAnyH_take (i := 0) (v := ?_) rfl (by kernel_rfl) (by kernel_rfl) (by kernel_rfl) (fun _ _ _ h => h) (Or.inl ⟨by rfl, ?_⟩) hHeld ?_
          rotate_left
          · intro w' hSw
            clear hSw
            go_simp
            first | done | with_reducible rfl
          simp only [Act.put, List.getElem_toArray, List.getElem_cons_zero, List.setIfInBounds_toArray, List.set_cons_zero, List.set_cons_succ]
          refine wpAnyH_take (i := 1) (v := ?_) rfl (by kernel_rfl) (by kernel_rfl) (by kernel_rfl) (fun _ _ _ h => h) (Or.inl ⟨by rfl, ?_⟩) hHeld ?_
          rotate_left
          · intro w' hSw
            clear hSw
            go_simp
            first | done | with_reducible rfl
          simp only [Act.put, List.getElem_toArray, List.getElem_cons_succ, List.getElem_cons_zero, List.setIfInBounds_toArray, List.set_cons_zero, List.set_cons_succ]
          refine wpAnyH_take (i := 2) (v := ?_) rfl (by kernel_rfl) (by kernel_rfl) (by kernel_rfl) (fun _ _ _ h => h) (Or.inl ⟨by rfl, ?_⟩) hHeld ?_
          rotate_left
          · intro w' hSw
            clear hSw
            go_simp
            first | done | with_reducible rfl
          simp only [Act.put, List.getElem_toArray, List.getElem_cons_succ, List.getElem_cons_zero, List.setIfInBounds_toArray, List.set_cons_zero, List.set_cons_succ]
          refine wpAnyH_take (i := 3) (v := ?_) rfl (by kernel_rfl) (by kernel_rfl) (by kernel_rfl) (fun _ _ _ h => h) (Or.inl ⟨by rfl, ?_⟩) hHeld ?_
          rotate_left
          · intro w' hSw
            have c1 := hSw.c1
            clear hSw
            go_simp
            first | done | with_reducible rfl
          simp only [Act.put, List.getElem_toArray, List.getElem_cons_succ, List.getElem_cons_zero, List.setIfInBounds_toArray, List.set_cons_zero, List.set_cons_succ]
          refine wpAnyH_take (i := 4) (v := .agg (tkc fd n hi lo)) rfl (by kernel_rfl) (by kernel_rfl) (by kernel_rfl) (fun _ _ _ h => h) (Or.inl ⟨by rfl, ?_⟩) hHeld ?_
          · intro w' hSw
            exact runLd 70 (.tmp 12) rfl tb 0 rfl (tkc fd n hi lo) _ hSw.tb Tryd.underlying70 rfl (infoTEST _ _ _ _)
          simp only [Act.put, List.getElem_toArray, List.getElem_cons_succ, List.getElem_cons_zero, List.setIfInBounds_toArray, List.set_cons_zero, List.set_cons_succ]
          refine wpAnyH_take (i := 5) (v := ?_) rfl (by kernel_rfl) (by kernel_rfl) (by kernel_rfl) (fun _ _ _ h => h) (Or.inl ⟨by rfl, ?_⟩) hHeld ?_
          rotate_left
          · intro w' hSw
            clear hSw
            go_simp
            first | done | with_reducible rfl
          simp only [Act.put, List.getElem_toArray, List.getElem_cons_succ, List.getElem_cons_zero, List.setIfInBounds_toArray, List.set_cons_zero, List.set_cons_succ]
          refine an1 6 _ (by kernel_rfl) rfl ?_
          refine Sp.of rfl (stepStore (.tmp 78) (.tmp 79) (.tmp 80) 56 rfl rfl rfl rfl rfl HM4.out lawT Tryd.underlying56 hnt (key_t HTf.out) ?_)
          intro w5 hM5 hT5
          rw [HGN.out] at hM5
          have HM5 := hid hM5
          have HT5 := hid hT5
          clear hM5 hT5
          refine ⟨Hup.of ((cell_same (HT5.out.block p HPT.out.1)).trans HU.out.c1) ((HT5.out.block tb HPT.out.2.1).trans HTB4.out), ?_⟩
          simp only [Act.put, List.getElem_toArray, List.getElem_cons_succ, List.getElem_cons_zero]
          refine wpAnyH_done (by kernel_rfl) ?_ _
          have HGr := hid (HS3.out.grow (w2 := w5) (bm := bt) (nt' := nt + 1) (nl' := nl) (Gl' := Gl) HA.out ⟨HT5.out.os, HT5.out.tape, HT5.out.output, HT5.out.size, HT5.out.block⟩ (Or.inl rfl) HM5.out (HL4.out.carry (HT5.out.block bl HPT.out.2.2)) (by have := HS3.out.ntl; omega) (by have := HS3.out.nll; omega) (Lst.nil _ _ _ _) ⟨HTf.out, (fun r hr => by cases hr), by show 0 ≤ 40000; omega⟩
            (fun k v => by rw [updL_iff HGN.out]; exact ⟨fun hh => hh.imp id fun ⟨a1, a2⟩ => ⟨hfd, rfl, a1, a2⟩, fun hh => hh.imp id fun ⟨_, _, a1, a2⟩ => ⟨a1, a2⟩⟩)
            (fun k v => ⟨fun hh => Or.inl hh, fun hh => by
              rcases hh with hh | ⟨e, _⟩
              · exact hh
              · have := congrArg Nd.fd e
                simp only at this
                omega⟩) (by omega))
          clear hHeld
          go_wp2
          refine bodyPost_ret (results_tmp2 rfl _ _ _) rfl ?_
          exact ⟨all.length, 0, all ++ [tsN fd n hi lo], rfl, Or.inr (Or.inr ⟨HOK.out, HE.out, Or.inr (Or.inr ⟨HNM.out, by omega, rfl, rfl, rfl⟩)⟩), ⟨_, _, _, _, _, _, _, _, HGr.out.1, (HOff.out.on HB3.out).grow HS3.out (fun b hb => Nat.lt_of_lt_of_le (HDl.out b hb) HB3.out.size) HA.out ⟨HT5.out.os, HT5.out.tape, HT5.out.output, HT5.out.size, HT5.out.block⟩ (Or.inl rfl) (Lst.nil _ _ _ _)⟩, (StFr.of HB3.out).trans HGr.out.2⟩
end Go.Proofs.YtggbokghhohofaaDoor
