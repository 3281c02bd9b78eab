/-
  Proved here: Leaf of package nodes, over a store in memory. Conditions: the rows lie where they are said to and are at most 40000 together with their settings; the tables hold their numbers.
-/
import Derived.Test.YtggbokghhohofaaDoorCE
namespace Go.Proofs.YtggbokghhohofaaDoor
open Go.RowKit Go.Maps
set_option maxRecDepth 100000

theorem tot_insR (r : List Ac) : ∀ l : List (List Ac), tot (insR r l) ≤ 1 + r.length + tot l
  | [] => by simp [insR, tot]
  | x :: l => by
    have := tot_insR r l
    unfold insR
    split
    · simp only [tot]; omega
    · split <;> simp only [tot] <;> omega
theorem tot_fold : ∀ (L acc : List (List Ac)), tot (L.foldl (fun acc r => insR r acc) acc) ≤ tot L + tot acc
  | [], acc => by simp [tot]
  | r :: L, acc => by
    have h1 := tot_fold L (insR r acc)
    have h2 := tot_insR r acc
    simp only [List.foldl_cons, tot]; omega
theorem tot_map : ∀ L : List (List Ac), tot (L.map srt) = tot L
  | [] => rfl
  | r :: L => by simp only [List.map_cons, tot, tot_map L, (srt_perm r).length_eq]
theorem tot_nrows {L K : List (List Ac)} (h : nrows L = some K) : tot K ≤ tot L := by
  unfold nrows at h
  split at h
  · simp only [Option.some.injEq] at h
    subst h
    have := tot_fold (L.map srt) []
    rw [tot_map] at this
    simpa [canon, tot] using this
  · cases h
theorem tot_len : ∀ L : List (List Ac), L.length ≤ tot L ∧ ∀ r ∈ L, r.length ≤ tot L
  | [] => ⟨Nat.le_refl _, fun r hr => by cases hr⟩
  | x :: L => by
    obtain ⟨h1, h2⟩ := tot_len L
    refine ⟨by simp only [List.length_cons, tot]; omega, fun r hr => ?_⟩
    rcases List.mem_cons.1 hr with rfl | hr
    · simp only [tot]; omega
    · have := h2 r hr; simp only [tot]; omega
theorem nrows_kd {L : List (List Ac)} (hall : L.all rowOk = true) : Kd (L.map srt) := fun r hr a ha => by
  obtain ⟨r0, hr0, rfl⟩ := List.mem_map.1 hr
  have h1 := List.all_eq_true.1 hall r0 hr0
  simp only [rowOk, Bool.and_eq_true] at h1
  exact (okS_iff (List.all_eq_true.1 h1.1 a ((srt_perm r0).mem_iff.1 ha))).1
theorem nrows_oks {L K : List (List Ac)} (h : nrows L = some K) (hf : ∀ r ∈ L, ∀ a ∈ r, InB a.n) : Oks K := by
  unfold nrows at h
  split at h
  · rename_i hall
    simp only [Option.some.injEq] at h
    subst h
    intro r hr a ha
    have := (canon_mem (nrows_kd hall) r).1 hr
    obtain ⟨r0, hr0, rfl⟩ := List.mem_map.1 this
    have h1 := List.all_eq_true.1 hall r0 hr0
    simp only [rowOk, Bool.and_eq_true] at h1
    have ha' := (srt_perm r0).mem_iff.1 ha
    exact ⟨List.all_eq_true.1 h1.1 a ha', hf r0 hr0 a ha'⟩
  · cases h
theorem Cps.fit {T : Nat → Prop} {w : World} {v : Value} {c : List (List Ac)} (h : Cps T w v c) : ∀ r ∈ c, ∀ a ∈ r, a.Fit := Lst.all h (P := fun (r : List Ac) => ∀ a ∈ r, a.Fit) fun _f _r ⟨_u, _, hu⟩ => hu.fit
theorem Pow.up {B B' : Nat} {w w' : World} (h : Pow B w) (hb : Below B w w') (hB : B ≤ B') : Pow B' w' := fun w2 h2 => h w2 (hb.trans (h2.mono hB))
theorem run_bL (ao : Option Addr) (n c : Nat) (K : List (List Ac)) (w : World) : (Instr.build 41 #[(0, .int .i8 (-1)), (4, .slice ao n c)]).run Tryd.prog w = .ok (.agg (ndc (.slice ao n c, lfN K))) w := by
  show _ = Result.ok (Value.agg #[.int .i8 (-1), .int .u64 0, .int .i64 0, .int .i64 0, .slice ao n c]) w
  kernel_rfl
set_option maxHeartbeats 12800000 in
theorem leaf_any {B p : Nat} {T : Nat → Prop} {w : World} {all : List Nd} (h : St B p w all) (v : Value) (L : List (List Ac)) (hc : Cps T w v L) (hTl : ∀ b, T b → b < w.heap.size) (ht : tot L ≤ 40000) (hT : Tab w) (hP : Pow B w) (hB : B ≤ w.heap.size) : Calls Tryd.prog 11 #[ptr p, v] w fun e w' => ∃ id er all', e = .returned (.tuple #[.int .i64 id, .int .i64 er]) ∧ LeafR all L id er all' ∧ St B p w' all' ∧ StFr B w w' := by
  have HH0 := hid h
  obtain ⟨hn1, hn2⟩ := tot_len L
  have hlr := leafRows_any w v L hc hT hTl (by omega) (fun r hr => by have := hn2 r hr; omega)
  have HFit : Hid (∀ r ∈ L, ∀ a ∈ r, InB a.n) := fun r hr a ha => (hc.fit r hr a ha).2.2
  have HP := hid hP
  obtain ⟨ao, cap, rfl, -⟩ := hc.form
  clear hc hT hP hn1 hn2
  cases hN : nrows L with
  | none =>
    have HC : Hid (Calls Tryd.prog 21 #[.slice ao L.length cap] w fun e w' => e = .returned (.tuple #[nilS, .bool false]) ∧ Below w.heap.size w w') := hlr.mono (by
      rintro e w' ⟨hb, ⟨_, he⟩ | ⟨v', K, hK, _⟩⟩
      · exact ⟨he, hb⟩
      · rw [hN] at hK; cases hK)
    have HN := hid hN
    clear hlr hN h
    go_enter Tryd.func11, Tryd.ntmps11
    go_wp2_with (go_at_call 21; refine (HC.out).mono ?_; rintro e w1 ⟨rfl, hb⟩; have HB := hid hb; clear hb HC)
    refine bodyPost_ret (results_tmp2 rfl _ _ _) rfl ?_
    exact ⟨0, 2, all, rfl, Or.inl ⟨HN.out, rfl, rfl, rfl⟩, HH0.out.on HB.out, StFr.of HB.out⟩
  | some K =>
    have HC : Hid (Calls Tryd.prog 21 #[.slice ao L.length cap] w fun e w' => ∃ (a : Option Addr) (n c : Nat), e = .returned (.tuple #[.slice a n c, .bool true]) ∧ Below w.heap.size w w' ∧ Cps (fun b => w.heap.size ≤ b) w' (.slice a n c) K) := hlr.mono (by
      rintro e w' ⟨hb, ⟨hK, _⟩ | ⟨v', K', hK, he, hcp⟩⟩
      · rw [hN] at hK; cases hK
      · rw [hN] at hK
        simp only [Option.some.injEq] at hK
        subst hK
        obtain ⟨a, c, rfl, -⟩ := hcp.form
        exact ⟨a, _, c, he, hb, hcp⟩)
    have HN := hid hN
    have HOk := hid (nrows_oks hN HFit.out)
    have htK : tot K ≤ 40000 := Nat.le_trans (tot_nrows hN) ht
    have hlK := rtx_len HOk.out
    have hkey : keyOf Tryd.prog 9 (.string ⟨(rtx K).toArray⟩) = some (keyR K) := by
      rw [key_s (by show (rtx K).toArray.size ≤ maxLen; simp [maxLen]; omega)]; rfl
    clear hlr hN
    obtain ⟨va, bt, bl, nt, nl, Gt, Gl, d, hs0⟩ := h
    have HS0 := hid hs0
    clear hs0
    go_enter Tryd.func11, Tryd.ntmps11
    go_upto_region 6 with (go_at_call 21; refine (HC.out).mono ?_; rintro e W1 ⟨a1, n1, c1, rfl, hb, hcp⟩; have HB1 := hid hb; have HK1 := hid hcp; clear hb hcp HC)
    have HRT := hid (rowsText_any (T := fun b => w.heap.size ≤ b ∧ b < W1.heap.size) W1 (.slice a1 n1 c1) K (HK1.out.carry fun b hb hS => ⟨⟨hS, hb⟩, rfl⟩) (fun b hb => hb.2) HOk.out htK (HP.out.up (HB1.out.mono hB) (Nat.le_trans hB HB1.out.size)))
    go_upto_region 7 with (go_at_call 22; refine (HRT.out).mono ?_; rintro e W2 ⟨rfl, hb⟩; have HB2 := hid hb; clear hb HRT)
    have HWB := hid (HB1.out.trans (HB2.out.mono HB1.out.size))
    have HS2 := hid (HS0.out.keep (w' := W2) fun b _ h2 => HWB.out.block b h2)
    have HK2 : Hid (Cps (fun b => w.heap.size ≤ b) W2 (.slice a1 n1 c1) K) := HK1.out.on HB2.out
    have HOwn := hid HS0.out.own
    have c2 := HS2.out.cells.2.2
    have hLk := HS2.out.ml.look_ok lawS Tryd.underlying57 (z64 W2) hkey
    clear HK1 HB1 HB2 HS0
    go_upto_region 8 with fail
    clear hLk c2
    cases hG : Gl (keyR K) with
    | some v =>
      obtain ⟨i, hi1, K', e1, e2, rfl⟩ := (HS2.out.gl _ _).1 hG
      have hok1 := (HS2.out.ok _ (List.getElem_mem hi1)).oks
      rw [e1] at hok1
      have e3 : K = K' := rtx_inj HOk.out hok1 (by simpa [keyR] using e2)
      subst e3
      have E1 := hid e1
      clear hG e1 e2 hok1
      go_wp2
      refine bodyPost_ret (results_tmp2 rfl _ _ _) rfl ?_
      exact ⟨i, 0, all, rfl, Or.inr ⟨K, HN.out, Or.inl ⟨i, hi1, E1.out, rfl, rfl, rfl⟩⟩, ⟨_, _, _, _, _, _, _, _, HS2.out⟩, StFr.of HWB.out⟩
    | none =>
      have HGN := hid hG
      have HNM : Hid (lfN K ∉ all) := fun hm => by
        obtain ⟨i, hi1, e⟩ := List.getElem_of_mem hm
        have := (HS2.out.gl (keyR K) (.int .i64 ((i : Nat) : Int))).2 ⟨i, hi1, K, e, rfl, rfl⟩
        rw [HGN.out] at this; cases this
      clear hG
      have HFu := hid (full_any (⟨_, _, _, _, _, _, _, _, HS2.out⟩ : St B p W2 all))
      by_cases hfl : 65536 ≤ all.length
      · rw [decide_eq_true hfl] at HFu
        go_wp2_with (go_at_call 23; refine (HFu.out).mono ?_; rintro e W2 ⟨rfl, rfl⟩)
        refine bodyPost_ret (results_tmp2 rfl _ _ _) rfl ?_
        exact ⟨0, 200, all, rfl, Or.inr ⟨K, HN.out, Or.inr (Or.inl ⟨HNM.out, hfl, rfl, rfl, rfl⟩)⟩, ⟨_, _, _, _, _, _, _, _, HS2.out⟩, StFr.of HWB.out⟩
      · rw [decide_eq_false hfl] at HFu
        have hbL := fun W => run_bL a1 n1 c1 K W
        have HAd := hid (add_any (.slice a1 n1 c1) (lfN K) HS2.out rfl (by omega))
        go_upto_region 13 with (first
          | (go_at_call 23; refine (HFu.out).mono ?_; rintro e W2 ⟨rfl, rfl⟩)
          | (go_at_call 24; refine (HAd.out).mono ?_; rintro e W4 ⟨rfl, va', hA⟩; have HA := hid hA; clear hA HFu HAd))
        have hbt4 : W4.heap[bt]? = W2.heap[bt]? := by
          obtain ⟨m1, m2, m3, m4⟩ := HS2.out.map_lt
          exact HA.out.only.block bt fun hS => by
            rcases hS with e | e | e
            · exact m1 e
            · exact m3 e
            · have := HS2.out.mt.lt; omega
        have hbl4 : W4.heap[bl]? = W2.heap[bl]? := by
          obtain ⟨m1, m2, m3, m4⟩ := HS2.out.map_lt
          exact HA.out.only.block bl fun hS => by
            rcases hS with e | e | e
            · exact m2 e
            · exact m4 e
            · have := HS2.out.ml.lt; omega
        have HM4 := hid (HS2.out.ml.carry hbl4)
        have HT4 := hid (HS2.out.mt.carry hbt4)
        have c4 : W4.cell? ⟨p, 2, none⟩ = some (.map (some bl)) := (cell_of_row _ _ _ _ _ _ HA.out.hp).trans rfl
        have hnl : nl < 2147483648 := by have := HS2.out.nll; omega
        have HKY := hid hkey
        clear hbt4 hbl4 hbL
        obtain ⟨w5, hmu, hM5', hT5⟩ := HM4.out.store (e := 3) (t := 57) (key := .string ⟨(rtx K).toArray⟩) (val := .int .i64 ((all.length : Nat) : Int)) lawS Tryd.underlying57 hnl HKY.out
        have HM5 := hid hM5'
        have HT5 := hid hT5
        clear hM5' hT5 HM4
        go_upto_region 14 with fail
        clear hmu
        have hM5 := HM5.out
        rw [HGN.out] at hM5
        have HGr := hid (HS2.out.grow (w2 := w5) (bm := bl) (nt' := nt) (nl' := nl + 1) (Gt' := Gt) HA.out HT5.out (Or.inr rfl) (HT4.out.carry (HT5.out.block bt HS2.out.hB.2.2.2)) hM5 (by have := HS2.out.ntl; omega) (by have := HS2.out.nll; omega)
          (HK2.out.carry fun b hb hS => ⟨⟨by omega, hb, fun ho => by have := (HOwn.out b ho).2; omega⟩, rfl⟩)
          ⟨⟨by show (-128 : Int) ≤ -1 ∧ (-1 : Int) < 128; omega, by simp [InB], by simp [I64], by simp [I64]⟩, HOk.out, htK⟩
          (fun k v => ⟨fun hh => Or.inl hh, fun hh => by
            rcases hh with hh | ⟨e, _⟩
            · exact hh
            · simp only at e
              omega⟩)
          (fun k v => by rw [updL_iff HGN.out]; exact ⟨fun hh => hh.imp id fun ⟨a1, a2⟩ => ⟨rfl, a1, a2⟩, fun hh => hh.imp id fun ⟨_, a1, a2⟩ => ⟨a1, a2⟩⟩) (by omega))
        clear hM5 c4
        go_wp2
        refine bodyPost_ret (results_tmp2 rfl _ _ _) rfl ?_
        exact ⟨all.length, 0, all ++ [lfN K], rfl, Or.inr ⟨K, HN.out, Or.inr (Or.inr ⟨HNM.out, by omega, rfl, rfl, rfl⟩)⟩, ⟨_, _, _, _, _, _, _, _, HGr.out.1⟩, (StFr.of HWB.out).trans HGr.out.2⟩
end Go.Proofs.YtggbokghhohofaaDoor
