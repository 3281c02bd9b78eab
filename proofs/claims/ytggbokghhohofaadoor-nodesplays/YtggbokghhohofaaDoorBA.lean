/-
  Proved here: inOrder of package nodes at settings and at rows: the list anew, by rising order, and of those that are alike one. Conditions: fewer than 2 to 31 things; a row's settings lie in blocks of their own.
-/
import Derived.Test.YtggbokghhohofaaDoorB9
namespace Go.Proofs.YtggbokghhohofaaDoor
open Go.RowKit
set_option maxRecDepth 100000

theorem Rw.apdOnly {v : Value} {w w' : World} (h : Apd w v w') (hv : ∀ k, v.ownBlock = some k → w.heap.size ≤ k) : Below w.heap.size w w' :=
  ⟨h.os, h.tape, h.output, h.size, fun k hk => h.block k hk fun e => by have := hv k e; omega⟩
theorem Only.mineB {B : Nat} {v : Value} {w w' : World} (h : Only (Mine v w) w w') (hv : ∀ k, v.ownBlock = some k → B ≤ k) (hB : B ≤ w.heap.size) : Below B w w' :=
  h.below fun k hk => by rcases hk with e | e; exact hv k e; omega
theorem gro_cl {w : World} (fn : Value) (t : TypeId) : (w.alloc (.cells #[fn] t)).cell? ⟨w.heap.size, 0, none⟩ = some fn := (cell_of_row _ _ _ _ _ _ (heap_alloc_new _ _)).trans rfl
set_option maxHeartbeats 3200000 in
theorem inA_any {T : Nat → Prop} (w : World) (v : Value) (r : List Ac) (h : Acs T w v r) (hn : r.length < 2147483648) : Calls Tryd.prog 34 #[v, fnF] w fun e w' => ∃ v' ds, e = .returned v' ∧ Below w.heap.size w w' ∧ ds.Perm r ∧ (ds.Pairwise fun a b => a.fd ≤ b.fd) ∧ Rw (fun b => w.heap.size ≤ b) 3 54 w' v' (cpt qF ds).length (acL (cpt qF ds)) := by
  obtain ⟨ao, cap, rfl, hcap⟩ := h.form
  obtain ⟨W, hW⟩ : ∃ W, W = w.alloc (.cells #[fnF] 75) := ⟨_, rfl⟩
  have hB : Below w.heap.size w W := by rw [hW]; exact (Below.refl _ _).alloc (Nat.le_refl _) _
  have hcl : W.cell? ⟨w.heap.size, 0, none⟩ = some fnF := by rw [hW]; exact gro_cl _ _
  have hz : W.heap.size = w.heap.size + 1 := by rw [hW]; simp
  have HW : Hid (w.alloc (.cells #[fnF] 75) = W) := hW.symm
  have HA := hid ((h.on hB).src)
  have HB := hid hB
  have HCL := hid hcl
  clear hW hB h hcl
  go_enter Tryd.func34, Tryd.ntmps34
  go_upto_region 1 with fail
  rw [show w.alloc (.cells #[fnF] 75) = W from HW.out]
  clear HW
  have HZ := hid hz
  clear hz
  go_upto_region 2 with (refine appAll (v := nilS) (S := fun _ => False) (k := 3) (t := 54) (n := 0) (m := r.length) (c := cap) (xs := []) (us := acL r) (ao := ao) (.const nilS) (.tmp 6) 52 rfl rfl rfl rfl Tryd.underlying52 infACT rfl (by omega) (by omega) (Rw.nil _ _ _ _) (acL_len r) HA.out.2 (acL_all r) (by omega) ?_; intro v5 w1 hap hrw; have HAP := hid hap; have HRW := hid hrw; clear hap hrw)
  have hown : ∀ k, v5.ownBlock = some k → W.heap.size ≤ k := fun k hk => by
    rcases HRW.out.own k hk with e | e
    · exact e.elim
    · exact e
  have hb1 : Below W.heap.size W w1 := ⟨HAP.out.os, HAP.out.tape, HAP.out.output, HAP.out.size, fun k hk => HAP.out.block k hk (by simp [Value.ownBlock])⟩
  have hc1 : w1.cell? ⟨w.heap.size, 0, none⟩ = some fnF := cell_on hb1 HCL.out
  have hRW : Rw (fun b => W.heap.size ≤ b) 3 54 w1 v5 r.length (acL r) := by
    have := HRW.out
    rw [Nat.zero_add, List.nil_append] at this
    exact this.carry fun b _ hS => ⟨hS.elim (fun h => h.elim) id, rfl⟩
  have HS := hid (sortA_any w1 v5 r hRW hn)
  have HB1 := hid (HB.out.trans (hb1.mono (by have := HZ.out; omega)))
  have HO := hid hown
  have HC1 := hid hc1
  clear HRW hRW HAP hown hb1 HA
  go_upto_region 3 with (go_at_call 48; refine (HS.out).mono ?_; rintro e w2 ⟨rfl, ds, q1, q2, q3, q4⟩; have HQ := hid (And.intro q1 (And.intro q2 (And.intro q3 q4))); clear q1 q2 q3 q4 HS)
  obtain ⟨q1, q2, q3, q4⟩ := HQ.out
  have hlen := q1.length_eq
  have hb2 : Below (w.heap.size + 1) w1 w2 := q3.mineB (fun k hk => by have := HO.out k hk; have := HZ.out; omega) (by have := HB1.out.size; have := HZ.out; have := cell_lt HC1.out; omega)
  have hc2 : w2.cell? ⟨w.heap.size, 0, none⟩ = some fnF := (cell_same (hb2.block _ (by omega))).trans HC1.out
  have HC := hid (cpcA_any w2 v5 ds w.heap.size (by rw [hlen]; exact q4) hc2 (fun e => by have := HO.out _ e; have := HZ.out; omega) (by omega))
  have HB2 := hid (HB1.out.trans (hb2.mono (Nat.le_succ _)))
  have HP := hid (And.intro q1 q2)
  clear HQ q1 q2 q3 q4 hlen hb2 hc2 hc1
  go_wp2_with (go_at_call 49; refine (HC.out).mono ?_; rintro e w3 ⟨v3, rfl, p1, p2, p3⟩; have HR := hid (And.intro p1 (And.intro p2 p3)); clear p1 p2 p3 HC)
  go_ret
  obtain ⟨p1, p2, p3⟩ := HR.out
  exact ⟨v3, ds, rfl, HB2.out.trans (p2.mineB (fun k hk => by have := HO.out k hk; have := HZ.out; omega) HB2.out.size), HP.out.1, HP.out.2, p3.carry fun b _ hS => ⟨by have := HZ.out; omega, rfl⟩⟩
set_option maxHeartbeats 3200000 in
theorem inR_any {S T : Nat → Prop} (w : World) (v : Value) (d : List Rv) (h : Rw S 1 52 w v d.length (d.map (·.1))) (hd : ∀ x ∈ d, Acs T w x.1 x.2) (hT : ∀ b, T b → b < w.heap.size) (hn : d.length < 2147483648) : Calls Tryd.prog 36 #[v, fnR] w fun e w' => ∃ v' ds, e = .returned v' ∧ Below w.heap.size w w' ∧ ds.Perm d ∧ (ds.Pairwise fun a b => ¬ ltR b.2 a.2) ∧ Rw (fun b => w.heap.size ≤ b) 1 52 w' v' (cpt qR ds).length ((cpt qR ds).map (·.1)) ∧ ∀ x ∈ cpt qR ds, Acs T w' x.1 x.2 := by
  obtain ⟨ao, cap, rfl, hcap⟩ := h.room
  obtain ⟨W, hW⟩ : ∃ W, W = w.alloc (.cells #[fnR] 77) := ⟨_, rfl⟩
  have hB : Below w.heap.size w W := by rw [hW]; exact (Below.refl _ _).alloc (Nat.le_refl _) _
  have hcl : W.cell? ⟨w.heap.size, 0, none⟩ = some fnR := by rw [hW]; exact gro_cl _ _
  have hz : W.heap.size = w.heap.size + 1 := by rw [hW]; simp
  have HW : Hid (w.alloc (.cells #[fnR] 77) = W) := hW.symm
  have hrW : Rw S 1 52 W (.slice ao d.length cap) d.length (d.map (·.1)) := h.carry fun b hb hS => ⟨hS, hB.block b hb⟩
  have HA : Hid (d.length ≠ 0 → ∃ a, ao = some a ∧ ∀ j x, (d.map (·.1))[j]? = some x → W.cell? (a.add j) = some x) := fun h0 => by
    rcases hrW.ge with ⟨_, e⟩ | ⟨g, o, cap', cur, e, -, h2, h3, h4, h5⟩
    · exact absurd e h0
    · simp only [Value.slice.injEq] at e
      refine ⟨_, e.1, fun j x hj => ?_⟩
      have hjl : j < d.length := by have := (List.getElem?_eq_some_iff.1 hj).1; simpa using this
      rw [Addr.add_lit, cell_of_row _ _ _ _ _ _ h2, cells_at h5 (by omega), hj]
  have H1 : Hid (∀ x ∈ d.map (·.1), x.oneCell' = true) := fun x hx => by
    obtain ⟨y, hy, rfl⟩ := List.mem_map.1 hx
    exact (hd y hy).one
  have HB := hid hB
  have HD := hid hd
  have HCL := hid hcl
  clear hW hB h hcl hrW hd
  go_enter Tryd.func36, Tryd.ntmps36
  go_upto_region 1 with fail
  rw [show w.alloc (.cells #[fnR] 77) = W from HW.out]
  clear HW
  have HZ := hid hz
  clear hz
  go_upto_region 2 with (refine appAll (v := nilS) (S := fun _ => False) (k := 1) (t := 52) (n := 0) (m := d.length) (c := cap) (xs := []) (us := d.map (·.1)) (ao := ao) (.const nilS) (.tmp 6) 31 rfl rfl rfl rfl Tryd.underlying31 infACTS rfl (by omega) (by omega) (Rw.nil _ _ _ _) (by simp) HA.out H1.out (by omega) ?_; intro v5 w1 hap hrw; have HAP := hid hap; have HRW := hid hrw; clear hap hrw)
  have hown : ∀ k, v5.ownBlock = some k → W.heap.size ≤ k := fun k hk => by
    rcases HRW.out.own k hk with e | e
    · exact e.elim
    · exact e
  have hb1 : Below W.heap.size W w1 := ⟨HAP.out.os, HAP.out.tape, HAP.out.output, HAP.out.size, fun k hk => HAP.out.block k hk (by simp [Value.ownBlock])⟩
  have hc1 : w1.cell? ⟨w.heap.size, 0, none⟩ = some fnR := cell_on hb1 HCL.out
  have hRW : Rw (fun b => W.heap.size ≤ b) 1 52 w1 v5 d.length (d.map (·.1)) := by
    have := HRW.out
    rw [Nat.zero_add, List.nil_append] at this
    exact this.carry fun b _ hS => ⟨hS.elim (fun h => h.elim) id, rfl⟩
  have hB1 := HB.out.trans (hb1.mono (by have := HZ.out; omega))
  have HB1 := hid hB1
  have HS := hid (sortR_any w1 v5 d hRW (fun x hx => (HD.out x hx).on hB1) (fun b hb e => by have := hown b e; have := hT b hb; have := HZ.out; omega) hn)
  have HO := hid hown
  have HC1 := hid hc1
  clear HRW hRW HAP hown hb1 HA hB1
  go_upto_region 3 with (go_at_call 51; refine (HS.out).mono ?_; rintro e w2 ⟨rfl, ds, q1, q2, q3, q4⟩; have HQ := hid (And.intro q1 (And.intro q2 (And.intro q3 q4))); clear q1 q2 q3 q4 HS)
  obtain ⟨q1, q2, q3, q4⟩ := HQ.out
  have hlen := q1.length_eq
  have hb2 : Below (w.heap.size + 1) w1 w2 := q3.mineB (fun k hk => by have := HO.out k hk; have := HZ.out; omega) (by have := HB1.out.size; have := HZ.out; have := cell_lt HC1.out; omega)
  have hc2 : w2.cell? ⟨w.heap.size, 0, none⟩ = some fnR := (cell_same (hb2.block _ (by omega))).trans HC1.out
  have hB2 := HB1.out.trans (hb2.mono (Nat.le_succ _))
  have HC := hid (cpcR_any w2 v5 ds w.heap.size (by rw [hlen]; exact q4) (fun x hx => (HD.out x (q1.mem_iff.1 hx)).on hB2) (fun b hb e => by have := HO.out b e; have := hT b hb; have := HZ.out; omega) hc2 (fun e => by have := HO.out _ e; have := HZ.out; omega) (by omega))
  have HB2 := hid hB2
  have HP := hid (And.intro q1 q2)
  clear HQ q1 q2 q3 q4 hlen hb2 hc2 hc1 hB2
  go_wp2_with (go_at_call 52; refine (HC.out).mono ?_; rintro e w3 ⟨v3, rfl, p1, p2, p3, p4⟩; have HR := hid (And.intro p1 (And.intro p2 (And.intro p3 p4))); clear p1 p2 p3 p4 HC)
  go_ret
  obtain ⟨p1, p2, p3, p4⟩ := HR.out
  exact ⟨v3, ds, rfl, HB2.out.trans (p2.mineB (fun k hk => by have := HO.out k hk; have := HZ.out; omega) HB2.out.size), HP.out.1, HP.out.2, p3.carry fun b _ hS => ⟨by have := HZ.out; omega, rfl⟩, p4⟩
end Go.Proofs.YtggbokghhohofaaDoor
