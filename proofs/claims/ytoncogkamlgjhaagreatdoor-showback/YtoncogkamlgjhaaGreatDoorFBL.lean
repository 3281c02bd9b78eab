/-
  Proved here: Policy of package parse tells what 'prs' says: a policy in new memory, or a fault. Condition: the laid variables.
-/
import Derived.Test.YtoncogkamlgjhaaGreatDoorFBK
namespace Go.Proofs.YtoncogkamlgjhaaGreatDoor
set_option maxRecDepth 100000
open Go.RowKit
set_option maxRecDepth 100000

/-- What Policy answers. -/
def PlP (s : ByteArray) (w : World) (e : Ending) (w' : World) : Prop :=
  Below w.heap.size w w' ∧ match prs s with
  | .ok p => ∃ cs, e = .returned (.tuple #[.agg cs, .nilIface]) ∧ PoV (fun b => w.heap.size ≤ b) w' p cs
  | .no c a t => ∃ N, e = .returned (.tuple #[.agg pz, .iface 54 (ptr N)]) ∧ w.heap.size ≤ N ∧ w'.heap[N]? = some (.cells (flc c a t) 56 (0, 0))
theorem res_an {cs : Array Value} {v : Value} {P : Nat} {w : World} (hA : An P cs v w) (hs : (Tryz.prog.info? 29).map (·.size) = some cs.size) (tmps : Array Value) (hp : tmps.getD 2 undef = ptr P) (hq : tmps.getD 3 undef = ptr (P + 1)) :
    (results Tryz.f6 tmps).run Tryz.prog w = .ok (.tuple #[.agg cs, v]) w := by
  have hp' : tmps[2]?.getD undef = ptr P := by simpa using hp
  have hq' : tmps[3]?.getD undef = ptr (P + 1) := by simpa using hq
  have c1 := cell_of_one hA.e
  have h1 : (loadVar 35 ⟨P + 1, 0, none⟩).run Tryz.prog w = .ok v w := by simp [loadVar, go_sem, c1]
  have h0 : (loadVar 29 ⟨P, 0, none⟩).run Tryz.prog w = .ok (.agg cs) w := run_loadVar_row w P 29 29 _ (0, 0) _ hA.p Tryz.underlying29 rfl hs
  simp [results, Tryz.results6, hp', hq', asAddr, h0, h1]
theorem An.one {P : Nat} {cs : Array Value} {v : Value} {w : World} (h : An P cs v w) : w.cell? ⟨P + 1, 0, none⟩ = some v := cell_of_one h.e
theorem Sp.ldE {ops : Array Oper} {Q : Exit → Act → World → Prop} {o : Oper} {a : Act} {w : World} {K : Act → World → Prop} (x : Operand) (hop : o.op = .load 35 x) (hg : o.guard = none) (b : Nat) (t : TypeId) (p : Value) (hx : a.eval x = .pointer (some ⟨b, 0, none⟩)) (hc : w.cell? ⟨b, 0, none⟩ = some (.iface t p)) (hk : K (a.put o.dst (.iface t p)) w) : Sp ops Q o a w K := by
  refine ⟨by simp [Region.wanted, hg], ?_⟩
  unfold Oper.wp execOp
  simp only [hop, hx]
  go_simp
  exact hk
structure Er (P : Nat) (v : Value) (w : World) : Prop where
  c : w.cell? ⟨P + 1, 0, none⟩ = some v
theorem fil_adv {l : List Wd} (hc : Cl l) : Adw l 0 (fil l) := by
  unfold fil
  refine ((ps_adv hc l.length).1 0 hc.pos).bind fun m i hi hl => ?_
  have h := qrs_adv hc (ps_adv hc l.length).2.1 l.length i [] hl
  cases hq : qrs l (ps l l.length).pred l.length i [] with
  | bad j => rw [hq] at h; have := h.2 j rfl; exact .bad (by omega) this.2
  | ok qs j =>
    rw [hq] at h
    have := h.1 qs j rfl
    show Adw l 0 (if _ then _ else _)
    split
    · exact .ok (by omega) this.2
    · exact .bad (by omega) this.2
theorem run_brd (ao : Option Addr) (n c m : Nat) (W : World) : (Instr.build 50 #[(0, .slice ao n c), (2, .map (some m))]).run Tryz.prog W = .ok (.agg #[.slice ao n c, .int .i64 0, .map (some m)]) W := by kernel_rfl
theorem run_bf2 (W : World) : (Instr.build 56 #[(0, .int .i64 200)]).run Tryz.prog W = .ok (.agg #[.int .i64 200, .int .i64 0, .string ⟨#[]⟩]) W := by kernel_rfl
set_option maxHeartbeats 6400000 in
theorem policy_any (s : ByteArray) (w : World) (ht : Tab0 w) (hbig : s.size ≤ 9223372036854775806) : Calls Tryz.prog 6 #[.string s] w (PlP s w) := by
  obtain ⟨W1, hW1⟩ : ∃ W1, W1 = (w.alloc (.cells pz 29)).alloc (.cells #[.nilIface] 35) := ⟨_, rfl⟩
  have hb1 : Below w.heap.size w W1 := by rw [hW1]; exact ((Below.refl _ _).alloc (Nat.le_refl _) _).alloc (by simp) _
  have hA1 : An w.heap.size pz .nilIface W1 := by rw [hW1]; exact ⟨heap_alloc2_old _ _ _, heap_alloc2_new _ _ _⟩
  have hz1 : W1.heap.size = w.heap.size + 2 := by rw [hW1]; simp
  have HE : Hid ((w.alloc (.cells #[.int .i8 0, .int .i8 0, .int .u64 0, .slice none 0 0, .slice none 0 0] 29)).alloc (.cells #[.nilIface] 35) = W1) := hW1.symm
  have HAl := hid (all_any s W1 (ht.on hb1) hbig)
  have HB1 := hid hb1
  have HA1 := hid hA1
  clear hW1 hA1 hb1 ht
  have hmf : ∀ (fn : Fn) (first cap : Array Value) (w : World), (Instr.makeFunc fn first cap).run Tryz.prog w = .ok (.func fn first cap) w := fun _ _ _ _ => rfl
  go_enter_defers Tryz.func6, Tryz.ntmps6
  go_upto_region 1 with fail
  rw [show (w.alloc (.cells #[.int .i8 0, .int .i8 0, .int .u64 0, .slice none 0 0, .slice none 0 0] 29)).alloc (.cells #[.nilIface] 35) = W1 from HE.out]
  clear HE
  cases hs : all s with
  | no c a t =>
    have HJ : Hid (prs s = .no c a t) := by show _ = _; unfold prs; rw [hs]
    have HAn : Hid (Calls Tryz.prog 11 #[.string s] W1 fun e w' => Below W1.heap.size W1 w' ∧ ∃ N, e = .returned (.tuple #[nilS, .iface 54 (.pointer (some ⟨N, 0, none⟩))]) ∧ W1.heap.size ≤ N ∧ w'.heap[N]? = some (.cells (flc c a t) 56 (0, 0))) := by
      have := HAl.out
      unfold AlP at this
      rw [hs] at this
      exact this
    clear HAl hs
    go_upto_region 3 with (first
      | (go_at_call 11; refine (HAn.out).mono ?_; rintro e w2 ⟨h1, N, rfl, h2, h3⟩
         have HX := hid (And.intro h1 (And.intro h2 h3)); have HA2 := hid (HA1.out.bel h1); have HA3 := hid ((HA1.out.bel h1).setE (.iface 54 (ptr N))); have hce := HA3.out.one; clear h1 h2 h3)
      | (refine stOne 35 (.tmp 3) (.tmp 10) rfl rfl (w.heap.size + 1) rfl (.iface 54 (ptr N)) rfl rfl 35 _ HA2.out.e (by kernel_rfl) ?_))
    have HA4 : Hid (An w.heap.size pz (.iface 54 (ptr N)) (w2.setRow (w.heap.size + 1) #[.iface 54 (ptr N)]).drew) := ⟨HA3.out.p, HA3.out.e⟩
    have hNl := (Array.getElem?_eq_some_iff.1 HX.out.2.2).1
    have hz2 := HX.out.1.size
    have HN4 : Hid ((w2.setRow (w.heap.size + 1) #[.iface 54 (ptr N)]).drew.heap[N]? = some (.cells (flc c a t) 56 (0, 0))) := (setRow_other w2 (w.heap.size + 1) N _ (by have := HX.out.2.1; omega)).trans HX.out.2.2
    have HB4 : Hid (Below w.heap.size w (w2.setRow (w.heap.size + 1) #[.iface 54 (ptr N)]).drew) := bel_drew (bel_row (HB1.out.trans (HX.out.1.mono (by omega))) (by omega) _)
    have hNn := HX.out.2.1
    clear HX HA3 HA2 hce HAn
    generalize (w2.setRow (w.heap.size + 1) #[.iface 54 (ptr N)]) = w3 at HA4 HN4 HB4 ⊢
    have hA5 := HA4.out.setP pz
    have hA6 := hA5.setE (.iface 54 (ptr N))
    have HA6 := hid hA6
    have HX : Hid (PlP s w (.returned (.tuple #[.agg pz, .iface 54 (ptr N)])) ((w3.drew.setRow w.heap.size pz).setRow (w.heap.size + 1) #[.iface 54 (ptr N)])) := by
      unfold PlP
      rw [HJ.out]
      exact ⟨bel_row (bel_row HB4.out (Nat.le_refl _) _) (by omega) _, N, rfl, by omega, (setRow_other _ _ N _ (by omega)).trans ((setRow_other _ _ N _ (by omega)).trans HN4.out)⟩
    refine wp_region_held_drew (S := (fun _ => True)) (by kernel_rfl) trivial (fun hHeld => ?_)
    refine an2 0 1 _ _ (by kernel_rfl) rfl rfl ?_ ?_
    · skip
      refine Sp.run rfl (.agg pz) _ (runBd (us := #[]) _ rfl (by kernel_rfl) (run_bpz _)) ?_
      refine ⟨trivial, ?_⟩
      simp only [Act.put, List.getElem_toArray, List.getElem_cons_zero, List.setIfInBounds_toArray, List.set_cons_zero, List.set_cons_succ]
      refine an2 1 2 _ _ (by kernel_rfl) rfl rfl ?_ ?_
      · skip
        refine Sp.ldE (.tmp 3) rfl rfl (w.heap.size + 1) 54 (ptr N) rfl HA4.out.one ?_
        refine ⟨trivial, ?_⟩
        simp only [Act.put, List.getElem_toArray, List.getElem_cons_succ, List.getElem_cons_zero, List.setIfInBounds_toArray, List.set_cons_zero, List.set_cons_succ]
        refine an1 2 _ (by kernel_rfl) rfl ?_
        refine Sp.stP (.tmp 2) (.tmp 13) rfl rfl w.heap.size rfl rfl rfl HA4.out.p ?_
        refine ⟨trivial, ?_⟩
        simp only [Act.put, List.getElem_toArray, List.getElem_cons_succ, List.getElem_cons_zero]
        refine an1 3 _ (by kernel_rfl) rfl ?_
        refine Sp.st1 35 (.tmp 3) (.tmp 14) rfl rfl (w.heap.size + 1) rfl (.iface 54 (ptr N)) rfl rfl 35 _ hA5.e (by kernel_rfl) ?_
        refine ⟨trivial, ?_⟩
        simp only [Act.put, List.getElem_toArray, List.getElem_cons_succ, List.getElem_cons_zero]
        refine wpAnyH_done (by kernel_rfl) ?_ _
        go_wp2
        exact ⟨_, res_an hA6 sizePO _ rfl rfl, HX.out⟩
      · skip
        refine Sp.stP (.tmp 2) (.tmp 13) rfl rfl w.heap.size rfl rfl rfl HA4.out.p ?_
        refine ⟨trivial, ?_⟩
        simp only [Act.put, List.getElem_toArray, List.getElem_cons_succ, List.getElem_cons_zero]
        refine an1 1 _ (by kernel_rfl) rfl ?_
        refine Sp.ldE (.tmp 3) rfl rfl (w.heap.size + 1) 54 (ptr N) rfl hA5.one ?_
        refine ⟨trivial, ?_⟩
        simp only [Act.put, List.getElem_toArray, List.getElem_cons_succ, List.getElem_cons_zero, List.setIfInBounds_toArray, List.set_cons_zero, List.set_cons_succ]
        refine an1 3 _ (by kernel_rfl) rfl ?_
        refine Sp.st1 35 (.tmp 3) (.tmp 14) rfl rfl (w.heap.size + 1) rfl (.iface 54 (ptr N)) rfl rfl 35 _ hA5.e (by kernel_rfl) ?_
        refine ⟨trivial, ?_⟩
        simp only [Act.put, List.getElem_toArray, List.getElem_cons_succ, List.getElem_cons_zero]
        refine wpAnyH_done (by kernel_rfl) ?_ _
        go_wp2
        exact ⟨_, res_an hA6 sizePO _ rfl rfl, HX.out⟩
    · skip
      refine Sp.ldE (.tmp 3) rfl rfl (w.heap.size + 1) 54 (ptr N) rfl HA4.out.one ?_
      refine ⟨trivial, ?_⟩
      simp only [Act.put, List.getElem_toArray, List.getElem_cons_succ, List.getElem_cons_zero, List.setIfInBounds_toArray, List.set_cons_zero, List.set_cons_succ]
      refine an1 0 _ (by kernel_rfl) rfl ?_
      refine Sp.run rfl (.agg pz) _ (runBd (us := #[]) _ rfl (by kernel_rfl) (run_bpz _)) ?_
      refine ⟨trivial, ?_⟩
      simp only [Act.put, List.getElem_toArray, List.getElem_cons_zero, List.setIfInBounds_toArray, List.set_cons_zero, List.set_cons_succ]
      refine an1 2 _ (by kernel_rfl) rfl ?_
      refine Sp.stP (.tmp 2) (.tmp 13) rfl rfl w.heap.size rfl rfl rfl HA4.out.p ?_
      refine ⟨trivial, ?_⟩
      simp only [Act.put, List.getElem_toArray, List.getElem_cons_succ, List.getElem_cons_zero]
      refine an1 3 _ (by kernel_rfl) rfl ?_
      refine Sp.st1 35 (.tmp 3) (.tmp 14) rfl rfl (w.heap.size + 1) rfl (.iface 54 (ptr N)) rfl rfl 35 _ hA5.e (by kernel_rfl) ?_
      refine ⟨trivial, ?_⟩
      simp only [Act.put, List.getElem_toArray, List.getElem_cons_succ, List.getElem_cons_zero]
      refine wpAnyH_done (by kernel_rfl) ?_ _
      go_wp2
      exact ⟨_, res_an hA6 sizePO _ rfl rfl, HX.out⟩
  | ok l =>
    have hok := all_wok hs
    have HJ : Hid (prs s = rdW l) := by show _ = _; unfold prs; rw [hs]
    have HAn : Hid (Calls Tryz.prog 11 #[.string s] W1 fun e w' => Below W1.heap.size W1 w' ∧ ∃ ao cap, e = .returned (.tuple #[.slice ao l.length cap, .nilIface]) ∧ Wds (fun b => W1.heap.size ≤ b) w' (.slice ao l.length cap) l) := by
      refine HAl.out.mono ?_
      intro e w' h
      unfold AlP at h
      rw [hs] at h
      obtain ⟨h1, v, h2, h3⟩ := h
      obtain ⟨ao, cap, rfl⟩ := h3.form
      exact ⟨h1, ao, cap, h2, h3⟩
    clear HAl hs
    go_upto_region 4 with (first
      | (go_at_call 11; refine (HAn.out).mono ?_; rintro e w2 ⟨h1, ao, cap, rfl, h2⟩
         have HX := hid (And.intro h1 h2); have HA2 := hid (HA1.out.bel h1); have HA3 := hid ((HA1.out.bel h1).setE .nilIface); have hce := HA3.out.one; clear h1 h2)
      | (refine stOne 35 (.tmp 3) (.tmp 10) rfl rfl (w.heap.size + 1) rfl .nilIface rfl rfl 35 _ HA2.out.e (by kernel_rfl) ?_))
    have hz2 := HX.out.1.size
    have HW3 : Hid (Wds (fun b => w.heap.size ≤ b) (w2.setRow (w.heap.size + 1) #[.nilIface]) (.slice ao l.length cap) l) := HX.out.2.carry fun b hb hS => ⟨by omega, setRow_other w2 (w.heap.size + 1) b _ (by omega)⟩
    have HB3 : Hid (Below w.heap.size w (w2.setRow (w.heap.size + 1) #[.nilIface])) := bel_row (HB1.out.trans (HX.out.1.mono (by omega))) (by omega) _
    clear HX HA2 HAn hce
    generalize w2.setRow (w.heap.size + 1) #[.nilIface] = w3 at HA3 HW3 HB3 ⊢
    have HNm := hid (names_any w3)
    have hbr := fun W => run_brd ao l.length cap w3.heap.size W
    go_upto_region 5 with (go_at_call 12; refine (HNm.out).mono ?_; rintro e w4 ⟨rfl, h1⟩; have HL4 := hid h1; clear h1)
    have hz3 := HB3.out.size
    have hPl3 := (Array.getElem?_eq_some_iff.1 HA3.out.e).1
    have hb5 : Below w3.heap.size w3 (w4.alloc (.cells #[.slice ao l.length cap, .int .i64 0, .map (some w3.heap.size)] 50)) := HL4.out.low.alloc (by have := HL4.out.low.size; omega) _
    have hN5 : (w4.alloc (.cells #[.slice ao l.length cap, .int .i64 0, .map (some w3.heap.size)] 50)).heap[w4.heap.size]? = some (.cells #[.slice ao l.length cap, .int .i64 0, .map (some w3.heap.size)] 50 (0, 0)) := heap_alloc_new _ _
    have hz4 : w3.heap.size < w4.heap.size := by have := HL4.out.size; omega
    have hR5 : RdM l w4.heap.size w3.heap.size (.slice ao l.length cap) 0 (w4.alloc (.cells #[.slice ao l.length cap, .int .i64 0, .map (some w3.heap.size)] 50)) := by
      obtain ⟨n, hn, hm⟩ := HL4.out.mp
      exact ⟨hN5, HW3.out.carry fun b hb hS => ⟨by omega, hb5.block b hb⟩, ⟨n, hm.carry (heap_alloc_old _ _ (by omega))⟩, by omega⟩
    have hA5 := HA3.out.bel hb5
    have hB5 : Below w.heap.size w (w4.alloc (.cells #[.slice ao l.length cap, .int .i64 0, .map (some w3.heap.size)] 50)) := HB3.out.trans (hb5.mono hz3)
    have hz5 : w4.heap.size < (w4.alloc (.cells #[.slice ao l.length cap, .int .i64 0, .map (some w3.heap.size)] 50)).heap.size := by simp
    have HR5 := hid hR5
    have HA5 := hid hA5
    have HB5 := hid hB5
    clear hR5 hA5 hB5 hb5 hN5 HL4 HNm hbr HA3 HW3 HB3
    generalize w4.alloc (.cells #[.slice ao l.length cap, .int .i64 0, .map (some w3.heap.size)] 50) = w5 at HR5 HA5 HB5 hz5 ⊢
    generalize w4.heap.size = r at HR5 hz5 hz4 ⊢
    generalize w3.heap.size = m at HR5 hz4 hz3 hPl3 ⊢
    have hrP : w.heap.size + 1 < r := by omega
    go_upto_region 6 with fail
    have HC := hid (file_any HR5.out hok.len hok.cl hok.ts)
    have HOk := hid hok
    clear hok hmf
    cases hf : fil l with
    | bad j =>
      have HJ2 : Hid (prs s = .no 160 (wat l j).at' (wat l j).t) := by show _ = _; rw [HJ.out]; unfold rdW; rw [hf]
      have hjl : j < l.length := ((fil_adv HOk.out.cl).2 j hf).2
      have HCb : Hid (Calls Tryz.prog 15 #[ptr r] w5 fun e w' => e = .panicked PC ∧ Only (Rn r w5) w5 w' ∧ RdM l r m (.slice ao l.length cap) j w') := by
        refine HC.out.mono ?_
        intro e w' h
        unfold FlP at h
        rw [hf] at h
        exact ⟨h.2.1, h.1, h.2.2⟩
      clear HC hf
      go_wp2_with (go_at_call 15; refine (HCb.out).mono ?_; rintro e w6 ⟨rfl, h1, h2⟩; have HX := hid (And.intro h1 h2); clear h1 h2)
      have hz6 := HX.out.1.size
      have hA6 : An w.heap.size pz .nilIface w6 := HA5.out.on (HX.out.1.block _ (by rintro (e | e) <;> omega)) (HX.out.1.block _ (by rintro (e | e) <;> omega))
      refine leaves_cons (f := 13) (args := #[ptr r, ptr w.heap.size, ptr (w.heap.size + 1)]) (by simp) (by simp [go_sem]) ?_
      refine (pcatch HX.out.2 hjl HOk.out.len rfl hA6 30 _ []).mono ?_
      rintro e u' w7 ⟨rfl, rfl, N, h1, h2, h3, h4⟩
      refine ⟨_, res_an h1 sizePO _ rfl rfl, ?_⟩
      unfold PlP
      rw [HJ2.out]
      exact ⟨(HB5.out.trans (HX.out.1.below fun k hk => by rcases hk with e | e <;> omega)).trans (h4.below fun k hk => by rcases hk with e | e | e <;> omega), N, rfl, by omega, h3⟩
    | ok p j =>
      have HJ2 : Hid (prs s = if fitsB p = true then .ok p else .no 200 0 ⟨#[]⟩) := by show _ = _; rw [HJ.out]; unfold rdW; rw [hf]
      have HCk : Hid (Calls Tryz.prog 15 #[ptr r] w5 fun e w' => ∃ cs, e = .returned (.agg cs) ∧ Only (Rn r w5) w5 w' ∧ PoV (fun b => w5.heap.size ≤ b) w' p cs) := by
        refine HC.out.mono ?_
        intro e w' h
        unfold FlP at h
        rw [hf] at h
        obtain ⟨h1, cs, h2, h3, h4⟩ := h
        exact ⟨cs, h2, h1, h4⟩
      clear HC hf
      go_upto_region 7 with (first
        | (go_at_call 15; refine (HCk.out).mono ?_; rintro e w6 ⟨cs, rfl, h1, h2⟩
           have hz6 := h1.size
           have HA6 : Hid (An w.heap.size pz .nilIface w6) := HA5.out.on (h1.block _ (by rintro (e | e) <;> omega)) (h1.block _ (by rintro (e | e) <;> omega))
           have HX := hid (And.intro h1 h2)
           clear h1 h2)
        | (refine stRow 29 (.tmp 2) (.tmp 19) rfl rfl w.heap.size cs rfl rfl 29 _ HA6.out.p HX.out.2.info (by rw [HX.out.2.size]; rfl) HX.out.2.one ?_))
      have HA7 := hid (HA6.out.setP cs)
      have hz7 : (w6.setRow w.heap.size cs).heap.size = w6.heap.size := by simp [World.setRow]
      have HB7 : Hid (Below w.heap.size w (w6.setRow w.heap.size cs)) := bel_row (HB5.out.trans (HX.out.1.below fun k hk => by rcases hk with e | e <;> omega)) (Nat.le_refl _) _
      have HP7 : Hid (PoV (fun b => w.heap.size ≤ b ∧ b ≠ w.heap.size ∧ b ≠ w.heap.size + 1 ∧ b < w6.heap.size) (w6.setRow w.heap.size cs) p cs) := HX.out.2.carry fun b hb hS => ⟨⟨by omega, by omega, by omega, hb⟩, setRow_other w6 w.heap.size b _ (by omega)⟩
      clear HX HA6 HCk
      generalize w6.setRow w.heap.size cs = w7 at HA7 HB7 HP7 hz7 ⊢
      have HBg := hid (big_any p cs w7 (HP7.out.carry fun b _ hS => ⟨by omega, rfl⟩))
      cases hfit : fitsB p with
      | true =>
        rw [hfit] at HBg
        have HJ3 : Hid (prs s = .ok p) := by rw [HJ2.out, hfit]; rfl
        clear hfit HJ2
        go_wp2_with (first
          | (refine ldRow 29 (.tmp 2) rfl rfl w.heap.size rfl 29 cs _ Tryz.underlying29 rfl HP7.out.info HA7.out.p ?_)
          | (go_at_call 16; refine (HBg.out).mono ?_; rintro e w8 ⟨rfl, hw⟩; have HA8 := hid (HA7.out.bel hw); have HB8 := hid hw; clear hw)
          | (refine ldRow 29 (.tmp 2) rfl rfl w.heap.size rfl 29 cs _ Tryz.underlying29 rfl HP7.out.info HA8.out.p ?_)
          | (refine stRow 29 (.tmp 2) (.tmp 26) rfl rfl w.heap.size cs rfl rfl 29 _ HA8.out.p HP7.out.info rfl HP7.out.one ?_; have HA9 := hid (HA8.out.setP cs))
          | (refine stOne 35 (.tmp 3) (.const .nilIface) rfl rfl (w.heap.size + 1) rfl .nilIface rfl rfl 35 _ HA9.out.e (by kernel_rfl) ?_))
        have hA10 := HA9.out.setE .nilIface
        refine leaves_cons (f := 13) (args := #[ptr r, ptr w.heap.size, ptr (w.heap.size + 1)]) (by simp) (by simp [go_sem]) ?_
        refine (pcatch_idle _ _ _ _).mono ?_
        rintro e u' w'' ⟨rfl, rfl, rfl⟩
        refine ⟨_, res_an hA10 HP7.out.info _ rfl rfl, ?_⟩
        unfold PlP
        rw [HJ3.out]
        have hz8 := HB8.out.size
        refine ⟨bel_row (bel_row (HB7.out.trans (HB8.out.mono (by have := HB7.out.size; omega))) (Nat.le_refl _) _) (by omega) _, cs, rfl, HP7.out.carry fun b hb hS => ⟨hS.1, ?_⟩⟩
        exact (setRow_other _ _ b _ (by omega)).trans ((setRow_other _ _ b _ (by omega)).trans (HB8.out.block b hb))
      | false =>
        rw [hfit] at HBg
        have HJ3 : Hid (prs s = .no 200 0 ⟨#[]⟩) := by rw [HJ2.out, hfit]; rfl
        have hpz := fun W => run_bpz W
        have hbf := fun W => run_bf2 W
        clear hfit HJ2
        go_wp2_with (first
          | (refine ldRow 29 (.tmp 2) rfl rfl w.heap.size rfl 29 cs _ Tryz.underlying29 rfl HP7.out.info HA7.out.p ?_)
          | (go_at_call 16; refine (HBg.out).mono ?_; rintro e w8 ⟨rfl, hw⟩
             have hbA : Below w8.heap.size w8 (w8.alloc (.cells (flc 200 0 ⟨#[]⟩) 56)) := (Below.refl _ _).alloc (Nat.le_refl _) _
             have HA8 := hid ((HA7.out.bel hw).bel hbA); have HB8 := hid hw
             have HN8 : Hid ((w8.alloc (.cells (flc 200 0 ⟨#[]⟩) 56)).heap[w8.heap.size]? = some (.cells (flc 200 0 ⟨#[]⟩) 56 (0, 0))) := heap_alloc_new _ _
             clear hw hbA)
          | (refine stRow 29 (.tmp 2) (.tmp 22) rfl rfl w.heap.size pz rfl rfl 29 _ HA8.out.p sizePO (by rw [HP7.out.size]; rfl) pz1 ?_; have HA9 := hid (HA8.out.setP pz))
          | (refine stOne 35 (.tmp 3) (.tmp 25) rfl rfl (w.heap.size + 1) rfl (.iface 54 (ptr w8.heap.size)) rfl rfl 35 _ HA9.out.e (by kernel_rfl) ?_))
        have hA10 := HA9.out.setE (.iface 54 (ptr w8.heap.size))
        refine leaves_cons (f := 13) (args := #[ptr r, ptr w.heap.size, ptr (w.heap.size + 1)]) (by simp) (by simp [go_sem]) ?_
        refine (pcatch_idle _ _ _ _).mono ?_
        rintro e u' w'' ⟨rfl, rfl, rfl⟩
        refine ⟨_, res_an hA10 sizePO _ rfl rfl, ?_⟩
        unfold PlP
        rw [HJ3.out]
        have hz8 := HB8.out.size
        have hz0 := HB7.out.size
        have hPl := (Array.getElem?_eq_some_iff.1 HA7.out.e).1
        refine ⟨bel_row (bel_row ((HB7.out.trans (HB8.out.mono hz0)).alloc (by omega) _) (Nat.le_refl _) _) (by omega) _, w8.heap.size, rfl, by omega, ?_⟩
        exact (setRow_other _ _ _ _ (by omega)).trans ((setRow_other _ _ _ _ (by omega)).trans HN8.out)
end Go.Proofs.YtoncogkamlgjhaaGreatDoor
