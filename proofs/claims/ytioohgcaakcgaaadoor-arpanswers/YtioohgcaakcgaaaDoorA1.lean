/-
  Proved here: bytes are appended to a slice that is nil or the call's own; appendNumber of package frame and the document's number append a number's lowest bytes, the greatest first. Conditions: at most 8 bytes; the slice is nil or the call's own, of at most 4096 bytes.
-/
import Derived.Test.YtioohgcaakcgaaaDoorB1
import Derived.ArgAppend
namespace Go.Proofs.YtioohgcaakcgaaaDoor
open Go.RowKit
theorem info5 : (Tryd.prog.info? 5).map (fun i => (i.zero, i.size, i.bytes)) = some (some (.int .u8 0), 1, 1) := by kernel_rfl

theorem dg_at (n : Int) : ∀ (k j : Nat), j < k → (dg n k)[j]? = some (n / 2 ^ (8 * (k - 1 - j)) % 256)
  | 0, _, h => absurd h (by omega)
  | k + 1, 0, _ => by simp [dg]
  | k + 1, j + 1, h => by
    simp only [dg, List.getElem?_cons_succ]
    rw [dg_at n k j (by omega)]
    congr 4
    omega
theorem take_step (n : Int) (k j : Nat) (h : j < k) : (dg n k).take (j + 1) = (dg n k).take j ++ [n / 2 ^ (8 * (k - 1 - j)) % 256] := by
  rw [List.take_add_one, dg_at n k j h]; rfl
theorem take_all (n : Int) (k : Nat) : (dg n k).take k = dg n k := List.take_of_length_le (by rw [dg_len]; exact Nat.le_refl _)

/-- Bytes are appended. -/
theorem run_app {base B : Nat} {w : World} {v u : Value} {xs zs : List Int} (ty : TypeId) (hown : Owns base w v xs) (hs : Sl B w u zs) (hbase : base ≤ w.heap.size) (hlen : xs.length + zs.length ≤ 140737488355328) :
    ∃ v' w', (Builtin.append_ #[25, 25] ty #[v, u]).run Tryd.prog w = .ok v' w' ∧ Ext base w v w' v' (xs ++ zs) := by
  obtain ⟨i, hi, hz0, hz1, hz2⟩ := info_parts info5
  have em : (xs ++ zs).map (Value.int .u8) = xs.map (Value.int .u8) ++ zs.map (Value.int .u8) := List.map_append
  have el : (xs ++ zs).length = xs.length + zs.length := List.length_append
  obtain ⟨ao, c, rfl, hc1, hc2, hB, hnil, hcells⟩ := hs
  cases ao with
  | none =>
    have hc0 := hnil rfl
    have hz : zs = [] := List.length_eq_zero_iff.1 (by omega)
    subst hz
    subst hc0
    refine ⟨v, w, run_append_owned_none w base 25 ty 5 i 1 Tryd.underlying25 hi v _ _ hown, ?_⟩
    rw [List.append_nil]
    exact Ext.refl hown
  | some ad =>
    have hnews : ∀ j u, (zs.map (Value.int .u8))[j]? = some u → w.cell? (ad.add j) = some u := by
      intro j u hu
      have hj : j < zs.length := by
        have := (List.getElem?_eq_some_iff.1 hu).1
        simpa using this
      obtain ⟨b, o, _, e, hcl⟩ := hcells (fun e => by subst e; simp at hj)
      simp only [Option.some.injEq] at e
      subst e
      rw [Addr.add_mid, hcl j hj, ← hu, List.getElem?_map, List.getD_eq_getElem?_getD, List.getElem?_eq_getElem hj]; rfl
    have hl : (zs.map (Value.int .u8)).length = zs.length * 1 := by simp
    rcases hown.2 with ⟨rfl, h0⟩ | ⟨g, cap, cur, rfl, hbg, hg, hcap, hmax, hsz, htake⟩
    · have hx : xs = [] := List.length_eq_zero_iff.1 h0
      subst hx
      obtain ⟨v', w', hr, h2, h3, _⟩ := run_append_own (P := Tryd.prog) w w.heap.size 25 ty 5 i (.int .u8 0) 1 1 Tryd.underlying25 hi hz0 hz1 hz2 rfl (by decide) nilS 0 [] (World.ownsRow_nil _ _ _ _) ad zs.length c (zs.map (Value.int .u8)) hl hnews (ints_oneCell _ _) (by unfold maxLen; omega) (by omega) (Nat.le_refl _)
      refine ⟨v', w', hr, ?_, h3, fun k hk hlt => ?_⟩
      · have h2' : w'.ownsRow w.heap.size 5 1 v' zs.length (zs.map (Value.int .u8)) := by simpa using h2
        refine ⟨by simp, ?_⟩
        rcases h2'.2 with ⟨rfl, e⟩ | ⟨g', cap', cur', rfl, hb', r⟩
        · exact Or.inl ⟨rfl, by simpa using e⟩
        · exact Or.inr ⟨g', cap', cur', by simp, by omega, by simpa using r⟩
      · exact absurd (h2.lt k hk).1 (by omega)
    · by_cases hroom : xs.length + zs.length ≤ cap
      · obtain ⟨w', hr, h2, h3⟩ := run_append_fits (P := Tryd.prog) w base 25 ty 5 i 1 Tryd.underlying25 hi hz1 g xs.length cap _ hown ad zs.length c (zs.map (Value.int .u8)) hl hnews (ints_oneCell _ _) hroom
        refine ⟨_, w', hr, ?_, h3, fun k hk _ => hk⟩
        unfold Owns
        rw [em, el]; exact h2
      · obtain ⟨v', w', hr, h2, h3⟩ := run_append_arg_grows (P := Tryd.prog) w 25 ty 5 i (.int .u8 0) 1 1 Tryd.underlying25 hi hz0 hz1 hz2 rfl (by decide) ⟨g, 0, none⟩ xs.length cap (xs.map (Value.int .u8)) (by simp) (hown.cells rfl) ad zs.length c (zs.map (Value.int .u8)) hl hnews (by omega) (by unfold maxLen; omega) (by omega)
        refine ⟨v', w', hr, ?_, ⟨h3.os, h3.tape, h3.output, h3.size, fun k hk _ => h3.block k hk (by simp)⟩, fun k hk hlt => absurd (h2.lt k hk).1 (by omega)⟩
        unfold Owns
        rw [em, el]
        refine ⟨h2.1, ?_⟩
        rcases h2.2 with h' | ⟨g', cap', cur', e', hb', r⟩
        · exact Or.inl h'
        · exact Or.inr ⟨g', cap', cur', e', by omega, r⟩

/-- Bytes are appended, in a walk. -/
theorem app22 {ops : Array Oper} {rest : List Oper} {o : Oper} {a : Act} {w : World} {Q : Exit → Act → World → Prop} (s x : Operand) (ho : o.op = .call { callee := .builtin .append, args := #[s, x], argTypes := #[25, 25] })
    (hw : Region.wanted o (yielded ops a.tmps) = true) {base B : Nat} {v u : Value} {xs zs : List Int} (hs : a.eval s = v) (hx : a.eval x = u) (hown : Owns base w v xs) (hsl : Sl B w u zs) (hbase : base ≤ w.heap.size) (hlen : xs.length + zs.length ≤ 140737488355328)
    (h : ∀ v' w', Ext base w v w' v' (xs ++ zs) → wpList Tryd.prog ops Q rest (a.put o.dst v') w') : wpList Tryd.prog ops Q (o :: rest) a w := by
  obtain ⟨v', w', hr, hE⟩ := run_app (ty := o.type) hown hsl hbase hlen
  unfold wpList
  rw [if_pos hw]
  refine Or.inl ?_
  unfold Oper.wp execOp
  simp only [ho, resolve, invoke, builtin, Sem.run_bind, Sem.run_pure, Result.andThen_ok, List.map_toArray, List.map_cons, List.map_nil, hs, hx, hr]
  exact h v' w' hE
/-- One new byte in a block of its own. -/
theorem sl_one (w : World) (x : Int) (h0 : 0 ≤ x) (h1 : x < 256) : Sl (w.heap.size + 1) (w.alloc (.cells #[.int .u8 x] 5)) (.slice (some ⟨w.heap.size, 0, none⟩) 1 1) [x] :=
  ⟨_, 1, rfl, by simp, by simp, IsB.cons h0 h1 IsB.nil, (fun h => by cases h), fun _ => ⟨w.heap.size, 0, by omega, rfl, fun j hj => by
    have : j = 0 := by simpa using hj
    subst this; simp⟩⟩

theorem Ext.step {base : Nat} {w wr w' : World} {v u v' : Value} {xs : List Int} {x : Int} {o : Obj} (hE : Ext base w v wr u xs) (h : Ext base (wr.alloc o) u w' v' (xs ++ [x])) : Ext base w v w' v' (xs ++ [x]) := hE.trans (h.allocFirst hE.own)
set_option maxHeartbeats 400000 in
/-- WHAT appendNumber APPENDS. -/
theorem apn_any (base k : Nat) (n : Int) (v : Value) (xs : List Int) (w : World) (hk : k ≤ 8) (hown : Owns base w v xs) (hlen : xs.length ≤ 4096) (hbase : base ≤ w.heap.size) :
    Calls Tryd.prog 50 #[v, .int .i64 k, .int .u64 n] w fun e w' => ∃ v', e = .returned v' ∧ Ext base w v w' v' (xs ++ dg n k) := by
  go_enter Tryd.func50, Tryd.ntmps50
  go_wp2
  go_loopw [0, 7] (fun b s wr => ∃ j : Nat, j ≤ k ∧ s = .int .i64 (8 * ((k : Int) - 1 - j)) ∧ Ext base w v wr b (xs ++ (dg n k).take j)) (fun _ s _ => (intOf s + 8).toNat)
  case atStart => exact ⟨0, by omega, by go_num, by simpa using Ext.refl hown⟩
  case round =>
    obtain ⟨j, hj, rfl, hE⟩ := hrel
    have hb2 := Nat.le_trans hbase hE.grown.size
    have hl2 : (xs ++ (dg n k).take j).length ≤ 4104 := by simp only [List.length_append, List.length_take, dg_len]; omega
    by_cases hlt : j < k
    · have HE : Hid (Ext base w v wr u0 (xs ++ (dg n k).take j)) := hE
      clear hE hown
      go_wp2_with (at_builtin; refine app22 (.tmp 15) (.tmp 20) rfl rfl rfl rfl (HE.out.own.alloc _) (sl_one wr _ (Int.emod_nonneg _ (by omega)) (Int.emod_lt_of_pos _ (by omega))) (by simp; omega) (by simp only [List.length_cons, List.length_nil]; omega) ?_; intro v' w' hE1)
      have R := HE.out.step hE1
      rw [List.append_assoc, ← take_step n k j hlt] at R
      have HR : Hid (Ext base w v w' v' (xs ++ (dg n k).take (j + 1))) := R
      clear R hE1 HE
      go_wp2
      go_roundw
      case rel => exact ⟨j + 1, by omega, by go_num, HR.out⟩
      case measure => simp [intOf]; omega
    · obtain rfl : j = k := by omega
      rw [take_all] at hE
      go_wp2
      go_ret
      exact ⟨u0, rfl, hE⟩

set_option maxHeartbeats 400000 in
/-- WHAT THE DOCUMENT's number APPENDS. -/
theorem put_any (base k : Nat) (n : Int) (v : Value) (xs : List Int) (w : World) (hk : k ≤ 8) (hown : Owns base w v xs) (hlen : xs.length ≤ 4096) (hbase : base ≤ w.heap.size) :
    Calls Tryd.prog 24 #[v, .int .u64 n, .int .i64 k] w fun e w' => ∃ v', e = .returned v' ∧ Ext base w v w' v' (xs ++ dg n k) := by
  go_enter Tryd.func24, Tryd.ntmps24
  go_wp2
  go_loopw [0, 7] (fun b s wr => ∃ j : Nat, j ≤ k ∧ s = .int .i64 ((k : Int) - 1 - j) ∧ Ext base w v wr b (xs ++ (dg n k).take j)) (fun _ s _ => (intOf s + 1).toNat)
  case atStart => exact ⟨0, by omega, by go_num, by simpa using Ext.refl hown⟩
  case round =>
    obtain ⟨j, hj, rfl, hE⟩ := hrel
    have hb2 := Nat.le_trans hbase hE.grown.size
    have hl2 : (xs ++ (dg n k).take j).length ≤ 4104 := by simp only [List.length_append, List.length_take, dg_len]; omega
    by_cases hlt : j < k
    · have HE : Hid (Ext base w v wr u0 (xs ++ (dg n k).take j)) := hE
      clear hE hown
      go_wp2_with (at_builtin; refine app22 (.tmp 14) (.tmp 20) rfl rfl rfl rfl (HE.out.own.alloc _) (sl_one wr _ (Int.emod_nonneg _ (by omega)) (Int.emod_lt_of_pos _ (by omega))) (by simp; omega) (by simp only [List.length_cons, List.length_nil]; omega) ?_; intro v' w' hE1)
      have R := HE.out.step hE1
      rw [List.append_assoc, ← take_step n k j hlt] at R
      have HR : Hid (Ext base w v w' v' (xs ++ (dg n k).take (j + 1))) := R
      clear R hE1 HE
      go_wp2
      go_roundw
      case rel => exact ⟨j + 1, by omega, by go_num, HR.out⟩
      case measure => simp [intOf]; omega
    · obtain rfl : j = k := by omega
      rw [take_all] at hE
      go_wp2
      go_ret
      exact ⟨u0, rfl, hE⟩
end Go.Proofs.YtioohgcaakcgaaaDoor
