/-
  Proved here: what an air's memory is (ARf, AR); appending and copying as steps of a region that draws its order, for things of k cells. Condition: fewer than 2 to 31 things.
-/
import Derived.Test.YthgkmbdnkamcoaaX1
import Derived.Test.YthgkmbdnkamcoaaA1
import Derived.Laws.Append
import Derived.Laws.IdiomCopy
import Derived.Laws.CopyOwn
import Derived.Deep.RegionLaw
import Derived.Deep.DeepCutAuto
import Derived.Deep.RegionWith
import Derived.Deep.WholeRow
import Derived.Deep.RegionHeld3
namespace Go.Proofs.Ythgkmbdnkamcoaa
open Go.RowKit

/-- A datagram's cells. -/
def c3 (q : Value × Dg) : List Value := [q.1, .bool q.2.ch, .int .i64 (q.2.pl : Nat)]
def c3s (l : List (Value × Dg)) : List Value := l.flatMap c3
theorem c3s_app (a b : List (Value × Dg)) : c3s (a ++ b) = c3s a ++ c3s b := by simp [c3s]
theorem c3s_one (q : Value × Dg) : c3s [q] = c3 q := by simp [c3s]
theorem c3s_len : ∀ l : List (Value × Dg), (c3s l).length = l.length * 3
  | [] => rfl
  | q :: l => by
    have := c3s_len l
    simp only [c3s] at this
    simp [c3s, c3, this]; omega
theorem c3s_drop : ∀ (l : List (Value × Dg)) (k : Nat), (c3s l).drop (k * 3) = c3s (l.drop k)
  | _, 0 => by simp
  | [], k + 1 => by simp [c3s]
  | q :: l, k + 1 => by
    have := c3s_drop l k
    rw [show (k + 1) * 3 = k * 3 + 3 by omega]
    simpa [c3s, c3] using this
theorem c3s_take : ∀ (l : List (Value × Dg)) (k : Nat), (c3s l).take (k * 3) = c3s (l.take k)
  | _, 0 => by simp [c3s]
  | [], k + 1 => by simp [c3s]
  | q :: l, k + 1 => by
    have := c3s_take l k
    rw [show (k + 1) * 3 = k * 3 + 3 by omega]
    simpa [c3s, c3] using this
theorem c3s_at (l : List (Value × Dg)) (j i : Nat) (hj : j < l.length) (hi : i < 3) : (c3s l)[j * 3 + i]? = (c3 l[j])[i]? := by
  have h := c3s_drop l j
  rw [← List.getElem?_drop, h, List.drop_eq_getElem_cons hj]
  show (c3 l[j] ++ c3s (l.drop (j + 1)))[i]? = _
  rw [List.getElem?_append_left (by simp [c3]; exact hi)]
theorem c3s_erase (l : List (Value × Dg)) (p : Nat) : c3s (l.eraseIdx p) = c3s (l.take p) ++ c3s (l.drop (p + 1)) := by
  rw [List.eraseIdx_eq_take_drop_succ, c3s_app]

/-- The slices of some datagrams hold their bytes, in blocks of T. -/
def Prs (T : Nat → Prop) (w : World) (l : List (Value × Dg)) : Prop := ∀ q ∈ l, SlC T w q.1 q.2.b ∧ q.2.Ok
theorem Prs.carry {T T' : Nat → Prop} {w w' : World} {l : List (Value × Dg)} (h : Prs T w l) (hc : ∀ b, b < w.heap.size → T b → T' b ∧ w'.heap[b]? = w.heap[b]?) : Prs T' w' l := fun q hq => ⟨(h q hq).1.carry hc, (h q hq).2⟩
theorem Prs.app {T : Nat → Prop} {w : World} {l m : List (Value × Dg)} (h : Prs T w l) (k : Prs T w m) : Prs T w (l ++ m) := fun q hq => by
  rcases List.mem_append.1 hq with hq | hq
  · exact h q hq
  · exact k q hq
theorem Prs.one {T : Nat → Prop} {w : World} {q : Value × Dg} (h : SlC T w q.1 q.2.b ∧ q.2.Ok) : Prs T w [q] := fun x hx => by rw [List.mem_singleton.1 hx]; exact h
theorem Prs.sub {T : Nat → Prop} {w : World} {l m : List (Value × Dg)} (h : Prs T w l) (k : ∀ q ∈ m, q ∈ l) : Prs T w m := fun q hq => h q (k q hq)
theorem c3_ones {T : Nat → Prop} {w : World} {l : List (Value × Dg)} (h : Prs T w l) : ∀ x ∈ c3s l, x.oneCell' = true := by
  intro x hx
  obtain ⟨q, hq, hx⟩ := List.mem_flatMap.1 hx
  have h1 := (h q hq).1.one
  simp only [c3, List.mem_cons, List.not_mem_nil, or_false] at hx
  rcases hx with rfl | rfl | rfl
  · exact h1
  · rfl
  · rfl
/-- An air at block g: its own block, the row's (colour 1), what came (2), the bytes (3). -/
structure ARf (S : Nat → Prop) (f : Nat → Nat) (w : World) (g : Nat) (vr vc : Value) (ps qs : List (Value × Dg)) : Prop where
  sg : S g
  fg : f g = 0
  hg : w.heap[g]? = some (.cells #[vr, vc] 47 (0, 0))
  row : Rw (fun k => S k ∧ f k = 1) 3 50 w vr ps.length (c3s ps)
  came : Rw (fun k => S k ∧ f k = 2) 3 50 w vc qs.length (c3s qs)
  pr : Prs (fun k => S k ∧ f k = 3) w ps
  pc : Prs (fun k => S k ∧ f k = 3) w qs
theorem ARf.carry {S T : Nat → Prop} {f f' : Nat → Nat} {w w' : World} {g : Nat} {vr vc : Value} {ps qs : List (Value × Dg)} (h : ARf S f w g vr vc ps qs) (hc : ∀ k, k < w.heap.size → S k → T k ∧ f' k = f k ∧ w'.heap[k]? = w.heap[k]?) : ARf T f' w' g vr vc ps qs := by
  have hq := hc g (Array.getElem?_eq_some_iff.1 h.hg).1 h.sg
  have hs : ∀ i k, k < w.heap.size → (S k ∧ f k = i) → (T k ∧ f' k = i) ∧ w'.heap[k]? = w.heap[k]? := fun i k hk hk2 => by
    have := hc k hk hk2.1
    exact ⟨⟨this.1, this.2.1.trans hk2.2⟩, this.2.2⟩
  exact ⟨hq.1, hq.2.1.trans h.fg, hq.2.2.trans h.hg, h.row.carry (hs 1), h.came.carry (hs 2), h.pr.carry (hs 3), h.pc.carry (hs 3)⟩
def AR (S : Nat → Prop) (w : World) (v : Value) (a : Ar) : Prop :=
  ∃ g f vr vc ps qs, v = .pointer (some ⟨g, 0, none⟩) ∧ ARf S f w g vr vc ps qs ∧ a.row = ps.map (·.2) ∧ a.came = qs.map (·.2)
theorem AR.carry {S T : Nat → Prop} {w w' : World} {v : Value} {a : Ar} (h : AR S w v a) (hc : ∀ k, k < w.heap.size → S k → T k ∧ w'.heap[k]? = w.heap[k]?) : AR T w' v a := by
  obtain ⟨g, f, vr, vc, ps, qs, h1, h2, h3⟩ := h
  exact ⟨g, f, vr, vc, ps, qs, h1, h2.carry fun k hk hS => ⟨(hc k hk hS).1, rfl, (hc k hk hS).2⟩, h3⟩
theorem AR.ok {S : Nat → Prop} {w : World} {v : Value} {a : Ar} (h : AR S w v a) : a.Ok := by
  obtain ⟨g, f, vr, vc, ps, qs, h1, h2, h3, h4⟩ := h
  refine ⟨fun d hd => ?_, fun d hd => ?_⟩
  · rw [h3] at hd
    obtain ⟨q, hq, rfl⟩ := List.mem_map.1 hd
    exact (h2.pr q hq).2
  · rw [h4] at hd
    obtain ⟨q, hq, rfl⟩ := List.mem_map.1 hd
    exact (h2.pc q hq).2
/-- The row is another one: its block, the bytes and the air's own block are as said; nothing else of S turned. -/
theorem infoD : (Try.prog.info? 50).map (fun i => (i.zero, i.size, i.bytes)) = some (some (.agg #[.slice none 0 0, .bool false, .int .i64 0]), 3, 40) := by kernel_rfl

/-- AN APPEND AS A STEP OF A REGION THAT DRAWS ITS ORDER. -/
theorem stepRw {ops : Array Oper} {o : Oper} {a : Act} {w : World} {K : Act → World → Prop} {Q : Exit → Act → World → Prop} {E : Prop} (s x : Operand) (tt : TypeId) (hop : o.op = .call { callee := .builtin .append, args := #[s, x], argTypes := #[tt, tt] }) (hgd : o.guard = none)
    {S : Nat → Prop} {k t by' n m c : Nat} {v z : Value} {xs us : List Value} {ad : Addr} (hs : a.eval s = v) (hx : a.eval x = .slice (some ad) m c) (hu : Try.prog.underlying tt = some (.slice t)) (hinfo : (Try.prog.info? t).map (fun i => (i.zero, i.size, i.bytes)) = some (some z, k, by')) (hzs : z.cells.size = k) (hk : 0 < k) (hby : by' ≤ 64)
    (h : Rw S k t w v n xs) (hul : us.length = m * k) (hnews : ∀ j x, us[j]? = some x → w.cell? (ad.add j) = some x) (h1 : ∀ x ∈ us, x.oneCell' = true) (hl : n + m < 2147483648) (hm : m ≠ 0 ∨ n ≠ 0)
    (hK : ∀ v' w', Apd w v w' → Rw (fun b => S b ∨ w.heap.size ≤ b) k t w' v' (n + m) (xs ++ us) → K (a.put o.dst v') w') : if Region.wanted o (yielded ops a.tmps) = true then Oper.wp Try.prog o a w K Q else E := by
  have hw : Region.wanted o (yielded ops a.tmps) = true := by simp [Region.wanted, hgd]
  rw [if_pos hw]
  obtain ⟨v', w', hr, hA, hR⟩ := run_rw_app (c := c) tt o.type hu hinfo hzs hk hby h hul hnews h1 hl hm
  unfold Oper.wp
  simp [execOp, hop, resolve, invoke, builtin, hs, hx, hr, Result.andThen]
  exact hK v' w' hA hR

/-- A COPY OF THINGS OF k CELLS: all is read before anything is written. -/
theorem run_copy_k (w : World) (dT sT ty elem : TypeId) (k b o dLen dCap : Nat) (a : Addr) (sLen sCap : Nat) (cs : List Value)
    (hu : Try.prog.underlying dT = some (.slice elem)) (hs : (Try.prog.info? elem).map (·.size) = some k) (hn : cs.length = Nat.min sLen dLen * k)
    (hsrc : ∀ j v, cs[j]? = some v → w.cell? (a.add j) = some v) (hc : ∀ j, j < cs.length → (w.cell? ⟨b, o + j, none⟩).isSome = true) (hf : ∀ j, j < cs.length → w.frozen? ⟨b, o + j, none⟩ = false) (h1 : ∀ v ∈ cs, v.oneCell' = true) :
    (Builtin.copy_ #[dT, sT] ty #[.slice (some ⟨b, o, none⟩) dLen dCap, .slice (some a) sLen sCap]).run Try.prog w = .ok (goInt (Nat.min sLen dLen)) (w.setCells b o cs) := by
  have hst := run_storeCells_cells (P := Try.prog) b o cs 0 w (by simpa using hc) (by simpa using hf) h1
  simp only [Nat.add_zero] at hst
  cases hq : Try.prog.info? elem with
  | none => simp [hq] at hs
  | some i =>
    have hi : i.size = k := by simpa [hq] using hs
    have hfc := run_firstCells_some (P := Try.prog) w i.size (Nat.min sLen dLen) a sLen sCap cs (by rw [hi]; exact hn) hsrc
    simp [Builtin.copy_, run_underlying hu, Builtin.lenOf, sizeOf, typeInfo, hq, hfc, hst]
theorem stepCopy {ops : Array Oper} {o : Oper} {a : Act} {w : World} {K : Act → World → Prop} {Q : Exit → Act → World → Prop} {E : Prop} (hgd : o.guard = none) (d s : Operand) (dT sT : TypeId)
    (ho : o.op = .call { callee := .builtin .copy, args := #[d, s], argTypes := #[dT, sT] }) (elem : TypeId) (k b off dLen dCap : Nat) (ad : Addr) (sLen sCap : Nat) (cs : List Value) (hd : a.eval d = .slice (some ⟨b, off, none⟩) dLen dCap) (hs : a.eval s = .slice (some ad) sLen sCap)
    (hu : Try.prog.underlying dT = some (.slice elem)) (hsz : (Try.prog.info? elem).map (·.size) = some k) (hn : cs.length = Nat.min sLen dLen * k)
    (hsrc : ∀ j v, cs[j]? = some v → w.cell? (ad.add j) = some v) (hc : ∀ j, j < cs.length → (w.cell? ⟨b, off + j, none⟩).isSome = true ∧ w.frozen? ⟨b, off + j, none⟩ = false) (h1 : ∀ v ∈ cs, v.oneCell' = true)
    (hK : K (a.put o.dst (goInt (Nat.min sLen dLen))) (w.setCells b off cs)) : if Region.wanted o (yielded ops a.tmps) = true then Oper.wp Try.prog o a w K Q else E := by
  have hw : Region.wanted o (yielded ops a.tmps) = true := by simp [Region.wanted, hgd]
  rw [if_pos hw]
  have hrun := run_copy_k w dT sT o.type elem k b off dLen dCap ad sLen sCap cs hu hsz hn hsrc (fun j hj => (hc j hj).1) (fun j hj => (hc j hj).2) h1
  unfold Oper.wp
  simp [execOp, ho, resolve, invoke, builtin, hd, hs, hrun, Result.andThen]
  exact hK
end Go.Proofs.Ythgkmbdnkamcoaa
