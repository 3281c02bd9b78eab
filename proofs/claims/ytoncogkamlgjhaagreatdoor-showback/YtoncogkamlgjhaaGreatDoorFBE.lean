/-
  Proved here: the reader's methods isQuoted and queryName. Conditions: the reader stands at one of its words; no word has more than 65536 bytes.
-/
/-
  Proved here: the reader's method queryName; queries and policies in memory. Conditions: the reader stands at one of its words; no word has more than 65536 bytes.
-/
import Derived.Test.YtoncogkamlgjhaaGreatDoorFBC
namespace Go.Proofs.YtoncogkamlgjhaaGreatDoor
set_option maxRecDepth 100000
open Go.RowKit
set_option maxRecDepth 100000

set_option maxHeartbeats 3200000 in
theorem quoted_any {l : List Wd} {r m : Nat} {ws : Value} {i : Nat} {W : World} (h : RdM l r m ws i W) (s : ByteArray) (hs : s.size ≤ 65536) : Calls Tryz.prog 59 #[ptr r, .string s] W fun e w' => e = .returned (.bool (isKw s)) ∧ w' = W := by
  have hc2 := h.c2
  have hlk := h.look s hs
  clear h hs
  have f0 : ∀ b, decide (s = Qcount) = b → (s.toList == [99, 111, 117, 110, 116]) = b := fun b hb => by have := str_b hb; rw [show (Qcount).toList = [99, 111, 117, 110, 116] by rw [ByteArray.toList_eq]] at this; exact this
  have f1 : ∀ b, decide (s = Qfilter) = b → (s.toList == [102, 105, 108, 116, 101, 114]) = b := fun b hb => by have := str_b hb; rw [show (Qfilter).toList = [102, 105, 108, 116, 101, 114] by rw [ByteArray.toList_eq]] at this; exact this
  have f2 : ∀ b, decide (s = Qid) = b → (s.toList == [105, 100]) = b := fun b hb => by have := str_b hb; rw [show (Qid).toList = [105, 100] by rw [ByteArray.toList_eq]] at this; exact this
  have f3 : ∀ b, decide (s = Qdrop) = b → (s.toList == [100, 114, 111, 112]) = b := fun b hb => by have := str_b hb; rw [show (Qdrop).toList = [100, 114, 111, 112] by rw [ByteArray.toList_eq]] at this; exact this
  have f4 : ∀ b, decide (s = Qif) = b → (s.toList == [105, 102]) = b := fun b hb => by have := str_b hb; rw [show (Qif).toList = [105, 102] by rw [ByteArray.toList_eq]] at this; exact this
  have f5 : ∀ b, decide (s = Qthen) = b → (s.toList == [116, 104, 101, 110]) = b := fun b hb => by have := str_b hb; rw [show (Qthen).toList = [116, 104, 101, 110] by rw [ByteArray.toList_eq]] at this; exact this
  have f6 : ∀ b, decide (s = Qelse) = b → (s.toList == [101, 108, 115, 101]) = b := fun b hb => by have := str_b hb; rw [show (Qelse).toList = [101, 108, 115, 101] by rw [ByteArray.toList_eq]] at this; exact this
  have f7 : ∀ b, decide (s = Qtrue) = b → (s.toList == [116, 114, 117, 101]) = b := fun b hb => by have := str_b hb; rw [show (Qtrue).toList = [116, 114, 117, 101] by rw [ByteArray.toList_eq]] at this; exact this
  have f8 : ∀ b, decide (s = Qfalse) = b → (s.toList == [102, 97, 108, 115, 101]) = b := fun b hb => by have := str_b hb; rw [show (Qfalse).toList = [102, 97, 108, 115, 101] by rw [ByteArray.toList_eq]] at this; exact this
  cases e0 : decide (s = Qcount) with
  | true =>
    have HK : Hid (isKw s = true) := by show _ = _; unfold isKw kwT; simp only [List.any_cons, List.any_nil, e0]; simp
    replace f0 := f0 _ e0
    clear hlk hc2 e0 f1 f2 f3 f4 f5 f6 f7 f8
    rw [HK.out]
    go_enter Tryz.func59, Tryz.ntmps59
    go_wp2
    go_ret
    exact ⟨rfl, rfl⟩
  | false =>
    cases e1 : decide (s = Qfilter) with
    | true =>
      have HK : Hid (isKw s = true) := by show _ = _; unfold isKw kwT; simp only [List.any_cons, List.any_nil, e0, e1]; simp
      replace f0 := f0 _ e0
      replace f1 := f1 _ e1
      clear hlk hc2 e0 e1 f2 f3 f4 f5 f6 f7 f8
      rw [HK.out]
      go_enter Tryz.func59, Tryz.ntmps59
      go_wp2
      go_ret
      exact ⟨rfl, rfl⟩
    | false =>
      cases e2 : decide (s = Qid) with
      | true =>
        have HK : Hid (isKw s = true) := by show _ = _; unfold isKw kwT; simp only [List.any_cons, List.any_nil, e0, e1, e2]; simp
        replace f0 := f0 _ e0
        replace f1 := f1 _ e1
        replace f2 := f2 _ e2
        clear hlk hc2 e0 e1 e2 f3 f4 f5 f6 f7 f8
        rw [HK.out]
        go_enter Tryz.func59, Tryz.ntmps59
        go_wp2
        go_ret
        exact ⟨rfl, rfl⟩
      | false =>
        cases e3 : decide (s = Qdrop) with
        | true =>
          have HK : Hid (isKw s = true) := by show _ = _; unfold isKw kwT; simp only [List.any_cons, List.any_nil, e0, e1, e2, e3]; simp
          replace f0 := f0 _ e0
          replace f1 := f1 _ e1
          replace f2 := f2 _ e2
          replace f3 := f3 _ e3
          clear hlk hc2 e0 e1 e2 e3 f4 f5 f6 f7 f8
          rw [HK.out]
          go_enter Tryz.func59, Tryz.ntmps59
          go_wp2
          go_ret
          exact ⟨rfl, rfl⟩
        | false =>
          cases e4 : decide (s = Qif) with
          | true =>
            have HK : Hid (isKw s = true) := by show _ = _; unfold isKw kwT; simp only [List.any_cons, List.any_nil, e0, e1, e2, e3, e4]; simp
            replace f0 := f0 _ e0
            replace f1 := f1 _ e1
            replace f2 := f2 _ e2
            replace f3 := f3 _ e3
            replace f4 := f4 _ e4
            clear hlk hc2 e0 e1 e2 e3 e4 f5 f6 f7 f8
            rw [HK.out]
            go_enter Tryz.func59, Tryz.ntmps59
            go_wp2
            go_ret
            exact ⟨rfl, rfl⟩
          | false =>
            cases e5 : decide (s = Qthen) with
            | true =>
              have HK : Hid (isKw s = true) := by show _ = _; unfold isKw kwT; simp only [List.any_cons, List.any_nil, e0, e1, e2, e3, e4, e5]; simp
              replace f0 := f0 _ e0
              replace f1 := f1 _ e1
              replace f2 := f2 _ e2
              replace f3 := f3 _ e3
              replace f4 := f4 _ e4
              replace f5 := f5 _ e5
              clear hlk hc2 e0 e1 e2 e3 e4 e5 f6 f7 f8
              rw [HK.out]
              go_enter Tryz.func59, Tryz.ntmps59
              go_wp2
              go_ret
              exact ⟨rfl, rfl⟩
            | false =>
              cases e6 : decide (s = Qelse) with
              | true =>
                have HK : Hid (isKw s = true) := by show _ = _; unfold isKw kwT; simp only [List.any_cons, List.any_nil, e0, e1, e2, e3, e4, e5, e6]; simp
                replace f0 := f0 _ e0
                replace f1 := f1 _ e1
                replace f2 := f2 _ e2
                replace f3 := f3 _ e3
                replace f4 := f4 _ e4
                replace f5 := f5 _ e5
                replace f6 := f6 _ e6
                clear hlk hc2 e0 e1 e2 e3 e4 e5 e6 f7 f8
                rw [HK.out]
                go_enter Tryz.func59, Tryz.ntmps59
                go_wp2
                go_ret
                exact ⟨rfl, rfl⟩
              | false =>
                cases e7 : decide (s = Qtrue) with
                | true =>
                  have HK : Hid (isKw s = true) := by show _ = _; unfold isKw kwT; simp only [List.any_cons, List.any_nil, e0, e1, e2, e3, e4, e5, e6, e7]; simp
                  replace f0 := f0 _ e0
                  replace f1 := f1 _ e1
                  replace f2 := f2 _ e2
                  replace f3 := f3 _ e3
                  replace f4 := f4 _ e4
                  replace f5 := f5 _ e5
                  replace f6 := f6 _ e6
                  replace f7 := f7 _ e7
                  clear hlk hc2 e0 e1 e2 e3 e4 e5 e6 e7 f8
                  rw [HK.out]
                  go_enter Tryz.func59, Tryz.ntmps59
                  go_wp2
                  go_ret
                  exact ⟨rfl, rfl⟩
                | false =>
                  cases e8 : decide (s = Qfalse) with
                  | true =>
                    have HK : Hid (isKw s = true) := by show _ = _; unfold isKw kwT; simp only [List.any_cons, List.any_nil, e0, e1, e2, e3, e4, e5, e6, e7, e8]; simp
                    replace f0 := f0 _ e0
                    replace f1 := f1 _ e1
                    replace f2 := f2 _ e2
                    replace f3 := f3 _ e3
                    replace f4 := f4 _ e4
                    replace f5 := f5 _ e5
                    replace f6 := f6 _ e6
                    replace f7 := f7 _ e7
                    replace f8 := f8 _ e8
                    clear hlk hc2 e0 e1 e2 e3 e4 e5 e6 e7 e8 
                    rw [HK.out]
                    go_enter Tryz.func59, Tryz.ntmps59
                    go_wp2
                    go_ret
                    exact ⟨rfl, rfl⟩
                  | false =>
                    have HK : Hid (isKw s = (fdOf s).isSome) := by show _ = _; unfold isKw kwT; simp only [List.any_cons, List.any_nil, e0, e1, e2, e3, e4, e5, e6, e7, e8]; simp
                    replace f0 := f0 _ e0
                    replace f1 := f1 _ e1
                    replace f2 := f2 _ e2
                    replace f3 := f3 _ e3
                    replace f4 := f4 _ e4
                    replace f5 := f5 _ e5
                    replace f6 := f6 _ e6
                    replace f7 := f7 _ e7
                    replace f8 := f8 _ e8
                    clear e0 e1 e2 e3 e4 e5 e6 e7 e8
                    rw [HK.out]
                    generalize ((fdOf s).map fun f => Value.int .i8 ((f : Nat) : Int)).getD (.int .i8 0) = v at hlk
                    generalize (fdOf s).isSome = b at hlk ⊢
                    clear HK
                    go_enter Tryz.func59, Tryz.ntmps59
                    go_wp2
                    go_ret
                    exact ⟨rfl, rfl⟩
end Go.Proofs.YtoncogkamlgjhaaGreatDoor
namespace Go.Proofs.YtoncogkamlgjhaaGreatDoor
set_option maxRecDepth 100000
open Go.RowKit
set_option maxRecDepth 100000

section
variable {l : List Wd} {r m : Nat} {ws : Value} {i : Nat} {W : World}
/-- what stands behind the first two steps -/
theorem qname_at (h : RdM l r m ws i W) {w5 : World} (hb : Below W.heap.size W w5) (x : Wd) : let w6 := w5.alloc (.cells #[.int .i8 ((x.k : Nat) : Int), .string x.t, .int .u64 ((x.n : Nat) : Int), .int .i64 ((x.at' : Nat) : Int)] 52)
    Only (Rn r W) W w6 ∧ RdM l r m ws i w6 ∧ w6.cell? ⟨w5.heap.size, 0, none⟩ = some (.int .i8 ((x.k : Nat) : Int)) ∧ w6.cell? ⟨w5.heap.size, 1, none⟩ = some (.string x.t) ∧ r < w5.heap.size := by
  have hA : Below W.heap.size W (w5.alloc (.cells #[.int .i8 ((x.k : Nat) : Int), .string x.t, .int .u64 ((x.n : Nat) : Int), .int .i64 ((x.at' : Nat) : Int)] 52)) := hb.alloc hb.size _
  have hN : (w5.alloc (.cells #[.int .i8 ((x.k : Nat) : Int), .string x.t, .int .u64 ((x.n : Nat) : Int), .int .i64 ((x.at' : Nat) : Int)] 52)).heap[w5.heap.size]? = some (.cells #[.int .i8 ((x.k : Nat) : Int), .string x.t, .int .u64 ((x.n : Nat) : Int), .int .i64 ((x.at' : Nat) : Int)] 52 (0, 0)) := heap_alloc_new _ _
  obtain ⟨d0, d1, -, -⟩ := four_cells hN
  exact ⟨Only.of hA fun _ hk => Or.inr hk, h.on hA, d0, d1, by have := h.lt; have := hb.size; omega⟩
set_option maxHeartbeats 3200000 in
theorem qname_yes (h : RdM l r m ws i W) (hi : i < l.length) (hb : l.length ≤ 100000) (hts : ∀ k, (wat l k).t.size ≤ 65536) (hk : (wat l i).k = 1) (hq : isKw (wat l i).t = false) : Calls Tryz.prog 31 #[ptr r] W fun e w' => e = .returned (.string (wat l i).t) ∧ Only (Rn r W) W w' ∧ RdM l r m ws (i + 1) w' := by
  have HW := hid (word_at h hi (by omega))
  have hs := hts i
  have HR := hid h
  have hw1 : IntKind.i64.wrap ((i : Int) + 1) = (i : Int) + 1 := by rw [IntKind.wrap_i64]; omega
  clear h hts
  generalize wat l i = x at HW hs hk hq ⊢
  have HA := hid (fun w5 hb => qname_at HR.out (w5 := w5) hb x)
  obtain ⟨xk, xt, xn, xa⟩ := x
  simp only at HW hs hk hq HA ⊢
  subst hk
  go_enter Tryz.func31, Tryz.ntmps31
  go_upto_region 2 with (go_at_call 14; refine (HW.out).mono ?_; rintro e w5 ⟨rfl, hw⟩; have HB5 := hid hw; clear hw)
  obtain ⟨a1, a2, d0, d1, hrl⟩ := HA.out w5 HB5.out
  have HO6 := hid a1
  have HR6 := hid a2
  clear a1 a2 HA HB5 HW HR
  generalize w5.alloc (.cells #[.int .i8 ((1 : Nat) : Int), .string xt, .int .u64 ((xn : Nat) : Int), .int .i64 ((xa : Nat) : Int)] 52) = w6 at HO6 HR6 d0 d1 ⊢
  generalize w5.heap.size = G at d0 d1 hrl ⊢
  have HQ := hid (quoted_any HR6.out xt hs)
  rw [hq] at HQ
  have hc1 := HR6.out.c1
  have hf1 := HR6.out.f1
  have hq2 := HR6.out.go (i + 1)
  rw [show (((i + 1 : Nat) : Nat) : Int) = (i : Int) + 1 by omega] at hq2
  have HG := hid hq2
  have e1 : (w6.setCell ⟨r, 1, none⟩ (.int .i64 ((i : Int) + 1))).cell? ⟨G, 1, none⟩ = some (.string xt) := (cell_same (heap_setCell_other w6 ⟨r, 1, none⟩ G _ (show G ≠ r by omega))).trans d1
  clear hq2 hq
  go_wp2_with (first
    | (go_at_call 59; refine (HQ.out).mono ?_; rintro e w7 ⟨rfl, hw⟩; rw [hw]; clear hw w7)
    | (go_at_call 34; refine (must_true _).mono ?_; rintro e w'' ⟨rfl, hw⟩; rw [hw]; clear hw w''))
  go_ret
  exact ⟨rfl, HO6.out.thn HG.out.2, HG.out.1⟩
set_option maxHeartbeats 3200000 in
theorem qname_no (h : RdM l r m ws i W) (hi : i < l.length) (hb : l.length ≤ 100000) (hts : ∀ k, (wat l k).t.size ≤ 65536) (hn : ¬ ((wat l i).k = 1 ∧ isKw (wat l i).t = false)) : Calls Tryz.prog 31 #[ptr r] W fun e w' => e = .panicked PC ∧ Only (Rn r W) W w' ∧ RdM l r m ws i w' := by
  have HW := hid (word_at h hi (by omega))
  have hs := hts i
  have HR := hid h
  clear h hts
  generalize wat l i = x at HW hs hn
  have HA := hid (fun w5 hb => qname_at HR.out (w5 := w5) hb x)
  obtain ⟨xk, xt, xn, xa⟩ := x
  simp only at HW hs hn HA
  go_enter Tryz.func31, Tryz.ntmps31
  go_upto_region 2 with (go_at_call 14; refine (HW.out).mono ?_; rintro e w5 ⟨rfl, hw⟩; have HB5 := hid hw; clear hw)
  obtain ⟨a1, a2, d0, d1, hrl⟩ := HA.out w5 HB5.out
  have HO6 := hid a1
  have HR6 := hid a2
  clear a1 a2 HA HB5 HW HR
  generalize w5.alloc (.cells #[.int .i8 ((xk : Nat) : Int), .string xt, .int .u64 ((xn : Nat) : Int), .int .i64 ((xa : Nat) : Int)] 52) = w6 at HO6 HR6 d0 d1 ⊢
  generalize w5.heap.size = G at d0 d1 hrl ⊢
  by_cases hk : xk = 1
  · have hk2 : (((xk : Nat) : Int) == 1) = true := by simp; omega
    have hq : isKw xt = true := by
      cases hq : isKw xt with
      | true => rfl
      | false => exact absurd ⟨hk, hq⟩ hn
    have HQ := hid (quoted_any HR6.out xt hs)
    rw [hq] at HQ
    clear hq hk hn
    go_wp2_with (first
      | (go_at_call 59; refine (HQ.out).mono ?_; rintro e w7 ⟨rfl, hw⟩; rw [hw]; clear hw w7)
      | (go_at_call 34; refine (must_false _).mono ?_; rintro e w'' ⟨rfl, hw⟩; rw [hw]; clear hw w''))
    exact ⟨rfl, rfl, HO6.out, HR6.out⟩
  · have hk2 : (((xk : Nat) : Int) == 1) = false := by simp; omega
    clear hk hn
    go_wp2_with (go_at_call 34; refine (must_false _).mono ?_; rintro e w'' ⟨rfl, hw⟩; rw [hw]; clear hw w'')
    exact ⟨rfl, rfl, HO6.out, HR6.out⟩
end
/-- queries, one behind the other -/
def QyL (S : Nat → Prop) (w : World) : List Qy → List Value → Prop
  | [], xs => xs = []
  | q :: qs, xs => ∃ cs ys, xs = .string q.nm :: (cs.toList ++ ys) ∧ TmV S w q.pd cs ∧ QyL S w qs ys
theorem QyL.carry {S T : Nat → Prop} {w w' : World} (hc : ∀ b, b < w.heap.size → S b → T b ∧ w'.heap[b]? = w.heap[b]?) : ∀ (qs : List Qy) (xs : List Value), QyL S w qs xs → QyL T w' qs xs
  | [], xs, h => h
  | q :: qs, xs, h => by
    obtain ⟨cs, ys, h1, h2, h3⟩ := h
    exact ⟨cs, ys, h1, tm_on h2 hc, QyL.carry hc qs ys h3⟩
theorem QyL.snoc {S : Nat → Prop} {w : World} {q : Qy} {cs : Array Value} (ht : TmV S w q.pd cs) : ∀ (qs : List Qy) (xs : List Value), QyL S w qs xs → QyL S w (qs ++ [q]) (xs ++ (.string q.nm :: cs.toList))
  | [], xs, h => by
    have : xs = [] := h
    subst this
    exact ⟨cs, [], by simp, ht, rfl⟩
  | a :: qs, xs, h => by
    obtain ⟨ds, ys, rfl, h2, h3⟩ := h
    exact ⟨ds, ys ++ (.string q.nm :: cs.toList), by simp, h2, QyL.snoc ht qs ys h3⟩
theorem QyL.len {S : Nat → Prop} {w : World} : ∀ (qs : List Qy) (xs : List Value), QyL S w qs xs → xs.length = qs.length * 5
  | [], xs, h => by have : xs = [] := h; subst this; rfl
  | q :: qs, xs, h => by
    obtain ⟨cs, ys, rfl, h2, h3⟩ := h
    have := QyL.len qs ys h3
    have := h2.size
    simp; omega
/-- the j-th -/
theorem QyL.at {S : Nat → Prop} {w : World} : ∀ (qs : List Qy) (xs : List Value) (j : Nat) (hj : j < qs.length), QyL S w qs xs → ∃ cs, TmV S w (qs[j]).pd cs ∧ ∀ i, i < 5 → xs[j * 5 + i]? = (Value.string (qs[j]).nm :: cs.toList)[i]?
  | [], xs, j, hj, h => by simp at hj
  | q :: qs, xs, j, hj, h => by
    obtain ⟨cs, ys, rfl, h2, h3⟩ := h
    have hs := h2.size
    cases j with
    | zero =>
      refine ⟨cs, h2, fun i hi => ?_⟩
      rw [Nat.zero_mul, Nat.zero_add, ← List.cons_append, List.getElem?_append_left (by simp; omega)]
      rfl
    | succ j =>
      obtain ⟨ds, h4, h5⟩ := QyL.at qs ys j (by simpa using hj) h3
      refine ⟨ds, h4, fun i hi => ?_⟩
      rw [← List.cons_append, List.getElem?_append_right (by simp; omega)]
      refine Eq.trans ?_ (h5 i hi)
      congr 1
      simp; omega
theorem infoQY : (Tryz.prog.info? 40).map (fun i => (i.zero, i.size, i.bytes)) = some (some (.agg #[.string ⟨#[]⟩, .int .i8 0, .int .i8 0, .int .u64 0, nilS]), 5, 56) := by kernel_rfl
/-- a policy's cells: the main term's, and the queries' slice -/
def PoV (S : Nat → Prop) (w : World) (p : Po) (cs : Array Value) : Prop :=
  ∃ ms qv xs, cs = ms ++ #[qv] ∧ TmV S w p.main ms ∧ Rw S 5 40 w qv p.qs.length xs ∧ QyL S w p.qs xs
theorem PoV.carry {S T : Nat → Prop} {w w' : World} {p : Po} {cs : Array Value} (h : PoV S w p cs) (hc : ∀ b, b < w.heap.size → S b → T b ∧ w'.heap[b]? = w.heap[b]?) : PoV T w' p cs := by
  obtain ⟨ms, qv, xs, h1, h2, h3, h4⟩ := h
  exact ⟨ms, qv, xs, h1, tm_on h2 hc, h3.carry hc, QyL.carry hc _ _ h4⟩
theorem PoV.size {S : Nat → Prop} {w : World} {p : Po} {cs : Array Value} (h : PoV S w p cs) : cs.size = 5 := by
  obtain ⟨ms, qv, xs, rfl, h2, -⟩ := h
  simp [h2.size]
theorem PoV.one {S : Nat → Prop} {w : World} {p : Po} {cs : Array Value} (h : PoV S w p cs) : cs.all (·.oneCell') = true := by
  obtain ⟨ms, qv, xs, rfl, h2, h3, -⟩ := h
  rw [Array.all_append, h2.one]
  simp [h3.one]
theorem sizePO : (Tryz.prog.info? 29).map (·.size) = some 5 := by kernel_rfl
theorem PoV.info {S : Nat → Prop} {w : World} {p : Po} {cs : Array Value} (h : PoV S w p cs) : (Tryz.prog.info? 29).map (·.size) = some cs.size := by rw [h.size]; exact sizePO
end Go.Proofs.YtoncogkamlgjhaaGreatDoor
