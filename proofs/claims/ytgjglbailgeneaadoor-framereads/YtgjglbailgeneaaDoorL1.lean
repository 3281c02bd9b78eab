/-
  Proved here: Bytes of the statements' package tells whether two slices hold the same bytes, Same whether two packets are the same. No condition.
-/
import Derived.Test.YtgjglbailgeneaaDoorE2
import Derived.Laws.IdiomStrings
import Derived.Laws.BytesString
import Derived.Laws.Strings
namespace Go.Proofs.YtgjglbailgeneaaDoor
open Go.RowKit

def u8s (bs : List Int) : List UInt8 := bs.map fun x => UInt8.ofNat x.toNat
def str (bs : List Int) : ByteArray := ⟨(u8s bs).toArray⟩
theorem u8_inj {x y : Int} (hx : 0 ≤ x ∧ x < 256) (hy : 0 ≤ y ∧ y < 256) (h : UInt8.ofNat x.toNat = UInt8.ofNat y.toNat) : x = y := by
  have := congrArg UInt8.toNat h
  simp only [UInt8.toNat_ofNat'] at this
  omega
theorem u8s_inj : ∀ {a b : List Int}, IsB a → IsB b → u8s a = u8s b → a = b
  | [], [], _, _, _ => rfl
  | [], _ :: _, _, _, h => by simp [u8s] at h
  | _ :: _, [], _, _, h => by simp [u8s] at h
  | x :: a, y :: b, ha, hb, h => by
    simp only [u8s, List.map_cons, List.cons.injEq] at h
    rw [u8_inj ha.head hb.head h.1, u8s_inj ha.tail hb.tail h.2]
theorem str_beq {a b : List Int} (ha : IsB a) (hb : IsB b) : ((str a).toList == (str b).toList) = (a == b) := by
  rw [Bool.eq_iff_iff, beq_iff_eq, beq_iff_eq, ByteArray.toList_eq, ByteArray.toList_eq]
  constructor
  · intro h
    exact u8s_inj ha hb (by simpa [str] using h)
  · rintro rfl; rfl
theorem conv_sl {B : Nat} {w : World} {v : Value} {bs : List Int} (h : Sl B w v bs) : (convert 22 9 v).run Tryd.prog w = .ok (.string (str bs)) w := by
  obtain ⟨ao, cap, rfl, h1, h2, hB, hnil, hcells⟩ := h
  cases ao with
  | none =>
    have h0 := hnil rfl
    have hz : bs = [] := List.length_eq_zero_iff.1 (by omega)
    subst hz
    subst h0
    show (convert 22 9 (.slice none 0 0)).run Tryd.prog w = _
    rw [run_convert_bytes_string w 22 9 5 none 0 0 Tryd.underlying22 Tryd.underlying5 Tryd.underlying9]
    simp [Conv.bytesToString]
    rfl
  | some ad =>
    have hl : bs.length = (u8s bs).length := by simp [u8s]
    rw [hl]
    refine run_convert_bytes_back w 22 9 5 ad cap (u8s bs) Tryd.underlying22 Tryd.underlying5 Tryd.underlying9 fun j hj => ?_
    rw [← hl] at hj
    obtain ⟨b, o, _, e, hc⟩ := hcells (fun e => by subst e; simp at hj)
    simp only [Option.some.injEq] at e
    subst e
    have hx := hB.at j
    rw [Addr.add_mid, hc j hj]
    simp only [u8s, List.getElem_map, UInt8.toNat_ofNat']
    rw [List.getD_eq_getElem?_getD, List.getElem?_eq_getElem hj, Option.getD_some] at hx ⊢
    congr 2
    omega

set_option maxHeartbeats 400000 in
/-- WHAT Bytes ANSWERS. -/
theorem bytes_any (B C : Nat) (u v : Value) (a b : List Int) (w : World) (hu : Sl B w u a) (hv : Sl C w v b) :
    Calls Tryd.prog 16 #[u, v] w fun e w' => e = .returned (.bool (a == b)) ∧ w' = w := by
  have k1 := conv_sl hu
  have k2 := conv_sl hv
  have HE : Hid (((str a).toList == (str b).toList) = (a == b)) := str_beq hu.isB hv.isB
  clear hu hv
  go_enter Tryd.func16, Tryd.ntmps16
  go_wp2
  go_ret
  exact ⟨by rw [← HE.out]; rfl, rfl⟩

def eqR (n : Nat) (a b : Nat → Int) : Bool := (List.range n).all fun i => a i == b i
theorem eqR_iff {n : Nat} {a b : Nat → Int} : eqR n a b = true ↔ ∀ k, k < n → a k = b k := by
  simp [eqR]
theorem plain23 : Tryd.prog.plainKey 23 = true := by kernel_rfl
theorem c23 : Tryd.prog.cellsOf 23 = 1 := by kernel_rfl
theorem eqItems_run (a b : Nat → Int) (w : World) (d : Nat) : ∀ is : List Nat, (∀ i ∈ is, i < 11) →
    (Op.eqItems (d + 1) 23 1 (row 11 a) (row 11 b) is).run Tryd.prog w = .ok (is.all fun i => a i == b i) w
  | [], _ => by simp [Op.eqItems]
  | i :: is, hall => by
    have hi := hall i (by simp)
    have p1 := run_part_plain (P := Tryd.prog) w plain23 (row_at 11 a i hi)
    have p2 := run_part_plain (P := Tryd.prog) w plain23 (row_at 11 b i hi)
    simp only [Op.eqItems, Sem.run_bind, Nat.mul_one, p1, p2, Result.andThen_ok, run_equalIn_int w d 23 .u64 .u64 (a i) (b i) Tryd.underlying23]
    cases hab : (a i == b i)
    · simp [hab]
    · simp only [Bool.not_true, Bool.false_eq_true, if_false, List.all_cons, hab, Bool.true_and]
      exact eqItems_run a b w d is (fun j hj => hall j (by simp [hj]))
theorem info23 : ∃ i, Tryd.prog.info? 23 = some i := by
  have h : (Tryd.prog.info? 23).isSome = true := by kernel_rfl
  exact Option.isSome_iff_exists.1 h
theorem guard25 : Tryd.prog.eqGuardType Tryd.prog.depth 25 = false := by kernel_rfl
theorem eql_run (a b : Nat → Int) (w : World) : (Op.equalIn 10000 25 (hv a) (hv b)).run Tryd.prog w = .ok (eqR 11 a b) w := by
  obtain ⟨i, hi⟩ := info23
  rw [show (10000 : Nat) = 9998 + 1 + 1 from rfl, run_equalIn_array w (9998 + 1) _ _ Tryd.underlying25 hi, c23, eqItems_run a b w 9998 (List.range 11) (fun i hi => List.mem_range.1 hi)]
  rfl
/-- Two headers are compared. -/
theorem eql25 {ops : Array Oper} {rest : List Oper} {o : Oper} {a : Act} {w : World} {Q : Exit → Act → World → Prop} (x y : Operand) (ho : o.op = .binOp .eql 25 x y 25) (p q : Nat → Int) (hx : a.eval x = hv p) (hy : a.eval y = hv q) (hw : Region.wanted o (yielded ops a.tmps) = true) (c : Bool) (hc : eqR 11 p q = c)
    (h : wpList Tryd.prog ops Q rest (a.put o.dst (.bool c)) w) : wpList Tryd.prog ops Q (o :: rest) a w := by
  unfold wpList
  rw [if_pos hw]
  refine Or.inl ?_
  unfold Oper.wp execOp
  simp only [ho, hx, hy, Sem.run_bind, Sem.run_pure, Result.andThen_ok, run_eqGuard_agg w _ _ _ _ _ _ guard25, run_eql_struct, eql_run, hc]
  exact h

set_option maxHeartbeats 800000 in
/-- WHAT Same ANSWERS. -/
theorem same_any (B C : Nat) (h k : Nat → Int) (u v : Value) (a b : List Int) (w : World) (hu : Sl B w u a) (hv : Sl C w v b) (hB : B ≤ w.heap.size) (hC : C ≤ w.heap.size) :
    Calls Tryd.prog 10 #[pv h u, pv k v] w fun e w' => e = .returned (.bool (eqR 11 h k && a == b)) ∧ Below w.heap.size w w' := by
  obtain ⟨W, hW⟩ : ∃ W, W = (w.alloc (.cells (prow h u) 27)).alloc (.cells (prow k v) 27) := ⟨_, rfl⟩
  have hl : Below w.heap.size w W := by rw [hW]; exact ((Below.refl _ _).alloc (Nat.le_refl _) _).alloc (by simp) _
  have b1 : PBlk W w.heap.size h u := by rw [hW]; exact (PBlk.new w h u).alloc _
  have b2 : PBlk W (w.heap.size + 1) k v := by
    rw [hW]
    have := PBlk.new (w.alloc (.cells (prow h u) 27)) k v
    simpa using this
  have HY : Hid (Calls Tryd.prog 16 #[u, v] W fun e w' => e = .returned (.bool (a == b)) ∧ w' = W) := bytes_any B C u v a b W (hu.on (hl.mono hB)) (hv.on (hl.mono hC))
  have HW : Hid (W = (w.alloc (.cells (prow h u) 27)).alloc (.cells (prow k v) 27)) := hW
  have c1 := b1.last
  have c2 := b2.last
  rw [HW.out] at c1 c2
  have B1 : Hid (PBlk ((w.alloc (.cells (prow h u) 27)).alloc (.cells (prow k v) 27)) w.heap.size h u) := by rw [← HW.out]; exact b1
  have B2 : Hid (PBlk ((w.alloc (.cells (prow h u) 27)).alloc (.cells (prow k v) 27)) (w.heap.size + 1) k v) := by rw [← HW.out]; exact b2
  have HL : Hid (Below w.heap.size w ((w.alloc (.cells (prow h u) 27)).alloc (.cells (prow k v) 27))) := by rw [← HW.out]; exact hl
  rw [HW.out] at HY
  clear hW hu hv b1 b2 hl HW
  cases he : eqR 11 h k
  · go_enter Tryd.func10, Tryd.ntmps10
    go_wp2_with (first | (refine ldPH (.tmp 5) rfl _ rfl rfl h u B1.out ?_) | (refine ldPH (.tmp 7) rfl _ rfl rfl k v B2.out ?_) | (refine eql25 (.tmp 6) (.tmp 8) rfl h k rfl rfl rfl false he ?_))
    go_ret
    exact ⟨rfl, HL.out⟩
  · go_enter Tryd.func10, Tryd.ntmps10
    go_wp2_with (first | (refine ldPH (.tmp 5) rfl _ rfl rfl h u B1.out ?_) | (refine ldPH (.tmp 7) rfl _ rfl rfl k v B2.out ?_) | (refine eql25 (.tmp 6) (.tmp 8) rfl h k rfl rfl rfl true he ?_) | (go_at_call 16; refine (HY.out).mono ?_; rintro e w' ⟨rfl, rfl⟩))
    go_ret
    exact ⟨by simp, HL.out⟩
end Go.Proofs.YtgjglbailgeneaaDoor
