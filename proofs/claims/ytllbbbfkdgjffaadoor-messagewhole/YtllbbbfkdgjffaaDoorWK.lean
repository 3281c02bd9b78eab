/-
  Proved here: the laws' look at a short message says true. Conditions: the tables hold their numbers.
-/
import Derived.Test.YtllbbbfkdgjffaaDoorDE
namespace Go.Proofs.YtllbbbfkdgjffaaDoor
open Go.RowKit

def wkM : Ms := { zMs with ty := 12, po := 3, up := true }
theorem wk_cells : msc wkM zSl = #[.int .i8 12, .int .u32 0, .int .i8 0, .int .i64 0, .int .u64 0, .int .u64 0, .int .u64 0, .int .u64 0, .int .u64 0, .int .u64 0, .int .u64 0, .int .u64 0, .int .u64 0, .int .u64 0, .int .u64 0, .int .u64 0, .int .u64 0, .int .u64 0, .int .u64 0, .int .u64 0, .int .u64 0, .int .u64 0, .int .u64 0, .int .u64 0, .int .u64 0, .int .u64 0, nilS, .int .u64 0, .int .u16 3, .bool true, .int .u16 0, nilS, nilS, nilS, nilS, .int .u16 0] := by kernel_rfl
theorem wk_en : enE wkM = 0 ∧ enL wkM = [1, 12, 0, 11, 0, 0, 0, 0, 0, 3, 1] := by decide
theorem wk_de : deE [1, 2, 0] = 51 := by decide
theorem inB0 : InB 0 := by unfold InB; decide
theorem in16_0 : In16 0 := by unfold In16; decide
theorem wk_fit : wkM.Fit := ⟨by decide, by decide, by decide, ⟨by decide, fun _ _ => inB0, fun _ _ => rfl, by simp [wkM, zMs, zRl], inB0⟩, by show In16 3; unfold In16; decide, in16_0, by simp [wkM, zMs], by simp [wkM, zMs], by simp [wkM, zMs, IsB], by simp [wkM, zMs], in16_0⟩
theorem buildWk (w : World) : (Instr.build 37 #[(0, .int .i8 12), (4, .int .u16 3), (5, .bool true)]).run Tryd.prog w = .ok (.agg (msc wkM zSl)) w := by
  rw [wk_cells]
  show _ = _
  kernel_rfl
theorem bldWk {ops : Array Oper} {rest : List Oper} {o : Oper} {a : Act} {w : World} {Q : Exit → Act → World → Prop} (ho : o.op = .build 37 #[(0, .const (.int .i8 12)), (4, .const (.int .u16 3)), (5, .const (.bool true))]) (hw : Region.wanted o (yielded ops a.tmps) = true)
    (h : wpList Tryd.prog ops Q rest (a.put o.dst (.agg (msc wkM zSl))) w) : wpList Tryd.prog ops Q (o :: rest) a w := by
  unfold wpList
  rw [if_pos hw]
  refine Or.inl ?_
  unfold Oper.wp execOp
  have := buildWk w
  simp only [ho, List.map_toArray, List.map_cons, List.map_nil, Act.eval, Sem.run_bind, Sem.run_pure, Result.andThen_ok, this]
  exact h
set_option maxHeartbeats 1600000 in
set_option maxRecDepth 100000 in
theorem wakes_any (w : World) (ht : Tab w) : Calls Tryd.prog 5 #[] w fun e w' => e = .returned (.bool true) ∧ Below w.heap.size w w' := by
  have HE := hid (encode_any (T := fun _ => False) wkM zSl w ⟨Lst.nil _ _ _ _, Lst.nil _ _ _ _, Lst.nil _ _ _ _, SlC.nil _ _, Lst.nil _ _ _ _⟩ wk_fit (fun _ h => h.elim) ht)
  rw [wk_en.1, wk_en.2] at HE
  have HT := hid ht
  clear ht
  go_enter Tryd.func5, Tryd.ntmps5
  go_upto_region 2 with (first
    | (refine bldWk rfl rfl ?_)
    | (go_at_call 4; refine (HE.out).mono ?_; rintro e w1 ⟨hb, v, rfl, hv⟩
       have HB1 := hid hb
       have HV1 := hid hv
       clear hb hv))
  have hz2 : (w1.alloc (.cells (([1, 2, 0] : List Int).map (Value.int .u8)).toArray 5)).heap.size = w1.heap.size + 1 := by simp
  have hb2 : Below w1.heap.size w1 (w1.alloc (.cells (([1, 2, 0] : List Int).map (Value.int .u8)).toArray 5)) := (Below.refl _ _).alloc (Nat.le_refl _) _
  have hs2 := SlC.of (sl_lit w1 [1, 2, 0] (by simp [IsB]) (by simp))
  have HD := hid (decode_any (T := fun x => x < w1.heap.size + 1) [1, 2, 0] _ _ hs2 (fun x hx => by rw [hz2]; exact hx) ((HT.out.on HB1.out).on hb2))
  have hsl1 : SlC (fun x => x < w1.heap.size) w1 v [1, 12, 0, 11, 0, 0, 0, 0, 0, 3, 1] := SlC.own HV1.out (by simp) (by simp [IsB]) (fun _ _ h => h)
  rw [(de_short (bs := [1, 2, 0]) (by decide)).1, (de_short (bs := [1, 2, 0]) (by decide)).2] at HD
  have HS1 := hid hsl1
  have HB2 := hid (And.intro hb2 hz2)
  have HFin : Hid (∀ w3 (o : Obj), Below (w1.alloc (.cells (([1, 2, 0] : List Int).map (Value.int .u8)).toArray 5)).heap.size (w1.alloc (.cells (([1, 2, 0] : List Int).map (Value.int .u8)).toArray 5)) w3 → Below w1.heap.size w1 (w3.alloc o)) := fun w3 o h => (HB2.out.1.trans (h.mono (by have := HB2.out.2; omega))).alloc (by have := h.size; have := HB2.out.2; omega) _
  clear hb2 hs2 hsl1 hz2
  obtain ⟨va, vc, rfl⟩ : ∃ va vc, v = .slice va 11 vc := by
    rcases HV1.out.2 with ⟨-, e⟩ | ⟨g, cap, cur, rfl, _⟩
    · cases e
    · exact ⟨_, _, rfl⟩
  go_upto_region 3 with (first
    | (refine stNew 37 (.tmp 3) (.tmp 13) rfl rfl w3 37 (msc zMs zSl) (msc zMs s3) (by rw [← zero_ms0]) rfl rfl (sizeMs _ _) (by rw [msc_size, msc_size]) HOne.out ?_)
    | (go_at_call 6; refine (HD.out).mono ?_; rintro e w3 ⟨hb, s3, rfl, hm⟩
       have HB3 := hid hb
       have HOne := hid hm.one
       clear hb hm))
  have hb4 := HFin.out w3 (.cells (msc zMs s3) 37) HB3.out
  have HB4 := hid (HB1.out.trans (hb4.mono HB1.out.size))
  have cv : (convert 34 9 (.slice va 11 vc)).run Tryd.prog (w3.alloc (.cells (msc zMs s3) 37)) = .ok (.string { data := #[1, 12, 0, 11, 0, 0, 0, 0, 0, 3, 1] }) (w3.alloc (.cells (msc zMs s3) 37)) := conv_sl (HS1.out.carry (T := fun _ => True) fun k hk _ => ⟨trivial, hb4.block k hk⟩).sl
  clear hb4 HFin HB3 HS1 HV1
  generalize w3.alloc (.cells (msc zMs s3) 37) = V at cv HB4 ⊢
  go_wp2
  go_ret
  exact ⟨rfl, HB4.out⟩
end Go.Proofs.YtllbbbfkdgjffaaDoor
