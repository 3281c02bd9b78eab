/-
  Proved here: LineFull's own text: it returns true. Condition: the seven functions of package line serve ends.
-/
import Derived.Test.YtijjcopglbcoiaaF0
import Derived.Test.YtijjcopglbcoiaaV1
import Derived.Deep.OwnRows
import Derived.Deep.DeepCutAuto
import Derived.Deep.CutBlock
namespace Go.Proofs.Ytijjcopglbcoiaa
open Go.RowKit Seal

/-- The second end, when the datagram has come; and by how many were taken. -/
def eB2 (r : Nat) : E := ⟨0, [], 0, 32 * (r + 1), mgs (32 * r) 32⟩
def eBj (r j : Nat) : E := if j = 0 then eB r else eB2 r
theorem eB2_new (r : Nat) : (eB2 r).new = mgs (32 * r) 32 := rfl
theorem eB2_came (r : Nat) : cmS (eB2 r) = eB (r + 1) := rfl
/-- Two bytes are laid down, in the colour i. -/
theorem lay2 (c : Nat → Nat) (i : Nat) (w : World) (k : Nat) (y : Int) (hy : y = (k : Int) / 256 % 256) : SlC (Col (tint c w.heap.size i) i) (w.alloc (.cells #[.int .u8 ((k : Int) % 256), .int .u8 y] 5)) (.slice (some ⟨w.heap.size, 0, none⟩) 2 2) (mg k) ∧ Keep c (tint c w.heap.size i) i w (w.alloc (.cells #[.int .u8 ((k : Int) % 256), .int .u8 y] 5)) := by
  subst hy
  refine ⟨⟨_, 2, rfl, Nat.le_refl _, by simp [mg], mg_isB k, (fun h => by cases h), fun _ => ⟨w.heap.size, 0, tint_new (Nat.le_refl _), rfl, fun j hj => ?_⟩⟩, Keep.alloc c i w _⟩
  have : j = 0 ∨ j = 1 := by simp [mg] at hj; omega
  rw [Nat.zero_add, World.cell?_alloc_new]
  rcases this with rfl | rfl <;> rfl
/-- Bytes that are nothing are made. -/
theorem made (n : Nat) (hn : n ≤ 100000) : ∃ zs : Array Value, (∀ j, j < n → zs[j]? = some (.int .u8 0)) ∧ ∀ w, (Instr.makeSlice 31 (.int .i64 (n : Nat)) (.int .i64 (n : Nat))).run Try.prog w = .ok (.slice (some ⟨w.heap.size, 0, none⟩) n n) (w.alloc (.cells zs 5)) := by
  refine ⟨madeCells #[.int .u8 0] n, fun j hj => ?_, fun w => run_make_row' 31 5 (.int .u8 0) 1 Try.underlying31 info5 rfl .i64 .i64 n (by omega) (by omega) w⟩
  unfold madeCells
  simp [hj, Nat.mod_one]
theorem lay3 (c : Nat → Nat) (i n : Nat) (w : World) (zs : Array Value) (hn : n ≤ 100000) (hz : ∀ j, j < n → zs[j]? = some (.int .u8 0)) : SlC (Col (tint c w.heap.size i) i) (w.alloc (.cells zs 5)) (.slice (some ⟨w.heap.size, 0, none⟩) n n) (List.replicate n 0) ∧ Keep c (tint c w.heap.size i) i w (w.alloc (.cells zs 5)) := by
  refine ⟨⟨_, n, by simp, by simp, by simp; omega, fun x hx => by rw [(List.mem_replicate.1 hx).2]; omega, (fun h => by cases h), fun _ => ⟨w.heap.size, 0, tint_new (Nat.le_refl _), rfl, fun j hj => ?_⟩⟩, Keep.alloc c i w _⟩
  rw [List.length_replicate] at hj
  rw [Nat.zero_add, World.cell?_alloc_new, hz j hj]
  simp [List.getD_eq_getElem?_getD, hj]

set_option maxRecDepth 100000 in
set_option maxHeartbeats 3200000 in
theorem full_any (A : PApi) (w : World) : Calls Try.prog 5 #[] w fun r w' => r = .returned (.bool true) ∧ Below w.heap.size w w' := by
  have hnot : ∀ (x : Bool) (w : World), (Op.unary .not (.bool x)).run Try.prog w = .ok (.bool (!x)) w := fun _ _ => rfl
  go_enter Try.func5, Try.ntmps5
  go_wp2_with fail
  go_fit (make1 A w 0 (by omega))
  rintro r w1 ⟨va, c1, rfl, l1, o1, p1⟩
  have H1 : Hid (Below w.heap.size w w1 ∧ (∀ k, k < w.heap.size → c1 k = 0) ∧ A.PE (Col c1 1) w1 va (E.mk0 0)) := ⟨l1, o1, p1⟩
  clear l1 o1 p1
  go_wp2_with fail
  go_fit (S2.make H1.out.1 H1.out.2.1 H1.out.2.2 0 (by omega))
  rintro r w2 ⟨vb, c2, rfl, -, s2⟩
  have H2 : Hid (S2 A w w2 c2 va vb (eS 0) (eB 0)) := s2
  clear s2 H1
  go_upto_block 0 with fail
  go_cut [] (fun wx => ∃ c, S2 A w wx c va vb (eS 4096) (eB 0))
  case first =>
    go_wp2
    go_loopw [3] (fun x wr => ∃ (i : Nat) (c : Nat → Nat), i ≤ 4096 ∧ x = .int .i64 i ∧ S2 A w wr c va vb (eS i) (eB 0)) (fun x _ => 4096 - (intOf x).toNat)
    case atStart => exact ⟨0, c2, by omega, rfl, H2.out⟩
    case round =>
      obtain ⟨i, c, hi, rfl, hs⟩ := hrel
      have HS : Hid (S2 A w wr c va vb (eS i) (eB 0)) := hs
      clear hs
      by_cases hlt : i < 4096
      · obtain ⟨hl1, hl2⟩ := lay2 c 3 wr i ((i : Int) / 256) (by omega)
        have HX : Hid (S2 A w (wr.alloc (.cells #[.int .u8 ((i : Int) % 256), .int .u8 ((i : Int) / 256)] 5)) (tint c wr.heap.size 3) va vb (eS i) (eB 0)) := HS.out.other hl2 (by omega) (by omega) (by omega)
        have HSd := HX.out.sendA (eS_fit i hi) (by omega) hl1
        rw [(send_i i hlt).1, (send_i i hlt).2] at HSd
        have HSd' : Hid (Calls Try.prog 18 #[va, .slice (some ⟨wr.heap.size, 0, none⟩) 2 2] (wr.alloc (.cells #[.int .u8 ((i : Int) % 256), .int .u8 ((i : Int) / 256)] 5)) fun r w' => ∃ c', r = .returned (.int .i64 0) ∧ Keep (tint c wr.heap.size 3) c' 1 (wr.alloc (.cells #[.int .u8 ((i : Int) % 256), .int .u8 ((i : Int) / 256)] 5)) w' ∧ S2 A w w' c' va vb (eS (i + 1)) (eB 0)) := HSd
        clear HSd hl1 hl2 HX
        go_wp2_with (go_at_call 18; refine (HSd'.out).mono ?_; rintro r w5 ⟨c5, rfl, -, s5⟩)
        go_roundw
        case rel => exact ⟨i + 1, c5, by omega, by go_num, s5⟩
        case measure => simp [intOf]; omega
      · obtain rfl : i = 4096 := by omega
        go_wp2
        go_meet
        case rel => exact ⟨c, HS.out⟩
  case rest =>
    obtain ⟨c3, hs3⟩ := hcut
    have H3 : Hid (S2 A w wc c3 va vb (eS 4096) (eB 0)) := hs3
    clear hs3 H2
    have HA1 := H3.out.sendA (eS_fit 4096 (by omega)) (j := 3) (by omega) (SlC.nil _ _)
    rw [send_full.1, send_full.2] at HA1
    go_wp2_with fail
    go_fit HA1
    rintro r w4 ⟨c4, rfl, -, s4⟩
    have H4 : Hid (S2 A w w4 c4 va vb (eS 4096) (eB 0)) := s4
    clear s4 HA1 H3
    have HA2 := H4.out.leftA (eS_fit 4096 (by omega))
    rw [show (eS 4096).sent.length = 4096 from mgs_len 0 4096] at HA2
    go_wp2_with fail
    go_fit HA2
    rintro r w5 ⟨c5, rfl, -, s5⟩
    have H5 : Hid (S2 A w w5 c5 va vb (eS 4096) (eB 0)) := s5
    clear s5 HA2 H4
    obtain ⟨zs, hz1, hz2⟩ := made 8193 (by omega)
    have hmk : (Instr.makeSlice 31 (.int .i64 8193) (.int .i64 8193)).run Try.prog w5 = .ok (.slice (some ⟨w5.heap.size, 0, none⟩) 8193 8193) (w5.alloc (.cells zs 5)) := hz2 w5
    obtain ⟨y1, y2⟩ := lay3 c5 3 8193 w5 zs (by omega) hz1
    have HX5 : Hid (S2 A w (w5.alloc (.cells zs 5)) (tint c5 w5.heap.size 3) va vb (eS 4096) (eB 0)) := H5.out.other y2 (by omega) (by omega) (by omega)
    have HA3 := HX5.out.sendA (eS_fit 4096 (by omega)) (by omega) y1
    rw [(send_long (by simp)).1, (send_long (by simp)).2] at HA3
    have HA3' : Hid (Calls Try.prog 18 #[va, .slice (some ⟨w5.heap.size, 0, none⟩) 8193 8193] (w5.alloc (.cells zs 5)) fun r w' => ∃ c', r = .returned (.int .i64 3) ∧ Keep (tint c5 w5.heap.size 3) c' 1 (w5.alloc (.cells zs 5)) w' ∧ S2 A w w' c' va vb (eS 4096) (eB 0)) := HA3
    clear HA3 HX5 y1 y2 hz1 hz2
    go_wp2_with (go_at_call 18; refine (HA3'.out).mono ?_; rintro r w6 ⟨c6, rfl, -, s6⟩; have H6 : Hid (S2 A w w6 c6 va vb (eA 0) (eB 0)) := s6; clear s6)
    go_loopw [4, 5, 6, 7, 8, 9, 10] (fun n k l i1 cm i2 gt wr => ∃ (r : Nat) (c : Nat → Nat), r ≤ 128 ∧ k = .int .i64 r ∧ n = .int .i64 ((32 * r : Nat) : Int) ∧ S2 A w wr c va vb (eA r) (eB r)) (fun _ k _ _ _ _ _ _ => 128 - (intOf k).toNat)
    case atStart => exact ⟨0, c6, by omega, rfl, rfl, H6.out⟩
    case round =>
      obtain ⟨r, c, hr, rfl, rfl, hs⟩ := hrel
      have HS : Hid (S2 A w wr c va vb (eA r) (eB r)) := hs
      have HLf := hs.leftA (eA_fit r hr)
      rw [show (eA r).sent.length = 4096 - 32 * r from mgs_len _ _] at HLf
      have HLf' : Hid (Calls Try.prog 21 #[va] wr fun x w' => ∃ c', x = .returned (.int .i64 ((4096 - 32 * r : Nat) : Int)) ∧ Keep c c' 1 wr w' ∧ S2 A w w' c' va vb (eA r) (eB r)) := HLf
      clear hs HLf H6 HA3' hmk H5
      by_cases hlt : r < 128
      · have hL : decide ((0 : Int) < ((4096 - 32 * r : Nat) : Int)) = true := by simp; omega
        go_upto_region 14 with (go_at_call 21; refine (HLf'.out).mono ?_; rintro x w1 ⟨c1, rfl, -, s1⟩; have HS1 : Hid (S2 A w w1 c1 va vb (eA r) (eB r)) := s1; clear s1)
        have HT1 := HS1.out.tickA (eA_fit r hr) 3
        have HT1' : Hid (Calls Try.prog 20 #[va] w1 fun x w' => ∃ u c', x = .returned u ∧ Keep c1 c' 1 w1 w' ∧ S2 A w w' c' va vb (eA r) (eB r) ∧ Ls (Col c' 3) w' u [tkL (eA r)]) := HT1
        clear HT1 HLf' HS hL
        go_upto_region 17 with (go_at_call 20; refine (HT1'.out).mono ?_; rintro x w3 ⟨u3, c3, rfl, -, s3, l3⟩; obtain ⟨b, o, cap, ua, uc, rfl, -, -⟩ := Ls.one l3; have HS3 : Hid (S2 A w w3 c3 va vb (eA r) (eB r) ∧ Ls (Col c3 3) w3 (.slice (some ⟨b, o, none⟩) 1 cap) [tkL (eA r)]) := ⟨s3, l3⟩; clear s3 l3)
        clear HT1' HS1
        go_wp2
        go_loopw [7] (fun x wr => ∃ (j : Nat) (c : Nat → Nat), j ≤ 1 ∧ x = .int .i64 j ∧ S2 A w wr c va vb (eA r) (eBj r j) ∧ Ls (Col c 3) wr (.slice (some ⟨b, o, none⟩) 1 cap) [tkL (eA r)]) (fun x _ => 1 - (intOf x).toNat)
        case atStart => exact ⟨0, c3, by omega, rfl, HS3.out.1, HS3.out.2⟩
        case round =>
          obtain ⟨j, c, hj, rfl, hs, hl⟩ := hrel
          have HSj : Hid (S2 A w wr c va vb (eA r) (eBj r j) ∧ Ls (Col c 3) wr (.slice (some ⟨b, o, none⟩) 1 cap) [tkL (eA r)]) := ⟨hs, hl⟩
          clear hs
          by_cases hj1 : j < 1
          · obtain rfl : j = 0 := by omega
            obtain ⟨b', o', cap', ua', uc', e', hcl, hsl⟩ := Ls.one hl
            simp only [Value.slice.injEq, Option.some.injEq, Addr.mk.injEq, and_true, true_and] at e'
            obtain ⟨⟨rfl, rfl⟩, rfl⟩ := e'
            have HTk := HSj.out.1.takeB (eB_fit r hr) (by omega) hsl
            rw [(take1 r hlt).1, show taS (eBj r 0) (tkL (eA r)) = eB2 r from (take1 r hlt).2] at HTk
            have HTk' : Hid (Calls Try.prog 19 #[vb, .slice ua' (tkL (eA r)).length uc'] wr fun x w' => ∃ c', x = .returned (.int .i64 0) ∧ Keep c c' 2 wr w' ∧ S2 A w w' c' va vb (eA r) (eB2 r)) := HTk
            clear HTk hsl hl
            go_wp2_with (go_at_call 19; refine (HTk'.out).mono ?_; rintro x w4 ⟨c4, rfl, k4, s4⟩)
            go_roundw
            case rel => exact ⟨1, c4, by omega, by go_num, s4, k4.ls (by omega) HSj.out.2⟩
            case measure => simp [intOf]
          · obtain rfl : j = 1 := by omega
            have HC := S2.cameB (eb := eB2 r) HSj.out.1 (eB2_fit r (by omega)) 4
            rw [eB2_new, eB2_came] at HC
            have HC' : Hid (Calls Try.prog 15 #[vb] wr fun x w' => ∃ u c', x = .returned u ∧ Keep c c' 2 wr w' ∧ S2 A w w' c' va vb (eA r) (eB (r + 1)) ∧ Ls (Col c' 4) w' u (mgs (32 * r) 32)) := HC
            clear HC hl HS3
            go_upto_region 23 with (go_at_call 15; refine (HC'.out).mono ?_; rintro x w4 ⟨u4, c4, rfl, -, s4, l4⟩; obtain ⟨ca, ck, hce, -, -, -, hcx⟩ := id l4; rw [mgs_len] at hce; obtain ⟨cb, co, -, hca, -⟩ := hcx (fun e => by have := congrArg List.length e; rw [mgs_len] at this; simp at this); subst hca; subst hce; have HS4 : Hid (S2 A w w4 c4 va vb (eA r) (eB (r + 1)) ∧ Ls (Col c4 4) w4 (.slice (some ⟨cb, co, none⟩) 32 ck) (mgs (32 * r) 32)) := ⟨s4, l4⟩; clear s4 l4 hcx)
            clear HC' HSj
            go_wp2
            go_loopw [4, 9] (fun n x wr => ∃ (j q : Nat) (c : Nat → Nat), j ≤ 32 ∧ q = 32 * r + j ∧ x = .int .i64 j ∧ n = .int .i64 (q : Nat) ∧ S2 A w wr c va vb (eA r) (eB (r + 1)) ∧ Ls (Col c 4) wr (.slice (some ⟨cb, co, none⟩) 32 ck) (mgs (32 * r) 32)) (fun _ x _ => 32 - (intOf x).toNat)
            case atStart => exact ⟨0, 32 * r, c4, by omega, by omega, rfl, by simp, HS4.out.1, HS4.out.2⟩
            case round =>
              obtain ⟨j, q, c, hj, hq, rfl, rfl, hs, hl⟩ := hrel
              have HSj : Hid (S2 A w wr c va vb (eA r) (eB (r + 1)) ∧ Ls (Col c 4) wr (.slice (some ⟨cb, co, none⟩) 32 ck) (mgs (32 * r) 32)) := ⟨hs, hl⟩
              have HQ : Hid (q = 32 * r + j) := hq
              have hq2 : q < 5000 := by omega
              clear hs hq
              by_cases hj1 : j < 32
              · obtain ⟨ao', cap', e', -, -, -, hx⟩ := hl
                obtain ⟨b', o', -, e2, hcl⟩ := hx (fun e => by have := congrArg List.length e; rw [mgs_len] at this; simp at this)
                simp only [Value.slice.injEq] at e'
                have e3 := e'.1.trans e2
                simp only [Option.some.injEq, Addr.mk.injEq, and_true] at e3
                obtain ⟨rfl, rfl⟩ := e3
                obtain ⟨um, hum, hus⟩ := hcl j (by rw [mgs_len]; exact hj1)
                rw [mgs_at _ _ _ hj1, ← HQ.out] at hus
                have HU : Hid (SlC (Col c 4) wr um (mg q)) := hus
                obtain ⟨ua', uc', rfl, -⟩ := hus
                clear e' e2 hx hcl
                obtain ⟨hl1, hl2⟩ := lay2 c 5 wr q ((q : Int) / 256) (by omega)
                have hsm := same_any _ _ _ _ (mg q) (mg q) _ ((hl2.sl (by omega) HU.out).sl) hl1.sl
                have HSm : Hid (Calls Try.prog 22 #[.slice ua' (mg q).length uc', .slice (some ⟨wr.heap.size, 0, none⟩) 2 2] (wr.alloc (.cells #[.int .u8 ((q : Int) % 256), .int .u8 ((q : Int) / 256)] 5)) fun x w' => x = .returned (.bool true) ∧ Below (wr.alloc (.cells #[.int .u8 ((q : Int) % 256), .int .u8 ((q : Int) / 256)] 5)).heap.size (wr.alloc (.cells #[.int .u8 ((q : Int) % 256), .int .u8 ((q : Int) / 256)] 5)) w') := by
                  refine hsm.mono ?_
                  rintro x w' ⟨rfl, h⟩
                  exact ⟨by simp, h⟩
                have HX : Hid (S2 A w (wr.alloc (.cells #[.int .u8 ((q : Int) % 256), .int .u8 ((q : Int) / 256)] 5)) (tint c wr.heap.size 5) va vb (eA r) (eB (r + 1)) ∧ Ls (Col (tint c wr.heap.size 5) 4) (wr.alloc (.cells #[.int .u8 ((q : Int) % 256), .int .u8 ((q : Int) / 256)] 5)) (.slice (some ⟨cb, co, none⟩) 32 ck) (mgs (32 * r) 32)) := ⟨HSj.out.1.other hl2 (by omega) (by omega) (by omega), hl2.ls (by omega) HSj.out.2⟩
                clear hl1 hl2 hsm HU
                go_wp2_with (go_at_call 22; refine (HSm.out).mono ?_; rintro x w5 ⟨rfl, hb5⟩)
                have k5 := Keep.below (tint c wr.heap.size 5) 5 hb5
                go_roundw
                case rel => exact ⟨j + 1, q + 1, _, by omega, by have := HQ.out; omega, by go_num, by go_num, HX.out.1.other k5 (by omega) (by omega) (by omega), k5.ls (by omega) HX.out.2⟩
                case measure => simp [intOf]; omega
              · obtain rfl : j = 32 := by omega
                have HT2 := HSj.out.1.tickB (eB_fit (r + 1) (by omega)) 6
                have HT2' : Hid (Calls Try.prog 20 #[vb] wr fun x w' => ∃ u c', x = .returned u ∧ Keep c c' 2 wr w' ∧ S2 A w w' c' va vb (eA r) (eB (r + 1)) ∧ Ls (Col c' 6) w' u [tkL (eB (r + 1))]) := HT2
                clear HT2 hl HS4
                go_upto_region 30 with (go_at_call 20; refine (HT2'.out).mono ?_; rintro x w6 ⟨u6, c6, rfl, -, s6, l6⟩; obtain ⟨b6, o6, cap6, ua6, uc6, rfl, hcl6, hsl6⟩ := Ls.one l6; have HS6 : Hid (S2 A w w6 c6 va vb (eA r) (eB (r + 1)) ∧ SlC (Col c6 6) w6 (.slice ua6 (tkL (eB (r + 1))).length uc6) (tkL (eB (r + 1)))) := ⟨s6, hsl6⟩; clear s6 l6 hsl6)
                have HTk := HS6.out.1.takeA (eA_fit r hr) (by omega) HS6.out.2
                rw [(take2 r hlt).1, (take2 r hlt).2] at HTk
                have HTk' : Hid (Calls Try.prog 19 #[va, .slice ua6 (tkL (eB (r + 1))).length uc6] w6 fun x w' => ∃ c', x = .returned (.int .i64 0) ∧ Keep c6 c' 1 w6 w' ∧ S2 A w w' c' va vb (eA (r + 1)) (eB (r + 1))) := HTk
                clear HTk HT2' HSj
                go_wp2_with (go_at_call 19; refine (HTk'.out).mono ?_; rintro x w7 ⟨c7, rfl, -, s7⟩)
                go_roundw
                case rel => exact ⟨r + 1, c7, by omega, by go_num, by rw [HQ.out]; rfl, s7⟩
                case measure => simp [intOf]; omega
      · have hr8 : r = 128 := by omega
        have HR : Hid (r = 128) := hr8
        have hL0 : ((4096 - 32 * r : Nat) : Int) = 0 := by omega
        rw [hL0] at HLf'
        have hn0 : ((32 * (r : Int)) == 4096) = true := by simp; omega
        clear hr8 hL0
        go_wp2_with fail
        go_fit HLf'.out
        rintro x w1 ⟨c1, rfl, -, s1⟩
        have HS1 : Hid (S2 A w w1 c1 va vb (eA r) (eB r)) := s1
        clear s1 HS HLf'
        have HLg := HS1.out.leftA (eA_fit r hr)
        rw [show (eA r).sent.length = 4096 - 32 * r from mgs_len _ _, show 4096 - 32 * r = 0 by have := HR.out; omega] at HLg
        go_wp2_with fail
        go_fit HLg
        rintro x w2 ⟨c2, rfl, -, s2⟩
        have HL2 : Hid (Below w.heap.size w w2) := s2.low
        clear s2 HLg HS1
        go_wp2_with fail
        go_fit (wakes_any A w2)
        rintro x w7 ⟨rfl, h7⟩
        go_wp2
        go_ret
        exact ⟨rfl, HL2.out.trans (h7.mono HL2.out.size)⟩
end Go.Proofs.Ytijjcopglbcoiaa
