/-
  Proved here: ParseBlanks returns true. Condition: the tables; the texts are no longer than there can be.
-/
import Derived.Test.YtcifeankgnjndaaGreatDoorFWBL
namespace Go.Proofs.YtcifeankgnjndaaGreatDoor
set_option maxRecDepth 100000
open Go.RowKit
set_option maxRecDepth 100000

/-- what a refused text is told as -/
abbrev zp : Po := ⟨.mk 0 0 0 [], []⟩
theorem zp_v (w : World) : PoV (fun _ => True) w zp pz := ⟨tmc 0 0 0 nilS, nilS, [], rfl, TmV.leaf _ _ 0 0 0, Rw.nil _ _ _ _, rfl⟩
theorem prs_fits {s : ByteArray} {p : Po} (h : prs s = .ok p) : fitsB p = true := by
  unfold prs at h
  cases ha : all s with
  | no c x t => rw [ha] at h; cases h
  | ok l =>
    rw [ha] at h
    replace h : rdW l = .ok p := h
    unfold rdW at h
    cases hf : fil l with
    | bad j => rw [hf] at h; cases h
    | ok p' j =>
      rw [hf] at h
      replace h : (if fitsB p' = true then Ans.ok p' else .no 200 0 ⟨#[]⟩) = .ok p := h
      split at h
      · rename_i hfit; cases h; exact hfit
      · cases h
/-- q is what a text is told as, b whether it is taken -/
def Tld (s : ByteArray) (q : Po) (b : Bool) : Prop := (prs s = .ok q ∧ b = true) ∨ ((∃ c a t, prs s = .no c a t) ∧ q = zp ∧ b = false)
theorem tld_any {s : ByteArray} {q : Po} {b : Bool} (h : Tld s q b) (w : World) (hT : Tab0 w) (hs : s.size ≤ 9223372036854775806) : Calls Tryz.prog 9 #[.string s] w fun e w' => Below w.heap.size w w' ∧ ∃ cs er, e = .returned (.tuple #[.agg cs, er]) ∧ PoV (fun _ => True) w' q cs ∧ ((b = true ∧ er = .nilIface) ∨ (b = false ∧ ∃ N, er = .iface 66 (ptr N))) := by
  rcases h with ⟨h, rfl⟩ | ⟨⟨c, a, t, h⟩, rfl, rfl⟩
  · refine (pol_ok w hT hs h).mono ?_
    rintro e w' ⟨hb, cs, rfl, hv⟩
    exact ⟨hb, cs, _, rfl, hv.carry fun b _ _ => ⟨trivial, rfl⟩, Or.inl ⟨rfl, rfl⟩⟩
  · refine (pol_no w hT hs h).mono ?_
    rintro e w' ⟨hb, N, rfl, -, -⟩
    exact ⟨hb, _, _, rfl, zp_v w', Or.inr ⟨rfl, N, rfl⟩⟩
theorem tld_fits {s : ByteArray} {q : Po} {b : Bool} (h : Tld s q b) : fitsB q = true := by
  rcases h with ⟨h, -⟩ | ⟨-, rfl, -⟩
  · exact prs_fits h
  · rfl
structure BlR (P1 P2 : Nat) (cs1 cs2 : Array Value) (W : World) : Prop where
  r1 : W.rangeAt P1 0 cs1.toList
  r2 : W.rangeAt P2 0 cs2.toList
  l1 : P1 < W.heap.size
  l2 : P2 < W.heap.size
theorem rng_on {W W' : World} {g p : Nat} {l : List Value} (h : W.rangeAt g p l) (e : W'.heap[g]? = W.heap[g]?) : W'.rangeAt g p l := fun j v hj => (cell_same e).trans (h j v hj)
theorem BlR.on {P1 P2 : Nat} {cs1 cs2 : Array Value} {W W' : World} (h : BlR P1 P2 cs1 cs2 W) (hb : Below W.heap.size W W') : BlR P1 P2 cs1 cs2 W' :=
  ⟨rng_on h.r1 (hb.block _ h.l1), rng_on h.r2 (hb.block _ h.l2), Nat.lt_of_lt_of_le h.l1 hb.size, Nat.lt_of_lt_of_le h.l2 hb.size⟩
theorem row_rng {W : World} {P : Nat} {cs : Array Value} (h : W.heap[P]? = some (.cells cs 30 (0, 0))) : W.rangeAt P 0 cs.toList := fun j v hj => by
  rw [Nat.zero_add, cell_of_row _ _ _ _ _ _ h]; simpa using hj
theorem bel_drw {B : Nat} {w w' : World} (h : Below B w w') : Below B w w'.drew := ⟨h.os, h.tape, h.output, h.size, h.block⟩
theorem tld_lng {s T : ByteArray} {r : List UInt8} (hT : T.data.toList = lng r s.data.toList) (hr : ∀ c ∈ r, c ≠ 10) (h35 : ∀ i, bt s i ≠ 35) (hs : s.size ≤ 65536) (hs' : T.size ≤ 65536) : ∃ q b, Tld s q b ∧ Tld T q b := by
  rcases prs_lng hT hr h35 hs hs' with ⟨p, h1, h2⟩ | ⟨c, a, t, c', a', t', h1, h2⟩
  · exact ⟨p, true, Or.inl ⟨h1, rfl⟩, Or.inl ⟨h2, rfl⟩⟩
  · exact ⟨zp, false, Or.inr ⟨⟨_, _, _, h1⟩, rfl, rfl⟩, Or.inr ⟨⟨_, _, _, h2⟩, rfl, rfl⟩⟩
set_option maxHeartbeats 12800000 in
theorem blanks_any (s r : ByteArray) (w : World) (hT : Tab w) (hs : s.size ≤ 9223372036854775806) (hr : r.size ≤ 9223372036854775806) : Calls Tryz.prog 4 #[.string s, .string r] w fun e w' => e = .returned (.bool true) ∧ Below w.heap.size w w' := by
  have HW := hid (wakes_any w hT)
  have HWk : Hid (∀ W, Below w.heap.size w W → Calls Tryz.prog 8 #[] W fun e w' => e = .returned (.bool true) ∧ Below W.heap.size W w') := fun W hb => wakes_any W (hT.on hb)
  have HPo : Hid (∀ (s : ByteArray) q b W, Tld s q b → s.size ≤ 65536 → Below w.heap.size w W → Calls Tryz.prog 9 #[.string s] W fun e w' => Below W.heap.size W w' ∧ ∃ cs er, e = .returned (.tuple #[.agg cs, er]) ∧ PoV (fun _ => True) w' q cs ∧ ((b = true ∧ er = .nilIface) ∨ (b = false ∧ ∃ N, er = .iface 66 (ptr N)))) := fun s q b W h hs hb => tld_any h W (hT.z.on hb) (by omega)
  by_cases h1 : 4096 < s.size
  · have g1 : decide ((4096 : Int) < (s.size : Int)) = true := by simp; omega
    clear hT h1 HPo HWk
    go_enter Tryz.func4, Tryz.ntmps4
    go_wp2_with (go_at_call 8; refine (HW.out).mono ?_; rintro e w' ⟨rfl, hw⟩; have HX := hid hw; clear hw)
    go_ret
    exact ⟨rfl, HX.out⟩
  have g1 : decide ((4096 : Int) < (s.size : Int)) = false := by simp; omega
  by_cases h2 : 100 < r.size
  · have g2 : decide ((100 : Int) < (r.size : Int)) = true := by simp; omega
    clear hT h1 h2 HPo HWk
    go_enter Tryz.func4, Tryz.ntmps4
    go_wp2_with (go_at_call 8; refine (HW.out).mono ?_; rintro e w' ⟨rfl, hw⟩; have HX := hid hw; clear hw)
    go_ret
    exact ⟨rfl, HX.out⟩
  have g2 : decide ((100 : Int) < (r.size : Int)) = false := by simp; omega
  obtain ⟨i0, hi, hz0, hz1, hz2⟩ := infoU8
  have hss : s.size ≤ 4096 := by omega
  have hrs : r.size ≤ 100 := by omega
  clear hT h1 h2 hs hr
  go_enter Tryz.func4, Tryz.ntmps4
  go_upto_region 4 with fail
  go_loop [5] (fun v => ∃ j : Nat, v = .int .i64 j ∧ j ≤ r.size ∧ Hid (∀ k, k < j → bt r k ≠ 10)) (fun v => r.size - (intOf v).toNat)
  case atStart => exact ⟨0, rfl, by omega, fun k hk => by omega⟩
  case round =>
    obtain ⟨j, rfl, hj, HR⟩ := hrel
    by_cases hl : j < r.size
    · have gl : decide ((j : Int) < (r.size : Int)) = true := by simp; omega
      have hix := run_bt r j hl w
      have hw1 : IntKind.i64.wrap ((j : Int) + 1) = (j : Int) + 1 := by rw [IntKind.wrap_i64]; omega
      by_cases hb : bt r j = 10
      · have b1 : (((bt r j : Nat) : Int) == 10) = true := by rw [hb]; rfl
        clear hb HR HPo HWk
        go_wp2_with (go_at_call 8; refine (HW.out).mono ?_; rintro e w' ⟨rfl, hw⟩; have HX := hid hw; clear hw)
        go_ret
        exact ⟨rfl, HX.out⟩
      · have b1 : (((bt r j : Nat) : Int) == 10) = false := by simp; omega
        have HR2 : Hid (∀ k, k < j + 1 → bt r k ≠ 10) := fun k hk => by
          rcases Nat.lt_or_eq_of_le (Nat.lt_succ_iff.1 hk) with h | h
          · exact HR.out k h
          · rw [h]; exact hb
        clear hb HR HPo HWk HW
        go_wp2
        go_round
        case rel => exact ⟨j + 1, by go_num, by omega, HR2⟩
        case measure => simp [intOf]; omega
    · obtain rfl : j = r.size := by omega
      have gl : decide ((r.size : Int) < (r.size : Int)) = false := by simp
      have HRm : Hid (∀ c ∈ r.data.toList, c ≠ 10) := fun c hc e => by
        obtain ⟨k, hk, hk2⟩ := List.mem_iff_getElem.1 hc
        have hk3 : k < r.size := by rw [size_list]; exact hk
        refine HR.out k hk3 ?_
        rw [bt_list, List.getElem?_eq_getElem hk, hk2, e]; rfl
      clear HR HW hl hj
      go_upto_region 10 with fail
      go_loopw [6, 7] (fun v vi wr => ∃ (i : Nat) (ao : Option Addr) (n ca : Nat), vi = .int .i64 i ∧ v = .slice ao n ca ∧ i ≤ s.size ∧ Hid (n = (lng r.data.toList (s.data.toList.take i)).length) ∧ Hid (∀ k, k < i → bt s k ≠ 35) ∧ Hid (Own wr w.heap.size (.slice ao n ca) (lng r.data.toList (s.data.toList.take i))) ∧ Hid (Below w.heap.size w wr)) (fun _ vi _ => s.size - (intOf vi).toNat)
      case atStart => exact ⟨0, none, 0, 0, rfl, rfl, by omega, rfl, fun k hk => by omega, World.ownsRow_nil _ _ _ _, Below.refl _ _⟩
      case round =>
        obtain ⟨i, ao, n, ca, rfl, rfl, hi2, HN, HB, HO, HL⟩ := hrel
        by_cases hl : i < s.size
        · have gl2 : decide ((i : Int) < (s.size : Int)) = true := by simp; omega
          have hix := run_bt s i hl wr
          by_cases hb : bt s i = 35
          · have b1 : (((bt s i : Nat) : Int) == 35) = true := by rw [hb]; rfl
            have HW1 := hid (HWk.out wr HL.out)
            clear hb HO HPo HWk HB HN
            go_wp2_with (go_at_call 8; refine (HW1.out).mono ?_; rintro e w' ⟨rfl, hw⟩; have HX := hid (HL.out.trans (hw.mono HL.out.size)); clear hw)
            go_ret
            exact ⟨rfl, HX.out⟩
          · have b1 : (((bt s i : Nat) : Int) == 35) = false := by simp; omega
            have HB2 : Hid (∀ k, k < i + 1 → bt s k ≠ 35) := fun k hk => by
              rcases Nat.lt_or_eq_of_le (Nat.lt_succ_iff.1 hk) with h | h
              · exact HB.out k h
              · rw [h]; exact hb
            have hll : i < s.data.toList.length := by rw [← size_list]; exact hl
            obtain ⟨c, hc⟩ : ∃ c, c = s.data.toList[i] := ⟨_, rfl⟩
            have hbc : bt s i = c.toNat := by rw [bt_list, List.getElem?_eq_getElem hll, hc]; rfl
            have hwi : IntKind.i64.wrap ((i : Int) + 1) = (i : Int) + 1 := by rw [IntKind.wrap_i64]; omega
            have hlen : (lng r.data.toList (s.data.toList.take i)).length ≤ 434176 := by
              have h1 := lng_len r.data.toList (s.data.toList.take i)
              have h2 : (s.data.toList.take i).length ≤ 4096 := by rw [List.length_take, ← size_list]; omega
              have h3 : r.data.toList.length ≤ 100 := by rw [← size_list]; omega
              have := Nat.mul_le_mul h2 (show r.data.toList.length + 6 ≤ 106 by omega)
              omega
            have HST : Hid (lng r.data.toList (s.data.toList.take (i + 1)) = lng r.data.toList (s.data.toList.take i) ++ (c :: if c = 32 ∨ c = 10 then [9, 32, 35] ++ (r.data.toList ++ [10, 32]) else [])) := by
              show _ = _
              rw [List.take_succ_eq_append_getElem hll, lng_snoc, ← hc]
            clear hc hb HB hll
            generalize lng r.data.toList (s.data.toList.take i) = l at HN HO HST hlen
            obtain ⟨hn⟩ : Nonempty (n = l.length) := ⟨HN.out⟩
            subst hn
            clear HN
            rw [hbc] at hix b1
            have hsz := HL.out.size
            go_upto_region 15 with (at_builtin; refine wpList_append_own _ rfl _ _ 44 rfl w.heap.size 5 i0 (.int .u8 0) 1 1 Tryz.underlying44 hi hz0 hz1 hz2 rfl (by decide) _ _ _ rfl (HO.out.alloc _) ⟨wr.heap.size, 0, none⟩ 1 1 [.int .u8 (c.toNat : Int)] rfl rfl (cell_one_new _ _ _) (fun x hx => by simp at hx; subst hx; rfl) (by unfold maxLen; omega) (by omega) (by simp; omega) ?_; intro v2 w2 hown2 hgrow2 _; have HO2 := hid hown2; have HG2 := hid hgrow2; clear hown2 hgrow2)
            have ho2 : Own w2 w.heap.size v2 (l ++ [c]) := own_snoc HO2.out
            have hb2 : Below w.heap.size w w2 := (HL.out.alloc hsz _).grown HG2.out (by simp; omega) (fun j hj => (HO.out.lt j hj).1)
            obtain ⟨ao2, ca2, rfl⟩ := own_form ho2
            have hix2 := run_bt s i hl w2
            rw [hbc] at hix2
            have HO3 := hid ho2
            have HL3 := hid hb2
            have hsz2 := hb2.size
            clear HO2 HG2 HO HL ho2 hb2 hsz hix b1
            by_cases hc32 : c = 32
            · have e1 : (((c.toNat : Nat) : Int) == 32) = true := by rw [hc32]; rfl
              have HS2 : Hid (lng r.data.toList (s.data.toList.take (i + 1)) = l ++ [c] ++ [9, 32, 35] ++ r.data.toList ++ [10, 32]) := by
                show _ = _
                rw [HST.out, if_pos (by first | exact Or.inl hc32 | exact Or.inr hc10)]; simp
              clear HST
              go_upto_region 17 with (at_builtin; refine Lib.wpList_append_own_string _ rfl _ _ 44 9 rfl w.heap.size 5 i0 Tryz.underlying44 Tryz.underlying9 hi hz0 hz1 hz2 _ _ _ rfl HO3.out ⟨#[9, 32, 35]⟩ rfl (by show (l ++ [c]).length + 3 ≤ maxLen; unfold maxLen; simp; omega) (by show (l ++ [c]).length + 3 ≤ _; simp; omega) hsz2 ?_; intro v4 w4 hown4 hgrow4 _; have HO4 := hid hown4; have HG4 := hid hgrow4; clear hown4 hgrow4)
              have ho4 : Own w4 w.heap.size v4 (l ++ [c] ++ [9, 32, 35]) := own_str HO4.out rfl rfl
              have hb4 : Below w.heap.size w w4 := HL3.out.grown HG4.out hsz2 (fun j hj => (HO3.out.lt j hj).1)
              have hsz4 := hb4.size
              have HL4 := hid hb4
              clear HO4 HG4 HO3 HL3 hb4
              have hl4 : (l ++ [c] ++ [9, 32, 35]).length ≤ 434180 := by simp; omega
              generalize l ++ [c] ++ [9, 32, 35] = l4 at ho4 hl4 HS2
              have HO4 := hid ho4
              clear ho4
              have hrl : r.data.toList.length = r.size := (size_list r).symm
              go_upto_region 18 with (at_builtin; refine Lib.wpList_append_own_string _ rfl _ _ 44 9 rfl w.heap.size 5 i0 Tryz.underlying44 Tryz.underlying9 hi hz0 hz1 hz2 _ _ _ rfl HO4.out r rfl (by unfold maxLen; omega) (by omega) hsz4 ?_; intro v5 w5 hown5 hgrow5 _; have HO5 := hid hown5; have HG5 := hid hgrow5; clear hown5 hgrow5)
              have ho5 : Own w5 w.heap.size v5 (l4 ++ r.data.toList) := own_str HO5.out (by rw [hrl]) rfl
              have hb5 : Below w.heap.size w w5 := HL4.out.grown HG5.out hsz4 (fun j hj => (HO4.out.lt j hj).1)
              have hsz5 := hb5.size
              have HL5 := hid hb5
              clear HO5 HG5 HO4 HL4 hb5
              have hl5 : (l4 ++ r.data.toList).length ≤ 434280 := by rw [List.length_append, hrl]; omega
              generalize l4 ++ r.data.toList = l5 at ho5 hl5 HS2
              have HO5 := hid ho5
              clear ho5 hl4
              go_upto_region 11 with (at_builtin; refine wpList_append_own _ rfl _ _ 44 rfl w.heap.size 5 i0 (.int .u8 0) 1 1 Tryz.underlying44 hi hz0 hz1 hz2 rfl (by decide) _ _ _ rfl (HO5.out.alloc _) ⟨w5.heap.size, 0, none⟩ 2 2 [.int .u8 10, .int .u8 32] rfl rfl (cell_two_new _ _ _ _) (fun x hx => by simp at hx; rcases hx with rfl | rfl <;> rfl) (by unfold maxLen; omega) (by omega) (by simp; omega) ?_; intro v6 w6 hown6 hgrow6 _; have HO6 := hid hown6; have HG6 := hid hgrow6; clear hown6 hgrow6)
              have ho6 : Own w6 w.heap.size v6 (l5 ++ [10, 32]) := own_str HO6.out rfl rfl
              have hb6 : Below w.heap.size w w6 := (HL5.out.alloc hsz5 _).grown HG6.out (by simp; omega) (fun j hj => (HO5.out.lt j hj).1)
              obtain ⟨ao6, nn, ca6, rfl, hnn⟩ := own_formN ho6
              have HNN := hid hnn
              clear hnn
              have HO7 := hid ho6
              have HL7 := hid hb6
              clear HO6 HG6 HO5 HL5 ho6 hb6
              go_wp2
              go_roundw
              case rel => exact ⟨i + 1, ao6, nn, ca6, by go_num, rfl, by omega, HNN.out.trans (congrArg List.length HS2.out).symm, HB2, by show Own _ _ _ _; rw [HS2.out]; exact HO7.out, HL7⟩
              case measure => simp [intOf]; omega
            · have e1 : (((c.toNat : Nat) : Int) == 32) = false := by
                simp; intro h; exact hc32 (UInt8.toNat_inj.1 (by show c.toNat = 32; omega))
              by_cases hc10 : c = 10
              · have e2 : (((c.toNat : Nat) : Int) == 10) = true := by rw [hc10]; rfl
                have HS2 : Hid (lng r.data.toList (s.data.toList.take (i + 1)) = l ++ [c] ++ [9, 32, 35] ++ r.data.toList ++ [10, 32]) := by
                  show _ = _
                  rw [HST.out, if_pos (by first | exact Or.inl hc32 | exact Or.inr hc10)]; simp
                clear HST
                go_upto_region 17 with (at_builtin; refine Lib.wpList_append_own_string _ rfl _ _ 44 9 rfl w.heap.size 5 i0 Tryz.underlying44 Tryz.underlying9 hi hz0 hz1 hz2 _ _ _ rfl HO3.out ⟨#[9, 32, 35]⟩ rfl (by show (l ++ [c]).length + 3 ≤ maxLen; unfold maxLen; simp; omega) (by show (l ++ [c]).length + 3 ≤ _; simp; omega) hsz2 ?_; intro v4 w4 hown4 hgrow4 _; have HO4 := hid hown4; have HG4 := hid hgrow4; clear hown4 hgrow4)
                have ho4 : Own w4 w.heap.size v4 (l ++ [c] ++ [9, 32, 35]) := own_str HO4.out rfl rfl
                have hb4 : Below w.heap.size w w4 := HL3.out.grown HG4.out hsz2 (fun j hj => (HO3.out.lt j hj).1)
                have hsz4 := hb4.size
                have HL4 := hid hb4
                clear HO4 HG4 HO3 HL3 hb4
                have hl4 : (l ++ [c] ++ [9, 32, 35]).length ≤ 434180 := by simp; omega
                generalize l ++ [c] ++ [9, 32, 35] = l4 at ho4 hl4 HS2
                have HO4 := hid ho4
                clear ho4
                have hrl : r.data.toList.length = r.size := (size_list r).symm
                go_upto_region 18 with (at_builtin; refine Lib.wpList_append_own_string _ rfl _ _ 44 9 rfl w.heap.size 5 i0 Tryz.underlying44 Tryz.underlying9 hi hz0 hz1 hz2 _ _ _ rfl HO4.out r rfl (by unfold maxLen; omega) (by omega) hsz4 ?_; intro v5 w5 hown5 hgrow5 _; have HO5 := hid hown5; have HG5 := hid hgrow5; clear hown5 hgrow5)
                have ho5 : Own w5 w.heap.size v5 (l4 ++ r.data.toList) := own_str HO5.out (by rw [hrl]) rfl
                have hb5 : Below w.heap.size w w5 := HL4.out.grown HG5.out hsz4 (fun j hj => (HO4.out.lt j hj).1)
                have hsz5 := hb5.size
                have HL5 := hid hb5
                clear HO5 HG5 HO4 HL4 hb5
                have hl5 : (l4 ++ r.data.toList).length ≤ 434280 := by rw [List.length_append, hrl]; omega
                generalize l4 ++ r.data.toList = l5 at ho5 hl5 HS2
                have HO5 := hid ho5
                clear ho5 hl4
                go_upto_region 11 with (at_builtin; refine wpList_append_own _ rfl _ _ 44 rfl w.heap.size 5 i0 (.int .u8 0) 1 1 Tryz.underlying44 hi hz0 hz1 hz2 rfl (by decide) _ _ _ rfl (HO5.out.alloc _) ⟨w5.heap.size, 0, none⟩ 2 2 [.int .u8 10, .int .u8 32] rfl rfl (cell_two_new _ _ _ _) (fun x hx => by simp at hx; rcases hx with rfl | rfl <;> rfl) (by unfold maxLen; omega) (by omega) (by simp; omega) ?_; intro v6 w6 hown6 hgrow6 _; have HO6 := hid hown6; have HG6 := hid hgrow6; clear hown6 hgrow6)
                have ho6 : Own w6 w.heap.size v6 (l5 ++ [10, 32]) := own_str HO6.out rfl rfl
                have hb6 : Below w.heap.size w w6 := (HL5.out.alloc hsz5 _).grown HG6.out (by simp; omega) (fun j hj => (HO5.out.lt j hj).1)
                obtain ⟨ao6, nn, ca6, rfl, hnn⟩ := own_formN ho6
                have HNN := hid hnn
                clear hnn
                have HO7 := hid ho6
                have HL7 := hid hb6
                clear HO6 HG6 HO5 HL5 ho6 hb6
                go_wp2
                go_roundw
                case rel => exact ⟨i + 1, ao6, nn, ca6, by go_num, rfl, by omega, HNN.out.trans (congrArg List.length HS2.out).symm, HB2, by show Own _ _ _ _; rw [HS2.out]; exact HO7.out, HL7⟩
                case measure => simp [intOf]; omega
              · have e2 : (((c.toNat : Nat) : Int) == 10) = false := by
                  simp; intro h; exact hc10 (UInt8.toNat_inj.1 (by show c.toNat = 10; omega))
                have HS2 : Hid (lng r.data.toList (s.data.toList.take (i + 1)) = l ++ [c]) := by
                  show _ = _
                  rw [HST.out, if_neg (by rintro (h | h); exact hc32 h; exact hc10 h)]
                clear HST hc10 hc32 HPo HWk
                go_wp2
                go_roundw
                case rel => exact ⟨i + 1, ao2, (l ++ [c]).length, ca2, by go_num, rfl, by omega, (congrArg List.length HS2.out).symm, HB2, by show Own _ _ _ _; rw [HS2.out]; exact HO3.out, HL3⟩
                case measure => simp [intOf]; omega
        · obtain rfl : i = s.size := by omega
          have gl2 : decide ((s.size : Int) < (s.size : Int)) = false := by simp
          have htk : s.data.toList.take s.size = s.data.toList := by rw [size_list, List.take_length]
          rw [htk] at HN HO
          obtain ⟨L, hL⟩ : ∃ L, L = lng r.data.toList s.data.toList := ⟨_, rfl⟩
          rw [← hL] at HN HO
          obtain ⟨hn⟩ : Nonempty (n = L.length) := ⟨HN.out⟩
          subst hn
          have HLd := hid hL
          clear HN hL htk
          by_cases hbg : 65536 < L.length
          · have gT : decide ((65536 : Int) < (L.length : Int)) = true := by simp; omega
            have HW1 := hid (HWk.out wr HL.out)
            clear HPo HWk HO HB
            go_wp2_with (go_at_call 8; refine (HW1.out).mono ?_; rintro e w' ⟨rfl, hw⟩; have HX := hid (HL.out.trans (hw.mono HL.out.size)); clear hw)
            go_ret
            exact ⟨rfl, HX.out⟩
          · have gT : decide ((65536 : Int) < (L.length : Int)) = false := by simp; omega
            have hTl : (⟨L.toArray⟩ : ByteArray).data.toList = lng r.data.toList s.data.toList := by rw [← HLd.out]
            have hTz : (⟨L.toArray⟩ : ByteArray).size ≤ 65536 := by rw [size_list]; show L.length ≤ _; omega
            obtain ⟨q, b, t1, t2⟩ := tld_lng hTl HRm.out (fun k e => by
              rcases Nat.lt_or_ge k s.size with h | h
              · exact HB.out k h e
              · rw [bt_out (by omega)] at e; cases e) (by omega) hTz
            have HF := hid (tld_fits t1)
            have HP1 := hid (HPo.out s q b wr t1 (by omega) HL.out)
            have HT2 := hid (And.intro t2 hTz)
            clear t1 t2 hTl hTz hbg HB HRm
            go_upto_region 22 with (first
              | (go_at_call 9; refine (HP1.out).mono ?_; rintro e W1 ⟨hb1, cs1, er1, rfl, hv1, he1⟩; have HB1 := hid hb1; have HV1 := hid hv1; have HE1 := hid he1; clear hb1 hv1 he1 HP1)
              | (refine stNew 30 (.tmp 8) (.tmp 74) rfl rfl W1 30 pz cs1 rfl rfl rfl HV1.out.info (by rw [HV1.out.size]; rfl) HV1.out.one ?_))
            have b1 : Below wr.heap.size wr (W1.alloc (.cells cs1 30)) := HB1.out.alloc HB1.out.size _
            have HL1 := hid (HL.out.trans (b1.mono HL.out.size))
            have HR1 : Hid ((W1.alloc (.cells cs1 30)).heap[W1.heap.size]? = some (.cells cs1 30 (0, 0))) := heap_alloc_new _ _
            have HV1' : Hid (PoV (fun _ => True) (W1.alloc (.cells cs1 30)) q cs1) := HV1.out.carry fun b hb _ => ⟨trivial, heap_alloc_old _ _ hb⟩
            have HO1 : Hid (Own (W1.alloc (.cells cs1 30)) w.heap.size (.slice ao L.length ca) L) := by
              refine World.ownsRow.kept (row := none) HO.out ⟨b1.os, b1.tape, b1.output, b1.size, fun k hk _ => b1.block k hk⟩ ?_
              by_cases h : (Value.slice ao L.length ca).ownBlock = none
              · exact Or.inl h
              · exact Or.inr h
            clear b1 HB1 HV1 HO HL
            generalize W1.alloc (.cells cs1 30) = V1 at HL1 HR1 HV1' HO1 ⊢
            generalize W1.heap.size = P1 at HR1 ⊢
            have hcv := conv_own HO1.out
            have HP2 := hid (HPo.out ⟨L.toArray⟩ q b V1 HT2.out.1 HT2.out.2 HL1.out)
            clear HPo HT2
            go_upto_region 23 with (first
              | (go_at_call 9; refine (HP2.out).mono ?_; rintro e W2 ⟨hb1, cs2, er2, rfl, hv1, he1⟩; have HB2 := hid hb1; have HV2 := hid hv1; have HE2 := hid he1; clear hb1 hv1 he1 HP2)
              | (refine stNew 30 (.tmp 10) (.tmp 80) rfl rfl W2 30 pz cs2 rfl rfl rfl HV2.out.info (by rw [HV2.out.size]; rfl) HV2.out.one ?_))
            have b2 : Below V1.heap.size V1 (W2.alloc (.cells cs2 30)) := HB2.out.alloc HB2.out.size _
            have HL2 := hid (HL1.out.trans (b2.mono HL1.out.size))
            have hr2 : (W2.alloc (.cells cs2 30)).heap[W2.heap.size]? = some (.cells cs2 30 (0, 0)) := heap_alloc_new _ _
            have hr1 : (W2.alloc (.cells cs2 30)).heap[P1]? = some (.cells cs1 30 (0, 0)) := (b2.block P1 (Array.getElem?_eq_some_iff.1 HR1.out).1).trans HR1.out
            have HW2 : Hid (PoV (fun _ => True) (W2.alloc (.cells cs2 30)) q cs2) := HV2.out.carry fun b hb _ => ⟨trivial, heap_alloc_old _ _ hb⟩
            have HW1 : Hid (PoV (fun _ => True) (W2.alloc (.cells cs2 30)) q cs1) := HV1'.out.carry fun b hb _ => ⟨trivial, b2.block b hb⟩
            have HRR : Hid (BlR P1 W2.heap.size cs1 cs2 (W2.alloc (.cells cs2 30))) := ⟨row_rng hr1, row_rng hr2, (Array.getElem?_eq_some_iff.1 hr1).1, (Array.getElem?_eq_some_iff.1 hr2).1⟩
            clear b2 hr1 hr2 HB2 HV2 HV1' HO1 HL1 HR1 hcv
            generalize W2.alloc (.cells cs2 30) = V2 at HL2 HW2 HW1 HRR ⊢
            generalize W2.heap.size = P2 at HRR ⊢
            have hHeld0 : BlR P1 P2 cs1 cs2 V2.drew := HRR.out.on (bel_drw (Below.refl _ _))
            have HBd : Hid (Below w.heap.size w V2.drew) := bel_drw HL2.out
            have HC := hid (policies_same q cs1 cs2 V2.drew HF.out (HW1.out.carry fun b _ _ => ⟨trivial, rfl⟩) (HW2.out.carry fun b _ _ => ⟨trivial, rfl⟩))
            have HI1 := hid HW1.out.info
            have HI2 := hid HW2.out.info
            clear HRR HW1 HW2 HL2 HF
            rcases HE1.out with ⟨rfl, rfl⟩ | ⟨rfl, N1, rfl⟩
            · obtain ⟨-, rfl⟩ | ⟨h, -⟩ := HE2.out
              · have htt : True := trivial
                refine wp_region_held_drew (S := BlR P1 P2 cs1 cs2) (by kernel_rfl) hHeld0 (fun hHeld => ?_)
                refine wpAnyH_take (i := 0) (v := ?_) rfl (by kernel_rfl) (by kernel_rfl) (by kernel_rfl) (fun _ _ _ h => h) (Or.inl ⟨by rfl, ?_⟩) hHeld ?_
                rotate_left
                · intro w' hSw
                  clear hSw
                  go_simp
                  first | done | with_reducible rfl
                simp only [Act.put, List.getElem_toArray, List.getElem_cons_zero, List.setIfInBounds_toArray, List.set_cons_zero, List.set_cons_succ]
                refine wpAnyH_take (i := 1) (v := ?_) rfl (by kernel_rfl) (by kernel_rfl) (by kernel_rfl) (fun _ _ _ h => h) (Or.inl ⟨by rfl, ?_⟩) hHeld ?_
                rotate_left
                · intro w' hSw
                  clear hSw
                  go_simp
                  first | done | with_reducible rfl
                simp only [Act.put, List.getElem_toArray, List.getElem_cons_succ, List.getElem_cons_zero, List.setIfInBounds_toArray, List.set_cons_zero, List.set_cons_succ]
                refine wpAnyH_take (i := 2) (v := ?_) rfl (by kernel_rfl) (by kernel_rfl) (by kernel_rfl) (fun _ _ _ h => h) (Or.inl ⟨by rfl, ?_⟩) hHeld ?_
                rotate_left
                · intro w' hSw
                  clear hSw
                  go_simp
                  first | done | with_reducible rfl
                simp only [Act.put, List.getElem_toArray, List.getElem_cons_succ, List.getElem_cons_zero, List.setIfInBounds_toArray, List.set_cons_zero, List.set_cons_succ]
                refine wpAnyH_take (i := 3) (v := ?_) rfl (by kernel_rfl) (by kernel_rfl) (by kernel_rfl) (fun _ _ _ h => h) (Or.inl ⟨by rfl, ?_⟩) hHeld ?_
                rotate_left
                · intro w' hSw
                  clear hSw
                  go_simp
                  first | done | with_reducible rfl
                simp only [Act.put, List.getElem_toArray, List.getElem_cons_succ, List.getElem_cons_zero, List.setIfInBounds_toArray, List.set_cons_zero, List.set_cons_succ]
                refine wpAnyH_take (i := 4) (v := ?_) rfl (by kernel_rfl) (by kernel_rfl) (by kernel_rfl) (fun _ _ _ h => h) (Or.inl ⟨by rfl, ?_⟩) hHeld ?_
                rotate_left
                · intro w' hSw
                  clear hSw
                  go_simp
                  first | done | with_reducible rfl
                simp only [Act.put, List.getElem_toArray, List.getElem_cons_succ, List.getElem_cons_zero, List.setIfInBounds_toArray, List.set_cons_zero, List.set_cons_succ]
                refine wpAnyH_take (i := 5) (v := ?_) rfl (by kernel_rfl) (by kernel_rfl) (by kernel_rfl) (fun _ _ _ h => h) (Or.inl ⟨by rfl, ?_⟩) hHeld ?_
                rotate_left
                · intro w' hSw
                  clear hSw
                  go_simp
                  first | done | with_reducible rfl
                simp only [Act.put, List.getElem_toArray, List.getElem_cons_succ, List.getElem_cons_zero, List.setIfInBounds_toArray, List.set_cons_zero, List.set_cons_succ]
                refine wpAnyH_take (i := 6) (v := .agg cs1) rfl (by kernel_rfl) (by kernel_rfl) (by kernel_rfl) (fun _ _ _ h => h) (Or.inl ⟨by rfl, ?_⟩) hHeld ?_
                · intro w' hSw
                  exact runLd 30 (.tmp 8) rfl P1 0 rfl cs1 _ hSw.r1 Tryz.underlying30 rfl HI1.out
                simp only [Act.put, List.getElem_toArray, List.getElem_cons_succ, List.getElem_cons_zero, List.setIfInBounds_toArray, List.set_cons_zero, List.set_cons_succ]
                refine wpAnyH_take (i := 7) (v := .agg cs2) rfl (by kernel_rfl) (by kernel_rfl) (by kernel_rfl) (fun _ _ _ h => h) (Or.inl ⟨by rfl, ?_⟩) hHeld ?_
                · intro w' hSw
                  exact runLd 30 (.tmp 10) rfl P2 0 rfl cs2 _ hSw.r2 Tryz.underlying30 rfl HI2.out
                simp only [Act.put, List.getElem_toArray, List.getElem_cons_succ, List.getElem_cons_zero, List.setIfInBounds_toArray, List.set_cons_zero, List.set_cons_succ]
                refine ready_one 8 _ (by kernel_rfl) rfl (stepFnW 12 (.func 12) [.tmp 88, .tmp 89] _ [.agg cs1, .agg cs2] rfl rfl rfl rfl (fun _ => rfl) _ HC.out ?_)
                rintro e w4 ⟨rfl, hw⟩
                refine Or.inl ⟨_, rfl, ?_⟩
                replace hHeld := hHeld.on hw
                have HB3 := hid (HBd.out.trans (hw.mono HBd.out.size))
                clear hw hHeld0 HBd HC
                refine ⟨hHeld, ?_⟩
                simp only [Act.put, List.getElem_toArray, List.getElem_cons_succ, List.getElem_cons_zero, List.setIfInBounds_toArray, List.set_cons_zero, List.set_cons_succ]
                refine wpAnyH_take (i := 9) (v := ?_) rfl (by kernel_rfl) (by kernel_rfl) (by kernel_rfl) (fun _ _ _ h => h) (Or.inl ⟨by rfl, ?_⟩) hHeld ?_
                rotate_left
                · intro w' hSw
                  clear hSw
                  go_simp
                  first | done | with_reducible rfl
                simp only [Act.put, List.getElem_toArray, List.getElem_cons_succ, List.getElem_cons_zero, List.setIfInBounds_toArray, List.set_cons_zero, List.set_cons_succ]
                refine wpAnyH_take (i := 10) (v := ?_) rfl (by kernel_rfl) (by kernel_rfl) (by kernel_rfl) (fun _ _ _ h => h) (Or.inl ⟨by rfl, ?_⟩) hHeld ?_
                rotate_left
                · intro w' hSw
                  clear hSw
                  go_simp
                  first | done | with_reducible rfl
                simp only [Act.put, List.getElem_toArray, List.getElem_cons_succ, List.getElem_cons_zero, List.setIfInBounds_toArray, List.set_cons_zero, List.set_cons_succ]
                have HW6 := hid (HWk.out w4 HB3.out)
                refine ready_one 11 _ (by kernel_rfl) rfl (stepFnW 8 (.func 8) [] _ [] rfl rfl rfl rfl (fun _ => rfl) _ HW6.out ?_)
                rintro e w6 ⟨rfl, hw⟩
                refine Or.inl ⟨_, rfl, ?_⟩
                replace hHeld := hHeld.on hw
                have HX := hid (HB3.out.trans (hw.mono HB3.out.size))
                clear hw HB3
                refine ⟨hHeld, ?_⟩
                simp only [Act.put, List.getElem_toArray, List.getElem_cons_succ, List.getElem_cons_zero, List.setIfInBounds_toArray, List.set_cons_zero, List.set_cons_succ]
                refine wpAnyH_take (i := 12) (v := ?_) rfl (by kernel_rfl) (by kernel_rfl) (by kernel_rfl) (fun _ _ _ h => h) (Or.inl ⟨by rfl, ?_⟩) hHeld ?_
                rotate_left
                · intro w' hSw
                  clear hSw
                  go_simp
                  first | done | with_reducible rfl
                simp only [Act.put, List.getElem_toArray, List.getElem_cons_succ, List.getElem_cons_zero, List.setIfInBounds_toArray, List.set_cons_zero, List.set_cons_succ]
                refine wpAnyH_take (i := 13) (v := ?_) rfl (by kernel_rfl) (by kernel_rfl) (by kernel_rfl) (fun _ _ _ h => h) (Or.inl ⟨by rfl, ?_⟩) hHeld ?_
                rotate_left
                · intro w' hSw
                  clear hSw
                  go_simp
                  first | done | with_reducible rfl
                simp only [Act.put, List.getElem_toArray, List.getElem_cons_succ, List.getElem_cons_zero, List.setIfInBounds_toArray, List.set_cons_zero, List.set_cons_succ]
                refine wpAnyH_done (by kernel_rfl) ?_ _
                clear hHeld
                go_wp2
                go_ret
                exact ⟨rfl, HX.out⟩
              · cases h
            · obtain ⟨h, -⟩ | ⟨-, N2, rfl⟩ := HE2.out
              · cases h
              · have htt : True := trivial
                refine wp_region_held_drew (S := BlR P1 P2 cs1 cs2) (by kernel_rfl) hHeld0 (fun hHeld => ?_)
                refine wpAnyH_take (i := 0) (v := ?_) rfl (by kernel_rfl) (by kernel_rfl) (by kernel_rfl) (fun _ _ _ h => h) (Or.inl ⟨by rfl, ?_⟩) hHeld ?_
                rotate_left
                · intro w' hSw
                  clear hSw
                  go_simp
                  first | done | with_reducible rfl
                simp only [Act.put, List.getElem_toArray, List.getElem_cons_zero, List.setIfInBounds_toArray, List.set_cons_zero, List.set_cons_succ]
                refine wpAnyH_take (i := 1) (v := ?_) rfl (by kernel_rfl) (by kernel_rfl) (by kernel_rfl) (fun _ _ _ h => h) (Or.inl ⟨by rfl, ?_⟩) hHeld ?_
                rotate_left
                · intro w' hSw
                  clear hSw
                  go_simp
                  first | done | with_reducible rfl
                simp only [Act.put, List.getElem_toArray, List.getElem_cons_succ, List.getElem_cons_zero, List.setIfInBounds_toArray, List.set_cons_zero, List.set_cons_succ]
                refine wpAnyH_take (i := 2) (v := ?_) rfl (by kernel_rfl) (by kernel_rfl) (by kernel_rfl) (fun _ _ _ h => h) (Or.inl ⟨by rfl, ?_⟩) hHeld ?_
                rotate_left
                · intro w' hSw
                  clear hSw
                  go_simp
                  first | done | with_reducible rfl
                simp only [Act.put, List.getElem_toArray, List.getElem_cons_succ, List.getElem_cons_zero, List.setIfInBounds_toArray, List.set_cons_zero, List.set_cons_succ]
                refine wpAnyH_take (i := 3) (v := ?_) rfl (by kernel_rfl) (by kernel_rfl) (by kernel_rfl) (fun _ _ _ h => h) (Or.inl ⟨by rfl, ?_⟩) hHeld ?_
                rotate_left
                · intro w' hSw
                  clear hSw
                  go_simp
                  first | done | with_reducible rfl
                simp only [Act.put, List.getElem_toArray, List.getElem_cons_succ, List.getElem_cons_zero, List.setIfInBounds_toArray, List.set_cons_zero, List.set_cons_succ]
                refine wpAnyH_take (i := 4) (v := ?_) rfl (by kernel_rfl) (by kernel_rfl) (by kernel_rfl) (fun _ _ _ h => h) (Or.inl ⟨by rfl, ?_⟩) hHeld ?_
                rotate_left
                · intro w' hSw
                  clear hSw
                  go_simp
                  first | done | with_reducible rfl
                simp only [Act.put, List.getElem_toArray, List.getElem_cons_succ, List.getElem_cons_zero, List.setIfInBounds_toArray, List.set_cons_zero, List.set_cons_succ]
                refine wpAnyH_take (i := 5) (v := ?_) rfl (by kernel_rfl) (by kernel_rfl) (by kernel_rfl) (fun _ _ _ h => h) (Or.inl ⟨by rfl, ?_⟩) hHeld ?_
                rotate_left
                · intro w' hSw
                  clear hSw
                  go_simp
                  first | done | with_reducible rfl
                simp only [Act.put, List.getElem_toArray, List.getElem_cons_succ, List.getElem_cons_zero, List.setIfInBounds_toArray, List.set_cons_zero, List.set_cons_succ]
                refine wpAnyH_take (i := 6) (v := .agg cs1) rfl (by kernel_rfl) (by kernel_rfl) (by kernel_rfl) (fun _ _ _ h => h) (Or.inl ⟨by rfl, ?_⟩) hHeld ?_
                · intro w' hSw
                  exact runLd 30 (.tmp 8) rfl P1 0 rfl cs1 _ hSw.r1 Tryz.underlying30 rfl HI1.out
                simp only [Act.put, List.getElem_toArray, List.getElem_cons_succ, List.getElem_cons_zero, List.setIfInBounds_toArray, List.set_cons_zero, List.set_cons_succ]
                refine wpAnyH_take (i := 7) (v := .agg cs2) rfl (by kernel_rfl) (by kernel_rfl) (by kernel_rfl) (fun _ _ _ h => h) (Or.inl ⟨by rfl, ?_⟩) hHeld ?_
                · intro w' hSw
                  exact runLd 30 (.tmp 10) rfl P2 0 rfl cs2 _ hSw.r2 Tryz.underlying30 rfl HI2.out
                simp only [Act.put, List.getElem_toArray, List.getElem_cons_succ, List.getElem_cons_zero, List.setIfInBounds_toArray, List.set_cons_zero, List.set_cons_succ]
                refine ready_one 8 _ (by kernel_rfl) rfl (stepFnW 12 (.func 12) [.tmp 88, .tmp 89] _ [.agg cs1, .agg cs2] rfl rfl rfl rfl (fun _ => rfl) _ HC.out ?_)
                rintro e w4 ⟨rfl, hw⟩
                refine Or.inl ⟨_, rfl, ?_⟩
                replace hHeld := hHeld.on hw
                have HB3 := hid (HBd.out.trans (hw.mono HBd.out.size))
                clear hw hHeld0 HBd HC
                refine ⟨hHeld, ?_⟩
                simp only [Act.put, List.getElem_toArray, List.getElem_cons_succ, List.getElem_cons_zero, List.setIfInBounds_toArray, List.set_cons_zero, List.set_cons_succ]
                refine wpAnyH_take (i := 9) (v := ?_) rfl (by kernel_rfl) (by kernel_rfl) (by kernel_rfl) (fun _ _ _ h => h) (Or.inl ⟨by rfl, ?_⟩) hHeld ?_
                rotate_left
                · intro w' hSw
                  clear hSw
                  go_simp
                  first | done | with_reducible rfl
                simp only [Act.put, List.getElem_toArray, List.getElem_cons_succ, List.getElem_cons_zero, List.setIfInBounds_toArray, List.set_cons_zero, List.set_cons_succ]
                refine wpAnyH_take (i := 10) (v := ?_) rfl (by kernel_rfl) (by kernel_rfl) (by kernel_rfl) (fun _ _ _ h => h) (Or.inl ⟨by rfl, ?_⟩) hHeld ?_
                rotate_left
                · intro w' hSw
                  clear hSw
                  go_simp
                  first | done | with_reducible rfl
                simp only [Act.put, List.getElem_toArray, List.getElem_cons_succ, List.getElem_cons_zero, List.setIfInBounds_toArray, List.set_cons_zero, List.set_cons_succ]
                have HW6 := hid (HWk.out w4 HB3.out)
                refine ready_one 11 _ (by kernel_rfl) rfl (stepFnW 8 (.func 8) [] _ [] rfl rfl rfl rfl (fun _ => rfl) _ HW6.out ?_)
                rintro e w6 ⟨rfl, hw⟩
                refine Or.inl ⟨_, rfl, ?_⟩
                replace hHeld := hHeld.on hw
                have HX := hid (HB3.out.trans (hw.mono HB3.out.size))
                clear hw HB3
                refine ⟨hHeld, ?_⟩
                simp only [Act.put, List.getElem_toArray, List.getElem_cons_succ, List.getElem_cons_zero, List.setIfInBounds_toArray, List.set_cons_zero, List.set_cons_succ]
                refine wpAnyH_take (i := 12) (v := ?_) rfl (by kernel_rfl) (by kernel_rfl) (by kernel_rfl) (fun _ _ _ h => h) (Or.inl ⟨by rfl, ?_⟩) hHeld ?_
                rotate_left
                · intro w' hSw
                  clear hSw
                  go_simp
                  first | done | with_reducible rfl
                simp only [Act.put, List.getElem_toArray, List.getElem_cons_succ, List.getElem_cons_zero, List.setIfInBounds_toArray, List.set_cons_zero, List.set_cons_succ]
                refine wpAnyH_take (i := 13) (v := ?_) rfl (by kernel_rfl) (by kernel_rfl) (by kernel_rfl) (fun _ _ _ h => h) (Or.inl ⟨by rfl, ?_⟩) hHeld ?_
                rotate_left
                · intro w' hSw
                  clear hSw
                  go_simp
                  first | done | with_reducible rfl
                simp only [Act.put, List.getElem_toArray, List.getElem_cons_succ, List.getElem_cons_zero, List.setIfInBounds_toArray, List.set_cons_zero, List.set_cons_succ]
                refine wpAnyH_done (by kernel_rfl) ?_ _
                clear hHeld
                go_wp2
                go_ret
                exact ⟨rfl, HX.out⟩
end Go.Proofs.YtcifeankgnjndaaGreatDoor
