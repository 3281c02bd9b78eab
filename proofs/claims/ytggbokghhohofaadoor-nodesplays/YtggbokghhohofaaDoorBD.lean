/-
  Proved here: strconv.AppendUint at base 10 and rowsText of package nodes: the text of rows. Conditions: the rows lie where they are said to, their settings are some, they are at most 40000 together; the table of powers of ten holds its numbers.
-/
import Derived.Test.YtggbokghhohofaaDoorBC
import Derived.Test.YtggbokghhohofaaDoorSLU
import Derived.Shelf.Strconv.AppendUint10
import Derived.Lib.UnsafeStr
import Derived.Lib.AppendStr
import Derived.Laws.IdiomStrings
namespace Go.Proofs.YtggbokghhohofaaDoor
open Go.RowKit
set_option maxRecDepth 100000

abbrev Ownb (w : World) (B : Nat) (sv : Value) (l : List UInt8) : Prop := w.ownsRow B 5 1 sv l.length (Lib.byteCells l)
theorem own_str {w : World} {B : Nat} {v : Value} {l m : List UInt8} (h : w.ownsRow B 5 1 v (l.length + m.length) (Lib.byteCells l ++ Lib.byteCells m)) : Ownb w B v (l ++ m) := by
  have e : Lib.byteCells (l ++ m) = Lib.byteCells l ++ Lib.byteCells m := by simp [Lib.byteCells]
  unfold Ownb
  rw [e, List.length_append]
  exact h
theorem own_snoc {w : World} {B : Nat} {v : Value} {l : List UInt8} {x : UInt8} (h : w.ownsRow B 5 1 v (l.length + 1) (Lib.byteCells l ++ [.int .u8 (x.toNat : Int)])) : Ownb w B v (l ++ [x]) := by
  have e : Lib.byteCells (l ++ [x]) = Lib.byteCells l ++ [.int .u8 (x.toNat : Int)] := by simp [Lib.byteCells]
  unfold Ownb
  rw [e, List.length_append]
  exact h
theorem info5 : (Tryd.prog.info? 5).map (fun i => (i.zero, i.size, i.bytes)) = some (some (Value.int .u8 0), 1, 1) := by kernel_rfl
abbrev Pow (B : Nat) (w : World) : Prop := Lib.TabBelow Tryd.prog B w "internal/strconv.uint64pow10" .u64 Lib.pow10Tab
theorem iau_any (B u : Nat) (hu : u < 18446744073709551616) (sv : Value) (l : List UInt8) (w : World) (hown : Ownb w B sv l) (hB : B ≤ w.heap.size) (hlim : l.length ≤ 1000000) (htab : Pow B w) :
    Calls Tryd.prog 56 #[sv, .int .u64 (u : Int), .int .i64 10] w fun e w' => ∃ v', e = .returned v' ∧ Ownb w' B v' (l ++ Lib.decDigits u) ∧ Below B w w' := by
  by_cases h : u < 100
  · have hcon := Any.internal_strconv_AppendUint_10_small Tryd.layAU B l.length u h sv _ w hown hB (by omega)
    change Calls Tryd.prog 56 _ _ _ at hcon
    refine hcon.mono ?_
    rintro e w' ⟨v', he, ho, hb, _⟩
    exact ⟨v', he, own_str ho, hb⟩
  · have hcon := Any.internal_strconv_AppendUint_10_big Tryd.layAU B l.length u (by omega) hu sv _ w hown hB (by omega) htab.here
    change Calls Tryd.prog 56 _ _ _ at hcon
    refine hcon.mono ?_
    rintro e w' ⟨v', he, ho, hb, _⟩
    exact ⟨v', he, own_str ho, hb⟩
set_option maxHeartbeats 400000 in
theorem au_any (B u : Nat) (hu : u < 18446744073709551616) (sv : Value) (l : List UInt8) (w : World) (hown : Ownb w B sv l) (hB : B ≤ w.heap.size) (hlim : l.length ≤ 1000000) (htab : Pow B w) :
    Calls Tryd.prog 38 #[sv, .int .u64 (u : Int), .int .i64 10] w fun e w' => ∃ v', e = .returned v' ∧ Ownb w' B v' (l ++ Lib.decDigits u) ∧ Below B w w' := by
  have HC := hid (iau_any B u hu sv l w hown hB hlim htab)
  clear hown htab
  go_enter Tryd.func38, Tryd.ntmps38
  go_wp2_with (go_at_call 56; refine (HC.out).mono ?_; rintro e w' ⟨v', rfl, ho, hb⟩; have HO := hid (And.intro ho hb); clear ho hb)
  go_ret
  exact ⟨v', rfl, HO.out.1, HO.out.2⟩
theorem conv_own {w : World} {B : Nat} {v : Value} {l : List UInt8} (h : Ownb w B v l) : (convert 78 9 v).run Tryd.prog w = .ok (.string ⟨l.toArray⟩) w := by
  have h' := h
  obtain ⟨_, h1 | ⟨g, cap, cur, hv, _⟩⟩ := h
  · have hl : l = [] := List.length_eq_zero_iff.1 h1.2
    subst hl
    rw [h1.1, run_convert_bytes_string w 78 9 5 none 0 0 Tryd.underlying78 Tryd.underlying5 Tryd.underlying9]
    simp [Conv.bytesToString]
    rfl
  · subst hv
    refine run_convert_bytes_back w 78 9 5 ⟨g, 0, none⟩ cap l Tryd.underlying78 Tryd.underlying5 Tryd.underlying9 fun j hj => ?_
    exact h'.cells rfl j _ (by simp [Lib.byteCells, hj])
theorem rtx_pre {K : List (List Ac)} {i : Nat} (hi : i < K.length) (j : Nat) : (rtx (K.take i) ++ rts (K[i].take j)).length + 1 ≤ (rtx K).length := by
  have e : K = K.take i ++ K[i] :: K.drop (i + 1) := by rw [← List.drop_eq_getElem_cons hi, List.take_append_drop]
  have h2 : (rts (K[i].take j)).length ≤ (rts K[i]).length := by
    have := congrArg List.length (rts_app (K[i].take j) (K[i].drop j))
    rw [List.take_append_drop, List.length_append] at this; omega
  have h3 := congrArg (fun X => (rtx X).length) e
  simp only [rtx_app, rtx_cons, List.length_append, List.length_cons] at h3
  rw [List.length_append]; omega
set_option maxHeartbeats 6400000 in
theorem rowsText_any {T : Nat → Prop} (w : World) (v : Value) (K : List (List Ac)) (h : Cps T w v K) (hTl : ∀ b, T b → b < w.heap.size) (hok : Oks K) (ht : tot K ≤ 40000) (htab : Pow w.heap.size w) :
    Calls Tryd.prog 22 #[v] w fun e w' => e = .returned (.string ⟨(rtx K).toArray⟩) ∧ Below w.heap.size w w' := by
  obtain ⟨ao, cap, rfl, hcap⟩ := h.form
  have hlen := h.len
  have htl := rtx_len hok
  have HA := hid h
  have HT := hid htab
  have HK := hid hok
  obtain ⟨i0, hi, hz0, hz1, hz2⟩ := info_parts info5
  clear h htab hok
  go_enter Tryd.func22, Tryd.ntmps22
  go_upto_region 3 with fail
  go_loopw [3, 10] (fun vv iv wr => ∃ (i : Nat) (v3 : Value), v3 = vv ∧ iv = .int .i64 ((i : Nat) : Int) ∧ i ≤ K.length ∧ Hid (Ownb wr w.heap.size v3 (rtx (K.take i))) ∧ Hid (Below w.heap.size w wr)) (fun _ iv _ => K.length - (intOf iv).toNat)
  case atStart => exact ⟨0, _, rfl, rfl, Nat.zero_le _, World.ownsRow_nil _ _ _ _, Below.refl _ _⟩
  case round =>
    obtain ⟨i, v3, rfl, rfl, hi1, HO, HL⟩ := hrel
    by_cases hik : i < K.length
    · obtain ⟨b, o, u, rfl, hTb, hu, hAc⟩ := HA.out.cell1 i hik
      have hd : decide ((i : Int) < (K.length : Int)) = true := by simp; omega
      have hjc : i < cap := by omega
      have hw3 : IntKind.i64.wrap ((i : Int) + 1) = (i : Int) + 1 := by rw [IntKind.wrap_i64]; omega
      have hu1 : wr.cell? ⟨b, o + i, none⟩ = some u := (cell_same (HL.out.block _ (hTl b hTb))).trans hu
      have HP := hid (fun j => rtx_pre hik j)
      have HTk : Hid (rtx (K.take (i + 1)) = rtx (K.take i) ++ (rts K[i] ++ [59])) := by show _ = _; rw [List.take_succ_eq_append_getElem hik, rtx_app]; simp [rtx]
      have HAc := hid hAc
      have HKr : Hid (∀ a ∈ K[i], okS a = true ∧ InB a.n) := HK.out _ (List.getElem_mem hik)
      generalize K[i] = r at HP HTk HAc HKr
      obtain ⟨au, cu, hux, hcu⟩ := HAc.out.form
      have hrl := HAc.out.len
      subst hux
      clear hu hAc
      go_upto_region 6 with fail
      clear hu1
      go_loopw [3, 16] (fun vv iv wr => ∃ (j : Nat) (v4 : Value), v4 = vv ∧ iv = .int .i64 ((j : Nat) : Int) ∧ j ≤ r.length ∧ Hid (Ownb wr w.heap.size v4 (rtx (K.take i) ++ rts (r.take j))) ∧ Hid (Below w.heap.size w wr)) (fun _ iv _ => r.length - (intOf iv).toNat)
      case atStart => exact ⟨0, v3, rfl, rfl, Nat.zero_le _, by show Ownb _ _ _ _; simpa [rts] using HO.out, HL.out⟩
      case round =>
        clear HO HL
        obtain ⟨j, v4, rfl, rfl, hj1, HO, HL⟩ := hrel
        have hpj := HP.out j
        by_cases hjr : j < r.length
        · obtain ⟨g, p, rfl, hTg, hgl, hra, hfit⟩ := HAc.out.at j hjr
          have hd2 : decide ((j : Int) < (r.length : Int)) = true := by simp; omega
          have hjc2 : j < cu := by omega
          have hw4 : IntKind.i64.wrap ((j : Int) + 1) = (j : Int) + 1 := by rw [IntKind.wrap_i64]; omega
          have HR : Hid (wr.rangeAt g (p + j * 3) (acl r[j]).toList) := fun k x hk => (cell_same (HL.out.block _ hgl)).trans (hra k x hk)
          obtain ⟨hka, hkn⟩ := HKr.out _ (List.getElem_mem hjr)
          have HTj : Hid (rts (r.take (j + 1)) = rts (r.take j) ++ sgt r[j]) := by show _ = _; rw [List.take_succ_eq_append_getElem hjr, rts_app]; simp [rts]
          have HPj := hid (HP.out (j + 1))
          have hsg := sgt_head hka
          obtain ⟨-, hf0, hf1⟩ := okS_iff hka
          generalize r[j] = a at HR hka hkn HTj hsg hf0 hf1
          obtain ⟨f, hf⟩ : ∃ f : Nat, a.fd = (f : Int) := ⟨a.fd.toNat, by omega⟩
          obtain ⟨nn, hnn⟩ : ∃ nn : Nat, a.n = (nn : Int) := ⟨a.n.toNat, by simp only [InB] at hkn; omega⟩
          have hnb : nn < 18446744073709551616 := by simp only [InB] at hkn; omega
          have hsa : Hid (sgt a = UInt8.ofNat (97 + f) :: Lib.decDigits nn) := by show _ = _; unfold sgt; rw [hf, hnn]; rfl
          rw [hf, show ((f : Nat) : Int).toNat = f from rfl] at hsg
          have hacl : acl a = #[.int .i8 a.dw, .int .i8 ((f : Nat) : Int), .int .u64 ((nn : Nat) : Int)] := by unfold acl; rw [hf, hnn]
          have hf11 : f < 11 := by omega
          rw [hacl] at HR
          generalize a.dw = dw at HR
          have hal : Below wr.heap.size wr (wr.alloc (.cells #[.int .i8 dw, .int .i8 ((f : Nat) : Int), .int .u64 ((nn : Nat) : Int)] 54)) := (Below.refl _ _).alloc (Nat.le_refl _) _
          have hwn := heap_alloc_new wr (.cells #[.int .i8 dw, .int .i8 ((f : Nat) : Int), .int .u64 ((nn : Nat) : Int)] 54)
          have HO5 : Hid (Ownb (wr.alloc (.cells #[.int .i8 dw, .int .i8 ((f : Nat) : Int), .int .u64 ((nn : Nat) : Int)] 54)) w.heap.size v4 (rtx (K.take i) ++ rts (r.take j))) := HO.out.alloc _
          have HL5 := hid (HL.out.trans (hal.mono HL.out.size))
          have HWN := hid hwn
          have hcA : (wr.alloc (.cells #[.int .i8 dw, .int .i8 ((f : Nat) : Int), .int .u64 ((nn : Nat) : Int)] 54)).cell? ⟨wr.heap.size, 1, none⟩ = some (.int .i8 ((f : Nat) : Int)) := (cell_of_row _ _ _ _ _ _ hwn).trans rfl
          have hcB : (wr.alloc (.cells #[.int .i8 dw, .int .i8 ((f : Nat) : Int), .int .u64 ((nn : Nat) : Int)] 54)).cell? ⟨wr.heap.size, 2, none⟩ = some (.int .u64 ((nn : Nat) : Int)) := (cell_of_row _ _ _ _ _ _ hwn).trans rfl
          have HZ : Hid (w.heap.size ≤ wr.heap.size) := HL.out.size
          clear hra hfit hka hkn hf0 hf1 hf hnn hacl hal hwn HO HL
          go_upto_region 8 with (first
            | (refine ldMid 54 (.tmp 18) rfl rfl g (p + j * 3) rfl #[.int .i8 dw, .int .i8 ((f : Nat) : Int), .int .u64 ((nn : Nat) : Int)] _ Tryd.underlying54 rfl infoACT HR.out ?_)
            | (refine stNew 54 (.tmp 7) (.tmp 19) rfl rfl wr 54 zac #[.int .i8 dw, .int .i8 ((f : Nat) : Int), .int .u64 ((nn : Nat) : Int)] rfl rfl rfl infoACT rfl rfl ?_))
          obtain ⟨A, hA⟩ : ∃ A, A = wr.heap.size := ⟨_, rfl⟩
          rw [← hA] at hcA hcB HZ HWN ⊢
          generalize wr.alloc (.cells #[.int .i8 dw, .int .i8 ((f : Nat) : Int), .int .u64 ((nn : Nat) : Int)] 54) = w5 at HO5 HL5 hcA hcB HWN ⊢
          have hAl := cell_lt hcB
          have hcv : IntKind.u8.wrap ((f : Nat) : Int) = ((f : Nat) : Int) := by rw [IntKind.wrap_u8]; omega
          have hcw : IntKind.u8.wrap (97 + ((f : Nat) : Int)) = 97 + ((f : Nat) : Int) := by rw [IntKind.wrap_u8]; omega
          have HB8 : Hid ((97 + ((f : Nat) : Int)) = ((UInt8.ofNat (97 + f)).toNat : Int)) := by show _ = _; rw [hsg]; omega
          have hz5 := HL5.out.size
          clear hA hsg
          go_upto_region 9 with (at_builtin; refine wpList_append_own _ rfl _ _ 78 rfl w.heap.size 5 i0 (.int .u8 0) 1 1 Tryd.underlying78 hi hz0 hz1 hz2 rfl (by decide) _ _ _ rfl (HO5.out.alloc _) ⟨w5.heap.size, 0, none⟩ 1 1 [.int .u8 (97 + ((f : Nat) : Int))] rfl rfl (cell_one_new _ _ _) (fun x hx => by simp at hx; subst hx; rfl) (by unfold maxLen; omega) (by omega) (by simp; omega) ?_; intro v6 w6 hown' hgrow _; have HX6 := hid hown'; have HG6 := hid hgrow; clear hown' hgrow)
          have hneA : v4.ownBlock ≠ some A := fun e => by
            rcases HO5.out.2 with ⟨e1, _⟩ | ⟨g', c', cu', e1, -, hg', -⟩
            · rw [e1] at e; simp [Value.ownBlock] at e
            · rw [e1] at e
              simp [Value.ownBlock] at e
              subst e
              rw [HWN.out] at hg'
              simp at hg'
          have hb6 : Below w.heap.size w w6 := ((HL5.out).alloc hz5 _).grown HG6.out (by simp; omega) (fun k hk => (HO5.out.lt k hk).1)
          have hcB6 : w6.cell? ⟨A, 2, none⟩ = some (.int .u64 ((nn : Nat) : Int)) := by
            rw [cell_same (HG6.out.block A (by simp; omega) (fun e => hneA e.symm)), cell_same (heap_alloc_old _ _ hAl)]
            exact hcB
          have HO6 : Hid (Ownb w6 w.heap.size v6 ((rtx (K.take i) ++ rts (r.take j)) ++ [UInt8.ofNat (97 + f)])) := by
            have := HX6.out
            rw [HB8.out] at this
            exact own_snoc this
          have hlj : (rtx (K.take i) ++ rts (r.take j)).length + 1 ≤ 1000000 := by omega
          have HAU := hid (au_any w.heap.size nn hnb v6 _ w6 HO6.out hb6.size (by rw [List.length_append, List.length_singleton]; exact hlj) (HT.out.on hb6))
          have HL6 := hid hb6
          clear hcA hcB hneA hb6 hcv hcw HO5 HL5 HX6 HG6 HWN HO6 HR
          go_wp2_with (go_at_call 38; refine (HAU.out).mono ?_; rintro e w7 ⟨v7, rfl, ho, hb⟩; have HO7 := hid ho; have HL7 := hid (HL6.out.trans hb); clear ho hb HAU)
          go_roundw
          case rel =>
            refine ⟨j + 1, v7, rfl, by rw [show (((j + 1 : Nat) : Nat) : Int) = (j : Int) + 1 by omega], hjr, ?_, HL7⟩
            have := HO7.out
            show Ownb _ _ _ _
            rw [HTj.out, hsa.out]
            simpa [List.append_assoc] using this
          case measure => simp [intOf]; omega
        · have hd2 : decide ((j : Int) < (r.length : Int)) = false := by simp; omega
          obtain rfl : j = r.length := by omega
          rw [List.take_length] at HO hpj
          have hz5 := HL.out.size
          clear HP HAc HKr
          go_wp2_with (at_builtin; refine wpList_append_own _ rfl _ _ 78 rfl w.heap.size 5 i0 (.int .u8 0) 1 1 Tryd.underlying78 hi hz0 hz1 hz2 rfl (by decide) _ _ _ rfl (HO.out.alloc _) ⟨wr.heap.size, 0, none⟩ 1 1 [.int .u8 59] rfl rfl (cell_one_new _ _ _) (fun x hx => by simp at hx; subst hx; rfl) (by unfold maxLen; omega) (by omega) (by simp; omega) ?_; intro v6 w6 hown' hgrow _; have HX6 := hid hown'; have HG6 := hid hgrow; clear hown' hgrow)
          have hb6 : Below w.heap.size w w6 := ((HL.out).alloc hz5 _).grown HG6.out (by simp; omega) (fun k hk => (HO.out.lt k hk).1)
          have HO6 : Hid (Ownb w6 w.heap.size v6 ((rtx (K.take i) ++ rts r) ++ [59])) := own_snoc (x := 59) HX6.out
          have HL6 := hid hb6
          clear hb6 HX6 HG6 HO HL
          go_wp2
          go_roundw
          case rel =>
            refine ⟨i + 1, v6, rfl, by rw [show (((i + 1 : Nat) : Nat) : Int) = (i : Int) + 1 by omega], hik, ?_, HL6⟩
            have := HO6.out
            show Ownb _ _ _ _
            rw [HTk.out]
            simpa [List.append_assoc] using this
          case measure => simp [intOf]; omega
    · have hd : decide ((i : Int) < (K.length : Int)) = false := by simp; omega
      obtain rfl : i = K.length := by omega
      rw [List.take_length] at HO
      have hcv := conv_own HO.out
      go_wp2
      go_ret
      exact ⟨rfl, HL.out⟩
end Go.Proofs.YtggbokghhohofaaDoor
