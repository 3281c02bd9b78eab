/-
  Proved here: All of package scan tells the words of a text, or its first fault, as the document says; what is told lies in new memory. Condition: strconv's errors are some.
-/
import Derived.Test.YtoncogkamlgjhaaGreatDoorFQ9
import Derived.Test.YtoncogkamlgjhaaGreatDoorFRY
namespace Go.Proofs.YtoncogkamlgjhaaGreatDoor
set_option maxRecDepth 100000
open Go.RowKit
set_option maxRecDepth 100000

/-- a word as a value; words as cells -/
abbrev wdc (x : Wd) : Array Value := #[.int .i8 ((x.k : Nat) : Int), .string x.t, .int .u64 ((x.n : Nat) : Int), .int .i64 ((x.at' : Nat) : Int)]
def wcs (l : List Wd) : List Value := l.flatMap fun x => (wdc x).toList
theorem wcs_one (l : List Wd) (x : Wd) : wcs (l ++ [x]) = wcs l ++ (wdc x).toList := by simp [wcs]
theorem wd1 (x : Wd) : ∀ z ∈ (wdc x).toList, z.oneCell' = true := by
  intro z hz; simp at hz
  rcases hz with rfl | rfl | rfl | rfl <;> rfl
theorem infoWD : (Tryz.prog.info? 52).map (fun i => (i.zero, i.size, i.bytes)) = some (some (.agg (wdc ⟨0, ByteArray.empty, 0, 0⟩)), 4, 40) := by kernel_rfl
theorem info_parts {t : TypeId} {z : Option Value} {n b : Nat} (h : (Tryz.prog.info? t).map (fun i => (i.zero, i.size, i.bytes)) = some (z, n, b)) : ∃ i, Tryz.prog.info? t = some i ∧ i.zero = z ∧ i.size = n ∧ i.bytes = b := by
  cases hi : Tryz.prog.info? t with
  | none => rw [hi] at h; exact absurd h (by simp)
  | some i =>
    rw [hi] at h
    simp at h
    exact ⟨i, rfl, h.1, h.2.1, h.2.2⟩
/-- words in memory: their slice lies in blocks of T -/
abbrev Wds (T : Nat → Prop) (W : World) (v : Value) (l : List Wd) : Prop := Rw T 4 52 W v l.length (wcs l)
/-- A fault in memory. -/
abbrev flc (c a : Nat) (t : ByteArray) : Array Value := #[.int .i64 ((c : Nat) : Int), .int .i64 ((a : Nat) : Int), .string t]
/-- What All answers. -/
def AlP (s : ByteArray) (w : World) (e : Ending) (w' : World) : Prop :=
  Below w.heap.size w w' ∧ match all s with
  | .ok l => ∃ v, e = .returned (.tuple #[v, .nilIface]) ∧ Wds (fun b => w.heap.size ≤ b) w' v l
  | .no c a t => ∃ N, e = .returned (.tuple #[nilS, .iface 54 (.pointer (some ⟨N, 0, none⟩))]) ∧ w.heap.size ≤ N ∧ w'.heap[N]? = some (.cells (flc c a t) 56 (0, 0))

/-- Where All is. -/
structure AlS (s : ByteArray) (W0 : World) (pos : Nat) (acc : List Wd) (v : Value) (W : World) : Prop where
  low : Below W0.heap.size W0 W
  it : W.heap[W0.heap.size]? = some (.stringIter s pos)
  ws : Wds (fun b => W0.heap.size < b) W v acc
theorem AlS.on {s : ByteArray} {W0 W W' : World} {pos : Nat} {acc : List Wd} {v : Value} (h : AlS s W0 pos acc v W) (hb : Below W.heap.size W W') : AlS s W0 pos acc v W' :=
  ⟨h.low.trans (hb.mono h.low.size), (hb.block _ (Array.getElem?_eq_some_iff.1 h.it).1).trans h.it, h.ws.carry fun b hl hS => ⟨hS, hb.block b hl⟩⟩
theorem AlS.next {s : ByteArray} {W0 W : World} {pos : Nat} {acc : List Wd} {v : Value} (h : AlS s W0 pos acc v W) (p : Nat) : AlS s W0 p acc v (W.iterAt W0.heap.size s p) :=
  ⟨Lib.below_iterAt h.low (Nat.le_refl _) s p, Lib.iterAt_heap W _ s pos p h.it, h.ws.carry fun b _ hS => ⟨hS, Lib.iterAt_other W _ b s p (by omega)⟩⟩
theorem AlS.app {s : ByteArray} {W0 W W' : World} {pos : Nat} {acc : List Wd} {v v' : Value} {x : Wd} (h : AlS s W0 pos acc v W) (hA : Apd W v W') (hR : Rw (fun b => W0.heap.size < b ∨ W.heap.size ≤ b) 4 52 W' v' (acc.length + 1) (wcs acc ++ (wdc x).toList)) : AlS s W0 pos (acc ++ [x]) v' W' := by
  have hown : ∀ k, v.ownBlock = some k → W0.heap.size < k := fun k hk => h.ws.own k hk
  have hlt : W0.heap.size < W.heap.size := (Array.getElem?_eq_some_iff.1 h.it).1
  refine ⟨h.low.trans ⟨hA.os, hA.tape, hA.output, hA.size, fun k hk => hA.block k (by omega) fun e => by have := hown k e; omega⟩, ?_, ?_⟩
  · rw [hA.block _ hlt fun e => by have := hown _ e; omega]; exact h.it
  · show Rw _ 4 52 W' v' (acc ++ [x]).length (wcs (acc ++ [x]))
    rw [wcs_one, List.length_append]
    exact hR.carry fun b hl hS => ⟨by rcases hS with h1 | h1 <;> omega, rfl⟩
theorem AlS.ipos {s : ByteArray} {W0 W : World} {pos : Nat} {acc : List Wd} {v : Value} (h : AlS s W0 pos acc v W) : W.iterPos W0.heap.size = pos := by unfold World.iterPos; rw [h.it]
/-- What is known of the place, the last word's end, and the remark. -/
structure AlK (s : ByteArray) (pos en : Nat) (rm : Bool) (acc : List Wd) : Prop where
  pl : pos ≤ s.size
  el : en ≤ s.size
  al : acc.length ≤ pos
  inw : pos < en → rm = false ∧ ∀ j, pos ≤ j → j < en → bt s j < 128
  st : st s pos en rm acc = sc s 0 []
theorem blk_ru {s : ByteArray} {i : Nat} (h : i < s.size) : blk (ru s i) = blk (bt s i) := by
  rw [Bool.eq_iff_iff, blk_iff, blk_iff, ru_lo h (by decide), ru_lo h (by decide), ru_lo h (by decide), ru_lo h (by decide)]
/-- What stands in a block for what is found. -/
structure Fb (g : Nat) (f : Fd) (W : World) : Prop where
  c0 : W.cell? ⟨g, 0, none⟩ = some (.int .i8 ((f.k : Nat) : Int))
  c1 : W.cell? ⟨g, 1, none⟩ = some (.int .i64 ((f.e : Nat) : Int))
  c2 : W.cell? ⟨g, 2, none⟩ = some (.int .u64 ((f.n : Nat) : Int))
  c3 : W.cell? ⟨g, 3, none⟩ = some (.int .i64 ((f.c : Nat) : Int))
theorem Fb.of {g : Nat} {f : Fd} {W : World} (h : W.heap[g]? = some (.cells (fdc f) 71 (0, 0))) : Fb g f W :=
  ⟨(cell_of_row _ _ _ _ _ _ h).trans rfl, (cell_of_row _ _ _ _ _ _ h).trans rfl, (cell_of_row _ _ _ _ _ _ h).trans rfl, (cell_of_row _ _ _ _ _ _ h).trans rfl⟩
/-- A fault is boxed. -/
theorem bxF {o : Oper} {a : Act} {w : World} {K : Act → World → Prop} {Q : Exit → Act → World → Prop} (x : Operand) (ho : o.op = .box 56 x) (c p : Nat) (t : ByteArray) (hx : a.eval x = .agg (flc c p t))
    (h : K (a.put o.dst (.pointer (some ⟨w.heap.size, 0, none⟩))) (w.alloc (.cells (flc c p t) 56))) : o.wp Tryz.prog a w K Q := by
  have hrun : (Instr.box 56 (.agg (flc c p t))).run Tryz.prog w = .ok (.pointer (some ⟨w.heap.size, 0, none⟩)) (w.alloc (.cells (flc c p t) 56)) := rfl
  unfold Oper.wp execOp
  simp only [ho, hx, Sem.run_bind, hrun, Result.andThen]
  exact h
theorem ready_bx {md : Region.Mode} {ops : Array Oper} {Q : Exit → Act → World → Prop} {S : World → Prop} {fuel : Nat} {listed : Array Bool} {a : Act} {w : World} (i : Nat) (o : Oper) (hr : Region.ready md ops listed = [i]) (ho : ops[i]? = some o) (x : Operand) (hop : o.op = .box 56 x) (hg : o.guard = none) (c p : Nat) (t : ByteArray) (hx : a.eval x = .agg (flc c p t))
    (hk : S (w.alloc (.cells (flc c p t) 56)) ∧ wpAnyH Tryz.prog md ops Q S fuel (listed.setIfInBounds i true) (a.put o.dst (.pointer (some ⟨w.heap.size, 0, none⟩))) (w.alloc (.cells (flc c p t) 56))) : wpAnyH Tryz.prog md ops Q S (fuel + 1) listed a w := by
  refine ready_one i o hr ho ?_
  have hw : Region.wanted o (yielded ops a.tmps) = true := by simp [Region.wanted, hg]
  rw [if_pos hw]
  exact bxF x hop c p t hx hk
set_option maxHeartbeats 3200000 in
theorem all_any (s : ByteArray) (w : World) (ht : Tab0 w) (hbig : s.size ≤ 9223372036854775806) : Calls Tryz.prog 11 #[.string s] w (AlP s w) := by
  by_cases hs : s.size ≤ 65536
  · have g0 : decide ((65536 : Int) < (s.size : Int)) = false := by simp; omega
    have HK0 := hid (kinds_any s w)
    have HA : Hid (all s = sc s 0 []) := by show _ = _; unfold all; rw [if_neg (by omega)]
    go_enter Tryz.func11, Tryz.ntmps11
    go_upto_region 6 with (go_at_call 26; refine (HK0.out).mono ?_; rintro e W0 ⟨⟨kb, b0, b1, b2, bc, b3, cp, rfl, hk⟩, hb0⟩; have HKn := hid hk; have HB0 := hid hb0; clear hk hb0 HK0)
    have HT := hid (ht.on HB0.out)
    go_upto_region 7 with fail
    have HS0 : Hid (AlS s W0 0 [] nilS (W0.iter s 0)) := ⟨(Below.refl _ _).alloc (Nat.le_refl _) _, World.iter_heap W0 s 0, Rw.nil _ _ _ _⟩
    go_loopw [5, 6, 7] (fun v ve vr wr => ∃ (pos en : Nat) (rm : Bool) (acc : List Wd) (ao : Option Addr) (ca : Nat), v = .slice ao acc.length ca ∧ ve = .int .i64 en ∧ vr = .bool rm ∧ Hid (AlS s W0 pos acc (.slice ao acc.length ca) wr) ∧ Hid (AlK s pos en rm acc)) (fun _ _ _ wr => s.size - wr.iterPos W0.heap.size)
    case atStart => exact ⟨0, 0, false, [], none, 0, rfl, rfl, rfl, HS0.out, ⟨by omega, by omega, by simp, fun h => absurd h (by omega), rfl⟩⟩
    case round =>
      clear HS0
      obtain ⟨pos, en, rm, acc, ao, ca, rfl, rfl, rfl, HS, HK⟩ := hrel
      by_cases hp : pos < s.size
      · have hnx : ∀ ty, (Instr.next (.pointer (some ⟨W0.heap.size, 0, none⟩)) true ty).run Tryz.prog wr = .ok (.tuple #[.bool true, .int .i64 pos, .int .i32 ((ru s pos : Nat) : Int)]) (wr.iterAt W0.heap.size s (pos + wi s pos)) := fun ty => Lib.run_next_any_at wr W0.heap.size s pos ty HS.out.it hp
        have HS2 := hid (HS.out.next (pos + wi s pos))
        have HIP : Hid (wr.iterPos W0.heap.size = pos) := HS.out.ipos
        have hwi := wi_in hp
        generalize wr.iterAt W0.heap.size s (pos + wi s pos) = W1 at hnx HS2
        by_cases hin : pos < en
        · obtain ⟨rfl, hasc⟩ := HK.out.inw hin
          have hw1 := wi_lo hp (hasc pos (Nat.le_refl _) hin)
          rw [hw1] at HS2 hwi
          have g1 : decide ((pos : Int) < (en : Int)) = true := by simp; omega
          have HK2 : Hid (AlK s (pos + 1) en false acc) := ⟨hwi.2, HK.out.el, by have := HK.out.al; omega, fun h => ⟨rfl, fun j h1 h2 => hasc j (by omega) h2⟩, by rw [st_in hin]; exact HK.out.st⟩
          generalize ru s pos = r at hnx
          clear HK hasc hw1
          go_wp2
          refine ⟨?_, ?_⟩
          · first
              | exact ⟨pos + 1, en, false, acc, ao, ca, rfl, rfl, rfl, HS2, HK2⟩
              | ((repeat apply Exists.intro); refine ⟨?_, rfl⟩; exact ⟨pos + 1, en, false, acc, ao, ca, rfl, rfl, rfl, HS2, HK2⟩)
          · show s.size - World.iterPos _ _ < s.size - World.iterPos _ _
            rw [HS2.out.ipos, HIP.out]; omega
        · have g1 : decide ((pos : Int) < (en : Int)) = false := by simp; omega
          cases rm with
          | true =>
            by_cases hnl : bt s pos = 10
            · have hw1 := wi_lo hp (by rw [hnl]; decide)
              rw [hw1] at HS2 hwi
              rw [(ru_lo hp (by decide)).2 hnl, show ((10 : Nat) : Int) = 10 from rfl] at hnx
              have HK2 : Hid (AlK s (pos + 1) en false acc) := ⟨hwi.2, HK.out.el, by have := HK.out.al; omega, fun h => absurd h (by omega), by rw [st_nl hin hnl]; exact HK.out.st⟩
              clear HK hw1 hnl
              go_wp2
              refine ⟨?_, ?_⟩
              · first
                  | exact ⟨pos + 1, en, false, acc, ao, ca, rfl, rfl, rfl, HS2, HK2⟩
                  | ((repeat apply Exists.intro); refine ⟨?_, rfl⟩; exact ⟨pos + 1, en, false, acc, ao, ca, rfl, rfl, rfl, HS2, HK2⟩)
              · show s.size - World.iterPos _ _ < s.size - World.iterPos _ _
                rw [HS2.out.ipos, HIP.out]; omega
            · have g2 : (((ru s pos : Nat) : Int) == 10) = false := by
                have := (not_congr (ru_lo hp (c := 10) (by decide))).2 hnl
                simp; omega
              have HK2 : Hid (AlK s (pos + wi s pos) en true acc) := ⟨hwi.2, HK.out.el, by have := HK.out.al; omega, fun h => absurd h (by omega), by rw [st_rem hp hin hnl]; exact HK.out.st⟩
              generalize ru s pos = r at hnx g2
              have g3 : (((r : Nat) : Int) != 10) = true := by simp [bne, g2]
              clear HK hnl
              go_wp2
              refine ⟨?_, ?_⟩
              · first
                  | exact ⟨pos + wi s pos, en, true, acc, ao, ca, rfl, rfl, rfl, HS2, HK2⟩
                  | ((repeat apply Exists.intro); refine ⟨?_, rfl⟩; exact ⟨pos + wi s pos, en, true, acc, ao, ca, rfl, rfl, rfl, HS2, HK2⟩)
              · show s.size - World.iterPos _ _ < s.size - World.iterPos _ _
                rw [HS2.out.ipos, HIP.out]; omega
          | false =>
            by_cases hsh : bt s pos = 35
            · have hw1 := wi_lo hp (by rw [hsh]; decide)
              rw [hw1] at HS2 hwi
              rw [(ru_lo hp (by decide)).2 hsh, show ((35 : Nat) : Int) = 35 from rfl] at hnx
              have HK2 : Hid (AlK s (pos + 1) en true acc) := ⟨hwi.2, HK.out.el, by have := HK.out.al; omega, fun h => absurd h (by omega), by rw [st_mark hin hsh]; exact HK.out.st⟩
              clear HK hw1 hsh
              go_wp2
              refine ⟨?_, ?_⟩
              · first
                  | exact ⟨pos + 1, en, true, acc, ao, ca, rfl, rfl, rfl, HS2, HK2⟩
                  | ((repeat apply Exists.intro); refine ⟨?_, rfl⟩; exact ⟨pos + 1, en, true, acc, ao, ca, rfl, rfl, rfl, HS2, HK2⟩)
              · show s.size - World.iterPos _ _ < s.size - World.iterPos _ _
                rw [HS2.out.ipos, HIP.out]; omega
            · have g2 : (((ru s pos : Nat) : Int) == 35) = false := by
                have := (not_congr (ru_lo hp (c := 35) (by decide))).2 hsh
                simp; omega
              have HBk := hid (isBlank_any (ru s pos) W1)
              rw [blk_ru hp] at HBk
              generalize ru s pos = r at hnx g2 HBk
              cases hbk : blk (bt s pos) with
              | true =>
                have hw1 := wi_lo hp (by have := (blk_iff _).1 hbk; omega)
                rw [hw1] at HS2 hwi
                have HK2 : Hid (AlK s (pos + 1) en false acc) := ⟨hwi.2, HK.out.el, by have := HK.out.al; omega, fun h => absurd h (by omega), by rw [st_blk hin hbk]; exact HK.out.st⟩
                rw [hbk] at HBk
                clear HK hw1 hsh hbk
                go_wp2_with (go_at_call 27; refine (HBk.out).mono ?_; rintro e w' ⟨rfl, hw⟩; obtain rfl := hw.symm)
                refine ⟨?_, ?_⟩
                · first
                    | exact ⟨pos + 1, en, false, acc, ao, ca, rfl, rfl, rfl, HS2, HK2⟩
                    | ((repeat apply Exists.intro); refine ⟨?_, rfl⟩; exact ⟨pos + 1, en, false, acc, ao, ca, rfl, rfl, rfl, HS2, HK2⟩)
                · show s.size - World.iterPos _ _ < s.size - World.iterPos _ _
                  rw [HS2.out.ipos, HIP.out]; omega
              | false =>
                rw [hbk] at HBk
                have HWd := hid (wordAt_any s pos kb b0 b1 b2 bc b3 cp W1 (HKn.out.on HS2.out.low) (HT.out.on HS2.out.low) hp hs)
                have hok := one_ok hp
                have HST : Hid ((one s pos).c = 0 → st s (pos + 1) (one s pos).e false (acc ++ [wdOf s pos (one s pos)]) = sc s 0 []) := fun h => by rw [st_wd hp hin hbk hsh h]; exact HK.out.st
                have HSN : Hid ((one s pos).c ≠ 0 → sc s 0 [] = .no (one s pos).c pos (s.extract pos (one s pos).e)) := fun h => by rw [← HK.out.st, st_no hp hin hbk hsh h]
                have HWO : Hid (wdOf s pos (one s pos) = ⟨(one s pos).k, s.extract pos (one s pos).e, (one s pos).n, pos⟩) := rfl
                generalize one s pos = f at HWd hok HST HSN HWO
                obtain ⟨k, e, n, c⟩ := f
                have hge : pos < e := hok.gt
                have hle : e ≤ s.size := hok.le
                clear hsh hbk
                by_cases hc : c = 0
                · subst hc
                  have hasc : ∀ j, pos ≤ j → j < e → bt s j < 128 := hok.asc rfl
                  have hw1 := wi_lo hp (hasc pos (Nat.le_refl _) hge)
                  rw [hw1] at HS2 hwi
                  have HK2 : Hid (AlK s (pos + 1) e false (acc ++ [⟨k, s.extract pos e, n, pos⟩])) := ⟨hwi.2, hle, by have := HK.out.al; simp; omega, fun h => ⟨rfl, fun j h1 h2 => hasc j (by omega) h2⟩, HST.out rfl⟩
                  have hal := HK.out.al
                  clear HSN HST HWO HK hasc hw1 hok
                  go_upto_region 12 with (first
                    | (go_at_call 27; refine (HBk.out).mono ?_; rintro e w' ⟨rfl, hw⟩; obtain rfl := hw.symm)
                    | (go_at_call 28; refine (HWd.out).mono ?_; rintro r2 W2 ⟨rfl, hb2⟩; have HB2 := hid hb2; clear hb2 HWd))
                  obtain ⟨W3, hW3⟩ : ∃ W3, W3 = W2.alloc (.cells (fdc ⟨k, e, n, 0⟩) 71) := ⟨_, rfl⟩
                  have HW3 : Hid (W2.alloc (.cells #[.int .i8 (k : Int), .int .i64 (e : Int), .int .u64 (n : Int), .int .i64 0] 71) = W3) := hW3.symm
                  have HS3 : Hid (AlS s W0 (pos + 1) acc (.slice ao acc.length ca) W3.drew) := ((HS2.out.on HB2.out).on (hW3 ▸ ((Below.refl _ _).alloc (Nat.le_refl _) _))).on ((Below.refl _ _).drew)
                  have hbl3 : W3.drew.heap[W2.heap.size]? = some (.cells (fdc ⟨k, e, n, 0⟩) 71 (0, 0)) := by rw [hW3]; exact heap_alloc_new _ _
                  have HF3 : Hid (Fb W2.heap.size ⟨k, e, n, 0⟩ W3.drew) := Fb.of hbl3
                  have HM : Hid (∀ W4, W4 = W3.drew.alloc (.cells (wdc ⟨k, s.extract pos e, n, pos⟩) 52) → Fb W2.heap.size ⟨k, e, n, 0⟩ W4 ∧ AlS s W0 (pos + 1) acc (.slice ao acc.length ca) W4 ∧ (∀ j z, (wdc ⟨k, s.extract pos e, n, pos⟩).toList[j]? = some z → W4.cell? (Addr.add ⟨W3.drew.heap.size, 0, none⟩ j) = some z) ∧ W2.heap.size < W4.heap.size ∧ W4.heap[W2.heap.size]? = some (.cells (fdc ⟨k, e, n, 0⟩) 71 (0, 0)) ∧ (Value.slice ao acc.length ca).ownBlock ≠ some W2.heap.size) := fun W4 h4 => by
                    have hb4 : Below W3.drew.heap.size W3.drew W4 := by rw [h4]; exact (Below.refl _ _).alloc (Nat.le_refl _) _
                    have hlt := (Array.getElem?_eq_some_iff.1 hbl3).1
                    have h5 := (hb4.block _ hlt).trans hbl3
                    refine ⟨Fb.of h5, HS3.out.on hb4, fun j z hz => ?_, (Array.getElem?_eq_some_iff.1 h5).1, h5, fun h => ?_⟩
                    · rw [Addr.add_lit, Nat.zero_add, h4, cell_of_row _ _ _ _ _ _ (heap_alloc_new _ _), ← hz]; simp
                    · have := (HS2.out.on HB2.out).ws.ownLt _ h; omega
                  have hsl := HS3.out
                  obtain ⟨iW, hiW, hiz, his, -⟩ := info_parts infoWD
                  rw [HW3.out]
                  clear hW3 HW3 hbl3 hsl
                  have hpe : pos ≤ e := by omega
                  refine wp_region_held_drew (S := Fb W2.heap.size ⟨k, e, n, 0⟩) (by kernel_rfl) HF3.out (fun hHeld => ?_)
                  refine wpAnyH_take (i := 0) (v := ?_) rfl (by kernel_rfl) (by kernel_rfl) (by kernel_rfl) (fun _ _ _ h => h) (Or.inl ⟨by rfl, ?_⟩) hHeld ?_
                  rotate_left
                  · intro w' hSw
                    clear hSw
                    go_simp
                    first | done | with_reducible rfl
                  simp only [Act.put, List.getElem_toArray, List.getElem_cons_zero, List.setIfInBounds_toArray, List.set_cons_zero, List.set_cons_succ]
                  refine wpAnyH_take (i := 1) (v := ?_) rfl (by kernel_rfl) (by kernel_rfl) (by kernel_rfl) (fun _ _ _ h => h) (Or.inl ⟨by rfl, ?_⟩) hHeld ?_
                  rotate_left
                  · intro w' hSw
                    clear hSw
                    go_simp
                    first | done | with_reducible rfl
                  simp only [Act.put, List.getElem_toArray, List.getElem_cons_succ, List.getElem_cons_zero, List.setIfInBounds_toArray, List.set_cons_zero, List.set_cons_succ]
                  refine wpAnyH_take (i := 2) (v := ?_) rfl (by kernel_rfl) (by kernel_rfl) (by kernel_rfl) (fun _ _ _ h => h) (Or.inl ⟨by rfl, ?_⟩) hHeld ?_
                  rotate_left
                  · intro w' hSw
                    have c0 := hSw.c0
                    clear hSw
                    go_simp
                    first | done | with_reducible rfl
                  simp only [Act.put, List.getElem_toArray, List.getElem_cons_succ, List.getElem_cons_zero, List.setIfInBounds_toArray, List.set_cons_zero, List.set_cons_succ]
                  refine wpAnyH_take (i := 3) (v := ?_) rfl (by kernel_rfl) (by kernel_rfl) (by kernel_rfl) (fun _ _ _ h => h) (Or.inl ⟨by rfl, ?_⟩) hHeld ?_
                  rotate_left
                  · intro w' hSw
                    clear hSw
                    go_simp
                    first | done | with_reducible rfl
                  simp only [Act.put, List.getElem_toArray, List.getElem_cons_succ, List.getElem_cons_zero, List.setIfInBounds_toArray, List.set_cons_zero, List.set_cons_succ]
                  refine wpAnyH_take (i := 4) (v := ?_) rfl (by kernel_rfl) (by kernel_rfl) (by kernel_rfl) (fun _ _ _ h => h) (Or.inl ⟨by rfl, ?_⟩) hHeld ?_
                  rotate_left
                  · intro w' hSw
                    clear hSw
                    go_simp
                    first | done | with_reducible rfl
                  simp only [Act.put, List.getElem_toArray, List.getElem_cons_succ, List.getElem_cons_zero, List.setIfInBounds_toArray, List.set_cons_zero, List.set_cons_succ]
                  refine wpAnyH_take (i := 5) (v := ?_) rfl (by kernel_rfl) (by kernel_rfl) (by kernel_rfl) (fun _ _ _ h => h) (Or.inl ⟨by rfl, ?_⟩) hHeld ?_
                  rotate_left
                  · intro w' hSw
                    clear hSw
                    go_simp
                    first | done | with_reducible rfl
                  simp only [Act.put, List.getElem_toArray, List.getElem_cons_succ, List.getElem_cons_zero, List.setIfInBounds_toArray, List.set_cons_zero, List.set_cons_succ]
                  refine wpAnyH_take (i := 6) (v := ?_) rfl (by kernel_rfl) (by kernel_rfl) (by kernel_rfl) (fun _ _ _ h => h) (Or.inl ⟨by rfl, ?_⟩) hHeld ?_
                  rotate_left
                  · intro w' hSw
                    have c1 := hSw.c1
                    clear hSw
                    go_simp
                    first | done | with_reducible rfl
                  simp only [Act.put, List.getElem_toArray, List.getElem_cons_succ, List.getElem_cons_zero, List.setIfInBounds_toArray, List.set_cons_zero, List.set_cons_succ]
                  refine wpAnyH_take (i := 7) (v := ?_) rfl (by kernel_rfl) (by kernel_rfl) (by kernel_rfl) (fun _ _ _ h => h) (Or.inl ⟨by rfl, ?_⟩) hHeld ?_
                  rotate_left
                  · intro w' hSw
                    clear hSw
                    go_simp
                    first | done | with_reducible rfl
                  simp only [Act.put, List.getElem_toArray, List.getElem_cons_succ, List.getElem_cons_zero, List.setIfInBounds_toArray, List.set_cons_zero, List.set_cons_succ]
                  refine wpAnyH_take (i := 8) (v := ?_) rfl (by kernel_rfl) (by kernel_rfl) (by kernel_rfl) (fun _ _ _ h => h) (Or.inl ⟨by rfl, ?_⟩) hHeld ?_
                  rotate_left
                  · intro w' hSw
                    clear hSw
                    go_simp
                    first | done | with_reducible rfl
                  simp only [Act.put, List.getElem_toArray, List.getElem_cons_succ, List.getElem_cons_zero, List.setIfInBounds_toArray, List.set_cons_zero, List.set_cons_succ]
                  refine wpAnyH_take (i := 9) (v := ?_) rfl (by kernel_rfl) (by kernel_rfl) (by kernel_rfl) (fun _ _ _ h => h) (Or.inl ⟨by rfl, ?_⟩) hHeld ?_
                  rotate_left
                  · intro w' hSw
                    have c2 := hSw.c2
                    clear hSw
                    go_simp
                    first | done | with_reducible rfl
                  simp only [Act.put, List.getElem_toArray, List.getElem_cons_succ, List.getElem_cons_zero, List.setIfInBounds_toArray, List.set_cons_zero, List.set_cons_succ]
                  refine wpAnyH_take (i := 10) (v := ?_) rfl (by kernel_rfl) (by kernel_rfl) (by kernel_rfl) (fun _ _ _ h => h) (Or.inl ⟨by rfl, ?_⟩) hHeld ?_
                  rotate_left
                  · intro w' hSw
                    clear hSw
                    go_simp
                    first | done | with_reducible rfl
                  simp only [Act.put, List.getElem_toArray, List.getElem_cons_succ, List.getElem_cons_zero, List.setIfInBounds_toArray, List.set_cons_zero, List.set_cons_succ]
                  refine wpAnyH_take (i := 11) (v := ?_) rfl (by kernel_rfl) (by kernel_rfl) (by kernel_rfl) (fun _ _ _ h => h) (Or.inl ⟨by rfl, ?_⟩) hHeld ?_
                  rotate_left
                  · intro w' hSw
                    clear hSw
                    go_simp
                    first | done | with_reducible rfl
                  simp only [Act.put, List.getElem_toArray, List.getElem_cons_succ, List.getElem_cons_zero, List.setIfInBounds_toArray, List.set_cons_zero, List.set_cons_succ]
                  refine ready_bs 12 _ (by kernel_rfl) rfl 44 52 (.tmp 54) rfl rfl (wdc ⟨k, s.extract pos e, n, pos⟩) rfl Tryz.underlying44 iW _ 4 hiW hiz his rfl (by omega) (by omega) ?_
                  obtain ⟨W4, hW4⟩ : ∃ W4, W4 = W3.drew.alloc (.cells (wdc ⟨k, s.extract pos e, n, pos⟩) 52) := ⟨_, rfl⟩
                  obtain ⟨f4, z4, n4, l4, q4, o4⟩ := HM.out W4 hW4
                  rw [← hW4]
                  have HZ4 := hid z4
                  have HN4 := hid n4
                  have HL4 := hid l4
                  have HQ4 := hid q4
                  have HO4 := hid o4
                  clear z4 n4 l4 q4 o4 HM hW4
                  refine ⟨f4, ?_⟩
                  simp only [Act.put, List.getElem_toArray, List.getElem_cons_succ, List.getElem_cons_zero, List.setIfInBounds_toArray, List.set_cons_zero, List.set_cons_succ]
                  refine ready_rw 13 _ (by kernel_rfl) rfl (.tmp 43) (.tmp 55) 44 rfl rfl (k := 4) (t := 52) (n := acc.length) (m := 1) (c := 1) (us := (wdc ⟨k, s.extract pos e, n, pos⟩).toList) (ad := ⟨W3.drew.heap.size, 0, none⟩) rfl rfl Tryz.underlying44 infoWD rfl (by omega) (by omega) HZ4.out.ws rfl HN4.out (wd1 _) (by omega) (Or.inl (by omega)) ?_
                  intro v5 W5 hA5 hR5
                  have HS5 : Hid (AlS s W0 (pos + 1) (acc ++ [⟨k, s.extract pos e, n, pos⟩]) v5 W5) := HZ4.out.app hA5 hR5
                  have hbl5 : W5.heap[W2.heap.size]? = some (.cells (fdc ⟨k, e, n, 0⟩) 71 (0, 0)) := (hA5.block _ HL4.out HO4.out).trans HQ4.out
                  obtain ⟨s4, c4, rfl⟩ : ∃ s4 c4, v5 = .slice s4 (acc ++ [(⟨k, s.extract pos e, n, pos⟩ : Wd)]).length c4 := HS5.out.ws.form
                  have f5 := Fb.of hbl5
                  have hc1 := f5.c1
                  clear hA5 hR5 hbl5
                  refine ⟨f5, ?_⟩
                  simp only [Act.put, List.getElem_toArray, List.getElem_cons_succ, List.getElem_cons_zero, List.setIfInBounds_toArray, List.set_cons_zero, List.set_cons_succ]
                  have hHeld := f5
                  refine wpAnyH_take (i := 14) (v := ?_) rfl (by kernel_rfl) (by kernel_rfl) (by kernel_rfl) (fun _ _ _ h => h) (Or.inl ⟨by rfl, ?_⟩) hHeld ?_
                  rotate_left
                  · intro w' hSw
                    clear hSw
                    go_simp
                    first | done | with_reducible rfl
                  simp only [Act.put, List.getElem_toArray, List.getElem_cons_succ, List.getElem_cons_zero, List.setIfInBounds_toArray, List.set_cons_zero, List.set_cons_succ]
                  refine wpAnyH_done (by kernel_rfl) ?_ _
                  clear f5 hHeld f4 HQ4 HO4 HL4 HN4 HZ4 HF3 HS3
                  go_wp2
                  refine ⟨?_, ?_⟩
                  · first
                      | exact ⟨pos + 1, e, false, acc ++ [⟨k, s.extract pos e, n, pos⟩], s4, c4, (by first | rfl | simp), rfl, rfl, HS5, HK2⟩
                      | ((repeat apply Exists.intro); refine ⟨?_, rfl⟩; exact ⟨pos + 1, e, false, acc ++ [⟨k, s.extract pos e, n, pos⟩], s4, c4, (by first | rfl | simp), rfl, rfl, HS5, HK2⟩)
                  · show s.size - World.iterPos _ _ < s.size - World.iterPos _ _
                    rw [HS5.out.ipos, HIP.out]; omega
                · have g5 : (((c : Nat) : Int) == 0) = false := by simp; omega
                  have HNo := hid (HSN.out hc)
                  clear HSN HST HWO HK hok
                  go_upto_region 11 with (first
                    | (go_at_call 27; refine (HBk.out).mono ?_; rintro e w' ⟨rfl, hw⟩; obtain rfl := hw.symm)
                    | (go_at_call 28; refine (HWd.out).mono ?_; rintro r2 W2 ⟨rfl, hb2⟩; have HB2 := hid hb2; clear hb2 HWd))
                  obtain ⟨W3, hW3⟩ : ∃ W3, W3 = W2.alloc (.cells (fdc ⟨k, e, n, c⟩) 71) := ⟨_, rfl⟩
                  have HW3 : Hid (W2.alloc (.cells #[.int .i8 (k : Int), .int .i64 (e : Int), .int .u64 (n : Int), .int .i64 (c : Int)] 71) = W3) := hW3.symm
                  have HL3 : Hid (Below w.heap.size w W3.drew) := (HB0.out.trans ((((HS2.out.on HB2.out).on (hW3 ▸ ((Below.refl _ _).alloc (Nat.le_refl _) _))).low).mono HB0.out.size)).drew
                  have hbl3 : W3.drew.heap[W2.heap.size]? = some (.cells (fdc ⟨k, e, n, c⟩) 71 (0, 0)) := by rw [hW3]; exact heap_alloc_new _ _
                  have HF3 : Hid (Fb W2.heap.size ⟨k, e, n, c⟩ W3.drew) := Fb.of hbl3
                  have hF4 : Fb W2.heap.size ⟨k, e, n, c⟩ (W3.drew.alloc (.cells (flc c pos (s.extract pos e)) 56)) := Fb.of (blk_old hbl3)
                  have HF4 := hid hF4
                  have hpe : pos ≤ e := by omega
                  rw [HW3.out]
                  clear hW3 HW3 hbl3 hF4
                  refine wp_region_held_drew (S := Fb W2.heap.size ⟨k, e, n, c⟩) (by kernel_rfl) HF3.out (fun hHeld => ?_)
                  refine wpAnyH_take (i := 0) (v := ?_) rfl (by kernel_rfl) (by kernel_rfl) (by kernel_rfl) (fun _ _ _ h => h) (Or.inl ⟨by rfl, ?_⟩) hHeld ?_
                  rotate_left
                  · intro w' hSw
                    clear hSw
                    go_simp
                    first | done | with_reducible rfl
                  simp only [Act.put, List.getElem_toArray, List.getElem_cons_zero, List.setIfInBounds_toArray, List.set_cons_zero, List.set_cons_succ]
                  refine wpAnyH_take (i := 1) (v := ?_) rfl (by kernel_rfl) (by kernel_rfl) (by kernel_rfl) (fun _ _ _ h => h) (Or.inl ⟨by rfl, ?_⟩) hHeld ?_
                  rotate_left
                  · intro w' hSw
                    have c3 := hSw.c3
                    clear hSw
                    go_simp
                    first | done | with_reducible rfl
                  simp only [Act.put, List.getElem_toArray, List.getElem_cons_succ, List.getElem_cons_zero, List.setIfInBounds_toArray, List.set_cons_zero, List.set_cons_succ]
                  refine wpAnyH_take (i := 2) (v := ?_) rfl (by kernel_rfl) (by kernel_rfl) (by kernel_rfl) (fun _ _ _ h => h) (Or.inl ⟨by rfl, ?_⟩) hHeld ?_
                  rotate_left
                  · intro w' hSw
                    clear hSw
                    go_simp
                    first | done | with_reducible rfl
                  simp only [Act.put, List.getElem_toArray, List.getElem_cons_succ, List.getElem_cons_zero, List.setIfInBounds_toArray, List.set_cons_zero, List.set_cons_succ]
                  refine wpAnyH_take (i := 3) (v := ?_) rfl (by kernel_rfl) (by kernel_rfl) (by kernel_rfl) (fun _ _ _ h => h) (Or.inl ⟨by rfl, ?_⟩) hHeld ?_
                  rotate_left
                  · intro w' hSw
                    clear hSw
                    go_simp
                    first | done | with_reducible rfl
                  simp only [Act.put, List.getElem_toArray, List.getElem_cons_succ, List.getElem_cons_zero, List.setIfInBounds_toArray, List.set_cons_zero, List.set_cons_succ]
                  refine wpAnyH_take (i := 4) (v := ?_) rfl (by kernel_rfl) (by kernel_rfl) (by kernel_rfl) (fun _ _ _ h => h) (Or.inl ⟨by rfl, ?_⟩) hHeld ?_
                  rotate_left
                  · intro w' hSw
                    clear hSw
                    go_simp
                    first | done | with_reducible rfl
                  simp only [Act.put, List.getElem_toArray, List.getElem_cons_succ, List.getElem_cons_zero, List.setIfInBounds_toArray, List.set_cons_zero, List.set_cons_succ]
                  refine wpAnyH_take (i := 5) (v := ?_) rfl (by kernel_rfl) (by kernel_rfl) (by kernel_rfl) (fun _ _ _ h => h) (Or.inl ⟨by rfl, ?_⟩) hHeld ?_
                  rotate_left
                  · intro w' hSw
                    clear hSw
                    go_simp
                    first | done | with_reducible rfl
                  simp only [Act.put, List.getElem_toArray, List.getElem_cons_succ, List.getElem_cons_zero, List.setIfInBounds_toArray, List.set_cons_zero, List.set_cons_succ]
                  refine wpAnyH_take (i := 6) (v := ?_) rfl (by kernel_rfl) (by kernel_rfl) (by kernel_rfl) (fun _ _ _ h => h) (Or.inl ⟨by rfl, ?_⟩) hHeld ?_
                  rotate_left
                  · intro w' hSw
                    have c1 := hSw.c1
                    clear hSw
                    go_simp
                    first | done | with_reducible rfl
                  simp only [Act.put, List.getElem_toArray, List.getElem_cons_succ, List.getElem_cons_zero, List.setIfInBounds_toArray, List.set_cons_zero, List.set_cons_succ]
                  refine wpAnyH_take (i := 7) (v := ?_) rfl (by kernel_rfl) (by kernel_rfl) (by kernel_rfl) (fun _ _ _ h => h) (Or.inl ⟨by rfl, ?_⟩) hHeld ?_
                  rotate_left
                  · intro w' hSw
                    clear hSw
                    go_simp
                    first | done | with_reducible rfl
                  simp only [Act.put, List.getElem_toArray, List.getElem_cons_succ, List.getElem_cons_zero, List.setIfInBounds_toArray, List.set_cons_zero, List.set_cons_succ]
                  refine wpAnyH_take (i := 8) (v := ?_) rfl (by kernel_rfl) (by kernel_rfl) (by kernel_rfl) (fun _ _ _ h => h) (Or.inl ⟨by rfl, ?_⟩) hHeld ?_
                  rotate_left
                  · intro w' hSw
                    clear hSw
                    go_simp
                    first | done | with_reducible rfl
                  simp only [Act.put, List.getElem_toArray, List.getElem_cons_succ, List.getElem_cons_zero, List.setIfInBounds_toArray, List.set_cons_zero, List.set_cons_succ]
                  refine wpAnyH_take (i := 11) (v := ?_) rfl (by kernel_rfl) (by kernel_rfl) (by kernel_rfl) (fun _ _ _ h => h) (Or.inl ⟨by rfl, ?_⟩) hHeld ?_
                  rotate_left
                  · intro w' hSw
                    clear hSw
                    go_simp
                    first | done | with_reducible rfl
                  simp only [Act.put, List.getElem_toArray, List.getElem_cons_succ, List.getElem_cons_zero, List.setIfInBounds_toArray, List.set_cons_zero, List.set_cons_succ]
                  refine ready_bx 9 _ (by kernel_rfl) rfl (.tmp 40) rfl rfl c pos (s.extract pos e) rfl ?_
                  refine ⟨HF4.out, ?_⟩
                  simp only [Act.put, List.getElem_toArray, List.getElem_cons_succ, List.getElem_cons_zero, List.setIfInBounds_toArray, List.set_cons_zero, List.set_cons_succ]
                  have hHeld := HF4.out
                  refine wpAnyH_take (i := 10) (v := ?_) rfl (by kernel_rfl) (by kernel_rfl) (by kernel_rfl) (fun _ _ _ h => h) (Or.inl ⟨by rfl, ?_⟩) hHeld ?_
                  rotate_left
                  · intro w' hSw
                    clear hSw
                    go_simp
                    first | done | with_reducible rfl
                  simp only [Act.put, List.getElem_toArray, List.getElem_cons_succ, List.getElem_cons_zero, List.setIfInBounds_toArray, List.set_cons_zero, List.set_cons_succ]
                  refine wpAnyH_take (i := 12) (v := ?_) rfl (by kernel_rfl) (by kernel_rfl) (by kernel_rfl) (fun _ _ _ h => h) (Or.inl ⟨by rfl, ?_⟩) hHeld ?_
                  rotate_left
                  · intro w' hSw
                    clear hSw
                    go_simp
                    first | done | with_reducible rfl
                  simp only [Act.put, List.getElem_toArray, List.getElem_cons_succ, List.getElem_cons_zero, List.setIfInBounds_toArray, List.set_cons_zero, List.set_cons_succ]
                  refine wpAnyH_done (by kernel_rfl) ?_ _
                  go_wp2
                  try simp only [Exit.inBlock, Exit.then]
                  refine bodyPost_ret (results_tmp2 rfl _ _ _) rfl ?_
                  refine ⟨HL3.out.alloc HL3.out.size _, ?_⟩
                  rw [HA.out, HNo.out]
                  exact ⟨W3.drew.heap.size, rfl, HL3.out.size, heap_alloc_new _ _⟩
      · have HE := hid (HK.out.st.symm.trans (st_end hp HK.out.el))
        have hpos := HK.out.pl
        have hnx : ∀ ty, (Instr.next (.pointer (some ⟨W0.heap.size, 0, none⟩)) true ty).run Tryz.prog wr = .ok (.tuple #[.bool false]) wr := fun ty => Lib.run_next_end_at wr W0.heap.size s pos ty HS.out.it hp
        have hal := HK.out.al
        obtain ⟨iW, hiW, hiz, his, -⟩ := info_parts infoWD
        have HM : Hid (∀ W4, W4 = wr.alloc (.cells (wdc (wEnd s)) 52) → AlS s W0 pos acc (.slice ao acc.length ca) W4 ∧ (∀ j z, (wdc (wEnd s)).toList[j]? = some z → W4.cell? (Addr.add ⟨wr.heap.size, 0, none⟩ j) = some z)) := fun W4 h4 => by
          have hb4 : Below wr.heap.size wr W4 := by rw [h4]; exact (Below.refl _ _).alloc (Nat.le_refl _) _
          refine ⟨HS.out.on hb4, fun j z hz => ?_⟩
          rw [Addr.add_lit, Nat.zero_add, h4, cell_of_row _ _ _ _ _ _ (heap_alloc_new _ _), ← hz]; simp
        clear HK HS
        go_wp2_with (first
          | (refine bldSl 44 52 (.tmp 76) rfl rfl (wdc (wEnd s)) rfl Tryz.underlying44 iW _ 4 hiW hiz his rfl (by omega) (by omega) ?_; obtain ⟨W4, hW4⟩ : ∃ W4, W4 = wr.alloc (.cells (wdc (wEnd s)) 52) := ⟨_, rfl⟩; rw [← hW4]; obtain ⟨z4, n4⟩ := HM.out W4 hW4; have HZ4 := hid z4; have HN4 := hid n4; clear HM z4 n4 hW4)
          | (refine appRw (.tmp 73) (.tmp 77) 44 rfl rfl (k := 4) (t := 52) (n := acc.length) (m := 1) (c := 1) (us := (wdc (wEnd s)).toList) (ad := ⟨wr.heap.size, 0, none⟩) rfl rfl Tryz.underlying44 infoWD rfl (by omega) (by omega) HZ4.out.ws rfl HN4.out (wd1 _) (by omega) (Or.inl (by omega)) ?_; intro v5 W5 hA5 hR5; have HS5 : Hid (AlS s W0 pos (acc ++ [wEnd s]) v5 W5) := HZ4.out.app hA5 (hR5 _ HZ4.out.ws); clear hA5 hR5 HN4 HZ4))
        try simp only [Exit.inBlock, Exit.then]
        refine bodyPost_ret (results_tmp2 rfl _ _ _) rfl ?_
        refine ⟨HB0.out.trans (HS5.out.low.mono HB0.out.size), ?_⟩
        rw [HA.out, HE.out]
        exact ⟨v5, rfl, HS5.out.ws.carry fun b _ hS => ⟨by have := HB0.out.size; omega, rfl⟩⟩
  · have g0 : decide ((65536 : Int) < (s.size : Int)) = true := by simp; omega
    have HA : Hid (all s = .no 3 0 ByteArray.empty) := by show _ = _; unfold all; rw [if_pos (by omega)]
    go_enter Tryz.func11, Tryz.ntmps11
    go_wp2
    refine bodyPost_ret (results_tmp2 rfl _ _ _) rfl ?_
    refine ⟨(Below.refl _ _).alloc (Nat.le_refl _) _, ?_⟩
    rw [HA.out]
    exact ⟨w.heap.size, rfl, Nat.le_refl _, heap_alloc_new _ _⟩
end Go.Proofs.YtoncogkamlgjhaaGreatDoor
