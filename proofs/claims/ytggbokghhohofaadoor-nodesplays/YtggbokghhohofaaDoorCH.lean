/-
  Proved here: great of layer 20's laws: it is true where there are more than 200 acts, or more than 8192 rows and settings. Plain: acts as data; what rows come to does not turn on the order in which they and their settings stand. Condition: the acts lie where they are said to.
-/
import Derived.Test.YtggbokghhohofaaDoorWA
namespace Go.Proofs.YtggbokghhohofaaDoor
open Go.RowKit Go.Maps
set_option maxRecDepth 100000

structure At where
  dw : Int
  rows : List (List Ac)
  fd : Int
  n : Int
  hi : Int
  lo : Int
def RAt (T : Nat → Prop) : World → (Nat → Option Value) → At → Prop := fun w f x => f 0 = some (.int .i64 x.dw) ∧ (∃ u, f 1 = some u ∧ Cps T w u x.rows) ∧ f 2 = some (.int .i8 x.fd) ∧ f 3 = some (.int .u64 x.n) ∧ f 4 = some (.int .i64 x.hi) ∧ f 5 = some (.int .i64 x.lo) ∧ Tf x.fd x.n x.hi x.lo ∧ I64 x.dw
abbrev Ats (T : Nat → Prop) (w : World) (v : Value) (l : List At) : Prop := Lst T 6 (RAt T) w v l
theorem Ats.carry {T T' : Nat → Prop} {w w' : World} {v : Value} {l : List At} (hc : ∀ b, b < w.heap.size → T b → T' b ∧ w'.heap[b]? = w.heap[b]?) (h : Ats T w v l) : Ats T' w' v l := Lst.carry h hc (fun _ _ h => ⟨_, h.1⟩) (fun _ _ ⟨h1, ⟨u, h2, h3⟩, h4⟩ => ⟨h1, ⟨u, h2, h3.carry hc⟩, h4⟩)
theorem Ats.on {T : Nat → Prop} {w w' : World} {v : Value} {l : List At} (h : Ats T w v l) (hb : Below w.heap.size w w') : Ats T w' v l := Ats.carry (fun b hb' hT => ⟨hT, hb.block b hb'⟩) h
def totA : List At → Nat
  | [] => 0
  | x :: l => tot x.rows + totA l
theorem tot_app (K : List (List Ac)) (r : List Ac) : tot (K ++ [r]) = tot K + (1 + r.length) := by
  induction K with
  | nil => simp [tot]
  | cons s K ih => simp only [List.cons_append, tot, ih]; omega
theorem totA_app (l : List At) (x : At) : totA (l ++ [x]) = totA l + tot x.rows := by
  induction l with
  | nil => simp [totA]
  | cons y l ih => simp only [List.cons_append, totA, ih]; omega
theorem totA_mem {l : List At} {x : At} (h : x ∈ l) : tot x.rows ≤ totA l := by
  induction l with
  | nil => cases h
  | cons y l ih =>
    rcases List.mem_cons.1 h with rfl | h
    · simp only [totA]; omega
    · have := ih h; simp only [totA]; omega
theorem tot_take (K : List (List Ac)) : ∀ k, tot (K.take k) ≤ tot K := by
  induction K with
  | nil => intro k; simp
  | cons r K ih =>
    intro k
    cases k with
    | zero => simp [tot]
    | succ k => have := ih k; simp only [List.take_succ_cons, tot]; omega
theorem totA_take (l : List At) : ∀ k, totA (l.take k) ≤ totA l := by
  induction l with
  | nil => intro k; simp
  | cons x l ih =>
    intro k
    cases k with
    | zero => simp [totA]
    | succ k => have := ih k; simp only [List.take_succ_cons, totA]; omega
set_option maxHeartbeats 6400000 in
theorem great_any {T : Nat → Prop} (w : World) (v : Value) (l : List At) (h : Ats T w v l) : Calls Tryd.prog 8 #[v] w fun e w' => e = .returned (.bool (!decide (l.length ≤ 200 ∧ totA l ≤ 8192))) ∧ w' = w := by
  obtain ⟨ao, cap, rfl, hcap⟩ := h.form
  have hlen := h.len
  have HA := hid h
  clear h
  go_enter Tryd.func8, Tryd.ntmps8
  go_upto_region 3 with fail
  go_loopw [3, 4] (fun sn si wr => ∃ n i : Nat, sn = .int .i64 ((n : Nat) : Int) ∧ si = .int .i64 ((i : Nat) : Int) ∧ i ≤ l.length ∧ n ≤ 281474976710656 ∧ Hid ((n ≤ 8192 → n = totA (l.take i)) ∧ n ≤ totA l) ∧ w = wr) (fun _ si _ => l.length - (intOf si).toNat)
  case atStart => exact ⟨0, 0, rfl, rfl, Nat.zero_le _, by omega, ⟨fun _ => by simp [totA], Nat.zero_le _⟩, rfl⟩
  case round =>
    obtain ⟨n, i, rfl, rfl, hi1, hn1, HN, rfl⟩ := hrel
    by_cases c1 : i < l.length
    · have d1 : decide ((i : Int) < (l.length : Int)) = true := by simp; omega
      by_cases c2 : i ≤ 200
      · have d2 : decide ((i : Int) ≤ 200) = true := by simp; omega
        by_cases c3 : n ≤ 8192
        · have d3 : decide ((n : Int) ≤ 8192) = true := by simp; omega
          obtain ⟨b, o, rfl, -, -, ⟨u, hu, hcp⟩, -⟩ := HA.out.cell i c1
          obtain ⟨a1, k1, rfl, hk1⟩ := hcp.form
          have hrl := hcp.len
          have HTk : Hid (totA (l.take (i + 1)) = totA (l.take i) + tot l[i].rows) := by show _ = _; rw [← totA_app]; simp
          have HN0 : Hid (n = totA (l.take i)) := HN.out.1 c3
          have HCP := hid hcp
          have HTl : Hid (totA (l.take (i + 1)) ≤ totA l) := totA_take l (i + 1)
          have hi2 : i < cap := by omega
          have hiw : IntKind.i64.wrap ((i : Int) + 1) = (i : Int) + 1 := by rw [IntKind.wrap_i64]; omega
          generalize l[i].rows = R at hu hcp hk1 hrl HCP HTk
          clear hcp
          go_upto_region 6 with fail
          go_loopw [3, 5] (fun sn sk wr => ∃ m k : Nat, sn = .int .i64 ((m : Nat) : Int) ∧ sk = .int .i64 ((k : Nat) : Int) ∧ k ≤ R.length ∧ m ≤ 281474976710656 ∧ Hid ((m ≤ 8192 → m = totA (l.take i) + tot (R.take k)) ∧ m ≤ totA l) ∧ w = wr) (fun _ sk _ => R.length - (intOf sk).toNat)
          case atStart => exact ⟨n, 0, rfl, rfl, Nat.zero_le _, hn1, ⟨fun _ => by simp [tot]; exact HN0.out, HN.out.2⟩, rfl⟩
          case round =>
            obtain ⟨m, k, rfl, rfl, hk2, hm1, HM, rfl⟩ := hrel
            by_cases q1 : k < R.length
            · have e1 : decide ((k : Int) < (R.length : Int)) = true := by simp; omega
              by_cases q2 : m ≤ 8192
              · have e2 : decide ((m : Int) ≤ 8192) = true := by simp; omega
                obtain ⟨b2, o2, u2, rfl, -, hu2, hac⟩ := HCP.out.cell1 k q1
                obtain ⟨a3, k3, rfl, -⟩ := hac.form
                have hl3 := hac.len
                have HM0 : Hid (m = totA (l.take i) + tot (R.take k)) := HM.out.1 q2
                have HRl : Hid (tot (R.take (k + 1)) ≤ tot R) := tot_take R (k + 1)
                have HRk : Hid (tot (R.take (k + 1)) = tot (R.take k) + (1 + R[k].length)) := by show _ = _; rw [← tot_app]; simp
                clear hac
                generalize R[k] = r at hl3 HRk hu2
                have hkc : k < k1 := by omega
                have hw1 : IntKind.i64.wrap ((m : Int) + 1) = (m : Int) + 1 := by rw [IntKind.wrap_i64]; omega
                have hw2 : IntKind.i64.wrap ((m : Int) + 1 + (r.length : Int)) = (m : Int) + 1 + (r.length : Int) := by rw [IntKind.wrap_i64]; omega
                have hw3 : IntKind.i64.wrap ((k : Int) + 1) = (k : Int) + 1 := by rw [IntKind.wrap_i64]; omega
                go_wp2
                go_roundw
                case rel => exact ⟨m + 1 + r.length, k + 1, by rw [show (((m + 1 + r.length : Nat) : Nat) : Int) = (m : Int) + 1 + (r.length : Int) by omega], by rw [show (((k + 1 : Nat) : Nat) : Int) = (k : Int) + 1 by omega], q1, by omega, (by have := HM0.out; have := HRk.out; have := HRl.out; have := HTl.out; have := HTk.out; exact ⟨fun _ => by omega, by omega⟩), trivial⟩
                case measure => simp [intOf]; omega
              · have e2 : decide ((m : Int) ≤ 8192) = false := by simp; omega
                go_wp2
                go_roundw
                case rel => exact ⟨m, i + 1, rfl, by rw [show (((i + 1 : Nat) : Nat) : Int) = (i : Int) + 1 by omega], c1, hm1, ⟨fun h => absurd h q2, HM.out.2⟩, trivial⟩
                case measure => simp [intOf]; omega
            · have e1 : decide ((k : Int) < (R.length : Int)) = false := by simp; omega
              obtain rfl : k = R.length := by omega
              have HM2 : Hid (m ≤ 8192 → m = totA (l.take (i + 1))) := fun h => by
                have := HM.out.1 h
                rw [List.take_length] at this
                rw [HTk.out, this]
              go_wp2
              go_roundw
              case rel => exact ⟨m, i + 1, rfl, by rw [show (((i + 1 : Nat) : Nat) : Int) = (i : Int) + 1 by omega], c1, hm1, ⟨HM2.out, HM.out.2⟩, trivial⟩
              case measure => simp [intOf]; omega
        · have d3 : decide ((n : Int) ≤ 8192) = false := by simp; omega
          have HX : Hid (decide (l.length ≤ 200 ∧ totA l ≤ 8192) = false) := decide_eq_false (by have := HN.out.2; omega)
          by_cases hL : l.length ≤ 200
          · have g1 : decide (200 < (l.length : Int)) = false := by simp; omega
            have g2 : decide (8192 < (n : Int)) = true := by simp; omega
            go_wp2
            go_ret
            exact ⟨by rw [HX.out]; rfl, rfl⟩
          · have g1 : decide (200 < (l.length : Int)) = true := by simp; omega
            go_wp2
            go_ret
            exact ⟨by rw [HX.out]; rfl, rfl⟩
      · have d2 : decide ((i : Int) ≤ 200) = false := by simp; omega
        have HX : Hid (decide (l.length ≤ 200 ∧ totA l ≤ 8192) = false) := decide_eq_false (by omega)
        have g1 : decide (200 < (l.length : Int)) = true := by simp; omega
        go_wp2
        go_ret
        exact ⟨by rw [HX.out]; rfl, rfl⟩
    · have d1 : decide ((i : Int) < (l.length : Int)) = false := by simp; omega
      obtain rfl : i = l.length := by omega
      by_cases hL : l.length ≤ 200
      · have g1 : decide (200 < (l.length : Int)) = false := by simp; omega
        by_cases c3 : n ≤ 8192
        · have g2 : decide (8192 < (n : Int)) = false := by simp; omega
          have HX : Hid (decide (l.length ≤ 200 ∧ totA l ≤ 8192) = true) := by
            have := HN.out.1 c3
            rw [List.take_length] at this
            exact decide_eq_true ⟨hL, by omega⟩
          go_wp2
          go_ret
          exact ⟨by rw [HX.out]; rfl, rfl⟩
        · have g2 : decide (8192 < (n : Int)) = true := by simp; omega
          have HX : Hid (decide (l.length ≤ 200 ∧ totA l ≤ 8192) = false) := decide_eq_false (by have := HN.out.2; omega)
          go_wp2
          go_ret
          exact ⟨by rw [HX.out]; rfl, rfl⟩
      · have g1 : decide (200 < (l.length : Int)) = true := by simp; omega
        have HX : Hid (decide (l.length ≤ 200 ∧ totA l ≤ 8192) = false) := decide_eq_false (by omega)
        go_wp2
        go_ret
        exact ⟨by rw [HX.out]; rfl, rfl⟩
end Go.Proofs.YtggbokghhohofaaDoor
