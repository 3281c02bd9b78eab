/-
  Plain: what rows come to does not turn on the order in which they and their settings stand, nor on how often; the numbers that a turn meets. No condition.
-/
import Derived.Test.YtggbokghhohofaaDoorCH
namespace Go.Proofs.YtggbokghhohofaaDoor

theorem insR_le (r : List Ac) : ∀ l, (insR r l).length ≤ l.length + 1
  | [] => by simp [insR]
  | x :: l => by
    have := insR_le r l
    unfold insR
    split
    · simp; omega
    · split <;> simp
theorem canon_le_aux : ∀ (L acc : List (List Ac)), (L.foldl (fun acc r => insR r acc) acc).length ≤ acc.length + L.length
  | [], acc => by simp
  | r :: L, acc => by
    have h1 := canon_le_aux L (insR r acc)
    have h2 := insR_le r acc
    simp only [List.foldl_cons, List.length_cons]; omega
theorem nrows_le {L K : List (List Ac)} (h : nrows L = some K) : K.length ≤ L.length := by
  unfold nrows at h
  split at h
  · simp only [Option.some.injEq] at h
    subst h
    have := canon_le_aux (L.map srt) []
    simpa [canon] using this
  · cases h
theorem nrows_rise {L K : List (List Ac)} (h : nrows L = some K) : ∀ r ∈ K, r.Pairwise fun a b => a.fd < b.fd := by
  unfold nrows at h
  split at h
  · rename_i hall
    simp only [Option.some.injEq] at h
    subst h
    intro r hr
    have := (canon_mem (nrows_kd hall) r).1 hr
    obtain ⟨r0, hr0, rfl⟩ := List.mem_map.1 this
    have h1 := List.all_eq_true.1 hall r0 hr0
    simp only [rowOk, Bool.and_eq_true, decide_eq_true_eq] at h1
    exact srt_strict h1.2
  · cases h
theorem rowOk_perm {r s : List Ac} (h : r.Perm s) : rowOk r = rowOk s := by
  unfold rowOk
  have e1 : r.all okS = s.all okS := by
    rw [Bool.eq_iff_iff, List.all_eq_true, List.all_eq_true]
    exact ⟨fun k x hx => k x (h.mem_iff.2 hx), fun k x hx => k x (h.mem_iff.1 hx)⟩
  have e2 : (r.map (·.fd)).Nodup ↔ (s.map (·.fd)).Nodup := (h.map (·.fd)).nodup_iff
  rw [e1, decide_eq_decide.2 e2]
theorem srt_same {r s : List Ac} (h : r.Perm s) (hn : (s.map (·.fd)).Nodup) : srt r = srt s := srt_uniq hn ((srt_perm r).trans h) (srt_sorted r)
theorem nrows_same {L M : List (List Ac)} (h1 : ∀ r ∈ M, ∃ s ∈ L, r.Perm s) (h2 : ∀ s ∈ L, ∃ r ∈ M, r.Perm s) : nrows M = nrows L := by
  have e : M.all rowOk = L.all rowOk := by
    rw [Bool.eq_iff_iff, List.all_eq_true, List.all_eq_true]
    constructor
    · intro k s hs
      obtain ⟨r, hr, hp⟩ := h2 s hs
      rw [← rowOk_perm hp]; exact k r hr
    · intro k r hr
      obtain ⟨s, hs, hp⟩ := h1 r hr
      rw [rowOk_perm hp]; exact k s hs
  unfold nrows
  rw [e]
  by_cases hL : L.all rowOk = true
  · rw [if_pos hL, if_pos hL]
    have hM : M.all rowOk = true := e.trans hL
    congr 1
    have key : ∀ s ∈ L, (s.map (·.fd)).Nodup := fun s hs => by
      have := List.all_eq_true.1 hL s hs
      simp only [rowOk, Bool.and_eq_true, decide_eq_true_eq] at this
      exact this.2
    refine strict_uniq (canon_sorted (nrows_kd hM)) (canon_sorted (nrows_kd hL)) fun x => ?_
    rw [canon_mem (nrows_kd hM), canon_mem (nrows_kd hL), List.mem_map, List.mem_map]
    constructor
    · rintro ⟨r, hr, rfl⟩
      obtain ⟨s, hs, hp⟩ := h1 r hr
      exact ⟨s, hs, (srt_same hp (key s hs)).symm⟩
    · rintro ⟨s, hs, rfl⟩
      obtain ⟨r, hr, hp⟩ := h2 s hs
      exact ⟨r, hr, srt_same hp (key s hs)⟩
  · rw [if_neg hL, if_neg hL]
/-- The place that a turn meets at i. -/
def gI (n : Nat) (turn : Int) (i : Nat) : Nat := (((IntKind.i64.wrap ((i : Int) + turn)).tmod n + n).tmod n).toNat
theorem gI_in {n : Nat} (hn : 0 < n) (x : Int) : -(n : Int) < x.tmod n ∧ x.tmod n < n ∧ 0 ≤ (x.tmod n + n).tmod n ∧ (x.tmod n + n).tmod n < n := by
  have h1 := Int.lt_tmod_of_pos x (b := (n : Int)) (by omega)
  have h2 := Int.tmod_lt_of_pos x (b := (n : Int)) (by omega)
  have h3 := Int.tmod_nonneg (n : Int) (show 0 ≤ x.tmod n + n by omega)
  have h4 := Int.tmod_lt_of_pos (x.tmod n + n) (b := (n : Int)) (by omega)
  exact ⟨h1, h2, h3, h4⟩
theorem gI_emod {n : Nat} (hn : 0 < n) (x : Int) : (x.tmod n + n).tmod n = x % n := by
  have h := gI_in hn x
  rw [Int.tmod_eq_emod_of_nonneg (by omega), Int.add_emod_right, Int.tmod_def, Int.sub_mul_emod_self_left]
theorem gI_all {n : Nat} (hn : 0 < n) (hn2 : n ≤ 8192) (turn : Int) (ht : I64 turn) (k : Nat) (hk : k < n) : ∃ j, j < 2 * n ∧ gI n turn j = k := by
  obtain ⟨s, c, hs, hc⟩ : ∃ (s : Nat) (c : Int), (s = 0 ∨ s = n) ∧ ∀ i : Nat, s ≤ i → i < s + n → IntKind.i64.wrap ((i : Int) + turn) = (i : Int) + c := by
    unfold I64 at ht
    by_cases h1 : turn + n ≤ 9223372036854775808
    · exact ⟨0, turn, Or.inl rfl, fun i _ hi => by rw [IntKind.wrap_i64]; omega⟩
    · exact ⟨n, turn - 18446744073709551616, Or.inr rfl, fun i hi hi2 => by rw [IntKind.wrap_i64]; omega⟩
  have hp : (0 : Int) < n := by omega
  have h0 := Int.emod_nonneg ((k : Int) - (s : Int) - c) (b := (n : Int)) (by omega)
  have h1 := Int.emod_lt_of_pos ((k : Int) - (s : Int) - c) hp
  refine ⟨s + (((k : Int) - (s : Int) - c) % n).toNat, by omega, ?_⟩
  unfold gI
  rw [hc _ (by omega) (by omega), gI_emod hn]
  have e : ((s + (((k : Int) - (s : Int) - c) % n).toNat : Nat) : Int) + c = ((k : Int) - (s : Int) - c) % n + ((s : Int) + c) := by omega
  rw [e, Int.emod_add_emod, show (k : Int) - s - c + (s + c) = (k : Int) by omega, Int.emod_eq_of_lt (by omega) (by omega)]
  omega
/-- A sum over l numbers from a on. -/
def sm (F : Nat → Nat) (a : Nat) : Nat → Nat
  | 0 => 0
  | l + 1 => sm F a l + F (a + l)
theorem sm_head (F : Nat → Nat) (a : Nat) : ∀ l, sm F a (l + 1) = F a + sm F (a + 1) l
  | 0 => by simp [sm]
  | l + 1 => by
    rw [sm, sm_head F a l, sm, show a + 1 + l = a + (l + 1) by omega]; omega
theorem sm_split (F : Nat → Nat) (a l : Nat) : ∀ m, sm F a (l + m) = sm F a l + sm F (a + l) m
  | 0 => by simp [sm]
  | m + 1 => by rw [← Nat.add_assoc, sm, sm_split F a l m, sm, show a + (l + m) = a + l + m by omega]; omega
theorem sm_same {F G : Nat → Nat} {a b : Nat} : ∀ {l : Nat}, (∀ i, i < l → F (a + i) = G (b + i)) → sm F a l = sm G b l
  | 0, _ => rfl
  | l + 1, h => by rw [sm, sm, sm_same fun i hi => h i (by omega), h l (by omega)]
theorem sm_turn {F : Nat → Nat} {n : Nat} (hF : ∀ x, F (x + n) = F x) : ∀ a, sm F a n = sm F 0 n
  | 0 => rfl
  | a + 1 => by
    have h1 := sm_head F a n
    rw [sm, hF] at h1
    rw [← sm_turn hF a]; omega
theorem sm_win {F f : Nat → Nat} {n a l c : Nat} (hl : l ≤ n) (h : ∀ i, i < l → F (a + i) = f ((a + c + i) % n)) : sm F a l ≤ sm f 0 n := by
  have h1 : sm F a l = sm (fun x => f (x % n)) (a + c) l := sm_same h
  have h2 := sm_split (fun x => f (x % n)) (a + c) l (n - l)
  rw [show l + (n - l) = n by omega, sm_turn fun x => by simp] at h2
  have h3 : sm (fun x => f (x % n)) 0 n = sm f 0 n := sm_same fun i hi => by simp only [Nat.zero_add]; rw [Nat.mod_eq_of_lt hi]
  omega
theorem tot_sm (R : List (List Ac)) : tot R = sm (fun k => 1 + (R.getD k []).length) 0 R.length := by
  induction R with
  | nil => rfl
  | cons r R ih =>
    rw [List.length_cons, sm_head, tot, ih]
    congr 1
    exact sm_same fun i _ => by simp [Nat.add_comm]
theorem tot_mapR (g : Nat → List Ac) : ∀ i, tot ((List.range i).map g) = sm (fun k => 1 + (g k).length) 0 i
  | 0 => rfl
  | i + 1 => by rw [List.range_succ, List.map_append, List.map_cons, List.map_nil, tot_app, tot_mapR g i, sm, Nat.zero_add]
/-- The rows anew, from a turn on, each turned over. -/
def oth (R : List (List Ac)) (turn : Int) (i : Nat) : List (List Ac) := (List.range i).map fun j => (R.getD (gI R.length turn j) []).reverse
theorem gI_win {n : Nat} (hn : 0 < n) (turn c : Int) (i : Nat) (h : IntKind.i64.wrap ((i : Int) + turn) = (i : Int) + c) : gI n turn i = (i + (c % n).toNat) % n := by
  have h0 := Int.emod_nonneg c (b := (n : Int)) (by omega)
  unfold gI
  rw [h, gI_emod hn]
  have e : (((i + (c % n).toNat) % n : Nat) : Int) = ((i : Int) + c) % n := by
    rw [Int.natCast_emod, Int.natCast_add, Int.toNat_of_nonneg h0, Int.add_emod_emod]
  omega
theorem oth_tot (R : List (List Ac)) (turn : Int) (ht : I64 turn) (hn2 : R.length ≤ 8192) : tot (oth R turn (2 * R.length)) ≤ 3 * tot R := by
  by_cases hn : R.length = 0
  · rw [hn]; simp [oth, tot]
  · have hn : 0 < R.length := by omega
    rw [oth, tot_mapR, tot_sm R]
    simp only [List.length_reverse]
    generalize hf : (fun k => 1 + (R.getD k []).length) = f
    have hF : (fun k => 1 + (R.getD (gI R.length turn k) []).length) = fun k => f (gI R.length turn k) := by rw [← hf]
    rw [hF]
    generalize R.length = n at hn hn2 ⊢
    have win : ∀ (a l : Nat) (c : Int), l ≤ n → (∀ i : Nat, a ≤ i → i < a + l → IntKind.i64.wrap ((i : Int) + turn) = (i : Int) + c) → sm (fun k => f (gI n turn k)) a l ≤ sm f 0 n := fun a l c hl hc =>
      sm_win (c := (c % n).toNat) hl fun i hi => by
        show f (gI n turn (a + i)) = _
        rw [gI_win hn turn c (a + i) (hc _ (by omega) (by omega)), show a + i + (c % n).toNat = a + (c % n).toNat + i by omega]
    unfold I64 at ht
    by_cases h1 : turn + n ≤ 9223372036854775808
    · by_cases h2 : turn + 2 * n ≤ 9223372036854775808
      · have w1 := win 0 n turn (Nat.le_refl _) fun i _ hi => by rw [IntKind.wrap_i64]; omega
        have w2 := win n n turn (Nat.le_refl _) fun i hi hi2 => by rw [IntKind.wrap_i64]; omega
        have e := sm_split (fun k => f (gI n turn k)) 0 n n
        rw [show n + n = 2 * n by omega, Nat.zero_add] at e
        omega
      · obtain ⟨m, hm⟩ : ∃ m : Nat, (m : Int) = 9223372036854775808 - turn - n := ⟨(9223372036854775808 - turn - n).toNat, by omega⟩
        have w1 := win 0 n turn (Nat.le_refl _) fun i _ hi => by rw [IntKind.wrap_i64]; omega
        have w2 := win n m turn (by omega) fun i hi hi2 => by rw [IntKind.wrap_i64]; omega
        have w3 := win (n + m) (n - m) (turn - 18446744073709551616) (by omega) fun i hi hi2 => by rw [IntKind.wrap_i64]; omega
        have e := sm_split (fun k => f (gI n turn k)) 0 n n
        rw [show n + n = 2 * n by omega, Nat.zero_add] at e
        have e2 := sm_split (fun k => f (gI n turn k)) n m (n - m)
        rw [show m + (n - m) = n by omega] at e2
        omega
    · obtain ⟨m, hm⟩ : ∃ m : Nat, (m : Int) = 9223372036854775808 - turn := ⟨(9223372036854775808 - turn).toNat, by omega⟩
      have w1 := win 0 m turn (by omega) fun i _ hi => by rw [IntKind.wrap_i64]; omega
      have w2 := win m (n - m) (turn - 18446744073709551616) (by omega) fun i hi hi2 => by rw [IntKind.wrap_i64]; omega
      have w3 := win n n (turn - 18446744073709551616) (Nat.le_refl _) fun i hi hi2 => by rw [IntKind.wrap_i64]; omega
      have e := sm_split (fun k => f (gI n turn k)) 0 n n
      rw [show n + n = 2 * n by omega, Nat.zero_add] at e
      have e2 := sm_split (fun k => f (gI n turn k)) 0 m (n - m)
      rw [show m + (n - m) = n by omega, Nat.zero_add] at e2
      omega
theorem oth_rows (R : List (List Ac)) (turn : Int) (ht : I64 turn) (hn2 : R.length ≤ 8192) : nrows (oth R turn (2 * R.length)) = nrows R := by
  refine nrows_same (fun r hr => ?_) fun s hs => ?_
  · obtain ⟨j, hj, rfl⟩ := List.mem_map.1 hr
    have hj := List.mem_range.1 hj
    have hn : 0 < R.length := by omega
    have h := gI_in hn (IntKind.i64.wrap ((j : Int) + turn))
    have hlt : gI R.length turn j < R.length := by unfold gI; omega
    refine ⟨R[gI R.length turn j], List.getElem_mem hlt, ?_⟩
    rw [List.getD_eq_getElem?_getD, List.getElem?_eq_getElem hlt, Option.getD_some]
    exact List.reverse_perm _
  · obtain ⟨k, hk, rfl⟩ := List.mem_iff_getElem.1 hs
    obtain ⟨j, hj, e⟩ := gI_all (by omega) hn2 turn ht k hk
    refine ⟨_, List.mem_map.2 ⟨j, List.mem_range.2 hj, rfl⟩, ?_⟩
    rw [e, List.getD_eq_getElem?_getD, List.getElem?_eq_getElem hk, Option.getD_some]
    exact List.reverse_perm _
end Go.Proofs.YtggbokghhohofaaDoor
