/- Plain: what texts in brackets are read as. -/
import Derived.Test.YtdpmllfapjjihaaGreatDoorJA
import Derived.Test.YtdpmllfapjjihaaGreatDoorBK
namespace Go.Proofs.YtdpmllfapjjihaaGreatDoor
set_option maxRecDepth 100000

theorem wat_r (a b : List Wd) (i : Nat) : wat (a ++ b) (a.length + i) = wat b i := by
  unfold wat
  rw [List.getD_eq_getElem?_getD, List.getD_eq_getElem?_getD, List.getElem?_append_right (by omega), Nat.add_sub_cancel_left]
theorem wat_l {a : List Wd} (b : List Wd) {i : Nat} (h : i < a.length) : wat (a ++ b) i = wat a i := by
  unfold wat
  rw [List.getD_eq_getElem?_getD, List.getD_eq_getElem?_getD, List.getElem?_append_left h]
theorem wat_s (x : Wd) (a : List Wd) (i : Nat) : wat (x :: a) (i + 1) = wat a i := by
  unfold wat
  rw [List.getD_eq_getElem?_getD, List.getD_eq_getElem?_getD, List.getElem?_cons_succ]
theorem wat_map (f : Wd → Wd) {a : List Wd} {i : Nat} (h : i < a.length) : wat (a.map f) i = f (wat a i) := by
  unfold wat
  rw [List.getD_eq_getElem?_getD, List.getD_eq_getElem?_getD, List.getElem?_map, List.getElem?_eq_getElem h]
  rfl
/-- a text that is read alone, without queries -/
structure Aln (a : ByteArray) (m : Tm) (l ws : List Wd) : Prop where
  ha : all a = .ok l
  hl : l = ws ++ [wEnd a]
  cl : Cl l
  rd : (ps l l.length).pol 0 = .ok m ws.length
theorem aln_of {a : ByteArray} {m : Tm} (h : prs a = .ok ⟨m, []⟩) : (∃ l ws, Aln a m l ws) ∧ fitsB ⟨m, []⟩ = true := by
  unfold prs at h
  cases ha : all a with
  | no c x t => rw [ha] at h; cases h
  | ok l =>
    rw [ha] at h
    replace h : rdW l = .ok ⟨m, []⟩ := h
    unfold rdW at h
    cases hf : fil l with
    | bad j => rw [hf] at h; cases h
    | ok p j =>
      rw [hf] at h
      replace h : (if fitsB p = true then Ans.ok p else .no 200 0 ⟨#[]⟩) = .ok ⟨m, []⟩ := h
      split at h
      · rename_i hfit
        cases h
        obtain ⟨ws, hl, hst, -⟩ := all_stand ha
        exact ⟨⟨l, ws, ha, hl, (all_wok ha).cl, fil_main hl hst hf (all_wok ha).cl⟩, hfit⟩
      · cases h
theorem brk_len (q n : Nat) (ws : List Wd) : (brk q n ws).length = ws.length + 2 := by unfold brk; simp
/-- words in brackets, wherever they stand -/
theorem brk_fol {l ws : List Wd} {e : Wd} (pre post : List Wd) (q n : Nat) (hl : l = ws ++ [e]) : (wat (pre ++ (brk q n ws ++ post)) pre.length).t = Slp ∧ (wat (pre ++ (brk q n ws ++ post)) (ws.length + (pre.length + 1))).t = Srp ∧ Fol l (pre ++ (brk q n ws ++ post)) ws.length (pre.length + 1) := by
  have h0 : wat (pre ++ (brk q n ws ++ post)) pre.length = ⟨3, Slp, 0, q⟩ := by
    unfold brk
    exact wat_mid pre _ _
  have hi : ∀ i, i < ws.length → wat (pre ++ (brk q n ws ++ post)) (i + (pre.length + 1)) = sh 0 (q + 1) (wat l i) := fun i hi => by
    rw [show i + (pre.length + 1) = pre.length + (i + 1) by omega, wat_r]
    unfold brk
    rw [List.cons_append, wat_s, List.append_assoc, wat_l _ (by simpa using hi), wat_map _ hi, hl, wat_l _ hi]
  have hk : wat (pre ++ (brk q n ws ++ post)) (ws.length + (pre.length + 1)) = ⟨3, Srp, 0, q + 1 + n + 1⟩ := by
    rw [show ws.length + (pre.length + 1) = pre.length + (ws.length + 1) by omega, wat_r]
    unfold brk
    rw [List.cons_append, wat_s, List.append_assoc]
    have := wat_mid (ws.map (sh 0 (q + 1))) ⟨3, Srp, 0, q + 1 + n + 1⟩ post
    rw [List.length_map] at this
    exact this
  have ht : (wat (pre ++ (brk q n ws ++ post)) (ws.length + (pre.length + 1))).t = Srp := congrArg Wd.t hk
  refine ⟨congrArg Wd.t h0, ht, fun i h => by rw [hi i h]; rfl, fun i h => by rw [hi i h]; rfl, fun i h => by rw [hi i h]; rfl, ?_, ?_, ?_, ?_, ?_, ?_⟩
  · rw [tk_eq ht]; decide
  · rw [tk_eq ht]; decide
  · rw [tk_eq ht]; decide
  · rw [tk_eq ht]; decide
  · rw [tk_eq ht]; decide
  · rw [List.length_append, List.length_append, brk_len]; omega
/-- a policy in brackets, at a place -/
theorem brk_atom {a : ByteArray} {m : Tm} {l ws : List Wd} (h : Aln a m l ws) (pre post : List Wd) (q n : Nat) {l2 : List Wd} {N : Nat} (e : l2 = pre ++ (brk q n ws ++ post)) (hN : l2.length = N + 1) : atomF l2 (ps l2 N).pol (ps l2 N).pred pre.length = .ok m (pre.length + (ws.length + 2)) := by
  obtain ⟨h1, h2, h3⟩ := brk_fol (e := wEnd a) pre post q n h.hl
  rw [← e] at h1 h2 h3
  have hkl : ws.length < l.length := by rw [h.hl]; simp
  have := atom_brk (n1 := l.length) (n2 := N) h3 h.cl hkl h.rd h1 h2 (by omega)
  rw [this]
  congr 1
  omega
theorem fil_of {l : List Wd} {m : Tm} {j : Nat} (h : (ps l l.length).pol 0 = .ok m j) (hp : 0 < l.length) (ht : (wat l j).t = ⟨#[]⟩) (hk : (wat l j).k = 0) : fil l = .ok ⟨m, []⟩ j := by
  unfold fil
  rw [h]
  show (qrs l (ps l l.length).pred l.length j []).bind _ = _
  have : qrs l (ps l l.length).pred l.length j [] = .ok [] j := by
    obtain ⟨f, hf⟩ : ∃ f, l.length = f + 1 := ⟨l.length - 1, by omega⟩
    rw [show qrs l (ps l l.length).pred l.length j [] = qrs l (ps l l.length).pred (f + 1) j [] by rw [← hf], qrs, tk_eq ht, if_neg (by decide)]
  rw [this]
  show (if (wat l j).k = 0 then _ else _) = _
  rw [if_pos hk]
theorem prs_of {T : ByteArray} {l : List Wd} {p : Po} {j : Nat} (ha : all T = .ok l) (hf : fil l = .ok p j) : prs T = if fitsB p = true then .ok p else .no 200 0 ⟨#[]⟩ := by
  unfold prs
  rw [ha]
  show rdW l = _
  unfold rdW
  rw [hf]
/-- bytes of a text in brackets, from q on -/
structure Bk (T a : ByteArray) (q : Nat) : Prop where
  h0 : bt T q = 40
  sg : ∀ i, i < a.size → bt T (q + 1 + i) = bt a i
  h1 : bt T (q + 1 + a.size) = 10
  h2 : bt T (q + 1 + a.size + 1) = 41
theorem bt_l {x y : ByteArray} {i : Nat} (h : i < x.size) : bt (x ++ y) i = bt x i := by rw [bt_app, if_pos h]
theorem bt_r {x y : ByteArray} {i : Nat} (j : Nat) (h : i = x.size + j) : bt (x ++ y) i = bt y j := by rw [bt_app, if_neg (by omega), h, Nat.add_sub_cancel_left]
theorem bk_of {x a y : ByteArray} {q : Nat} (hx : x.size = q + 1) (h0 : bt x q = 40) (h1 : bt y 0 = 10) (h2 : bt y 1 = 41) : Bk (x ++ a ++ y) a q := by
  have hs := size_app x a
  exact ⟨by rw [bt_l (by omega), bt_l (by omega), h0], fun i hi => by rw [bt_l (by omega), bt_r i (by omega)], by rw [bt_r 0 (by omega), h1], by rw [bt_r 1 (by omega), h2]⟩
theorem Bk.app {T a : ByteArray} {q : Nat} (h : Bk T a q) (z : ByteArray) : Bk (T ++ z) a q := by
  have hl : q + 1 + a.size + 1 < T.size := in_of_bt (by rw [h.h2]; decide)
  exact ⟨by rw [bt_l (by omega)]; exact h.h0, fun i hi => by rw [bt_l (by omega)]; exact h.sg i hi, by rw [bt_l (by omega)]; exact h.h1, by rw [bt_l (by omega)]; exact h.h2⟩
theorem whole_prs {a T : ByteArray} {m : Tm} (h : prs a = .ok ⟨m, []⟩) (hb : Bk T a 0) (hs : T.size = a.size + 3) (hz : T.size ≤ 65536) : prs T = .ok ⟨m, []⟩ := by
  obtain ⟨⟨l, ws, A⟩, hfit⟩ := aln_of h
  have hall : all T = .ok ([] ++ (brk 0 a.size ws ++ [wEnd T])) := by
    unfold all
    rw [if_neg (by omega)]
    show sc T 0 [] = _
    rw [sc_brk A.ha A.hl hb.h0 hb.sg hb.h1 hb.h2, sc_end (by omega), List.append_assoc]
  obtain ⟨l2, e2⟩ : ∃ l2, l2 = [] ++ (brk 0 a.size ws ++ [wEnd T]) := ⟨_, rfl⟩
  rw [← e2] at hall
  have hlen : l2.length = (ws.length + 2) + 1 := by rw [e2]; simp [brk_len]
  have hat := brk_atom A [] [wEnd T] 0 a.size e2 hlen
  have hw : wat l2 (ws.length + 2) = wEnd T := by
    rw [e2, List.nil_append]
    have := wat_last (brk 0 a.size ws) (wEnd T)
    rw [brk_len] at this
    exact this
  have ht : (wat l2 (ws.length + 2)).t = ⟨#[]⟩ := by rw [hw]; rfl
  have hk : (wat l2 (ws.length + 2)).k = 0 := by rw [hw]; rfl
  rw [List.length_nil, Nat.zero_add] at hat
  have hf : fil l2 = .ok ⟨m, []⟩ (ws.length + 2) := by
    refine fil_of ?_ (by omega) ht hk
    rw [hlen]
    show polF l2 (atomF l2 (ps l2 (ws.length + 2)).pol (ps l2 (ws.length + 2)).pred) 0 = _
    exact jnE1 (jnE1 (starF_0 hat (by omega) (by rw [tk_eq ht]; decide)) (by rw [tk_eq ht]; decide)) (by rw [tk_eq ht]; decide)
  rw [prs_of hall hf, if_pos hfit]
theorem star_prs {a T : ByteArray} {m : Tm} (h : prs a = .ok ⟨m, []⟩) (hb : Bk T a 0) (h3 : bt T (0 + 1 + a.size + 2) = 42) (hs : T.size = a.size + 4) (hz : T.size ≤ 65536) : prs T = .ok ⟨ov 10 [m], []⟩ ∨ prs T = .no 200 0 ⟨#[]⟩ := by
  obtain ⟨⟨l, ws, A⟩, -⟩ := aln_of h
  have hall : all T = .ok ([] ++ (brk 0 a.size ws ++ [⟨3, Sstar, 0, 0 + 1 + a.size + 2⟩, wEnd T])) := by
    unfold all
    rw [if_neg (by omega)]
    show sc T 0 [] = _
    rw [sc_brk A.ha A.hl hb.h0 hb.sg hb.h1 hb.h2, sc_sign h3 (by decide), ext_one h3 (by decide), sc_end (by omega)]
    congr 1
    simp
  obtain ⟨l2, e2⟩ : ∃ l2, l2 = [] ++ (brk 0 a.size ws ++ [⟨3, Sstar, 0, 0 + 1 + a.size + 2⟩, wEnd T]) := ⟨_, rfl⟩
  rw [← e2] at hall
  have hlen : l2.length = (ws.length + 3) + 1 := by rw [e2]; simp [brk_len]
  have hat := brk_atom A [] [⟨3, Sstar, 0, 0 + 1 + a.size + 2⟩, wEnd T] 0 a.size e2 hlen
  have hw : wat l2 (ws.length + 2 + 1) = wEnd T := by
    rw [e2, List.nil_append, ← brk_len 0 a.size ws, wat_r]; rfl
  have hw0 : wat l2 (ws.length + 2) = ⟨3, Sstar, 0, 0 + 1 + a.size + 2⟩ := by
    have := wat_r (brk 0 a.size ws) [⟨3, Sstar, 0, 0 + 1 + a.size + 2⟩, wEnd T] 0
    rw [e2, List.nil_append, ← brk_len 0 a.size ws]; exact this
  have ht0 : (wat l2 (ws.length + 2)).t = Sstar := by rw [hw0]
  have ht : (wat l2 (ws.length + 2 + 1)).t = ⟨#[]⟩ := by rw [hw]; rfl
  have hk : (wat l2 (ws.length + 2 + 1)).k = 0 := by rw [hw]; rfl
  rw [List.length_nil, Nat.zero_add] at hat
  have hf : fil l2 = .ok ⟨ov 10 [m], []⟩ (ws.length + 2 + 1) := by
    refine fil_of ?_ (by omega) ht hk
    rw [hlen]
    show polF l2 (atomF l2 (ps l2 (ws.length + 3)).pol (ps l2 (ws.length + 3)).pred) 0 = _
    exact jnE1 (jnE1 (starF_1 hat (by omega) (by rw [tk_eq ht0]; decide) (by rw [tk_eq ht]; decide)) (by rw [tk_eq ht]; decide)) (by rw [tk_eq ht]; decide)
  rw [prs_of hall hf]
  split
  · exact Or.inl rfl
  · exact Or.inr rfl
theorem both_prs {a b T : ByteArray} {m r : Tm} (h : prs a = .ok ⟨m, []⟩) (h' : prs b = .ok ⟨r, []⟩) (hb : Bk T a 0) (h3 : bt T (0 + 1 + a.size + 2) = 32) (h4 : bt T (0 + 1 + a.size + 2 + 1) = 59) (h5 : bt T (0 + 1 + a.size + 2 + 1 + 1) = 32) (hb' : Bk T b (0 + 1 + a.size + 2 + 1 + 1 + 1)) (hs : T.size = a.size + b.size + 9) (hz : T.size ≤ 65536) : prs T = .ok ⟨ov 9 [m, r], []⟩ ∨ prs T = .no 200 0 ⟨#[]⟩ := by
  obtain ⟨⟨l, ws, A⟩, -⟩ := aln_of h
  obtain ⟨⟨l', vs, B⟩, -⟩ := aln_of h'
  obtain ⟨x, hx⟩ : ∃ x : Wd, x = ⟨3, Ssemi, 0, 0 + 1 + a.size + 2 + 1⟩ := ⟨_, rfl⟩
  obtain ⟨q, hq⟩ : ∃ q, q = 0 + 1 + a.size + 2 + 1 + 1 + 1 := ⟨_, rfl⟩
  have hall : all T = .ok ([] ++ (brk 0 a.size ws ++ ([x] ++ (brk q b.size vs ++ [wEnd T])))) := by
    unfold all
    rw [if_neg (by omega)]
    show sc T 0 [] = _
    rw [sc_brk A.ha A.hl hb.h0 hb.sg hb.h1 hb.h2, sc_blk (by rw [h3]; decide), sc_sign h4 (by decide), ext_one h4 (by decide), sc_blk (by rw [h5]; decide), sc_brk B.ha B.hl hb'.h0 hb'.sg hb'.h1 hb'.h2, sc_end (by omega), hx, hq]
    congr 1
    simp
  obtain ⟨l2, e2⟩ : ∃ l2, l2 = [] ++ (brk 0 a.size ws ++ ([x] ++ (brk q b.size vs ++ [wEnd T]))) := ⟨_, rfl⟩
  rw [← e2] at hall
  have e3 : l2 = (brk 0 a.size ws ++ [x]) ++ (brk q b.size vs ++ [wEnd T]) := by rw [e2]; simp
  have hl3 : (brk 0 a.size ws ++ [x]).length = ws.length + 2 + 1 := by rw [List.length_append, brk_len]; rfl
  have hlen : l2.length = (ws.length + vs.length + 5) + 1 := by rw [e3]; simp [brk_len]; omega
  have hat := brk_atom A [] _ 0 a.size e2 hlen
  have hat2 := brk_atom B _ [wEnd T] q b.size e3 hlen
  rw [hl3] at hat2
  rw [List.length_nil, Nat.zero_add] at hat
  have ht0 : (wat l2 (ws.length + 2)).t = Ssemi := by
    have := wat_r (brk 0 a.size ws) ([x] ++ (brk q b.size vs ++ [wEnd T])) 0
    rw [brk_len] at this
    rw [e2, List.nil_append, show ws.length + 2 = ws.length + 2 + 0 from rfl, this, hx]; rfl
  have hw : wat l2 (ws.length + 2 + 1 + (vs.length + 2)) = wEnd T := by
    have := wat_last (brk 0 a.size ws ++ [x] ++ brk q b.size vs) (wEnd T)
    rw [List.length_append, hl3, brk_len, List.append_assoc] at this
    rw [e3]; exact this
  have ht : (wat l2 (ws.length + 2 + 1 + (vs.length + 2))).t = ⟨#[]⟩ := by rw [hw]; rfl
  have hk : (wat l2 (ws.length + 2 + 1 + (vs.length + 2))).k = 0 := by rw [hw]; rfl
  have hst1 := starF_0 (l := l2) hat (by omega) (by rw [tk_eq ht0]; decide)
  have hst2 := starF_0 (l := l2) hat2 (by omega) (by rw [tk_eq ht]; decide)
  have hf : fil l2 = .ok ⟨ov 9 [m, r], []⟩ (ws.length + 2 + 1 + (vs.length + 2)) := by
    refine fil_of ?_ (by omega) ht hk
    rw [hlen]
    show polF l2 (atomF l2 (ps l2 (ws.length + vs.length + 5)).pol (ps l2 (ws.length + vs.length + 5)).pred) 0 = _
    refine jnE1 ?_ (by rw [tk_eq ht]; decide)
    show jn l2 9 Ssemi (starF l2 _) 0 = _
    rw [jnE2 (sg := Ssemi) hst1 (by rw [tk_eq ht0]; decide)]
    obtain ⟨f, hf⟩ : ∃ f, l2.length = f + 1 + 1 := ⟨l2.length - 2, by omega⟩
    have hJ : jnL l2 Ssemi (starF l2 (atomF l2 (ps l2 (ws.length + vs.length + 5)).pol (ps l2 (ws.length + vs.length + 5)).pred)) l2.length (ws.length + 2) [m] = .ok [m, r] (ws.length + 2 + 1 + (vs.length + 2)) := by
      rw [hf, jnL, tk_eq ht0, if_pos (by decide), hst2]
      show jnL l2 Ssemi _ (f + 1) _ ([m] ++ [r]) = _
      rw [jnL, tk_eq ht, if_neg (by decide)]
      rfl
    rw [hJ]
    rfl
  rw [prs_of hall hf]
  split
  · exact Or.inl rfl
  · exact Or.inr rfl
theorem whole_txt {a : ByteArray} {m : Tm} (h : prs a = .ok ⟨m, []⟩) (ha : a.size ≤ 4096) : (⟨#[40]⟩ ++ a ++ ⟨#[10, 41]⟩ : ByteArray).size ≤ 65536 ∧ prs (⟨#[40]⟩ ++ a ++ ⟨#[10, 41]⟩) = .ok ⟨m, []⟩ := by
  have hs : (⟨#[40]⟩ ++ a ++ ⟨#[10, 41]⟩ : ByteArray).size = a.size + 3 := by rw [size_app, size_app]; show 1 + a.size + 2 = _; omega
  exact ⟨by omega, whole_prs h (bk_of rfl rfl rfl rfl) hs (by omega)⟩
theorem star_txt {a : ByteArray} {m : Tm} (h : prs a = .ok ⟨m, []⟩) (ha : a.size ≤ 4096) : (⟨#[40]⟩ ++ a ++ ⟨#[10, 41, 42]⟩ : ByteArray).size ≤ 65536 ∧ (prs (⟨#[40]⟩ ++ a ++ ⟨#[10, 41, 42]⟩) = .ok ⟨ov 10 [m], []⟩ ∨ prs (⟨#[40]⟩ ++ a ++ ⟨#[10, 41, 42]⟩) = .no 200 0 ⟨#[]⟩) := by
  have h1 : (⟨#[40]⟩ ++ a : ByteArray).size = a.size + 1 := by rw [size_app]; show 1 + a.size = _; omega
  have hs : (⟨#[40]⟩ ++ a ++ ⟨#[10, 41, 42]⟩ : ByteArray).size = a.size + 4 := by rw [size_app, h1]; show a.size + 1 + 3 = _; omega
  exact ⟨by omega, star_prs h (bk_of rfl rfl rfl rfl) (by rw [bt_r 2 (by omega)]; rfl) hs (by omega)⟩
theorem both_txt {a b : ByteArray} {m r : Tm} (h : prs a = .ok ⟨m, []⟩) (h' : prs b = .ok ⟨r, []⟩) (ha : a.size ≤ 4096) (hb : b.size ≤ 4096) : (⟨#[40]⟩ ++ a ++ ⟨#[10, 41, 32, 59, 32, 40]⟩ ++ b ++ ⟨#[10, 41]⟩ : ByteArray).size ≤ 65536 ∧ (prs (⟨#[40]⟩ ++ a ++ ⟨#[10, 41, 32, 59, 32, 40]⟩ ++ b ++ ⟨#[10, 41]⟩) = .ok ⟨ov 9 [m, r], []⟩ ∨ prs (⟨#[40]⟩ ++ a ++ ⟨#[10, 41, 32, 59, 32, 40]⟩ ++ b ++ ⟨#[10, 41]⟩) = .no 200 0 ⟨#[]⟩) := by
  have h1 : (⟨#[40]⟩ ++ a : ByteArray).size = a.size + 1 := by rw [size_app]; show 1 + a.size = _; omega
  have h2 : (⟨#[40]⟩ ++ a ++ ⟨#[10, 41, 32, 59, 32, 40]⟩ : ByteArray).size = a.size + 7 := by rw [size_app, h1]; show a.size + 1 + 6 = _; omega
  have h3 := size_app (⟨#[40]⟩ ++ a ++ ⟨#[10, 41, 32, 59, 32, 40]⟩) b
  have hs : (⟨#[40]⟩ ++ a ++ ⟨#[10, 41, 32, 59, 32, 40]⟩ ++ b ++ ⟨#[10, 41]⟩ : ByteArray).size = a.size + b.size + 9 := by rw [size_app, h3, h2]; show a.size + 7 + b.size + 2 = _; omega
  have hX : Bk (⟨#[40]⟩ ++ a ++ ⟨#[10, 41, 32, 59, 32, 40]⟩) a 0 := bk_of rfl rfl rfl rfl
  refine ⟨by omega, both_prs h h' ((hX.app b).app _) ?_ ?_ ?_ (bk_of (by omega) ?_ rfl rfl) hs (by omega)⟩
  · rw [bt_l (by omega), bt_l (by omega), bt_r 2 (by omega)]; rfl
  · rw [bt_l (by omega), bt_l (by omega), bt_r 3 (by omega)]; rfl
  · rw [bt_l (by omega), bt_l (by omega), bt_r 4 (by omega)]; rfl
  · rw [bt_r 5 (by omega)]; rfl
end Go.Proofs.YtdpmllfapjjihaaGreatDoor
