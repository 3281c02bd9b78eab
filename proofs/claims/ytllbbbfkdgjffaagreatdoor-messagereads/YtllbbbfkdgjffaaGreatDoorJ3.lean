/-
  Plain facts: a message that is one is read as it was; bytes that are read as a message are its bytes; looking while reading is looking behind it. No program is spoken of.
-/
import Derived.Test.YtllbbbfkdgjffaaGreatDoorJ2
namespace Go.Proofs.YtllbbbfkdgjffaaGreatDoor

theorem dg_add (n q : Int) (K : Nat) : ∀ j, j ≤ K → dg (n + 2 ^ (8 * K) * q) j = dg n j
  | 0, _ => rfl
  | j + 1, h => by
    have hp : (2 : Int) ^ (8 * j) ≠ 0 := by have := pw_pos (8 * j); omega
    have e : (2 : Int) ^ (8 * K) * q = 2 ^ (8 * j) * (256 * (2 ^ (8 * (K - j - 1)) * q)) := by
      rw [show 8 * K = 8 * j + (8 * 1 + 8 * (K - j - 1)) by omega, Int.pow_add, Int.pow_add, pw1, Int.mul_assoc, Int.mul_assoc]
    have ih := dg_add n q K j (by omega)
    unfold dg
    rw [ih, e, Int.add_mul_ediv_left _ _ hp]
    congr 1
    omega
theorem dg_mod (n : Int) (k : Nat) : dg n k = dg (n % 2 ^ (8 * k)) k := by
  have := dg_add (n % 2 ^ (8 * k)) (n / 2 ^ (8 * k)) k k (Nat.le_refl _)
  rw [Int.emod_add_mul_ediv] at this
  exact this
theorem okRk_i32 (n : Int) : okRk (i32 n) = true := by
  unfold okRk i32
  split <;> simp <;> omega
theorem i32_mod {x : Int} (h : okRk x = true) : i32 (x % 2 ^ (8 * 4)) = x := by
  have h := of_decide_eq_true h
  rw [pw4]
  unfold i32
  split <;> omega
theorem dg_i32 {x : Int} (h0 : 0 ≤ x) (h1 : x < 4294967296) : dg (i32 x) 4 = dg x 4 := by
  rw [dg_mod (i32 x) 4, pw4]
  congr 1
  unfold i32
  split <;> omega

theorem encMt_le (m : Nat → Int) : (encMt m).length ≥ 2 := by unfold encMt; rw [List.length_append, dg_len]; omega
theorem rdRl_enc {r : Rl} (hf : r.Fit) (ho : okRl r = true) (hl : (encRl r).length ≤ 8192) (t : List Int) : rdRl true (encRl r ++ t) = some (r, t) := by
  obtain ⟨_, f2, f3, f4, f5⟩ := hf
  simp only [okRl, Bool.and_eq_true] at ho
  obtain ⟨o1, o2, o3⟩ := ho
  have hl' : (encCs r.cp).length ≤ 8192 := by
    unfold encRl at hl
    simp only [List.length_append] at hl
    omega
  unfold rdRl encRl
  rw [List.append_assoc, dg_mod, tk_dg (Int.emod_nonneg _ (by decide)) (Int.emod_lt_of_pos _ (by decide)), Option.bind_some]
  simp only
  rw [List.append_assoc, tk_dg f5.1 (by rw [pw8]; exact f5.2), Option.bind_some]
  simp only
  rw [List.append_assoc, rdMt_enc f2 f3 o2, Option.bind_some]
  simp only
  rw [rdCs_enc f4 o3 hl', Option.map_some]
  simp only
  rw [i32_mod o1]
theorem rdRl_inv (r : List Int) (x : Rl) (r' : List Int) (hB : IsB r) (h : rdRl true r = some (x, r')) : r = encRl x ++ r' ∧ IsB r' ∧ (okRl x = true ∧ x.Fit) := by
  unfold rdRl at h
  simp only [Option.bind_eq_some_iff, Option.map_eq_some_iff] at h
  obtain ⟨⟨a, r1⟩, h1, ⟨b, r2⟩, h2, ⟨d, r3⟩, h3, ⟨e, r4⟩, h4, h5⟩ := h
  simp only [Prod.mk.injEq] at h5
  obtain ⟨rfl, rfl⟩ := h5
  obtain ⟨e1, a0, a1, b1⟩ := tk_inv hB h1
  obtain ⟨e2, c0, c1, b2⟩ := tk_inv b1 h2
  obtain ⟨e3, b3, o3, f3, z3⟩ := rdMt_inv b2 h3
  obtain ⟨e4, b4, o4, f4⟩ := rdCs_inv b3 h4
  rw [pw4] at a1
  rw [pw8] at c1
  refine ⟨?_, b4, ?_, ?_⟩
  · unfold encRl
    simp only
    rw [dg_i32 a0 a1, e1, e2, e3, e4]
    simp only [List.append_assoc]
  · simp only [okRl, okRk_i32, o3, o4, Bool.and_self]
  · have := of_decide_eq_true (okRk_i32 a)
    exact ⟨⟨by simp only; omega, by simp only; omega⟩, f3, z3, f4, c0, c1⟩
theorem rdRl_kp (r : List Int) : rdRl true r = (rdRl false r).bind fun x => kp true (okRl x.1) x := by
  unfold rdRl
  cases tk 4 r with
  | none => rfl
  | some a =>
    simp only [Option.bind_some]
    cases tk 8 a.2 with
    | none => rfl
    | some b =>
      simp only [Option.bind_some]
      rw [rdMt_kp]
      cases rdMt false b.2 with
      | none => rfl
      | some d =>
        simp only [Option.bind_some]
        cases h1 : mOk d.1 with
        | false => cases rdL (rdL (rdAc false)) d.2 <;> simp [kp, okRl, h1]
        | true =>
          rw [kp_true, Option.bind_some, rdCs_kp]
          cases rdL (rdL (rdAc false)) d.2 with
          | none => rfl
          | some e =>
            simp only [Option.bind_some, Option.map_some, okRl, okRk_i32, h1, Bool.true_and]
            cases e.1.all okCp <;> rfl

theorem rdHd_enc {h : Hd} (hf : h.Fit) (ho : okHd h = true) (hl : (encHd h).length ≤ 8192) (t : List Int) : rdHd true (encHd h ++ t) = some (h, t) := by
  unfold rdHd encHd
  unfold encHd at hl
  rw [List.length_append] at hl
  rw [List.append_assoc, rdRl_enc hf.1 ho (by omega), Option.bind_some]
  simp only
  rw [List.append_assoc, tk_dg hf.2.1.1 (by rw [pw8]; exact hf.2.1.2), Option.bind_some]
  simp only
  rw [tk_dg hf.2.2.1 (by rw [pw8]; exact hf.2.2.2), Option.map_some]
theorem rdHd_inv (r : List Int) (x : Hd) (r' : List Int) (hB : IsB r) (h : rdHd true r = some (x, r')) : r = encHd x ++ r' ∧ IsB r' ∧ (okHd x = true ∧ x.Fit) := by
  unfold rdHd at h
  simp only [Option.bind_eq_some_iff, Option.map_eq_some_iff] at h
  obtain ⟨⟨a, r1⟩, h1, ⟨b, r2⟩, h2, ⟨d, r3⟩, h3, h5⟩ := h
  simp only [Prod.mk.injEq] at h5
  obtain ⟨rfl, rfl⟩ := h5
  obtain ⟨e1, b1, o1, f1⟩ := rdRl_inv _ _ _ hB h1
  obtain ⟨e2, c0, c1, b2⟩ := tk_inv b1 h2
  obtain ⟨e3, d0, d1, b3⟩ := tk_inv b2 h3
  rw [pw8] at c1 d1
  refine ⟨?_, b3, o1, f1, ⟨c0, c1⟩, d0, d1⟩
  unfold encHd
  rw [e1, e2, e3]
  simp only [List.append_assoc]
theorem rdHd_kp (r : List Int) : rdHd true r = (rdHd false r).bind fun x => kp true (okHd x.1) x := by
  unfold rdHd
  rw [rdRl_kp]
  cases rdRl false r with
  | none => rfl
  | some a =>
    simp only [Option.bind_some]
    cases ho : okRl a.1 with
    | false =>
      simp only [kp, Bool.and_self, Bool.not_false, if_true, Option.bind_none]
      cases tk 8 a.2 with
      | none => rfl
      | some b =>
        simp only [Option.bind_some]
        cases tk 8 b.2 <;> simp [okHd, ho]
    | true =>
      rw [kp_true, Option.bind_some]
      cases tk 8 a.2 with
      | none => rfl
      | some b =>
        simp only [Option.bind_some]
        cases tk 8 b.2 <;> simp [okHd, ho, kp]
theorem encRl_len (r : Rl) : 16 ≤ (encRl r).length := by
  have := encMt_le r.mt
  unfold encRl encCs
  simp only [List.length_append, dg_len]
  omega
theorem encHd_len (h : Hd) : 32 ≤ (encHd h).length := by
  have := encRl_len h.r
  unfold encHd
  simp only [List.length_append, dg_len]
  omega
theorem rdHs_enc {l : List Hd} (hf : ∀ h ∈ l, h.Fit) (ho : l.all okHd = true) (hl : (encHs l).length ≤ 8192) (r : List Int) : rdL (rdHd true) (encHs l ++ r) = some (l, r) := by
  unfold encHs at hl
  rw [List.length_append, dg_len] at hl
  have h1 := len_flat (enc := encHd) (k := 1) l fun x _ => by have := encHd_len x; omega
  refine rdL_enc l r (by omega) fun c hc r => rdHd_enc (hf c hc) (List.all_eq_true.1 ho c hc) ?_ r
  have := len_mem (enc := encHd) hc
  omega
theorem rdSh_enc {l : List Int} (hf : ∀ x ∈ l, In16 x) (hl : (encSh l).length ≤ 8192) (r : List Int) : rdL (tk 2) (encSh l ++ r) = some (l, r) := by
  unfold encSh at hl
  rw [List.length_append, dg_len] at hl
  have h1 := len_flat (enc := fun x => dg x 2) (k := 1) l fun x _ => by rw [dg_len]; omega
  refine rdL_enc (enc := fun x => dg x 2) l r (by omega) fun c hc r => tk_dg (hf c hc).1 (by rw [pw2]; exact (hf c hc).2) r
theorem rdSh_inv {r : List Int} {l : List Int} {r' : List Int} (hB : IsB r) (h : rdL (tk 2) r = some (l, r')) : r = encSh l ++ r' ∧ IsB r' ∧ ∀ x ∈ l, In16 x := by
  have := rdL_inv (enc := fun x => dg x 2) (ok := In16) (fun r x r' hB hx => by
    obtain ⟨e, h0, h1, b⟩ := tk_inv hB hx
    rw [pw2] at h1
    exact ⟨e, b, h0, h1⟩) hB h
  exact ⟨this.1, this.2.1, this.2.2.2⟩
theorem rdHs_inv {r : List Int} {l : List Hd} {r' : List Int} (hB : IsB r) (h : rdL (rdHd true) r = some (l, r')) : r = encHs l ++ r' ∧ IsB r' ∧ l.all okHd = true ∧ ∀ x ∈ l, x.Fit := by
  have := rdL_inv (enc := encHd) (ok := fun x => okHd x = true ∧ x.Fit) rdHd_inv hB h
  exact ⟨this.1, this.2.1, List.all_eq_true.2 fun c hc => (this.2.2.2 c hc).1, fun c hc => (this.2.2.2 c hc).2⟩
theorem rdBy_enc {l : List Int} (hl : l.length < 65536) (r : List Int) : rdBy ((dg l.length 2 ++ l) ++ r) = some (l, r) := by
  unfold rdBy
  rw [List.append_assoc, tk_dg (by omega) (by rw [pw2]; omega), Option.bind_some]
  simp
theorem rdBy_inv {r l r' : List Int} (hB : IsB r) (h : rdBy r = some (l, r')) : r = (dg l.length 2 ++ l) ++ r' ∧ IsB r' ∧ IsB l := by
  unfold rdBy at h
  simp only [Option.bind_eq_some_iff] at h
  obtain ⟨⟨n, r1⟩, h1, h2⟩ := h
  obtain ⟨e1, n0, n1, b1⟩ := tk_inv hB h1
  split at h2
  · rename_i hle
    simp only [Option.some.injEq, Prod.mk.injEq] at h2 hle
    obtain ⟨rfl, rfl⟩ := h2
    have hl : ((r1.take n.toNat).length : Int) = n := by rw [List.length_take, Nat.min_eq_left hle]; omega
    refine ⟨?_, b1.drop _, b1.take _⟩
    rw [hl, List.append_assoc, List.take_append_drop]; exact e1
  · cases h2

/-- A part that was written is read. -/
def stF (m m0 : Ms) : Fk → Ms
  | .sw => { m0 with sw := m.sw }
  | .ps => { m0 with ps := m.ps }
  | .ed => { m0 with ed := m.ed }
  | .dw => { m0 with dw := m.dw }
  | .rl => { m0 with r := m.r }
  | .po => { m0 with po := m.po }
  | .mo => { m0 with po := m.po }
  | .fr => { m0 with fr := m.fr }
  | .hs => { m0 with hs := m.hs }
  | .up => { m0 with up := m.up }
  | .co => { m0 with co := m.co }
theorem rdF_enc {m : Ms} (hf : m.Fit) (k : Fk) (ho : okF m k = true) (hl : (encF m k).length ≤ 8192) (m0 : Ms) (r : List Int) : rdF true m0 (encF m k ++ r) k = some (stF m m0 k, r) := by
  cases k
  case sw => simp only [rdF, encF]; rw [tk_dg hf.sw.1 (by rw [pw2]; exact hf.sw.2)]; rfl
  case ps => simp only [rdF, encF]; rw [rdSh_enc hf.ps hl]; rfl
  case ed => simp only [rdF, encF]; rw [rdSh_enc hf.ed hl]; rfl
  case dw =>
    have h := of_decide_eq_true (show okDo m.dw = true from ho)
    simp only [rdF, encF]
    rw [tk_dg (by omega) (by rw [pw1]; omega), Option.bind_some]
    simp only
    rw [i8_dg (by omega) (by omega), show okDo m.dw = true from ho, kp_true]; rfl
  case rl => simp only [rdF, encF]; rw [rdRl_enc hf.r ho hl]; rfl
  case po => simp only [rdF, encF]; rw [tk_dg hf.po.1 (by rw [pw2]; exact hf.po.2)]; rfl
  case mo =>
    simp only [rdF, encF]
    rw [tk_dg hf.po.1 (by rw [pw2]; exact hf.po.2), Option.bind_some, show okMo m.po = true from ho, kp_true]; rfl
  case fr =>
    simp only [encF] at hl
    rw [List.length_append, dg_len] at hl
    simp only [rdF, encF]; rw [rdBy_enc (by omega)]; rfl
  case hs => simp only [rdF, encF]; rw [rdHs_enc hf.hs ho hl]; rfl
  case up =>
    simp only [rdF, encF]
    cases h : m.up
    · rw [show dg (flag false) 1 = dg 0 1 from rfl, tk_dg (by omega) (by decide), Option.bind_some]; simp [stF, h]
    · rw [show dg (flag true) 1 = dg 1 1 from rfl, tk_dg (by omega) (by decide), Option.bind_some]; simp [stF, h]
  case co => simp only [rdF, encF]; rw [tk_dg hf.co.1 (by rw [pw2]; exact hf.co.2)]; rfl
theorem rdPs_enc {m : Ms} (hf : m.Fit) : ∀ (l : List Fk) (m0 : Ms) (r : List Int), l.all (okF m) = true → (l.flatMap (encF m)).length ≤ 8192 → rdPs true l m0 (l.flatMap (encF m) ++ r) = some (l.foldl (fun a k => stF m a k) m0, r)
  | [], m0, r, _, _ => rfl
  | k :: l, m0, r, ho, hl => by
    simp only [List.all_cons, Bool.and_eq_true] at ho
    simp only [List.flatMap_cons, List.length_append] at hl
    simp only [rdPs, List.flatMap_cons, List.append_assoc, List.foldl_cons]
    rw [rdF_enc hf k ho.1 (by omega), Option.bind_some]
    exact rdPs_enc hf l _ r ho.2 (by omega)
theorem blRl_eq {r : Rl} (h : blRl r = true) (hz : ∀ k, 22 ≤ k → r.mt k = 0) : r = zRl := by
  simp only [blRl, Bool.and_eq_true, decide_eq_true_eq] at h
  obtain ⟨h1, h2, h3, h4⟩ := h
  have h5 : r.mt = zf := by
    funext k
    by_cases hk : k < 22
    · have := allU_iff.1 h2 k hk
      show r.mt k = 0
      simpa using this
    · exact hz k (by omega)
  have h6 : r.cp = [] := List.length_eq_zero_iff.1 h3
  obtain ⟨a, b, c, d⟩ := r
  simp only at h1 h4 h5 h6
  subst h1 h4 h5 h6
  rfl
theorem blank_eq {m : Ms} (h : blank m = true) (hz : ∀ k, 22 ≤ k → m.r.mt k = 0) : m = { zMs with ty := m.ty, id := m.id } := by
  simp only [blank, Bool.and_eq_true, decide_eq_true_eq, Bool.not_eq_true'] at h
  obtain ⟨h1, h2, h3, h4, h5, h6, h7, h8, h9, h10⟩ := h
  have g2 := blRl_eq h2 hz
  have g7 := List.length_eq_zero_iff.1 h7
  have g8 := List.length_eq_zero_iff.1 h8
  have g9 := List.length_eq_zero_iff.1 h9
  have g10 := List.length_eq_zero_iff.1 h10
  clear h2 h7 h8 h9 h10 hz
  obtain ⟨ty, id, dw, r, po, up, sw, ps, ed, fr, hs, co⟩ := m
  simp only at h1 g2 h3 h4 h5 h6 g7 g8 g9 g10
  subst h1 g2 h3 h4 h5 h6 g7 g8 g9 g10
  rfl
theorem pts_cases (ty : Int) : pts ty = [.sw, .ps, .ed] ∨ pts ty = [.dw, .rl] ∨ pts ty = [.po, .fr] ∨ pts ty = [.mo, .hs] ∨ pts ty = [.po, .up] ∨ pts ty = [.co] ∨ pts ty = [] := by
  unfold pts
  split
  · simp
  split
  · simp
  split
  · simp
  split
  · simp
  split
  · simp
  split <;> simp
theorem fill_eq {m : Ms} (hf : m.Fit) (hb : blank (rest m) = true) : (pts m.ty).foldl (fun a k => stF m a k) { zMs with ty := m.ty, id := m.id } = m := by
  unfold rest at hb
  have hz := hf.r.2.2.1
  obtain ⟨ty, id, dw, r, po, up, sw, ps, ed, fr, hs, co⟩ := m
  simp only at hb hz ⊢
  rcases pts_cases ty with h | h | h | h | h | h | h <;> rw [h] at hb ⊢ <;> simp only [List.foldl_cons, List.foldl_nil, clF, stF] at hb ⊢ <;> have hq := blank_eq hb (fun k hk => by first | exact hz k hk | rfl) <;> simp only [Ms.mk.injEq, zMs] at hq <;> simp [zMs, hq]

theorem body_le {m : Ms} : (encMs m).length = 8 + (body m).length := by
  unfold encMs
  simp only [List.length_append, dg_len]
  omega
theorem head_fld {x y n i : Int} (b : List Int) (hx : 0 ≤ x ∧ x < 256) (hy : 0 ≤ y ∧ y < 256) (hn : 0 ≤ n ∧ n < 65536) (hi : 0 ≤ i ∧ i < 4294967296) :
    fld (dg x 1 ++ (dg y 1 ++ (dg n 2 ++ (dg i 4 ++ b)))) 0 1 = x ∧ fld (dg x 1 ++ (dg y 1 ++ (dg n 2 ++ (dg i 4 ++ b)))) 1 1 = y ∧ fld (dg x 1 ++ (dg y 1 ++ (dg n 2 ++ (dg i 4 ++ b)))) 2 2 = n ∧ fld (dg x 1 ++ (dg y 1 ++ (dg n 2 ++ (dg i 4 ++ b)))) 4 4 = i ∧ (dg x 1 ++ (dg y 1 ++ (dg n 2 ++ (dg i 4 ++ b)))).drop 8 = b := by
  have t : ∀ (z : Int) (k : Nat) (c : List Int), (dg z k ++ c).take k = dg z k := fun z k c => by
    rw [List.take_append_of_le_length (by rw [dg_len]; exact Nat.le_refl _), List.take_of_length_le (by rw [dg_len]; exact Nat.le_refl _)]
  have d : ∀ (z : Int) (k j : Nat) (c : List Int), (dg z k ++ c).drop (k + j) = c.drop j := fun z k j c => by
    rw [List.drop_append, List.drop_of_length_le (by rw [dg_len]; omega), dg_len]
    simp
  unfold fld
  refine ⟨?_, ?_, ?_, ?_, ?_⟩
  · rw [List.drop_zero, t, num_dg hx.1 (by rw [pw1]; exact hx.2)]
  · rw [show (1 : Nat) = 1 + 0 from rfl, d, List.drop_zero, show (1 + 0 : Nat) = 1 from rfl, t, num_dg hy.1 (by rw [pw1]; exact hy.2)]
  · rw [show (2 : Nat) = 1 + (1 + 0) from rfl, d, d, List.drop_zero, show (1 + (1 + 0) : Nat) = 2 from rfl, t, num_dg hn.1 (by rw [pw2]; exact hn.2)]
  · rw [show (4 : Nat) = 1 + (1 + (2 + 0)) from rfl, d, d, d, List.drop_zero, show (1 + (1 + (2 + 0)) : Nat) = 4 from rfl, t, num_dg hi.1 (by rw [pw4]; exact hi.2)]
  · rw [show (8 : Nat) = 1 + (1 + (2 + (4 + 0))) from rfl, d, d, d, d, List.drop_zero]
theorem isTy_bd {x : Int} (h : isTy x = true) : 0 ≤ x ∧ x < 14 := of_decide_eq_true h
theorem enc_fld {m : Ms} (hf : m.Fit) (ht : isTy m.ty = true) (hl : (encMs m).length ≤ 8192) : fld (encMs m) 0 1 = 1 ∧ fld (encMs m) 1 1 = m.ty ∧ fld (encMs m) 2 2 = (encMs m).length ∧ fld (encMs m) 4 4 = m.id ∧ (encMs m).drop 8 = body m := by
  have h0 := isTy_bd ht
  rw [body_le] at hl
  have := head_fld (x := 1) (y := m.ty) (n := ((8 + (body m).length : Nat) : Int)) (i := m.id) (body m) (by omega) (by omega) (by omega) hf.id
  rw [body_le]
  exact this
/-- WHAT WAS WRITTEN IS READ. -/
theorem dec_enc {m : Ms} (hf : m.Fit) (ho : okMs m = true) (hl : (encMs m).length ≤ 8192) : dec (encMs m) = some m := by
  simp only [okMs, Bool.and_eq_true] at ho
  obtain ⟨o1, o2, o3⟩ := ho
  have hty := isTy_bd o1
  obtain ⟨e1, e2, e3, e4, e5⟩ := enc_fld hf o1 hl
  have hbl := body_le (m := m)
  have et : tyOf (encMs m) = m.ty := by unfold tyOf; rw [e2, i8_dg (by omega) (by omega)]
  unfold dec
  rw [if_pos ⟨hl, e1, by rw [et]; exact o1, e3⟩]
  unfold prs m0
  rw [et, e4, e5]
  have := rdPs_enc hf (pts m.ty) { zMs with ty := m.ty, id := m.id } [] o3 (by show (body m).length ≤ 8192; omega)
  rw [List.append_nil] at this
  rw [show body m = (pts m.ty).flatMap (encF m) from rfl, this, Option.bind_some]
  simp only [if_true]
  rw [fill_eq hf o2]

/-- A part that was read is written. -/
theorem rdF_inv {m0 m : Ms} {k : Fk} {r r' : List Int} (hB : IsB r) (h : rdF true m0 r k = some (m, r')) : r = encF m k ++ r' ∧ IsB r' ∧ okF m k = true ∧ m = stF m m0 k ∧ (m0.Fit → m.Fit) := by
  cases k
  all_goals simp only [rdF, Option.map_eq_some_iff, Option.bind_eq_some_iff] at h
  all_goals obtain ⟨⟨x, r1⟩, h1, h2⟩ := h
  case sw =>
    simp only [Prod.mk.injEq] at h2
    obtain ⟨rfl, rfl⟩ := h2
    obtain ⟨e, h0, h1, b⟩ := tk_inv hB h1
    rw [pw2] at h1
    exact ⟨e, b, rfl, rfl, fun f => ⟨f.ty, f.id, f.dw, f.r, f.po, ⟨h0, h1⟩, f.ps, f.ed, f.fr, f.hs, f.co⟩⟩
  case ps =>
    simp only [Prod.mk.injEq] at h2
    obtain ⟨rfl, rfl⟩ := h2
    obtain ⟨e, b, h0⟩ := rdSh_inv hB h1
    exact ⟨e, b, rfl, rfl, fun f => ⟨f.ty, f.id, f.dw, f.r, f.po, f.sw, h0, f.ed, f.fr, f.hs, f.co⟩⟩
  case ed =>
    simp only [Prod.mk.injEq] at h2
    obtain ⟨rfl, rfl⟩ := h2
    obtain ⟨e, b, h0⟩ := rdSh_inv hB h1
    exact ⟨e, b, rfl, rfl, fun f => ⟨f.ty, f.id, f.dw, f.r, f.po, f.sw, f.ps, h0, f.fr, f.hs, f.co⟩⟩
  case dw =>
    obtain ⟨ho, he⟩ := kp_some h2
    simp only [Prod.mk.injEq] at he
    obtain ⟨rfl, rfl⟩ := he
    obtain ⟨e, h0, h1, b⟩ := tk_inv hB h1
    rw [pw1] at h1
    have hx := i8_bd h0 h1
    have hd := of_decide_eq_true (show okDo (i8 x) = true from ho)
    refine ⟨?_, b, ho, rfl, fun f => ⟨f.ty, f.id, ⟨hx.1, hx.2.1⟩, f.r, f.po, f.sw, f.ps, f.ed, f.fr, f.hs, f.co⟩⟩
    simp only [encF]
    rw [hx.2.2 hd.1]; exact e
  case rl =>
    simp only [Prod.mk.injEq] at h2
    obtain ⟨rfl, rfl⟩ := h2
    obtain ⟨e, b, h0, h1⟩ := rdRl_inv _ _ _ hB h1
    exact ⟨e, b, h0, rfl, fun f => ⟨f.ty, f.id, f.dw, h1, f.po, f.sw, f.ps, f.ed, f.fr, f.hs, f.co⟩⟩
  case po =>
    simp only [Prod.mk.injEq] at h2
    obtain ⟨rfl, rfl⟩ := h2
    obtain ⟨e, h0, h1, b⟩ := tk_inv hB h1
    rw [pw2] at h1
    exact ⟨e, b, rfl, rfl, fun f => ⟨f.ty, f.id, f.dw, f.r, ⟨h0, h1⟩, f.sw, f.ps, f.ed, f.fr, f.hs, f.co⟩⟩
  case mo =>
    obtain ⟨ho, he⟩ := kp_some h2
    simp only [Prod.mk.injEq] at he
    obtain ⟨rfl, rfl⟩ := he
    obtain ⟨e, h0, h1, b⟩ := tk_inv hB h1
    rw [pw2] at h1
    exact ⟨e, b, ho, rfl, fun f => ⟨f.ty, f.id, f.dw, f.r, ⟨h0, h1⟩, f.sw, f.ps, f.ed, f.fr, f.hs, f.co⟩⟩
  case fr =>
    simp only [Prod.mk.injEq] at h2
    obtain ⟨rfl, rfl⟩ := h2
    obtain ⟨e, b, h0⟩ := rdBy_inv hB h1
    exact ⟨e, b, rfl, rfl, fun f => ⟨f.ty, f.id, f.dw, f.r, f.po, f.sw, f.ps, f.ed, h0, f.hs, f.co⟩⟩
  case hs =>
    simp only [Prod.mk.injEq] at h2
    obtain ⟨rfl, rfl⟩ := h2
    obtain ⟨e, b, h0, h1⟩ := rdHs_inv hB h1
    exact ⟨e, b, h0, rfl, fun f => ⟨f.ty, f.id, f.dw, f.r, f.po, f.sw, f.ps, f.ed, f.fr, h1, f.co⟩⟩
  case up =>
    obtain ⟨e, h0, h1, b⟩ := tk_inv hB h1
    split at h2
    · rename_i hle
      simp only at hle
      simp only [Option.some.injEq, Prod.mk.injEq] at h2
      obtain ⟨rfl, rfl⟩ := h2
      refine ⟨?_, b, rfl, rfl, fun f => ⟨f.ty, f.id, f.dw, f.r, f.po, f.sw, f.ps, f.ed, f.fr, f.hs, f.co⟩⟩
      simp only [encF]
      rcases (show x = 0 ∨ x = 1 by omega) with rfl | rfl
      · exact e
      · exact e
    · cases h2
  case co =>
    simp only [Prod.mk.injEq] at h2
    obtain ⟨rfl, rfl⟩ := h2
    obtain ⟨e, h0, h1, b⟩ := tk_inv hB h1
    rw [pw2] at h1
    exact ⟨e, b, rfl, rfl, fun f => ⟨f.ty, f.id, f.dw, f.r, f.po, f.sw, f.ps, f.ed, f.fr, f.hs, ⟨h0, h1⟩⟩⟩
end Go.Proofs.YtllbbbfkdgjffaaGreatDoor
