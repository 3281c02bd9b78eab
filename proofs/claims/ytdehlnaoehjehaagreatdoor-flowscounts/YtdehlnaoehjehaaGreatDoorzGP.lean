/-
  Proved here: counts on lists of rules: what Do and Find make of them (ct_stp, ct_find), and what is put by Cookies (putF). No condition.
-/
import Derived.Test.YtdehlnaoehjehaaGreatDoorzKK
namespace Go.Proofs.YtdehlnaoehjehaaGreatDoor
set_option maxRecDepth 100000
open Go.RowKit

/-- What a rule of Cookie c has counted. -/
def vlE (c : Int) (x : Fe) : Int := if x.r.ck = c then x.pk else 0
def smE : List Int → Int
  | [] => 0
  | x :: l => x + smE l
theorem smE_append : ∀ a b : List Int, smE (a ++ b) = smE a + smE b
  | [], b => by simp [smE]
  | x :: a, b => by rw [List.cons_append, smE, smE, smE_append a b]; omega
theorem smE_perm {a b : List Int} (h : a.Perm b) : smE a = smE b := by
  induction h with
  | nil => rfl
  | cons x _ ih => rw [smE, smE, ih]
  | swap x y l => simp only [smE]; omega
  | trans _ _ h1 h2 => exact h1.trans h2
theorem smE_pos : ∀ {l : List Int}, (∀ x ∈ l, 0 ≤ x) → 0 ≤ smE l
  | [], _ => by simp [smE]
  | x :: l, h => by have := h x (by simp); have := smE_pos (l := l) fun y hy => h y (by simp [hy]); rw [smE]; omega
theorem smE_le : ∀ {l : List Int} {x : Int}, (∀ x ∈ l, 0 ≤ x) → x ∈ l → x ≤ smE l
  | y :: l, x, h, hx => by
    have h0 := h y (by simp)
    have h1 := smE_pos (l := l) fun z hz => h z (by simp [hz])
    rw [smE]
    rcases List.mem_cons.1 hx with rfl | hx
    · omega
    · have := smE_le (l := l) (fun z hz => h z (by simp [hz])) hx; omega
def ctE (c : Int) (es : List Fe) : Int := smE (es.map (vlE c))
def ctG (c : Int) (G : Int → Option (Int × Int)) : Int := ((G c).getD (0, 0)).1
theorem vlE_pos {c : Int} {x : Fe} (h : 0 ≤ x.pk) : 0 ≤ vlE c x := by unfold vlE; split <;> omega
theorem ctE_le {c : Int} {es : List Fe} (h : ∀ x ∈ es, 0 ≤ x.pk) {x : Fe} (hx : x ∈ es) : vlE c x ≤ ctE c es := smE_le (fun y hy => by obtain ⟨z, hz, rfl⟩ := List.mem_map.1 hy; exact vlE_pos (h z hz)) (List.mem_map_of_mem hx)
theorem ctE_pos {c : Int} {es : List Fe} (h : ∀ x ∈ es, 0 ≤ x.pk) : 0 ≤ ctE c es := smE_pos fun y hy => by obtain ⟨z, hz, rfl⟩ := List.mem_map.1 hy; exact vlE_pos (h z hz)
theorem ctE_append (c : Int) (a b : List Fe) : ctE c (a ++ b) = ctE c a + ctE c b := by unfold ctE; rw [List.map_append, smE_append]
theorem ctE_perm {c : Int} {a b : List Fe} (h : a.Perm b) : ctE c a = ctE c b := smE_perm (h.map _)
/-- A rule is another one. -/
theorem ctE_map {c : Int} {x : Fe} {f : Fe → Fe} : ∀ {es : List Fe}, (es.Pairwise fun a b => a.k ≠ b.k) → x ∈ es → (∀ y ∈ es, y.k ≠ x.k → f y = y) → ctE c (es.map f) + vlE c x = ctE c es + vlE c (f x)
  | a :: l, hp, hx, hf => by
    rw [List.pairwise_cons] at hp
    have e1 : ctE c ((a :: l).map f) = vlE c (f a) + ctE c (l.map f) := rfl
    have e2 : ctE c (a :: l) = vlE c a + ctE c l := rfl
    rcases List.mem_cons.1 hx with rfl | hx'
    · have : l.map f = l := by
        conv => rhs; rw [← List.map_id l]
        exact List.map_congr_left fun y hy => hf y (by simp [hy]) fun e => hp.1 y hy e.symm
      rw [e1, e2, this]; omega
    · have h1 := ctE_map (c := c) hp.2 hx' fun y hy => hf y (by simp [hy])
      rw [e1, e2, hf a (by simp) (hp.1 x hx')]; omega
theorem ctE_rm {c : Int} {x : Fe} : ∀ {es : List Fe}, (es.Pairwise fun a b => a.k ≠ b.k) → x ∈ es → ctE c (rmE es x.k) + vlE c x = ctE c es
  | a :: l, hp, hx => by
    rw [List.pairwise_cons] at hp
    have e2 : ctE c (a :: l) = vlE c a + ctE c l := rfl
    rcases List.mem_cons.1 hx with rfl | hx'
    · have : rmE (x :: l) x.k = l := by
        unfold rmE
        rw [List.filter_cons, if_neg (by simp)]
        exact List.filter_eq_self.2 fun y hy => by have := hp.1 y hy; simp; exact fun e => this e.symm
      rw [e2, this]; omega
    · have h1 := ctE_rm (c := c) hp.2 hx'
      have : rmE (a :: l) x.k = a :: rmE l x.k := by
        unfold rmE
        rw [List.filter_cons, if_pos (by have := hp.1 x hx'; simp; exact this)]
      rw [this, show ctE c (a :: rmE l x.k) = vlE c a + ctE c (rmE l x.k) from rfl, e2]; omega
theorem ctG_ad {c : Int} {G : Int → Option (Int × Int)} {ck pk bt : Int} (h : ctG ck G + pk ≤ 18446744073709551615) : ctG c (adG G ck pk bt) = ctG c G + if ck = c then pk else 0 := by
  unfold ctG at *
  unfold adG
  by_cases e : c = ck
  · subst e
    rw [if_pos rfl, if_pos rfl]
    show sumE _ _ = _
    unfold sumE
    rw [if_neg (by omega)]
  · rw [if_neg e, if_neg fun h => e h.symm]; omega
/-- Nothing is lost: rules that go. -/
theorem ct_rm : ∀ {l es : List Fe} {G : Int → Option (Int × Int)}, (es.Pairwise fun a b => a.k ≠ b.k) → (l.Pairwise fun a b => a.k ≠ b.k) → (∀ x ∈ l, x ∈ es) → (∀ x ∈ es, 0 ≤ x.pk) → (∀ c, ctE c es + ctG c G ≤ 18446744073709551615) → ∀ c, ctE c (rmL es l) + ctG c (loL G l) = ctE c es + ctG c G
  | [], es, G, _, _, _, _, _ => fun c => rfl
  | x :: l, es, G, hp, hl, hs, h0, hb => fun c => by
    rw [List.pairwise_cons] at hl
    have hx := hs x (by simp)
    have step : ∀ c, ctE c (rmE es x.k) + ctG c (adG G x.r.ck x.pk x.bt) = ctE c es + ctG c G := fun c => by
      have h1 := ctE_rm (c := c) hp hx
      have h2 := ctE_le (c := x.r.ck) h0 hx
      have h3 : vlE x.r.ck x = x.pk := if_pos rfl
      have h4 := hb x.r.ck
      rw [ctG_ad (by omega)]
      unfold vlE at h1
      omega
    have ih := ct_rm (l := l) (es := rmE es x.k) (G := adG G x.r.ck x.pk x.bt) (hp.filter _) hl.2 (fun y hy => rmE_mem.2 ⟨hs y (by simp [hy]), fun e => hl.1 y hy e.symm⟩) (fun y hy => h0 y (rmE_mem.1 hy).1) (fun c => by rw [step c]; exact hb c) c
    exact ih.trans (step c)
theorem upd1_k {es : List Fe} {z : Fe} (hp : es.Pairwise fun a b => a.k ≠ b.k) : (upd1 es z).Pairwise fun a b => a.k ≠ b.k := by
  unfold upd1
  rw [List.pairwise_map]
  refine hp.imp fun {a b} h => ?_
  have ka : (if a.k = z.k then z else a).k = a.k := by split <;> simp_all
  have kb : (if b.k = z.k then z else b).k = b.k := by split <;> simp_all
  rw [ka, kb]; exact h
/-- Rules that are changed. -/
theorem ct_md {r : Rl} {u : Value} : ∀ {l es : List Fe} {G : Int → Option (Int × Int)}, (es.Pairwise fun a b => a.k ≠ b.k) → (l.Pairwise fun a b => a.k ≠ b.k) → (∀ x ∈ l, x ∈ es) → (∀ x ∈ es, 0 ≤ x.pk) → (∀ c, ctE c es + ctG c G ≤ 18446744073709551615) → ∀ c, ctE c (mdL es l r u) + ctG c (mgL r G l) = ctE c es + ctG c G
  | [], es, G, _, _, _, _, _ => fun c => rfl
  | x :: l, es, G, hp, hl, hs, h0, hb => fun c => by
    rw [List.pairwise_cons] at hl
    have hx := hs x (by simp)
    have hm : (mdE r u x).k = x.k := rfl
    have step : ∀ c, ctE c (upd1 es (mdE r u x)) + ctG c (mdG r G x) = ctE c es + ctG c G := fun c => by
      have h1 := ctE_map (c := c) (f := fun y => if y.k = (mdE r u x).k then mdE r u x else y) hp hx fun y _ hk => if_neg hk
      rw [show (if x.k = (mdE r u x).k then mdE r u x else x) = mdE r u x from if_pos rfl] at h1
      have h2 := ctE_le (c := x.r.ck) h0 hx
      have h3 : vlE x.r.ck x = x.pk := if_pos rfl
      have h4 := hb x.r.ck
      show ctE c (es.map _) + _ = _
      unfold mdG
      by_cases e : x.r.ck = r.ck
      · rw [if_pos e]
        have : vlE c (mdE r u x) = vlE c x := by unfold vlE mdE; simp only [e]; simp
        omega
      · rw [if_neg e, ctG_ad (by omega)]
        have : vlE c (mdE r u x) = 0 := by unfold vlE mdE; simp only [if_neg e]; simp
        have h5 : vlE c x = if x.r.ck = c then x.pk else 0 := rfl
        omega
    have ih := ct_md (r := r) (u := u) (l := l) (es := upd1 es (mdE r u x)) (G := mdG r G x) (upd1_k hp) hl.2 (fun y hy => List.mem_map.2 ⟨y, hs y (by simp [hy]), if_neg fun e => hl.1 y hy (hm ▸ e.symm)⟩) (fun y hy => by
      obtain ⟨z, hz, rfl⟩ := List.mem_map.1 hy
      have := h0 z hz
      split
      · show 0 ≤ (if x.r.ck = r.ck then x.pk else 0)
        have := h0 x hx
        split <;> omega
      · exact this) (fun c => by rw [step c]; exact hb c) c
    exact ih.trans (step c)
theorem ct_stp {es es' : List Fe} {G G' : Int → Option (Int × Int)} {ad room what n er ad' : Int} {r : Rl} (h : Stp es G ad room what r n er es' G' ad') (hp : es.Pairwise fun a b => a.k < b.k) (h0 : ∀ x ∈ es, 0 ≤ x.pk) (hb : ∀ c, ctE c es + ctG c G ≤ 18446744073709551615) : ∀ c, ctE c es' + ctG c G' = ctE c es + ctG c G := by
  have hp' : es.Pairwise fun a b => a.k ≠ b.k := hp.imp fun {a b} h e => by omega
  have hds : ∀ {ds : List Fe} {P : Fe → Bool}, ds.Perm es → ((ds.filter P).Pairwise fun a b => a.k ≠ b.k) ∧ ∀ x ∈ ds.filter P, x ∈ es := fun {ds P} q => ⟨((q.pairwise_iff (fun {a b} h => Ne.symm h)).2 hp').filter _, fun x hx => q.subset (List.mem_filter.1 hx).1⟩
  have hes := fun P => hds (P := P) (List.Perm.refl es)
  rcases h with ⟨-, -, -, rfl, rfl, -⟩ | ⟨-, -, -, -, rfl, rfl, -⟩ | ⟨-, -, -, -, -, rfl, rfl, -⟩ | ⟨-, -, -, -, -, ⟨p, u, rfl⟩, rfl, -⟩ | ⟨-, -, -, ⟨ds, u, q, -, rfl, rfl⟩, -⟩ | ⟨-, -, -, ⟨ds, q, -, rfl, rfl⟩, -⟩ | ⟨-, -, -, -, rfl, rfl, -⟩
  · exact fun c => rfl
  · exact fun c => rfl
  · exact fun c => rfl
  · intro c
    have := ct_rm hp' (hes _).1 (hes (fun x => eqP x.r r)).2 h0 hb c
    rw [ctE_append, show ctE c [⟨p, ad + 1, r, u, 0, 0⟩] = 0 by simp [ctE, smE, vlE]]
    omega
  · exact ct_md hp' (hds q).1 (hds q).2 h0 hb
  · exact ct_rm hp' (hds q).1 (hds q).2 h0 hb
  · exact ct_rm hp' (hes _).1 (hes _).2 h0 hb
theorem ct_find {es : List Fe} {x : Fe} {bt : Int} (hp : es.Pairwise fun a b => a.k < b.k) (hx : x ∈ es) (hb : x.pk < 18446744073709551615) (c : Int) : ctE c (upE es x.k (sumE x.pk 1) bt) = ctE c es + if x.r.ck = c then 1 else 0 := by
  have h1 := ctE_map (c := c) (f := fun y => if y.k = x.k then { y with pk := sumE x.pk 1, bt := bt } else y) (hp.imp fun {a b} h e => by omega) hx fun y _ hk => if_neg hk
  simp only [if_true] at h1
  have e : sumE x.pk 1 = x.pk + 1 := by unfold sumE; rw [if_neg (by omega)]
  unfold upE
  have h2 : vlE c { x with pk := sumE x.pk 1, bt := bt } = if x.r.ck = c then x.pk + 1 else 0 := by unfold vlE; rw [e]
  have h3 : vlE c x = if x.r.ck = c then x.pk else 0 := rfl
  rw [h2, h3] at h1
  split at h1 <;> simp_all <;> omega
def vlG (c : Int) (x : Ge) : Int := if x.ck = c then x.pk else 0
theorem ctG_gs {c : Int} : ∀ {gs : List Ge}, (gs.Pairwise fun a b => a.ck ≠ b.ck) → ctG c (gfn gs) = smE (gs.map (vlG c))
  | [], _ => rfl
  | a :: l, hp => by
    rw [List.pairwise_cons] at hp
    rw [List.map_cons, smE, ← ctG_gs hp.2]
    unfold ctG gfn vlG
    rw [List.find?_cons]
    by_cases e : a.ck = c
    · subst e
      have := gfn_none (gs := l) (ck := a.ck) fun x hx e => hp.1 x hx e.symm
      unfold gfn at this
      rw [this]; simp
    · rw [beq_eq_false_iff_ne.2 e, if_neg e]; simp
/-- What was found: by Cookies, modulo 2 to 64. -/
def wr64 (x : Int) : Int := x % 18446744073709551616
def putF (fs : List (Int × Int)) (c n : Int) : List (Int × Int) := if fs.any (fun f => f.1 == c) then fs.map (fun f => if f.1 = c then (f.1, wr64 (f.2 + n)) else f) else fs ++ [(c, n)]
def vlF (c : Int) (f : Int × Int) : Int := if f.1 = c then f.2 else 0
structure FsOk (fs : List (Int × Int)) : Prop where
  nd : fs.Pairwise fun a b => a.1 ≠ b.1
  bd : ∀ f ∈ fs, InB f.1 ∧ InB f.2
theorem wr64_in (x : Int) : InB (wr64 x) := by unfold InB wr64; omega
theorem FsOk.put {fs : List (Int × Int)} (h : FsOk fs) {c n : Int} (hc : InB c) (hn : InB n) : FsOk (putF fs c n) := by
  unfold putF
  split
  · refine ⟨List.pairwise_map.2 (h.nd.imp fun {a b} q => ?_), fun f hf => ?_⟩
    · have ka : (if a.1 = c then (a.1, wr64 (a.2 + n)) else a).1 = a.1 := by split <;> rfl
      have kb : (if b.1 = c then (b.1, wr64 (b.2 + n)) else b).1 = b.1 := by split <;> rfl
      rw [ka, kb]; exact q
    · obtain ⟨g, hg, rfl⟩ := List.mem_map.1 hf
      have := h.bd g hg
      split
      · exact ⟨this.1, wr64_in _⟩
      · exact this
  · rename_i hne
    refine ⟨List.pairwise_append.2 ⟨h.nd, by simp, fun a ha b hb => ?_⟩, fun f hf => ?_⟩
    · simp only [List.mem_cons, List.not_mem_nil, or_false] at hb
      subst hb
      intro e
      exact hne (List.any_eq_true.2 ⟨a, ha, by simp [e]⟩)
    · rcases List.mem_append.1 hf with hf | hf
      · exact h.bd f hf
      · simp only [List.mem_cons, List.not_mem_nil, or_false] at hf
        subst hf
        exact ⟨hc, hn⟩
theorem smF_map {c n : Int} {x : Int × Int} : ∀ {fs : List (Int × Int)}, (fs.Pairwise fun a b => a.1 ≠ b.1) → x ∈ fs → x.1 = c → wr64 (smE ((fs.map (fun f => if f.1 = c then (f.1, wr64 (f.2 + n)) else f)).map (vlF c))) = wr64 (smE (fs.map (vlF c)) + n)
  | a :: l, hp, hx, hc => by
    rw [List.pairwise_cons] at hp
    simp only [List.map_cons, smE]
    by_cases e : a.1 = c
    · have : l.map (fun f => if f.1 = c then (f.1, wr64 (f.2 + n)) else f) = l := by
        conv => rhs; rw [← List.map_id l]
        exact List.map_congr_left fun y hy => if_neg fun e2 => hp.1 y hy (e.trans e2.symm)
      rw [this, if_pos e]
      have h1 : vlF c (a.1, wr64 (a.2 + n)) = wr64 (a.2 + n) := if_pos e
      have h2 : vlF c a = a.2 := if_pos e
      rw [h1, h2]
      unfold wr64; omega
    · rcases List.mem_cons.1 hx with rfl | hx'
      · exact absurd hc e
      · have ih := smF_map (n := n) hp.2 hx' hc
        rw [if_neg e]
        have h2 : vlF c a = 0 := if_neg e
        rw [h2]
        unfold wr64 at *; omega
theorem put_same {fs : List (Int × Int)} (h : FsOk fs) (c n : Int) : wr64 (smE ((putF fs c n).map (vlF c))) = wr64 (smE (fs.map (vlF c)) + n) := by
  unfold putF
  split
  · rename_i ha
    obtain ⟨x, hx, e⟩ := List.any_eq_true.1 ha
    exact smF_map h.nd hx (by simpa using e)
  · rw [List.map_append, smE_append]
    simp [smE, vlF]
theorem put_other {fs : List (Int × Int)} {c d n : Int} (h : d ≠ c) : smE ((putF fs c n).map (vlF d)) = smE (fs.map (vlF d)) := by
  unfold putF
  split
  · rw [List.map_map]
    congr 1
    refine List.map_congr_left fun f _ => ?_
    show vlF d (if f.1 = c then _ else f) = _
    by_cases e : f.1 = c
    · rw [if_pos e]
      unfold vlF
      have : ¬ f.1 = d := fun q => h (q.symm.trans e)
      rw [if_neg this, if_neg this]
    · rw [if_neg e]
  · rw [List.map_append, smE_append]
    simp [smE, vlF, Ne.symm h]
theorem put_any' {fs : List (Int × Int)} (h : FsOk fs) (c n d : Int) : wr64 (smE ((putF fs c n).map (vlF d))) = wr64 (smE (fs.map (vlF d)) + if c = d then n else 0) := by
  by_cases e : d = c
  · subst e; rw [if_pos rfl]; exact put_same h d n
  · rw [if_neg fun q => e q.symm, put_other e, Int.add_zero]
theorem fs_zero {fs : List (Int × Int)} (h : FsOk fs) (h0 : ∀ c, wr64 (smE (fs.map (vlF c))) = 0) : ∀ f ∈ fs, f.2 = 0 := by
  have key : ∀ {l : List (Int × Int)}, (l.Pairwise fun a b => a.1 ≠ b.1) → ∀ f ∈ l, smE (l.map (vlF f.1)) = f.2 := fun {l} => by
    induction l with
    | nil => intro _ f hf; cases hf
    | cons a l ih =>
      intro hp f hf
      rw [List.pairwise_cons] at hp
      rw [List.map_cons, smE]
      rcases List.mem_cons.1 hf with rfl | hf
      · have : smE (l.map (vlF f.1)) = 0 := by
          have : l.map (vlF f.1) = l.map fun _ => 0 := List.map_congr_left fun y hy => if_neg fun e => hp.1 y hy e.symm
          rw [this]
          clear this ih hp hf
          induction l with
          | nil => rfl
          | cons b l ih => rw [List.map_cons, smE, ih]; rfl
        rw [this, show vlF f.1 f = f.2 from if_pos rfl]; omega
      · rw [ih hp.2 f hf, show vlF f.1 a = 0 from if_neg (hp.1 f hf)]; omega
  intro f hf
  have h1 := h0 f.1
  rw [key h.nd f hf] at h1
  have := (h.bd f hf).2
  unfold wr64 at h1
  unfold InB at this
  omega
end Go.Proofs.YtdehlnaoehjehaaGreatDoor
