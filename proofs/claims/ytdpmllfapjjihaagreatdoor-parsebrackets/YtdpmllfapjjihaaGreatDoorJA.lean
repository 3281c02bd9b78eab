/- Plain: policies in brackets. -/
import Derived.Test.YtdpmllfapjjihaaGreatDoorJ9
namespace Go.Proofs.YtdpmllfapjjihaaGreatDoor
set_option maxRecDepth 100000

theorem tk_eq {l : List Wd} {i : Nat} {q r : ByteArray} (h : (wat l i).t = r) : tk l i q = decide (r = q) := by unfold tk; rw [h]
/-- a policy in brackets is an atom -/
theorem atom_brk {l1 l2 : List Wd} {k p n1 n2 : Nat} {m : Tm} (hc : Fol l1 l2 k (p + 1)) (hcl : Cl l1) (hkl : k < l1.length) (hm : (ps l1 n1).pol 0 = .ok m k) (h0 : (wat l2 p).t = Slp) (h1 : (wat l2 (k + (p + 1))).t = Srp) (hn : l2.length - (p + 1) ≤ n2) : atomF l2 (ps l2 n2).pol (ps l2 n2).pred p = .ok m (k + (p + 1) + 1) := by
  unfold atomF
  rw [tk_eq h0, tk_eq h0, tk_eq h0, tk_eq h0, tk_eq h0, if_neg (by decide), if_neg (by decide), if_neg (by decide), if_neg (by decide), if_pos (by decide)]
  have := (ps_flw hc hcl hkl n1 n2 0 (Nat.zero_le _) (by omega)).1 m k hm (Nat.le_refl _)
  rw [show 0 + (p + 1) = p + 1 by omega] at this
  rw [this]
  show (if tk l2 (k + (p + 1)) Srp = true then _ else _) = _
  rw [tk_eq h1, if_pos (by decide)]
theorem starF_0 {l : List Wd} {at' : Nat → Rd Tm} {i j : Nat} {t : Tm} (h : at' i = .ok t j) (hl : 0 < l.length) (hs : tk l j Sstar = false) : starF l at' i = .ok t j := by
  unfold starF; rw [h]
  show starL l l.length j t = _
  obtain ⟨f, hf⟩ : ∃ f, l.length = f + 1 := ⟨l.length - 1, by omega⟩
  rw [hf, starL, if_neg (by rw [hs]; decide)]
theorem starF_1 {l : List Wd} {at' : Nat → Rd Tm} {i j : Nat} {t : Tm} (h : at' i = .ok t j) (hl : 1 < l.length) (hs : tk l j Sstar = true) (hs2 : tk l (j + 1) Sstar = false) : starF l at' i = .ok (ov 10 [t]) (j + 1) := by
  unfold starF; rw [h]
  show starL l l.length j t = _
  obtain ⟨f, hf⟩ : ∃ f, l.length = f + 1 + 1 := ⟨l.length - 2, by omega⟩
  rw [hf, starL, if_pos hs, starL, if_neg (by rw [hs2]; decide)]
/-- what a text without queries is -/
theorem fil_main {s : ByteArray} {l ws : List Wd} {m : Tm} {j : Nat} (hl : l = ws ++ [wEnd s]) (hst : Stand s 0 ws) (h : fil l = .ok ⟨m, []⟩ j) (hcl : Cl l) : (ps l l.length).pol 0 = .ok m ws.length := by
  have hk : ∀ (a : Nat) (ws : List Wd), Stand s a ws → ∀ x ∈ ws, x.k ≠ 0 := by
    intro a ws
    induction ws generalizing a with
    | nil => intro _ x hx; cases hx
    | cons y ws ih =>
      intro hs x hx
      rcases List.mem_cons.1 hx with rfl | hx
      · have ok := one_ok hs.2.1
        rw [hs.2.2.1] at ok
        have := ok.k1 rfl
        have h2 : 1 ≤ x.k := this
        omega
      · exact ih _ hs.2.2.2.2 x hx
  have hlen : l.length = ws.length + 1 := by rw [hl]; simp
  unfold fil at h
  cases h1 : (ps l l.length).pol 0 with
  | bad q => rw [h1] at h; cases h
  | ok m' i =>
    rw [h1] at h
    replace h : (qrs l (ps l l.length).pred l.length i []).bind (fun qs j => if (wat l j).k = 0 then Rd.ok (⟨m', qs⟩ : Po) j else .bad j) = .ok (⟨m, []⟩ : Po) j := h
    obtain ⟨a1, a2, -⟩ := ps_adv hcl l.length
    have hi := (a1 0 hcl.pos).1 m' i h1
    cases h2 : qrs l (ps l l.length).pred l.length i [] with
    | bad q => rw [h2] at h; cases h
    | ok qs j1 =>
      rw [h2] at h
      replace h : (if (wat l j1).k = 0 then Rd.ok (⟨m', qs⟩ : Po) j1 else .bad j1) = .ok (⟨m, []⟩ : Po) j := h
      split at h
      · rename_i hk0
        cases h
        have hj := (qrs_adv hcl a2 l.length i [] hi.2).1 [] j h2
        have hjw : j = ws.length := by
          rcases Nat.lt_or_ge j ws.length with hlt | hge
          · exfalso
            have hw : wat l j ∈ ws := by
              rw [hl]
              unfold wat
              rw [List.getD_eq_getElem?_getD, List.getElem?_append_left hlt, List.getElem?_eq_getElem hlt]
              exact List.getElem_mem hlt
            exact hk 0 ws hst _ hw hk0
          · omega
        -- nothing was taken as a query
        have hij : i = j := by
          obtain ⟨f, hf⟩ : ∃ f, l.length = f + 1 := ⟨l.length - 1, by omega⟩
          rw [hf, qrs] at h2
          split at h2
          · split at h2
            · cases h2
            · obtain ⟨mm, hm⟩ := qrs_ext _ _ _ _ _ h2
              simp at hm
          · cases h2; rfl
        rw [hij, hjw]
      · cases h
end Go.Proofs.YtdpmllfapjjihaaGreatDoor
