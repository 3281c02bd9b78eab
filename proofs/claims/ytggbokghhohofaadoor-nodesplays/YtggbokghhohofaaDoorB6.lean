/-
  Proved here: slices.SortFunc at rows by byRow: the rows in order. Conditions: the rows' settings lie in blocks of others; fewer than 2 to 31 rows.
-/
import Derived.Test.YtggbokghhohofaaDoorB5
namespace Go.Proofs.YtggbokghhohofaaDoor
open Go.RowKit
set_option maxRecDepth 100000

/-- A row, with the slice that holds it. -/
abbrev Rv := Value × List Ac
def cfM (d : List Rv) (a b : { x : Rv // x ∈ d }) : Int := cmpR a.1.2 b.1.2
theorem ltD_f {a b : List Ac} : decide (cmpR a b < 0) = false ↔ ¬ ltR a b := by rw [decide_eq_false_iff_not, ltR_iff]
theorem ltD_t {a b : List Ac} : decide (cmpR a b < 0) = true ↔ ltR a b := by rw [decide_eq_true_eq, ltR_iff]
theorem swoM (d : List Rv) : Go.Sort.SWO (ltOf (cfM d)) where
  irrefl _x := ltD_f.2 (ltR_irrefl _)
  trans _x _y _z h1 h2 := ltD_t.2 (ltR_trans (ltD_t.1 h1) (ltD_t.1 h2))
  ntrans _x _y _z h1 h2 := ltD_f.2 (ltR_neg (ltD_f.1 h1) (ltD_f.1 h2))
theorem Acs.one {T : Nat → Prop} {w : World} {v : Value} {l : List Ac} (h : Acs T w v l) : v.oneCell' = true := by
  obtain ⟨ao, cap, rfl, -⟩ := h.form; rfl
set_option maxHeartbeats 1600000 in
theorem sortR_any {S T : Nat → Prop} (w : World) (v : Value) (d : List Rv) (h : Rw S 1 52 w v d.length (d.map (·.1))) (hd : ∀ x ∈ d, Acs T w x.1 x.2) (hT : ∀ b, T b → v.ownBlock ≠ some b) (hn : d.length < 2147483648) :
    Calls Tryd.prog 51 #[v, .func (.func 37) #[] #[]] w fun e w' => e = .returned (.tuple #[]) ∧ ∃ ds : List Rv, ds.Perm d ∧ (ds.Pairwise fun a b => ¬ ltR b.2 a.2) ∧ Only (Mine v w) w w' ∧ Rw S 1 52 w' v d.length (ds.map (·.1)) := by
  by_cases h0 : d.length = 0
  · obtain rfl : d = [] := List.length_eq_zero_iff.1 h0
    obtain ⟨ao, cap, rfl, -⟩ := h.room
    have hcon := AnyF.slices_SortFunc_none { Tryd.sortR with } ao cap (.func (.func 37) #[] #[]) w
    change Calls Tryd.prog 51 _ _ _ at hcon
    refine hcon.mono ?_
    rintro e w' ⟨rfl, rfl⟩
    exact ⟨rfl, [], List.Perm.refl _, List.Pairwise.nil, Only.refl _ _, h⟩
  · rcases h.ge with ⟨_, h1⟩ | ⟨g, o, cap, cur, rfl, hS, hg, h4, h5, h6⟩
    · exact absurd h1 h0
    · have hgl := (Array.getElem?_eq_some_iff.1 hg).1
      obtain ⟨e0, he0⟩ := List.exists_mem_of_ne_nil d (fun e => h0 (by rw [e]; rfl))
      haveI : Inhabited { x : Rv // x ∈ d } := ⟨⟨e0, he0⟩⟩
      obtain ⟨dm, hdm⟩ : ∃ dm : List { x : Rv // x ∈ d }, dm.map (·.1) = d := ⟨d.pmap (fun e h => ⟨e, h⟩) (fun e he => he), by simp [List.map_pmap]⟩
      have hml : dm.length = d.length := by have := congrArg List.length hdm; simpa using this
      have hcells : ∀ j, j < d.length → cur[o + j]? = (d.map (·.1))[j]? := fun j hj => by rw [cells_at h6 (by omega)]
      have hH : Go.Sort.Holds (fun x : { x : Rv // x ∈ d } => x.1.1) w g o dm.toArray := fun j hj => by
        have hj' : j < dm.length := by simpa using hj
        refine ⟨?_, by simp [World.frozen?, hg]⟩
        rw [cell_of_row _ _ _ _ _ _ hg, hcells j (by omega)]
        have e2 : d.map (·.1) = dm.map fun x => x.1.1 := by
          have := congrArg (List.map (·.1)) hdm
          rw [List.map_map] at this
          exact this.symm
        rw [e2, List.getElem?_map, List.getElem?_eq_getElem hj']
        simp [hj']
      have hcmp : CmpLays1 Tryd.prog 37 #[] (fun x : { x : Rv // x ∈ d } => x.1.1) (cfM d) g o dm.toArray.size w := fun m os dk hs x y => by
        have rd : ∀ x : { x : Rv // x ∈ d }, Acs T (sortWorld (fun x : { x : Rv // x ∈ d } => x.1.1) w g o m dk os) x.1.1 x.1.2 := fun x => (hd x.1 x.2).carry fun b hb hTb => ⟨hTb, by
          have hne : b ≠ g := fun e => by subst e; exact hT _ hTb rfl
          unfold sortWorld
          exact other_srt dk b hb hne⟩
        exact byRow_any _ _ _ _ _ (rd x) (rd y)
      have eg : ∀ args w, (callFunc 37 args).run Tryd.prog w = .ok (.enter 37 args) w := enters_of Tryd.func37 (by kernel_rfl) rfl
      have hcon := Any.slices_SortFunc Tryd.sortR (fun x : { x : Rv // x ∈ d } => x.1.1) (fun x => (hd x.1 x.2).one) (cfM d) (swoM d) 37 #[] g o cap dm.toArray w eg hcmp hH hgl (by simp; omega)
      change Calls Tryd.prog 51 _ _ _ at hcon
      rw [show dm.toArray.size = d.length by simp [hml]] at hcon
      refine hcon.mono ?_
      rintro e w' ⟨rfl, d', n, os, hpm, hso, rfl⟩
      have hd1 : d'.size = d.length := by rw [hpm.1]; simp [hml]
      have hpe : d'.toList.Perm dm := by
        have := hpm.2.2
        rw [← hd1] at this
        have e1 : d'.extract 0 d'.size = d' := by simp
        have e2 : dm.toArray.extract 0 d'.size = dm.toArray := by rw [hd1, ← hml]; simp
        rw [e1, e2] at this
        simpa using this
      refine ⟨rfl, d'.toList.map (·.1), by have := hpe.map (·.1); rwa [hdm] at this, ?_, ?_, ?_⟩
      · rw [List.pairwise_map, List.pairwise_iff_getElem]
        intro i j hi hj hij
        simp only [Array.length_toList] at hi hj
        have := hso i j (Nat.zero_le _) hij (by omega)
        rw [getElem!_pos d' i hi, getElem!_pos d' j hj] at this
        have := ltD_f.1 this
        simpa only [Array.getElem_toList] using this
      · exact (only_srt (enc := fun x : { x : Rv // x ∈ d } => x.1.1) (n := n) (os := os) d').mono fun b hb => hb.imp (fun e => by rw [e]; rfl) id
      · refine ⟨by simp [hd1], Or.inr ⟨g, o, cap, _, rfl, hS, heap_srt d' hg, h4, by simp [Go.Sort.putCells]; omega, ?_⟩⟩
        apply List.ext_getElem?
        intro j
        rw [List.getElem?_take]
        by_cases hj : j < d.length * 1
        · have hjd : j < d'.size := by omega
          rw [if_pos hj, List.getElem?_drop, Array.getElem?_toList, put_get _ o d' cur j hjd (by omega)]
          rw [List.map_map, List.getElem?_map, Array.getElem?_toList, Array.getElem?_eq_getElem hjd, getElem!_pos d' j hjd]
          rfl
        · rw [if_neg hj, List.getElem?_eq_none (by simp; omega)]
end Go.Proofs.YtggbokghhohofaaDoor
