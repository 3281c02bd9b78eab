/-
  Proved here: slices.SortFunc at settings by byField: the settings in an order in which fields rise. Condition: fewer than 2 to 31.
-/
import Derived.Test.YtggbokghhohofaaDoorB4
import Derived.Test.YtggbokghhohofaaDoorSL
import Derived.Shelf.SlSortCmp.NoneTotal
namespace Go.Proofs.YtggbokghhohofaaDoor
open Go.RowKit
set_option maxRecDepth 100000

theorem swoF : Go.Sort.SWO (ltOf cmpF) where
  irrefl x := by simp [ltOf, cmpF, cmpI_lt]
  trans x y z h1 h2 := by simp [ltOf, cmpF, cmpI_lt] at *; omega
  ntrans x y z h1 h2 := by simp only [ltOf, cmpF, cmpI_lt, decide_eq_false_iff_not] at *; omega
instance : Inhabited Ac := ⟨⟨0, 0, 0⟩⟩
theorem heap_srt {α : Type} [Inhabited α] {enc : α → Value} {w : World} {g o n : Nat} {os : Array Obj} {cur : Array Value} {e : TypeId} {fr : Nat × Nat} (d : Array α) (hb : w.heap[g]? = some (.cells cur e fr)) :
    (Go.Sort.grow (Go.Sort.putRow enc (Go.Sort.ahead w n) g o d) os).heap[g]? = some (.cells (Go.Sort.putCells enc o d cur) e fr) := by
  have hg : g < w.heap.size := (Array.getElem?_eq_some_iff.1 hb).1
  rw [Go.Sort.heap_grow_old _ _ (by simpa using hg)]
  simp [Go.Sort.putRow, Go.Sort.mapBlock, Go.Sort.ahead, Array.getElem?_modify, hb, Go.Sort.onCells]
theorem other_srt {α : Type} [Inhabited α] {enc : α → Value} {w : World} {g o n : Nat} {os : Array Obj} (d : Array α) : ∀ k, k < w.heap.size → k ≠ g → (Go.Sort.grow (Go.Sort.putRow enc (Go.Sort.ahead w n) g o d) os).heap[k]? = w.heap[k]? := by
  intro k hk hne
  rw [Go.Sort.heap_grow_old _ _ (by simpa using hk)]
  simp [Go.Sort.putRow, Go.Sort.mapBlock, Go.Sort.ahead, Array.getElem?_modify, hne.symm]
theorem only_srt {α : Type} [Inhabited α] {enc : α → Value} {w : World} {g o n : Nat} {os : Array Obj} (d : Array α) : Only (fun b => b = g ∨ w.heap.size ≤ b) w (Go.Sort.grow (Go.Sort.putRow enc (Go.Sort.ahead w n) g o d) os) :=
  ⟨rfl, rfl, rfl, by simp, fun k hk => other_srt d k (by omega) (by omega)⟩
theorem put_get {α : Type} [Inhabited α] (enc : α → Value) (o : Nat) (d : Array α) (cur : Array Value) (j : Nat) (hj : j < d.size) (h : o + j < cur.size) : (Go.Sort.putCells enc o d cur)[o + j]? = some (enc d[j]!) := by
  simp [Go.Sort.putCells, h, hj]
theorem flat_acL (d : List Ac) (t : Nat) (ht : t < d.length * 3) : (acL d)[t]? = some ((Go.Sort.flatK (fun a => (acl a).toList) 3 d.toArray)[t]!) := by
  rw [Go.Sort.get_flatK _ _ _ _ (by simpa using ht)]
  have hq : t / 3 < d.length := by omega
  have hi : t % 3 < 3 := Nat.mod_lt _ (by omega)
  have h1 := acL_at d (t / 3) (t % 3) hq hi
  rw [show t / 3 * 3 + t % 3 = t by omega] at h1
  rw [h1, getElem!_pos d.toArray (t / 3) (by simpa using hq)]
  simp only [List.getElem_toArray]
  have : t % 3 = 0 ∨ t % 3 = 1 ∨ t % 3 = 2 := by omega
  rcases this with e | e | e <;> rw [e] <;> rfl
theorem Rw.ge {S : Nat → Prop} {k t : Nat} {w : World} {v : Value} {n : Nat} {xs : List Value} (h : Rw S k t w v n xs) : v = nilS ∧ n = 0 ∨ ∃ g o cap cur, v = .slice (some ⟨g, o, none⟩) n cap ∧ S g ∧ w.heap[g]? = some (.cells cur t (0, 0)) ∧ n ≤ cap ∧ o + cap * k ≤ cur.size ∧ (cur.toList.drop o).take (n * k) = xs := h.2
/-- what may turn when a slice's cells are written over -/
abbrev Mine (v : Value) (w : World) : Nat → Prop := fun b => v.ownBlock = some b ∨ w.heap.size ≤ b
set_option maxHeartbeats 1600000 in
theorem sortA_any {S : Nat → Prop} (w : World) (v : Value) (d : List Ac) (h : Rw S 3 54 w v d.length (acL d)) (hn : d.length < 2147483648) :
    Calls Tryd.prog 48 #[v, .func (.func 35) #[] #[]] w fun e w' => e = .returned (.tuple #[]) ∧ ∃ ds : List Ac, ds.Perm d ∧ (ds.Pairwise fun a b => a.fd ≤ b.fd) ∧ Only (Mine v w) w w' ∧ Rw S 3 54 w' v d.length (acL ds) := by
  by_cases h0 : d.length = 0
  · obtain rfl : d = [] := List.length_eq_zero_iff.1 h0
    obtain ⟨ao, cap, rfl, -⟩ := h.room
    have hcon := AnyF.slices_SortFunc_none { Tryd.sortA with } ao cap (.func (.func 35) #[] #[]) w
    change Calls Tryd.prog 48 _ _ _ at hcon
    refine hcon.mono ?_
    rintro e w' ⟨rfl, rfl⟩
    exact ⟨rfl, [], List.Perm.refl _, List.Pairwise.nil, Only.refl _ _, h⟩
  · rcases h.ge with ⟨_, h1⟩ | ⟨g, o, cap, cur, rfl, hS, hg, h4, h5, h6⟩
    · exact absurd h1 h0
    · have hgl := (Array.getElem?_eq_some_iff.1 hg).1
      have hH : Go.Sort.HoldsK (fun a : Ac => (acl a).toList) 3 w g o d.toArray := fun t ht => by
        have ht' : t < d.length * 3 := by simpa using ht
        refine ⟨?_, by simp [World.frozen?, hg]⟩
        rw [cell_of_row _ _ _ _ _ _ hg, cells_at h6 ht', flat_acL d t ht']; rfl
      have hcmp : CmpLays Tryd.prog 35 #[] (fun a : Ac => (acl a).toList) 3 cmpF g o d.toArray.size w := fun m os dk hs x y => by
        have := byField_any x y (sortWorldK (fun a : Ac => (acl a).toList) 3 w g o m dk os)
        exact this
      have eg : ∀ args w, (callFunc 35 args).run Tryd.prog w = .ok (.enter 35 args) w := enters_of Tryd.func35 (by kernel_rfl) rfl
      have hcon := AnyQ.slices_SortFunc Tryd.sortA 3 (fun w => Tryd.isAgg54 w) (fun w => Tryd.sizeOf54 w) (fun a : Ac => (acl a).toList) (fun _ => rfl) (fun x u hu => acL_all [x] u (by simpa [acL] using hu)) cmpF swoF 35 #[] g o cap d.toArray w eg hcmp hH hgl (by simp; omega)
      change Calls Tryd.prog 48 _ _ _ at hcon
      rw [show d.toArray.size = d.length by simp] at hcon
      refine hcon.mono ?_
      rintro e w' ⟨rfl, d', n, os, hpm, hso, rfl⟩
      have hd1 : d'.size = d.length := by rw [hpm.1]; simp
      have hpe : d'.toList.Perm d := by
        have := hpm.2.2
        rw [← hd1] at this
        have e1 : d'.extract 0 d'.size = d' := by simp
        have e2 : d.toArray.extract 0 d'.size = d.toArray := by rw [hd1]; simp
        rw [e1, e2] at this
        simpa using this
      refine ⟨rfl, d'.toList, hpe, ?_, ?_, ?_⟩
      · rw [List.pairwise_iff_getElem]
        intro i j hi hj hij
        simp only [Array.length_toList] at hi hj
        have := hso i j (Nat.zero_le _) hij (by omega)
        rw [getElem!_pos d' i hi, getElem!_pos d' j hj] at this
        simp only [ltOf, cmpF, cmpI_lt, decide_eq_false_iff_not] at this
        simp only [Array.getElem_toList]
        omega
      · exact (only_srt (α := Value) (enc := id) (n := n) (os := os) (Go.Sort.flatK (fun a : Ac => (acl a).toList) 3 d')).mono fun b hb => hb.imp (fun e => by rw [e]; rfl) id
      · refine ⟨by rw [acL_len]; simp [hd1], Or.inr ⟨g, o, cap, _, rfl, hS, heap_srt (α := Value) (enc := id) (Go.Sort.flatK (fun a : Ac => (acl a).toList) 3 d') hg, h4, by simp [Go.Sort.putCells]; omega, ?_⟩⟩
        apply List.ext_getElem?
        intro j
        rw [List.getElem?_take]
        have hck : d.length * 3 ≤ cap * 3 := Nat.mul_le_mul_right _ h4
        by_cases hj : j < d.length * 3
        · rw [if_pos hj, List.getElem?_drop, Array.getElem?_toList, put_get id o _ cur j (by rw [Go.Sort.size_flatK]; omega) (by omega), flat_acL d'.toList j (by simp; omega)]
          rfl
        · rw [if_neg hj, List.getElem?_eq_none (by rw [acL_len]; simp; omega)]
end Go.Proofs.YtggbokghhohofaaDoor
