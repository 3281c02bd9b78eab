/-
  Proved here: settings as data; how lists of settings and rows of them lie in memory, and that they stay as long as their blocks do. No condition.
-/
import Derived.Test.YtggbokghhohofaaDoorRY
namespace Go.Proofs.YtggbokghhohofaaDoor
open Go.RowKit

structure Ac where
  dw : Int
  fd : Int
  n : Int
def InB (x : Int) : Prop := 0 ≤ x ∧ x < 18446744073709551616
def I64 (x : Int) : Prop := -9223372036854775808 ≤ x ∧ x < 9223372036854775808
def Ac.Fit (a : Ac) : Prop := (-128 ≤ a.dw ∧ a.dw < 128) ∧ (-128 ≤ a.fd ∧ a.fd < 128) ∧ InB a.n
section
variable {α : Type}
/-- A slice of things of k cells each, in a block of T; R says what cells a thing has. -/
def Lst (T : Nat → Prop) (k : Nat) (R : World → (Nat → Option Value) → α → Prop) (w : World) (v : Value) (l : List α) : Prop :=
  ∃ ao cap, v = .slice ao l.length cap ∧ l.length ≤ cap ∧ l.length ≤ 140737488355328 ∧ (ao = none → cap = 0) ∧
    (l ≠ [] → ∃ b o, T b ∧ ao = some ⟨b, o, none⟩ ∧ ∀ j (hj : j < l.length), R w (fun i => w.cell? ⟨b, o + j * k + i, none⟩) l[j])
theorem Lst.carry {T T' : Nat → Prop} {k : Nat} {R R' : World → (Nat → Option Value) → α → Prop} {w w' : World} {v : Value} {l : List α} (h : Lst T k R w v l) (hc : ∀ b, b < w.heap.size → T b → T' b ∧ w'.heap[b]? = w.heap[b]?) (hS : ∀ f x, R w f x → ∃ u, f 0 = some u) (hR : ∀ f x, R w f x → R' w' f x) : Lst T' k R' w' v l := by
  obtain ⟨ao, cap, h1, h2, h3, h4, h5⟩ := h
  refine ⟨ao, cap, h1, h2, h3, h4, fun hne => ?_⟩
  obtain ⟨b, o, hb, rfl, hcl⟩ := h5 hne
  have h0 : 0 < l.length := List.length_pos_iff.2 hne
  obtain ⟨u, hu⟩ := hS _ _ (hcl 0 h0)
  have hq := hc b (cell_lt hu) hb
  refine ⟨b, o, hq.1, rfl, fun j hj => ?_⟩
  have := hR _ _ (hcl j hj)
  have e : (fun i => w'.cell? ⟨b, o + j * k + i, none⟩) = fun i => w.cell? ⟨b, o + j * k + i, none⟩ := by
    funext i; exact cell_same hq.2
  rw [e]; exact this
theorem Lst.form {T : Nat → Prop} {k : Nat} {R : World → (Nat → Option Value) → α → Prop} {w : World} {v : Value} {l : List α} (h : Lst T k R w v l) : ∃ ao cap, v = .slice ao l.length cap ∧ l.length ≤ cap := by
  obtain ⟨ao, cap, h1, h2, _⟩ := h
  exact ⟨ao, cap, h1, h2⟩
theorem Lst.len {T : Nat → Prop} {k : Nat} {R : World → (Nat → Option Value) → α → Prop} {w : World} {v : Value} {l : List α} (h : Lst T k R w v l) : l.length ≤ 140737488355328 := by
  obtain ⟨ao, cap, h1, h2, h3, _⟩ := h
  exact h3
theorem Lst.nil (T : Nat → Prop) (k : Nat) (R : World → (Nat → Option Value) → α → Prop) (w : World) : Lst T k R w nilS [] := ⟨none, 0, rfl, by simp, by simp, fun _ => rfl, fun h => absurd rfl h⟩
theorem Lst.all {T : Nat → Prop} {k : Nat} {R : World → (Nat → Option Value) → α → Prop} {P : α → Prop} {w : World} {v : Value} {l : List α} (h : Lst T k R w v l) (hP : ∀ f x, R w f x → P x) : ∀ x ∈ l, P x := by
  intro x hx
  obtain ⟨_, _, _, _, _, _, h5⟩ := h
  obtain ⟨j, hj, rfl⟩ := List.getElem_of_mem hx
  obtain ⟨b, o, _, _, hcl⟩ := h5 (fun e => by subst e; simp at hj)
  exact hP _ _ (hcl j hj)
end


def RAc : World → (Nat → Option Value) → Ac → Prop := fun _ f a => f 0 = some (.int .i8 a.dw) ∧ f 1 = some (.int .i8 a.fd) ∧ f 2 = some (.int .u64 a.n) ∧ a.Fit
abbrev Acs (T : Nat → Prop) (w : World) (v : Value) (l : List Ac) : Prop := Lst T 3 RAc w v l
def RCp (T : Nat → Prop) : World → (Nat → Option Value) → List Ac → Prop := fun w f l => ∃ u, f 0 = some u ∧ Acs T w u l
abbrev Cps (T : Nat → Prop) (w : World) (v : Value) (l : List (List Ac)) : Prop := Lst T 1 (RCp T) w v l
section
variable {T T' : Nat → Prop} {w w' : World} (hc : ∀ b, b < w.heap.size → T b → T' b ∧ w'.heap[b]? = w.heap[b]?)
include hc
theorem Acs.carry {v : Value} {l : List Ac} (h : Acs T w v l) : Acs T' w' v l := Lst.carry h hc (fun _ _ h => ⟨_, h.1⟩) (fun _ _ h => h)
theorem Cps.carry {v : Value} {l : List (List Ac)} (h : Cps T w v l) : Cps T' w' v l := Lst.carry h hc (fun _ _ ⟨_, h, _⟩ => ⟨_, h⟩) (fun _ _ ⟨u, h1, h2⟩ => ⟨u, h1, Acs.carry hc h2⟩)
end
theorem Lst.cell {α : Type} {T : Nat → Prop} {k : Nat} {R : World → (Nat → Option Value) → α → Prop} {w : World} {ao : Option Addr} {n cap : Nat} {l : List α} (h : Lst T k R w (.slice ao n cap) l) (j : Nat) (hj : j < l.length) : ∃ b o, ao = some ⟨b, o, none⟩ ∧ T b ∧ R w (fun i => w.cell? ⟨b, o + j * k + i, none⟩) l[j] := by
  obtain ⟨ao', cap', he, -, -, -, h5⟩ := h
  obtain ⟨b, o, hT, rfl, hc⟩ := h5 (fun e => by rw [e] at hj; simp at hj)
  simp only [Value.slice.injEq] at he
  obtain ⟨rfl, -, -⟩ := he
  exact ⟨b, o, rfl, hT, hc j hj⟩
theorem Acs.on {T : Nat → Prop} {w w' : World} {v : Value} {l : List Ac} (h : Acs T w v l) (hb : Below w.heap.size w w') : Acs T w' v l := Acs.carry (fun b hb' hT => ⟨hT, hb.block b hb'⟩) h
theorem Cps.on {T : Nat → Prop} {w w' : World} {v : Value} {l : List (List Ac)} (h : Cps T w v l) (hb : Below w.heap.size w w') : Cps T w' v l := Cps.carry (fun b hb' hT => ⟨hT, hb.block b hb'⟩) h
end Go.Proofs.YtggbokghhohofaaDoor
