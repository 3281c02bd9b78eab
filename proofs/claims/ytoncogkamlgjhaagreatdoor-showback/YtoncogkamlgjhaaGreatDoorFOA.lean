/-
  Proved here: the rows' list of variables gives error's type and strconv's two errors; the program's own initialisers lay them so. No further condition.
-/
import Derived.Test.YtoncogkamlgjhaaGreatDoorRows
import Derived.Test.YtoncogkamlgjhaaGreatDoorCards
import Derived.Test.YtoncogkamlgjhaaGreatDoorTie
import Derived.Test.YtoncogkamlgjhaaGreatDoorFQ4
import Derived.WalkKit
import Derived.ProofKit
import Derived.OpenShut
import Derived.ChangeSame
import Derived.LaidMore
import Derived.LaidLaws
import Derived.LaidHandle
import Derived.Stop.LaidErr
import Derived.Deep.DeepHandedRow
import Derived.SizedLaws
import Derived.Carry
namespace Go.Proofs.YtoncogkamlgjhaaGreatDoor
set_option maxRecDepth 100000
open Go.ChangeShapes Go.WideShapes Go.ChangeAt Go.RowKit
set_option maxRecDepth 100000

theorem own : ownKnob Tryz.prog.godebug = none := by kernel_rfl
theorem laidOut : laidOutB Tryz.prog = true := by kernel_rfl
theorem gES : Tryz.prog.globalNamed "strconv.ErrSyntax" = some 4 := by kernel_rfl
theorem gER : Tryz.prog.globalNamed "strconv.ErrRange" = some 5 := by kernel_rfl
theorem tES : (Tryz.prog.globals[4]?).map (·.type) = some 35 := by kernel_rfl
theorem tER : (Tryz.prog.globals[5]?).map (·.type) = some 35 := by kernel_rfl
theorem sent {n nm : String} {d : DataW Unit} {r : List (String × DataW Unit)} {W : World} {g : Nat} (h : laidMet Tryz.prog ((n, .iface nm d) :: r) W) (hg : Tryz.prog.globalNamed n = some g) (ht : (Tryz.prog.globals[g]?).map (·.type) = some 35) : ∃ t p, W.cell? ⟨g, 0, none⟩ = some (.iface t p) := by
  obtain ⟨ps, ⟨g0, t0, cs0, f0, p0, q0, hg0, ht0, hv0, hd0, -, -⟩, -, -⟩ := h
  obtain rfl := Option.some.inj (hg.symm.trans hg0)
  obtain rfl := Option.some.inj (ht.symm.trans ht0)
  obtain ⟨-, u, v, hcs, -, -⟩ := iface_of_trod Tryz.underlying35 hd0
  have hc : cs0 = #[.iface u v] := Array.eq_one_of_toList hcs
  subst hc
  exact ⟨u, v, by simpa using World.var?_cell hg hv0 0⟩
end Go.Proofs.YtoncogkamlgjhaaGreatDoor
