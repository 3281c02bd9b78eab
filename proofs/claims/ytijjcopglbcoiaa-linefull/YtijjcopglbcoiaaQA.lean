/-
  Proved here: the seven functions of package line serve ends ('papi'); what they answer for no end ('nils'). No condition.
-/
import Derived.Test.YtijjcopglbcoiaaQ9
import Derived.Test.YtijjcopglbcoiaaWN
namespace Go.Proofs.Ytijjcopglbcoiaa
open Go.RowKit Seal

/-- The program's. -/
def papi : PApi where
  PE := QE
  carry := fun h hc => h.carry hc
  new := fun p w _ => qnew_any p w
  reset := fun S v e p w h _ _ => qreset_any S v e p w h
  send := fun S v e u bs w h hf _ hs => qsend_any S v e w.heap.size u bs w h hf hs.sl (Nat.le_refl _)
  tick := fun S v e w h hf hfit => by
    refine (qtick_any S v e w h hfit).mono ?_
    rintro r w' ⟨u, rfl, hb, hl⟩
    refine ⟨u, fun k => w.heap.size ≤ k, rfl, Only.of hb hf, fun k hk => hf k hk, h.carry fun k hk hS => ⟨⟨hS, by omega⟩, hb.block k hk⟩, hl⟩
  take := fun S v e u bs w h hf hfit hs => qtake_any S v e w.heap.size u bs w h hf hs.sl (Nat.le_refl _) hfit
  came := fun S v e w h _ hfit => qcame_any S v e w h (by have := hfit.new; omega)
  left := fun S v e w h _ _ => by
    refine (qleft_any S v e w h).mono ?_
    rintro r w' ⟨rfl, rfl⟩
    exact ⟨rfl, Only.refl _ _, h⟩

theorem nils : Nils where
  reset := fun p w => by
    go_enter Try.func17, Try.ntmps17
    go_wp2
    first | go_end0 | refine bodyPost_ret (results_none rfl _ _ _) rfl ?_
    exact ⟨rfl, Below.refl _ _⟩
  send := fun B u bs w hs => by
    clear hs
    go_enter Try.func18, Try.ntmps18
    go_wp2
    go_ret
    exact ⟨rfl, Below.refl _ _⟩
  take := fun B u bs w hs => by
    clear hs
    go_enter Try.func19, Try.ntmps19
    go_wp2
    go_ret
    exact ⟨rfl, Below.refl _ _⟩
  tick := fun w => by
    go_enter Try.func20, Try.ntmps20
    go_wp2
    go_ret
    exact ⟨none, 0, rfl, Below.refl _ _⟩
  came := fun w => by
    go_enter Try.func15, Try.ntmps15
    go_wp2
    go_ret
    exact ⟨none, 0, rfl, Below.refl _ _⟩
  left := fun w => by
    go_enter Try.func21, Try.ntmps21
    go_wp2
    go_ret
    exact ⟨rfl, Below.refl _ _⟩
end Go.Proofs.Ytijjcopglbcoiaa
