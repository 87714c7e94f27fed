/-
  Layer 1: word.operations answers the row of its closures, in a new block.
-/
import Derived.Test.YtjhmbbioplhcgaaGreatDoorRows
import Derived.Test.YtjhmbbioplhcgaaGreatDoorMath
import Derived.WalkSpells
import Derived.WalkLawsBesides
import Derived.Laws.EntriesVeiled
namespace Go.Proofs.YtjhmbbioplhcgaaGreatDoor
open Go.RowKit

/-- The row of closures. -/
def opsV : Array Value := #[Value.nilFunc, Value.func (Fn.func 73) #[] #[], Value.func (Fn.func 74) #[] #[], Value.func (Fn.func 75) #[] #[], Value.func (Fn.func 76) #[] #[], Value.func (Fn.func 77) #[] #[], Value.func (Fn.func 78) #[] #[], Value.func (Fn.func 79) #[] #[], Value.func (Fn.func 80) #[] #[], Value.func (Fn.func 81) #[] #[], Value.func (Fn.func 82) #[] #[], Value.func (Fn.func 83) #[] #[], Value.func (Fn.func 84) #[] #[], Value.func (Fn.func 85) #[] #[], Value.func (Fn.func 86) #[] #[], Value.func (Fn.func 88) #[] #[], Value.func (Fn.func 89) #[] #[]]
set_option maxHeartbeats 4000000 in
set_option maxRecDepth 100000 in
theorem operations_any (w : World) :
    Calls Tryz.prog 55 #[] w fun e w' => e = .returned (.agg opsV) ∧ w.alloc (.cells opsV 112) = w' := by
  go_enter Tryz.func55, Tryz.ntmps55
  go_wp2
  exact bodyPost_ret (v := .agg opsV) (by simp [results, Tryz.results55, go_sem]; rfl) rfl ⟨rfl, rfl⟩
end Go.Proofs.YtjhmbbioplhcgaaGreatDoor
