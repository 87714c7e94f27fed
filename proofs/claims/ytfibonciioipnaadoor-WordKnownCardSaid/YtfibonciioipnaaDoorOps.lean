/-
  Layer 1: word.operations answers the row of its closures, in a new block.
-/
import Derived.Test.YtfibonciioipnaaDoorRows
import Derived.Test.YtfibonciioipnaaDoorMath
import Derived.WalkSpells
import Derived.WalkLawsBesides
import Derived.Laws.EntriesVeiled
namespace Go.Proofs.YtfibonciioipnaaDoor
open Go.RowKit

/-- The row of closures. -/
def opsV : Array Value := #[Value.nilFunc, Value.func (Fn.func 39) #[] #[], Value.func (Fn.func 40) #[] #[], Value.func (Fn.func 41) #[] #[], Value.func (Fn.func 42) #[] #[], Value.func (Fn.func 43) #[] #[], Value.func (Fn.func 44) #[] #[], Value.func (Fn.func 45) #[] #[], Value.func (Fn.func 46) #[] #[], Value.func (Fn.func 47) #[] #[], Value.func (Fn.func 48) #[] #[], Value.func (Fn.func 49) #[] #[], Value.func (Fn.func 50) #[] #[], Value.func (Fn.func 51) #[] #[], Value.func (Fn.func 52) #[] #[], Value.func (Fn.func 54) #[] #[], Value.func (Fn.func 55) #[] #[]]
set_option maxHeartbeats 4000000 in
set_option maxRecDepth 100000 in
theorem operations_any (w : World) :
    Calls Tryd.prog 27 #[] w fun e w' => e = .returned (.agg opsV) ∧ w.alloc (.cells opsV 40) = w' := by
  go_enter Tryd.func27, Tryd.ntmps27
  go_wp2
  exact bodyPost_ret (v := .agg opsV) (by simp [results, Tryd.results27, go_sem]; rfl) rfl ⟨rfl, rfl⟩
end Go.Proofs.YtfibonciioipnaaDoor
