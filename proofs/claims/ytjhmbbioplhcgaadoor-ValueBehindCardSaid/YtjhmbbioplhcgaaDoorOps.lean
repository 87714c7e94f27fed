/-
  Layer 1: word.operations answers the row of its closures, in a new block.
-/
import Derived.Test.YtjhmbbioplhcgaaDoorRows
import Derived.Test.YtjhmbbioplhcgaaDoorMath
import Derived.WalkSpells
import Derived.WalkLawsBesides
import Derived.Laws.EntriesVeiled
namespace Go.Proofs.YtjhmbbioplhcgaaDoor
open Go.RowKit

/-- The row of closures. -/
def opsV : Array Value := #[Value.nilFunc, Value.func (Fn.func 57) #[] #[], Value.func (Fn.func 58) #[] #[], Value.func (Fn.func 59) #[] #[], Value.func (Fn.func 60) #[] #[], Value.func (Fn.func 61) #[] #[], Value.func (Fn.func 62) #[] #[], Value.func (Fn.func 63) #[] #[], Value.func (Fn.func 64) #[] #[], Value.func (Fn.func 65) #[] #[], Value.func (Fn.func 66) #[] #[], Value.func (Fn.func 67) #[] #[], Value.func (Fn.func 68) #[] #[], Value.func (Fn.func 69) #[] #[], Value.func (Fn.func 70) #[] #[], Value.func (Fn.func 72) #[] #[], Value.func (Fn.func 73) #[] #[]]
set_option maxHeartbeats 4000000 in
set_option maxRecDepth 100000 in
theorem operations_any (w : World) :
    Calls Tryd.prog 49 #[] w fun e w' => e = .returned (.agg opsV) ∧ w.alloc (.cells opsV 99) = w' := by
  go_enter Tryd.func49, Tryd.ntmps49
  go_wp2
  exact bodyPost_ret (v := .agg opsV) (by simp [results, Tryd.results49, go_sem]; rfl) rfl ⟨rfl, rfl⟩
end Go.Proofs.YtjhmbbioplhcgaaDoor
