
/-
  Layer 2: the reference's graph in memory; PlainNode; the contract of the reference's May.
-/
import Derived.Test.YtjhmbbioplhcgaaGreatDoorTWorks
namespace Go.Proofs.YtjhmbbioplhcgaaGreatDoor
open Go Go.RowKit

set_option maxHeartbeats 1000000 in
theorem plain_any (d : Nd) (w : World) : Calls Tryz.prog 25 #[d.val] w fun e w' => e = .returned d.val ∧ Kept w w' := by
  simp only [Nd.val]
  go_enter Tryz.func25, Tryz.ntmps25
  go_wp2
  exact bodyPost_ret (v := d.val) (by simp [results, Tryz.results25, go_sem, Nd.val]) rfl ⟨rfl, ((Kept.refl _).alloc _).alloc _⟩

end Go.Proofs.YtjhmbbioplhcgaaGreatDoor
