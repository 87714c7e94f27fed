/-
  Layer 1: the statements' helper works: the chapter's examples, run: it answers true.
-/
import Derived.Test.YtfibonciioipnaaDoorHigh
namespace Go.Proofs.YtfibonciioipnaaDoor
open Go.RowKit

/-- Nothing that was there has turned. -/
def Kept (w w' : World) : Prop := Below w.heap.size w w'
theorem Kept.refl (w : World) : Kept w w := Below.refl _ _
theorem Kept.trans {a b c : World} (h : Kept a b) (k : Kept b c) : Kept a c := Below.trans h (Below.mono k (Below.size h))
theorem Kept.tab {w w' : World} (h : Kept w w') (hT : Tab w) : Tab w' := hT.below h

set_option maxHeartbeats 1000000 in
theorem works_any (w : World) (hT : Tab w) : Calls Tryd.prog 14 #[] w fun e w' => e = .returned (.bool true) ∧ Kept w w' := by
  have HT := Lib.hid hT; clear hT
  have hQ := Kept.refl w
  have p1 : powN 8 = 3 := by decide +kernel
  have p2 : powB 8 = true := by decide +kernel
  have v1 : opI 4 (-7) 2 = -3 := by decide +kernel
  have v2 : opI 5 (-7) 2 = -1 := by decide +kernel
  have v3 : opI 4 5 0 = -1 := by decide +kernel
  have v4 : opI 5 5 0 = 5 := by decide +kernel
  have v5 : opI 11 1 65 = 2 := by decide +kernel
  have v6 : opI 13 (-8) 1 = -4 := by decide +kernel
  have v7 : opI 12 (-1) 63 = 1 := by decide +kernel
  have v8 : opI 15 (-1) 1 = 0 := by decide +kernel
  have v9 : highI (-1) (-1) false false = -2 := by decide +kernel
  go_enter Tryd.func14, Tryd.ntmps14
  go_wp2_with (first
    | (go_at_call 19; refine (power_any _ _ HT.out).mono ?_; rintro e w' ⟨rfl, rfl⟩)
    | (go_at_call 17; refine (keeps_3 _).mono ?_; rintro e w' ⟨rfl, rfl⟩)
    | (go_at_call 10; refine (do_any _ _ _ _ ⟨by decide, by decide⟩ ⟨by decide, by decide⟩).mono ?_; rintro e w' ⟨rfl, hb⟩; replace hQ := Kept.trans hQ hb; clear hb)
    | (go_at_call 25; refine (high_any _ _ _ _ _ ⟨by decide, by decide⟩ ⟨by decide, by decide⟩).mono ?_; rintro e w' ⟨rfl, rfl⟩))
  go_ret
  exact ⟨rfl, hQ⟩
end Go.Proofs.YtfibonciioipnaaDoor
