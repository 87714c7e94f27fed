/-
  Layer 2: a nil graph takes nothing, and none of its terms uses any.
-/
import Derived.Test.YtjhmbbioplhcgaaDoorTUses
namespace Go.Proofs.YtjhmbbioplhcgaaDoor
open Go Go.RowKit

set_option maxHeartbeats 1000000 in
theorem maybe_nil (d : Nd) (w : World) :
    Calls Tryd.prog 33 #[.pointer none, .agg #[.int .u8 d.k, .int .i64 d.n, .int .i64 d.a, .int .u8 d.o, .int .i64 d.x, .int .i64 d.y]] w fun e w' => e = .returned (.bool false) ∧ Kept w w' := by
  have HQ := Lib.hid ((Kept.refl w).alloc (.cells #[.int .u8 d.k, .int .i64 d.n, .int .i64 d.a, .int .u8 d.o, .int .i64 d.x, .int .i64 d.y] 34))
  go_enter Tryd.func33, Tryd.ntmps33
  go_wp2
  go_ret
  exact ⟨rfl, HQ.out⟩
set_option maxHeartbeats 1000000 in
theorem add_nil (d : Nd) (w : World) :
    Calls Tryd.prog 12 #[.pointer none, .agg #[.int .u8 d.k, .int .i64 d.n, .int .i64 d.a, .int .u8 d.o, .int .i64 d.x, .int .i64 d.y]] w fun e w' => e = .returned (.int .i64 (-1)) ∧ Kept w w' := by
  have HQ := Lib.hid ((Kept.refl w).alloc (nodeObj d))
  go_enter Tryd.func12, Tryd.ntmps12
  go_wp2_with fail
  refine (maybe_nil d _).mono ?_
  rintro e w1 ⟨rfl, hk⟩
  have HK := Lib.hid (HQ.out.trans hk); clear hk
  go_wp2
  go_ret
  exact ⟨rfl, HK.out⟩
set_option maxRecDepth 100000 in
set_option maxHeartbeats 4000000 in
theorem uses_nilg (b : Nat) (x : Int) (w : World) (hx : w.cell? ⟨b, 0, none⟩ = some (.int .i64 x)) :
    Calls Tryd.prog 23 #[.pointer none, .slice (some ⟨b, 0, none⟩) 1 1] w fun e w' => e = .returned (.slice none 0 0) ∧ Kept w w' := by
  have hmm := @run_makeMap Tryd.prog
  have HX := Lib.hid hx
  clear hx
  go_enter Tryd.func23, Tryd.ntmps23
  go_wp2
  have HS := Lib.hid (uses_start w)
  change Code.wp _ _ _ _ (((w.alloc (.cells #[.slice none 0 0] 43)).alloc (.map #[] 0)).alloc (.cells #[.map (some (w.heap.size + 1))] 90))
  generalize ((w.alloc (.cells #[.slice none 0 0] 43)).alloc (.map #[] 0)).alloc (.cells #[.map (some (w.heap.size + 1))] 90) = W1 at *
  generalize w.heap.size + 1 + 1 = bs at *
  generalize w.heap.size + 1 = ms at *
  have HU : Hid (W1.cell? ⟨w.heap.size, 0, none⟩ = some (.slice none 0 0)) := by
    show _ = _
    rw [cell_of_row _ _ _ _ _ _ HS.out.1.hu]; rfl
  generalize w.heap.size = bu at *
  go_loopw [17] (fun i wr => ∃ j : Nat, j ≤ 1 ∧ i = .int .i64 j ∧ wr = W1) (fun i _ => 1 - (intOf i).toNat)
  case atStart => exact ⟨0, by omega, rfl, rfl⟩
  case round =>
    obtain ⟨j, hj, rfl, rfl⟩ := hrel
    have u0 := HU.out
    by_cases hj1 : j = 1
    · subst hj1
      go_wp2
      go_loopw [10] (fun i wr' => i = .int .i64 0 ∧ wr' = wr) (fun i _ => 1)
      case atStart => exact ⟨rfl, rfl⟩
      case round =>
        obtain ⟨rfl, rfl⟩ := hrel
        go_wp2_with fail
        refine (AnyM.slices_Sort_int_none Tryd.laysSort _ _ _).mono ?_
        rintro e w3 ⟨rfl, hw3⟩
        subst hw3
        go_wp2
        go_ret
        exact ⟨rfl, HS.out.2⟩
    · obtain rfl : j = 0 := by omega
      have x0 := HS.out.2.cell HX.out
      go_wp2_with ((go_at_call 36; refine (has_nil _ _).mono ?_; rintro e w' ⟨rfl, rfl⟩))
      go_roundw
      case rel => exact ⟨1, by omega, rfl, by first | rfl | trivial⟩
      case measure => simp [intOf]
end Go.Proofs.YtjhmbbioplhcgaaDoor
