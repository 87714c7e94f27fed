/-
  Layer 2: contracts of the small functions of term: has, Size, Deep, Node, New; of the reference's has.
-/
import Derived.Test.YtjhmbbioplhcgaaDoorTGraph
namespace Go.Proofs.YtjhmbbioplhcgaaDoor
open Go Go.RowKit

theorem ret_b {a b : Bool} (h : a = b) : Ending.returned (.bool a) = .returned (.bool b) := by rw [h]
theorem ret_i {a b : Int} (h : a = b) : Ending.returned (.int .i64 a) = .returned (.int .i64 b) := by rw [h]

set_option maxHeartbeats 400000 in
theorem has_cell (g n c : Nat) (a : Option Addr) (i : Int) (w : World) (hc : w.cell? ⟨g, 0, none⟩ = some (.slice a n c)) :
    Calls Tryd.prog 36 #[.pointer (some ⟨g, 0, none⟩), .int .i64 i] w fun e w' => e = .returned (.bool (hasB n i)) ∧ w = w' := by
  by_cases h0 : 0 ≤ i
  · by_cases h1 : i < n
    · have d1 : decide (i < (n : Int)) = true := decide_eq_true h1
      have d2 : hasB n i = true := (hasB_iff n i).2 ⟨h0, h1⟩
      have D2 := Lib.hid d2; clear d2
      go_enter Tryd.func36, Tryd.ntmps36
      go_wp2
      go_ret
      exact ⟨ret_b D2.out.symm, rfl⟩
    · have d1 : decide (i < (n : Int)) = false := decide_eq_false h1
      have d2 : hasB n i = false := by cases hb : hasB n i with | false => rfl | true => exact absurd ((hasB_iff n i).1 hb).2 h1
      have D2 := Lib.hid d2; clear d2
      go_enter Tryd.func36, Tryd.ntmps36
      go_wp2
      go_ret
      exact ⟨ret_b D2.out.symm, rfl⟩
  · have d1 : decide (0 ≤ i) = false := decide_eq_false h0
    have d2 : hasB n i = false := by cases hb : hasB n i with | false => rfl | true => exact absurd ((hasB_iff n i).1 hb).1 h0
    have D2 := Lib.hid d2; clear d2
    go_enter Tryd.func36, Tryd.ntmps36
    go_wp2
    go_ret
    exact ⟨ret_b D2.out.symm, rfl⟩
set_option maxHeartbeats 400000 in
theorem has_nil (i : Int) (w : World) :
    Calls Tryd.prog 36 #[.pointer none, .int .i64 i] w fun e w' => e = .returned (.bool false) ∧ w = w' := by
  go_enter Tryd.func36, Tryd.ntmps36
  go_wp2
  go_ret
  exact ⟨rfl, rfl⟩
set_option maxHeartbeats 400000 in
theorem refhas_any (n : Nat) (i : Int) (w : World) :
    Calls Tryd.prog 37 #[.int .i64 n, .int .i64 i] w fun e w' => e = .returned (.bool (hasB n i)) ∧ w = w' := by
  by_cases h0 : 0 ≤ i
  · by_cases h1 : i < n
    · have d2 : hasB n i = true := (hasB_iff n i).2 ⟨h0, h1⟩
      have d1 : decide (i < (n : Int)) = true := decide_eq_true h1
      have D2 := Lib.hid d2; clear d2
      go_enter Tryd.func37, Tryd.ntmps37
      go_wp2
      go_ret
      exact ⟨ret_b D2.out.symm, rfl⟩
    · have d1 : decide (i < (n : Int)) = false := decide_eq_false h1
      have d2 : hasB n i = false := by cases hb : hasB n i with | false => rfl | true => exact absurd ((hasB_iff n i).1 hb).2 h1
      have D2 := Lib.hid d2; clear d2
      go_enter Tryd.func37, Tryd.ntmps37
      go_wp2
      go_ret
      exact ⟨ret_b D2.out.symm, rfl⟩
  · have d1 : decide (0 ≤ i) = false := decide_eq_false h0
    have d2 : hasB n i = false := by cases hb : hasB n i with | false => rfl | true => exact absurd ((hasB_iff n i).1 hb).1 h0
    have D2 := Lib.hid d2; clear d2
    go_enter Tryd.func37, Tryd.ntmps37
    go_wp2
    go_ret
    exact ⟨ret_b D2.out.symm, rfl⟩
set_option maxHeartbeats 400000 in
theorem size_cell (g n c : Nat) (a : Option Addr) (w : World) (hc : w.cell? ⟨g, 0, none⟩ = some (.slice a n c)) :
    Calls Tryd.prog 15 #[.pointer (some ⟨g, 0, none⟩)] w fun e w' => e = .returned (.int .i64 n) ∧ w = w' := by
  go_enter Tryd.func15, Tryd.ntmps15
  go_wp2
  go_ret
  exact ⟨rfl, rfl⟩
set_option maxHeartbeats 400000 in
theorem size_nil (w : World) :
    Calls Tryd.prog 15 #[.pointer none] w fun e w' => e = .returned (.int .i64 0) ∧ w = w' := by
  go_enter Tryd.func15, Tryd.ntmps15
  go_wp2
  go_ret
  exact ⟨rfl, rfl⟩
end Go.Proofs.YtjhmbbioplhcgaaDoor
