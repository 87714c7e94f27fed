/-
  Layer 1, WordFacts: its walk: what is told of operations, numbers and products is what the document says.
-/
import Derived.Test.YtfibonciioipnaaDoorRefHigh
namespace Go.Proofs.YtfibonciioipnaaDoor
open Go.RowKit

set_option maxRecDepth 100000 in
set_option maxHeartbeats 4000000 in
theorem facts_any (op a b : Int) (first second : Bool) (w : World) (ha : InR a) (hb : InR b) (hT : Tab w) :
    Calls Tryd.prog 5 #[.int .u8 op, .int .i64 a, .int .i64 b, .bool first, .bool second] w fun e w' => e = .returned (.bool true) ∧ Kept w w' := by
  have HT := Lib.hid hT; clear hT
  have hQ := Kept.refl w
  have t1 : (swapsB op == swapsB op) = true := beq_self_eq_true _
  have t2 : (groupsB op == groupsB op) = true := beq_self_eq_true _
  have t3 : (keepsN op == keepsN op) = true := beq_self_eq_true _
  have t4 : (keepsB op == keepsB op) = true := beq_self_eq_true _
  have t5 : (powN a == powN a) = true := beq_self_eq_true _
  have t6 : (powB a == powB a) = true := beq_self_eq_true _
  have t7 : (highI a b first second == highI a b first second) = true := beq_self_eq_true _
  go_enter Tryd.func5, Tryd.ntmps5
  go_wp2_with (first
    | (go_at_call 14; refine (works_any _ (hQ.tab HT.out)).mono ?_; rintro e w' ⟨rfl, hk⟩; replace hQ := Kept.trans hQ hk; clear hk)
    | (go_at_call 17; refine (keeps_any _ _).mono ?_; rintro e w' ⟨rfl, rfl⟩)
    | (go_at_call 18; refine (refkeeps_any _ _).mono ?_; rintro e w' ⟨rfl, rfl⟩)
    | (go_at_call 19; refine (power_any _ _ HT.out).mono ?_; rintro e w' ⟨rfl, rfl⟩)
    | (go_at_call 20; refine (refpower_any _ _).mono ?_; rintro e w' ⟨rfl, rfl⟩)
    | (go_at_call 21; refine (swaps_any _ _).mono ?_; rintro e w' ⟨rfl, rfl⟩)
    | (go_at_call 22; refine (refswaps_any _ _).mono ?_; rintro e w' ⟨rfl, rfl⟩)
    | (go_at_call 23; refine (groups_any _ _).mono ?_; rintro e w' ⟨rfl, rfl⟩)
    | (go_at_call 24; refine (refgroups_any _ _).mono ?_; rintro e w' ⟨rfl, rfl⟩)
    | (go_at_call 25; refine (high_any _ _ _ _ _ ha hb).mono ?_; rintro e w' ⟨rfl, rfl⟩)
    | (go_at_call 26; refine (refhigh_any _ _ _ _ _ ha hb).mono ?_; rintro e w' ⟨rfl, rfl⟩))
  go_ret
  exact ⟨rfl, hQ⟩
end Go.Proofs.YtfibonciioipnaaDoor
