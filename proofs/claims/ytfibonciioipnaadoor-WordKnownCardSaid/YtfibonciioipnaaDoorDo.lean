/-
  Layer 1, WordDo: its walk: any operation makes of any two numbers what the document says.
-/
import Derived.Test.YtfibonciioipnaaDoorRefDo
namespace Go.Proofs.YtfibonciioipnaaDoor
open Go.RowKit

set_option maxHeartbeats 400000 in
theorem refknown_low (op : Int) (w : World) (h1 : op < 1) : Calls Tryd.prog 13 #[.int .u8 op] w fun e w' => e = .returned (.bool false) ∧ w = w' := by
  go_enter Tryd.func13, Tryd.ntmps13
  go_wp2
  go_ret
  exact ⟨rfl, rfl⟩
set_option maxHeartbeats 400000 in
theorem refknown_high (op : Int) (w : World) (h1 : 1 ≤ op) (h2 : ¬ op ≤ 16) : Calls Tryd.prog 13 #[.int .u8 op] w fun e w' => e = .returned (.bool false) ∧ w = w' := by
  go_enter Tryd.func13, Tryd.ntmps13
  go_wp2
  go_ret
  exact ⟨rfl, rfl⟩
set_option maxHeartbeats 400000 in
theorem refknown_yes (op : Int) (w : World) (h1 : 1 ≤ op) (h2 : op ≤ 16) : Calls Tryd.prog 13 #[.int .u8 op] w fun e w' => e = .returned (.bool true) ∧ w = w' := by
  go_enter Tryd.func13, Tryd.ntmps13
  go_wp2
  go_ret
  exact ⟨rfl, rfl⟩
theorem refknown_any (op : Int) (w : World) : Calls Tryd.prog 13 #[.int .u8 op] w fun e w' => e = .returned (.bool (knownB op)) ∧ w = w' := by
  unfold knownB
  by_cases h1 : op < 1
  · refine (refknown_low op w h1).mono ?_
    rintro e w' ⟨rfl, rfl⟩
    simp; omega
  · by_cases h2 : op ≤ 16
    · refine (refknown_yes op w (by omega) h2).mono ?_
      rintro e w' ⟨rfl, rfl⟩
      simp; omega
    · refine (refknown_high op w (by omega) h2).mono ?_
      rintro e w' ⟨rfl, rfl⟩
      simp; omega

set_option maxHeartbeats 2000000 in
theorem worddo_any (op a b : Int) (w : World) (ha : InR a) (hb : InR b) (hT : Tab w) :
    Calls Tryd.prog 3 #[.int .u8 op, .int .i64 a, .int .i64 b] w fun e w' => e = .returned (.bool true) ∧ Kept w w' := by
  have HT := Lib.hid hT; clear hT
  have hQ := Kept.refl w
  have t1 : (opI op a b == opI op a b) = true := beq_self_eq_true _
  have t2 : (knownB op == knownB op) = true := beq_self_eq_true _
  go_enter Tryd.func3, Tryd.ntmps3
  go_wp2_with (first
    | (go_at_call 14; refine (works_any _ (hQ.tab HT.out)).mono ?_; rintro e w' ⟨rfl, hk⟩; replace hQ := Kept.trans hQ hk; clear hk)
    | (go_at_call 10; refine (do_any _ _ _ _ ha hb).mono ?_; rintro e w' ⟨rfl, hk⟩; replace hQ := Kept.trans hQ hk; clear hk)
    | (go_at_call 11; refine (refdo_any _ _ _ _ ha hb).mono ?_; rintro e w' ⟨rfl, rfl⟩)
    | (go_at_call 12; refine (known_any _ _).mono ?_; rintro e w' ⟨rfl, rfl⟩)
    | (go_at_call 13; refine (refknown_any _ _).mono ?_; rintro e w' ⟨rfl, rfl⟩))
  go_ret
  exact ⟨rfl, hQ⟩
end Go.Proofs.YtfibonciioipnaaDoor
