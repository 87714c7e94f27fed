/-
  Layer 1: contracts of word.Groups, word.Swaps, word.Keeps: what they tell of any operation.
-/
import Derived.Test.YtfibonciioipnaaDoorWord
namespace Go.Proofs.YtfibonciioipnaaDoor
open Go.RowKit

theorem op_cases (op : Int) : op = 1 ∨ op = 2 ∨ op = 3 ∨ op = 4 ∨ op = 5 ∨ op = 6 ∨ op = 7 ∨ op = 8 ∨ op = 9 ∨ op = 10 ∨ op = 11 ∨ op = 12 ∨ op = 13 ∨ op = 14 ∨ op = 15 ∨ op = 16 ∨ knownB op = false := by
  by_cases hk : knownB op = false
  · exact Or.inr (Or.inr (Or.inr (Or.inr (Or.inr (Or.inr (Or.inr (Or.inr (Or.inr (Or.inr (Or.inr (Or.inr (Or.inr (Or.inr (Or.inr (Or.inr hk)))))))))))))))
  · have hk2 : knownB op = true := by simpa using hk
    unfold knownB at hk2
    simp at hk2
    omega
/-- Does it group? -/
def groupsB (op : Int) : Bool := op == 1 || op == 3 || op == 8 || op == 9 || op == 10
/-- Does it swap? -/
def swapsB (op : Int) : Bool := op == 16 || groupsB op
/-- What it keeps. -/
def keepsN (op : Int) : Int := if op == 3 || op == 4 || op == 6 then 1 else if op == 8 then -1 else 0
def keepsB (op : Int) : Bool := knownB op && !(op == 14 || op == 15 || op == 16)
set_option maxHeartbeats 1000000 in
theorem groups_none (op : Int) (w : World) (hk : knownB op = false) : Calls Tryd.prog 23 #[.int .u8 op] w fun e w' => e = .returned (.bool false) ∧ w = w' := by
  have e1 : (op == 1) = false := by simp only [beq_eq_false_iff_ne]; intro h; subst h; exact absurd hk (by decide)
  have e2 : (op == 2) = false := by simp only [beq_eq_false_iff_ne]; intro h; subst h; exact absurd hk (by decide)
  have e3 : (op == 3) = false := by simp only [beq_eq_false_iff_ne]; intro h; subst h; exact absurd hk (by decide)
  have e4 : (op == 4) = false := by simp only [beq_eq_false_iff_ne]; intro h; subst h; exact absurd hk (by decide)
  have e5 : (op == 5) = false := by simp only [beq_eq_false_iff_ne]; intro h; subst h; exact absurd hk (by decide)
  have e6 : (op == 6) = false := by simp only [beq_eq_false_iff_ne]; intro h; subst h; exact absurd hk (by decide)
  have e7 : (op == 7) = false := by simp only [beq_eq_false_iff_ne]; intro h; subst h; exact absurd hk (by decide)
  have e8 : (op == 8) = false := by simp only [beq_eq_false_iff_ne]; intro h; subst h; exact absurd hk (by decide)
  have e9 : (op == 9) = false := by simp only [beq_eq_false_iff_ne]; intro h; subst h; exact absurd hk (by decide)
  have e10 : (op == 10) = false := by simp only [beq_eq_false_iff_ne]; intro h; subst h; exact absurd hk (by decide)
  have e11 : (op == 11) = false := by simp only [beq_eq_false_iff_ne]; intro h; subst h; exact absurd hk (by decide)
  have e12 : (op == 12) = false := by simp only [beq_eq_false_iff_ne]; intro h; subst h; exact absurd hk (by decide)
  have e13 : (op == 13) = false := by simp only [beq_eq_false_iff_ne]; intro h; subst h; exact absurd hk (by decide)
  have e14 : (op == 14) = false := by simp only [beq_eq_false_iff_ne]; intro h; subst h; exact absurd hk (by decide)
  have e15 : (op == 15) = false := by simp only [beq_eq_false_iff_ne]; intro h; subst h; exact absurd hk (by decide)
  have e16 : (op == 16) = false := by simp only [beq_eq_false_iff_ne]; intro h; subst h; exact absurd hk (by decide)
  have HK := Lib.hid hk; clear hk
  go_enter Tryd.func23, Tryd.ntmps23
  go_wp2
  go_ret
  exact ⟨rfl, rfl⟩
set_option maxHeartbeats 400000 in
theorem groups_1 (w : World) : Calls Tryd.prog 23 #[.int .u8 1] w fun e w' => e = .returned (.bool (groupsB 1)) ∧ w = w' := by
  go_enter Tryd.func23, Tryd.ntmps23
  go_wp2
  go_ret
  exact ⟨rfl, rfl⟩
set_option maxHeartbeats 400000 in
theorem groups_2 (w : World) : Calls Tryd.prog 23 #[.int .u8 2] w fun e w' => e = .returned (.bool (groupsB 2)) ∧ w = w' := by
  go_enter Tryd.func23, Tryd.ntmps23
  go_wp2
  go_ret
  exact ⟨rfl, rfl⟩
set_option maxHeartbeats 400000 in
theorem groups_3 (w : World) : Calls Tryd.prog 23 #[.int .u8 3] w fun e w' => e = .returned (.bool (groupsB 3)) ∧ w = w' := by
  go_enter Tryd.func23, Tryd.ntmps23
  go_wp2
  go_ret
  exact ⟨rfl, rfl⟩
set_option maxHeartbeats 400000 in
theorem groups_4 (w : World) : Calls Tryd.prog 23 #[.int .u8 4] w fun e w' => e = .returned (.bool (groupsB 4)) ∧ w = w' := by
  go_enter Tryd.func23, Tryd.ntmps23
  go_wp2
  go_ret
  exact ⟨rfl, rfl⟩
set_option maxHeartbeats 400000 in
theorem groups_5 (w : World) : Calls Tryd.prog 23 #[.int .u8 5] w fun e w' => e = .returned (.bool (groupsB 5)) ∧ w = w' := by
  go_enter Tryd.func23, Tryd.ntmps23
  go_wp2
  go_ret
  exact ⟨rfl, rfl⟩
set_option maxHeartbeats 400000 in
theorem groups_6 (w : World) : Calls Tryd.prog 23 #[.int .u8 6] w fun e w' => e = .returned (.bool (groupsB 6)) ∧ w = w' := by
  go_enter Tryd.func23, Tryd.ntmps23
  go_wp2
  go_ret
  exact ⟨rfl, rfl⟩
set_option maxHeartbeats 400000 in
theorem groups_7 (w : World) : Calls Tryd.prog 23 #[.int .u8 7] w fun e w' => e = .returned (.bool (groupsB 7)) ∧ w = w' := by
  go_enter Tryd.func23, Tryd.ntmps23
  go_wp2
  go_ret
  exact ⟨rfl, rfl⟩
set_option maxHeartbeats 400000 in
theorem groups_8 (w : World) : Calls Tryd.prog 23 #[.int .u8 8] w fun e w' => e = .returned (.bool (groupsB 8)) ∧ w = w' := by
  go_enter Tryd.func23, Tryd.ntmps23
  go_wp2
  go_ret
  exact ⟨rfl, rfl⟩
set_option maxHeartbeats 400000 in
theorem groups_9 (w : World) : Calls Tryd.prog 23 #[.int .u8 9] w fun e w' => e = .returned (.bool (groupsB 9)) ∧ w = w' := by
  go_enter Tryd.func23, Tryd.ntmps23
  go_wp2
  go_ret
  exact ⟨rfl, rfl⟩
set_option maxHeartbeats 400000 in
theorem groups_10 (w : World) : Calls Tryd.prog 23 #[.int .u8 10] w fun e w' => e = .returned (.bool (groupsB 10)) ∧ w = w' := by
  go_enter Tryd.func23, Tryd.ntmps23
  go_wp2
  go_ret
  exact ⟨rfl, rfl⟩
set_option maxHeartbeats 400000 in
theorem groups_11 (w : World) : Calls Tryd.prog 23 #[.int .u8 11] w fun e w' => e = .returned (.bool (groupsB 11)) ∧ w = w' := by
  go_enter Tryd.func23, Tryd.ntmps23
  go_wp2
  go_ret
  exact ⟨rfl, rfl⟩
set_option maxHeartbeats 400000 in
theorem groups_12 (w : World) : Calls Tryd.prog 23 #[.int .u8 12] w fun e w' => e = .returned (.bool (groupsB 12)) ∧ w = w' := by
  go_enter Tryd.func23, Tryd.ntmps23
  go_wp2
  go_ret
  exact ⟨rfl, rfl⟩
set_option maxHeartbeats 400000 in
theorem groups_13 (w : World) : Calls Tryd.prog 23 #[.int .u8 13] w fun e w' => e = .returned (.bool (groupsB 13)) ∧ w = w' := by
  go_enter Tryd.func23, Tryd.ntmps23
  go_wp2
  go_ret
  exact ⟨rfl, rfl⟩
set_option maxHeartbeats 400000 in
theorem groups_14 (w : World) : Calls Tryd.prog 23 #[.int .u8 14] w fun e w' => e = .returned (.bool (groupsB 14)) ∧ w = w' := by
  go_enter Tryd.func23, Tryd.ntmps23
  go_wp2
  go_ret
  exact ⟨rfl, rfl⟩
set_option maxHeartbeats 400000 in
theorem groups_15 (w : World) : Calls Tryd.prog 23 #[.int .u8 15] w fun e w' => e = .returned (.bool (groupsB 15)) ∧ w = w' := by
  go_enter Tryd.func23, Tryd.ntmps23
  go_wp2
  go_ret
  exact ⟨rfl, rfl⟩
set_option maxHeartbeats 400000 in
theorem groups_16 (w : World) : Calls Tryd.prog 23 #[.int .u8 16] w fun e w' => e = .returned (.bool (groupsB 16)) ∧ w = w' := by
  go_enter Tryd.func23, Tryd.ntmps23
  go_wp2
  go_ret
  exact ⟨rfl, rfl⟩
theorem groups_any (op : Int) (w : World) : Calls Tryd.prog 23 #[.int .u8 op] w fun e w' => e = .returned (.bool (groupsB op)) ∧ w = w' := by
  rcases op_cases op with rfl | rfl | rfl | rfl | rfl | rfl | rfl | rfl | rfl | rfl | rfl | rfl | rfl | rfl | rfl | rfl | hk
  · exact groups_1 w
  · exact groups_2 w
  · exact groups_3 w
  · exact groups_4 w
  · exact groups_5 w
  · exact groups_6 w
  · exact groups_7 w
  · exact groups_8 w
  · exact groups_9 w
  · exact groups_10 w
  · exact groups_11 w
  · exact groups_12 w
  · exact groups_13 w
  · exact groups_14 w
  · exact groups_15 w
  · exact groups_16 w
  · have h : Value.bool (groupsB op) = Value.bool false := by
      have e1 : (op == 1) = false := by simp only [beq_eq_false_iff_ne]; intro h; subst h; exact absurd hk (by decide)
      have e2 : (op == 2) = false := by simp only [beq_eq_false_iff_ne]; intro h; subst h; exact absurd hk (by decide)
      have e3 : (op == 3) = false := by simp only [beq_eq_false_iff_ne]; intro h; subst h; exact absurd hk (by decide)
      have e4 : (op == 4) = false := by simp only [beq_eq_false_iff_ne]; intro h; subst h; exact absurd hk (by decide)
      have e5 : (op == 5) = false := by simp only [beq_eq_false_iff_ne]; intro h; subst h; exact absurd hk (by decide)
      have e6 : (op == 6) = false := by simp only [beq_eq_false_iff_ne]; intro h; subst h; exact absurd hk (by decide)
      have e7 : (op == 7) = false := by simp only [beq_eq_false_iff_ne]; intro h; subst h; exact absurd hk (by decide)
      have e8 : (op == 8) = false := by simp only [beq_eq_false_iff_ne]; intro h; subst h; exact absurd hk (by decide)
      have e9 : (op == 9) = false := by simp only [beq_eq_false_iff_ne]; intro h; subst h; exact absurd hk (by decide)
      have e10 : (op == 10) = false := by simp only [beq_eq_false_iff_ne]; intro h; subst h; exact absurd hk (by decide)
      have e11 : (op == 11) = false := by simp only [beq_eq_false_iff_ne]; intro h; subst h; exact absurd hk (by decide)
      have e12 : (op == 12) = false := by simp only [beq_eq_false_iff_ne]; intro h; subst h; exact absurd hk (by decide)
      have e13 : (op == 13) = false := by simp only [beq_eq_false_iff_ne]; intro h; subst h; exact absurd hk (by decide)
      have e14 : (op == 14) = false := by simp only [beq_eq_false_iff_ne]; intro h; subst h; exact absurd hk (by decide)
      have e15 : (op == 15) = false := by simp only [beq_eq_false_iff_ne]; intro h; subst h; exact absurd hk (by decide)
      have e16 : (op == 16) = false := by simp only [beq_eq_false_iff_ne]; intro h; subst h; exact absurd hk (by decide)
      simp [groupsB, e1, e3, e8, e9, e10]
    rw [h]; exact groups_none op w hk
set_option maxHeartbeats 1000000 in
theorem swaps_none (op : Int) (w : World) (hk : knownB op = false) : Calls Tryd.prog 21 #[.int .u8 op] w fun e w' => e = .returned (.bool false) ∧ w = w' := by
  have e1 : (op == 1) = false := by simp only [beq_eq_false_iff_ne]; intro h; subst h; exact absurd hk (by decide)
  have e2 : (op == 2) = false := by simp only [beq_eq_false_iff_ne]; intro h; subst h; exact absurd hk (by decide)
  have e3 : (op == 3) = false := by simp only [beq_eq_false_iff_ne]; intro h; subst h; exact absurd hk (by decide)
  have e4 : (op == 4) = false := by simp only [beq_eq_false_iff_ne]; intro h; subst h; exact absurd hk (by decide)
  have e5 : (op == 5) = false := by simp only [beq_eq_false_iff_ne]; intro h; subst h; exact absurd hk (by decide)
  have e6 : (op == 6) = false := by simp only [beq_eq_false_iff_ne]; intro h; subst h; exact absurd hk (by decide)
  have e7 : (op == 7) = false := by simp only [beq_eq_false_iff_ne]; intro h; subst h; exact absurd hk (by decide)
  have e8 : (op == 8) = false := by simp only [beq_eq_false_iff_ne]; intro h; subst h; exact absurd hk (by decide)
  have e9 : (op == 9) = false := by simp only [beq_eq_false_iff_ne]; intro h; subst h; exact absurd hk (by decide)
  have e10 : (op == 10) = false := by simp only [beq_eq_false_iff_ne]; intro h; subst h; exact absurd hk (by decide)
  have e11 : (op == 11) = false := by simp only [beq_eq_false_iff_ne]; intro h; subst h; exact absurd hk (by decide)
  have e12 : (op == 12) = false := by simp only [beq_eq_false_iff_ne]; intro h; subst h; exact absurd hk (by decide)
  have e13 : (op == 13) = false := by simp only [beq_eq_false_iff_ne]; intro h; subst h; exact absurd hk (by decide)
  have e14 : (op == 14) = false := by simp only [beq_eq_false_iff_ne]; intro h; subst h; exact absurd hk (by decide)
  have e15 : (op == 15) = false := by simp only [beq_eq_false_iff_ne]; intro h; subst h; exact absurd hk (by decide)
  have e16 : (op == 16) = false := by simp only [beq_eq_false_iff_ne]; intro h; subst h; exact absurd hk (by decide)
  have HK := Lib.hid hk; clear hk
  go_enter Tryd.func21, Tryd.ntmps21
  go_wp2_with (go_at_call 23; refine (groups_none _ _ HK.out).mono ?_; rintro e w' ⟨rfl, rfl⟩)
  go_ret
  exact ⟨rfl, rfl⟩
set_option maxHeartbeats 400000 in
theorem swaps_1 (w : World) : Calls Tryd.prog 21 #[.int .u8 1] w fun e w' => e = .returned (.bool (swapsB 1)) ∧ w = w' := by
  go_enter Tryd.func21, Tryd.ntmps21
  go_wp2_with (go_at_call 23; refine (groups_any _ _).mono ?_; rintro e w' ⟨rfl, rfl⟩)
  go_ret
  exact ⟨rfl, rfl⟩
set_option maxHeartbeats 400000 in
theorem swaps_2 (w : World) : Calls Tryd.prog 21 #[.int .u8 2] w fun e w' => e = .returned (.bool (swapsB 2)) ∧ w = w' := by
  go_enter Tryd.func21, Tryd.ntmps21
  go_wp2_with (go_at_call 23; refine (groups_any _ _).mono ?_; rintro e w' ⟨rfl, rfl⟩)
  go_ret
  exact ⟨rfl, rfl⟩
set_option maxHeartbeats 400000 in
theorem swaps_3 (w : World) : Calls Tryd.prog 21 #[.int .u8 3] w fun e w' => e = .returned (.bool (swapsB 3)) ∧ w = w' := by
  go_enter Tryd.func21, Tryd.ntmps21
  go_wp2_with (go_at_call 23; refine (groups_any _ _).mono ?_; rintro e w' ⟨rfl, rfl⟩)
  go_ret
  exact ⟨rfl, rfl⟩
set_option maxHeartbeats 400000 in
theorem swaps_4 (w : World) : Calls Tryd.prog 21 #[.int .u8 4] w fun e w' => e = .returned (.bool (swapsB 4)) ∧ w = w' := by
  go_enter Tryd.func21, Tryd.ntmps21
  go_wp2_with (go_at_call 23; refine (groups_any _ _).mono ?_; rintro e w' ⟨rfl, rfl⟩)
  go_ret
  exact ⟨rfl, rfl⟩
set_option maxHeartbeats 400000 in
theorem swaps_5 (w : World) : Calls Tryd.prog 21 #[.int .u8 5] w fun e w' => e = .returned (.bool (swapsB 5)) ∧ w = w' := by
  go_enter Tryd.func21, Tryd.ntmps21
  go_wp2_with (go_at_call 23; refine (groups_any _ _).mono ?_; rintro e w' ⟨rfl, rfl⟩)
  go_ret
  exact ⟨rfl, rfl⟩
set_option maxHeartbeats 400000 in
theorem swaps_6 (w : World) : Calls Tryd.prog 21 #[.int .u8 6] w fun e w' => e = .returned (.bool (swapsB 6)) ∧ w = w' := by
  go_enter Tryd.func21, Tryd.ntmps21
  go_wp2_with (go_at_call 23; refine (groups_any _ _).mono ?_; rintro e w' ⟨rfl, rfl⟩)
  go_ret
  exact ⟨rfl, rfl⟩
set_option maxHeartbeats 400000 in
theorem swaps_7 (w : World) : Calls Tryd.prog 21 #[.int .u8 7] w fun e w' => e = .returned (.bool (swapsB 7)) ∧ w = w' := by
  go_enter Tryd.func21, Tryd.ntmps21
  go_wp2_with (go_at_call 23; refine (groups_any _ _).mono ?_; rintro e w' ⟨rfl, rfl⟩)
  go_ret
  exact ⟨rfl, rfl⟩
set_option maxHeartbeats 400000 in
theorem swaps_8 (w : World) : Calls Tryd.prog 21 #[.int .u8 8] w fun e w' => e = .returned (.bool (swapsB 8)) ∧ w = w' := by
  go_enter Tryd.func21, Tryd.ntmps21
  go_wp2_with (go_at_call 23; refine (groups_any _ _).mono ?_; rintro e w' ⟨rfl, rfl⟩)
  go_ret
  exact ⟨rfl, rfl⟩
set_option maxHeartbeats 400000 in
theorem swaps_9 (w : World) : Calls Tryd.prog 21 #[.int .u8 9] w fun e w' => e = .returned (.bool (swapsB 9)) ∧ w = w' := by
  go_enter Tryd.func21, Tryd.ntmps21
  go_wp2_with (go_at_call 23; refine (groups_any _ _).mono ?_; rintro e w' ⟨rfl, rfl⟩)
  go_ret
  exact ⟨rfl, rfl⟩
set_option maxHeartbeats 400000 in
theorem swaps_10 (w : World) : Calls Tryd.prog 21 #[.int .u8 10] w fun e w' => e = .returned (.bool (swapsB 10)) ∧ w = w' := by
  go_enter Tryd.func21, Tryd.ntmps21
  go_wp2_with (go_at_call 23; refine (groups_any _ _).mono ?_; rintro e w' ⟨rfl, rfl⟩)
  go_ret
  exact ⟨rfl, rfl⟩
set_option maxHeartbeats 400000 in
theorem swaps_11 (w : World) : Calls Tryd.prog 21 #[.int .u8 11] w fun e w' => e = .returned (.bool (swapsB 11)) ∧ w = w' := by
  go_enter Tryd.func21, Tryd.ntmps21
  go_wp2_with (go_at_call 23; refine (groups_any _ _).mono ?_; rintro e w' ⟨rfl, rfl⟩)
  go_ret
  exact ⟨rfl, rfl⟩
set_option maxHeartbeats 400000 in
theorem swaps_12 (w : World) : Calls Tryd.prog 21 #[.int .u8 12] w fun e w' => e = .returned (.bool (swapsB 12)) ∧ w = w' := by
  go_enter Tryd.func21, Tryd.ntmps21
  go_wp2_with (go_at_call 23; refine (groups_any _ _).mono ?_; rintro e w' ⟨rfl, rfl⟩)
  go_ret
  exact ⟨rfl, rfl⟩
set_option maxHeartbeats 400000 in
theorem swaps_13 (w : World) : Calls Tryd.prog 21 #[.int .u8 13] w fun e w' => e = .returned (.bool (swapsB 13)) ∧ w = w' := by
  go_enter Tryd.func21, Tryd.ntmps21
  go_wp2_with (go_at_call 23; refine (groups_any _ _).mono ?_; rintro e w' ⟨rfl, rfl⟩)
  go_ret
  exact ⟨rfl, rfl⟩
set_option maxHeartbeats 400000 in
theorem swaps_14 (w : World) : Calls Tryd.prog 21 #[.int .u8 14] w fun e w' => e = .returned (.bool (swapsB 14)) ∧ w = w' := by
  go_enter Tryd.func21, Tryd.ntmps21
  go_wp2_with (go_at_call 23; refine (groups_any _ _).mono ?_; rintro e w' ⟨rfl, rfl⟩)
  go_ret
  exact ⟨rfl, rfl⟩
set_option maxHeartbeats 400000 in
theorem swaps_15 (w : World) : Calls Tryd.prog 21 #[.int .u8 15] w fun e w' => e = .returned (.bool (swapsB 15)) ∧ w = w' := by
  go_enter Tryd.func21, Tryd.ntmps21
  go_wp2_with (go_at_call 23; refine (groups_any _ _).mono ?_; rintro e w' ⟨rfl, rfl⟩)
  go_ret
  exact ⟨rfl, rfl⟩
set_option maxHeartbeats 400000 in
theorem swaps_16 (w : World) : Calls Tryd.prog 21 #[.int .u8 16] w fun e w' => e = .returned (.bool (swapsB 16)) ∧ w = w' := by
  go_enter Tryd.func21, Tryd.ntmps21
  go_wp2_with (go_at_call 23; refine (groups_any _ _).mono ?_; rintro e w' ⟨rfl, rfl⟩)
  go_ret
  exact ⟨rfl, rfl⟩
theorem swaps_any (op : Int) (w : World) : Calls Tryd.prog 21 #[.int .u8 op] w fun e w' => e = .returned (.bool (swapsB op)) ∧ w = w' := by
  rcases op_cases op with rfl | rfl | rfl | rfl | rfl | rfl | rfl | rfl | rfl | rfl | rfl | rfl | rfl | rfl | rfl | rfl | hk
  · exact swaps_1 w
  · exact swaps_2 w
  · exact swaps_3 w
  · exact swaps_4 w
  · exact swaps_5 w
  · exact swaps_6 w
  · exact swaps_7 w
  · exact swaps_8 w
  · exact swaps_9 w
  · exact swaps_10 w
  · exact swaps_11 w
  · exact swaps_12 w
  · exact swaps_13 w
  · exact swaps_14 w
  · exact swaps_15 w
  · exact swaps_16 w
  · have h : Value.bool (swapsB op) = Value.bool false := by
      have e1 : (op == 1) = false := by simp only [beq_eq_false_iff_ne]; intro h; subst h; exact absurd hk (by decide)
      have e2 : (op == 2) = false := by simp only [beq_eq_false_iff_ne]; intro h; subst h; exact absurd hk (by decide)
      have e3 : (op == 3) = false := by simp only [beq_eq_false_iff_ne]; intro h; subst h; exact absurd hk (by decide)
      have e4 : (op == 4) = false := by simp only [beq_eq_false_iff_ne]; intro h; subst h; exact absurd hk (by decide)
      have e5 : (op == 5) = false := by simp only [beq_eq_false_iff_ne]; intro h; subst h; exact absurd hk (by decide)
      have e6 : (op == 6) = false := by simp only [beq_eq_false_iff_ne]; intro h; subst h; exact absurd hk (by decide)
      have e7 : (op == 7) = false := by simp only [beq_eq_false_iff_ne]; intro h; subst h; exact absurd hk (by decide)
      have e8 : (op == 8) = false := by simp only [beq_eq_false_iff_ne]; intro h; subst h; exact absurd hk (by decide)
      have e9 : (op == 9) = false := by simp only [beq_eq_false_iff_ne]; intro h; subst h; exact absurd hk (by decide)
      have e10 : (op == 10) = false := by simp only [beq_eq_false_iff_ne]; intro h; subst h; exact absurd hk (by decide)
      have e11 : (op == 11) = false := by simp only [beq_eq_false_iff_ne]; intro h; subst h; exact absurd hk (by decide)
      have e12 : (op == 12) = false := by simp only [beq_eq_false_iff_ne]; intro h; subst h; exact absurd hk (by decide)
      have e13 : (op == 13) = false := by simp only [beq_eq_false_iff_ne]; intro h; subst h; exact absurd hk (by decide)
      have e14 : (op == 14) = false := by simp only [beq_eq_false_iff_ne]; intro h; subst h; exact absurd hk (by decide)
      have e15 : (op == 15) = false := by simp only [beq_eq_false_iff_ne]; intro h; subst h; exact absurd hk (by decide)
      have e16 : (op == 16) = false := by simp only [beq_eq_false_iff_ne]; intro h; subst h; exact absurd hk (by decide)
      simp [swapsB, groupsB, e1, e3, e8, e9, e10, e16]
    rw [h]; exact swaps_none op w hk
set_option maxHeartbeats 1000000 in
theorem keeps_none (op : Int) (w : World) (hk : knownB op = false) : Calls Tryd.prog 17 #[.int .u8 op] w fun e w' => e = .returned (.tuple #[.int .i64 0, .bool false]) ∧ w = w' := by
  have e1 : (op == 1) = false := by simp only [beq_eq_false_iff_ne]; intro h; subst h; exact absurd hk (by decide)
  have e2 : (op == 2) = false := by simp only [beq_eq_false_iff_ne]; intro h; subst h; exact absurd hk (by decide)
  have e3 : (op == 3) = false := by simp only [beq_eq_false_iff_ne]; intro h; subst h; exact absurd hk (by decide)
  have e4 : (op == 4) = false := by simp only [beq_eq_false_iff_ne]; intro h; subst h; exact absurd hk (by decide)
  have e5 : (op == 5) = false := by simp only [beq_eq_false_iff_ne]; intro h; subst h; exact absurd hk (by decide)
  have e6 : (op == 6) = false := by simp only [beq_eq_false_iff_ne]; intro h; subst h; exact absurd hk (by decide)
  have e7 : (op == 7) = false := by simp only [beq_eq_false_iff_ne]; intro h; subst h; exact absurd hk (by decide)
  have e8 : (op == 8) = false := by simp only [beq_eq_false_iff_ne]; intro h; subst h; exact absurd hk (by decide)
  have e9 : (op == 9) = false := by simp only [beq_eq_false_iff_ne]; intro h; subst h; exact absurd hk (by decide)
  have e10 : (op == 10) = false := by simp only [beq_eq_false_iff_ne]; intro h; subst h; exact absurd hk (by decide)
  have e11 : (op == 11) = false := by simp only [beq_eq_false_iff_ne]; intro h; subst h; exact absurd hk (by decide)
  have e12 : (op == 12) = false := by simp only [beq_eq_false_iff_ne]; intro h; subst h; exact absurd hk (by decide)
  have e13 : (op == 13) = false := by simp only [beq_eq_false_iff_ne]; intro h; subst h; exact absurd hk (by decide)
  have e14 : (op == 14) = false := by simp only [beq_eq_false_iff_ne]; intro h; subst h; exact absurd hk (by decide)
  have e15 : (op == 15) = false := by simp only [beq_eq_false_iff_ne]; intro h; subst h; exact absurd hk (by decide)
  have e16 : (op == 16) = false := by simp only [beq_eq_false_iff_ne]; intro h; subst h; exact absurd hk (by decide)
  have HK := Lib.hid hk; clear hk
  go_enter Tryd.func17, Tryd.ntmps17
  go_wp2
  go_ret2
  exact ⟨rfl, rfl⟩
set_option maxHeartbeats 400000 in
theorem keeps_1 (w : World) : Calls Tryd.prog 17 #[.int .u8 1] w fun e w' => e = .returned (.tuple #[.int .i64 (keepsN 1), .bool (keepsB 1)]) ∧ w = w' := by
  go_enter Tryd.func17, Tryd.ntmps17
  go_wp2
  go_ret2
  exact ⟨rfl, rfl⟩
set_option maxHeartbeats 400000 in
theorem keeps_2 (w : World) : Calls Tryd.prog 17 #[.int .u8 2] w fun e w' => e = .returned (.tuple #[.int .i64 (keepsN 2), .bool (keepsB 2)]) ∧ w = w' := by
  go_enter Tryd.func17, Tryd.ntmps17
  go_wp2
  go_ret2
  exact ⟨rfl, rfl⟩
set_option maxHeartbeats 400000 in
theorem keeps_3 (w : World) : Calls Tryd.prog 17 #[.int .u8 3] w fun e w' => e = .returned (.tuple #[.int .i64 (keepsN 3), .bool (keepsB 3)]) ∧ w = w' := by
  go_enter Tryd.func17, Tryd.ntmps17
  go_wp2
  go_ret2
  exact ⟨rfl, rfl⟩
set_option maxHeartbeats 400000 in
theorem keeps_4 (w : World) : Calls Tryd.prog 17 #[.int .u8 4] w fun e w' => e = .returned (.tuple #[.int .i64 (keepsN 4), .bool (keepsB 4)]) ∧ w = w' := by
  go_enter Tryd.func17, Tryd.ntmps17
  go_wp2
  go_ret2
  exact ⟨rfl, rfl⟩
set_option maxHeartbeats 400000 in
theorem keeps_5 (w : World) : Calls Tryd.prog 17 #[.int .u8 5] w fun e w' => e = .returned (.tuple #[.int .i64 (keepsN 5), .bool (keepsB 5)]) ∧ w = w' := by
  go_enter Tryd.func17, Tryd.ntmps17
  go_wp2
  go_ret2
  exact ⟨rfl, rfl⟩
set_option maxHeartbeats 400000 in
theorem keeps_6 (w : World) : Calls Tryd.prog 17 #[.int .u8 6] w fun e w' => e = .returned (.tuple #[.int .i64 (keepsN 6), .bool (keepsB 6)]) ∧ w = w' := by
  go_enter Tryd.func17, Tryd.ntmps17
  go_wp2
  go_ret2
  exact ⟨rfl, rfl⟩
set_option maxHeartbeats 400000 in
theorem keeps_7 (w : World) : Calls Tryd.prog 17 #[.int .u8 7] w fun e w' => e = .returned (.tuple #[.int .i64 (keepsN 7), .bool (keepsB 7)]) ∧ w = w' := by
  go_enter Tryd.func17, Tryd.ntmps17
  go_wp2
  go_ret2
  exact ⟨rfl, rfl⟩
set_option maxHeartbeats 400000 in
theorem keeps_8 (w : World) : Calls Tryd.prog 17 #[.int .u8 8] w fun e w' => e = .returned (.tuple #[.int .i64 (keepsN 8), .bool (keepsB 8)]) ∧ w = w' := by
  go_enter Tryd.func17, Tryd.ntmps17
  go_wp2
  go_ret2
  exact ⟨rfl, rfl⟩
set_option maxHeartbeats 400000 in
theorem keeps_9 (w : World) : Calls Tryd.prog 17 #[.int .u8 9] w fun e w' => e = .returned (.tuple #[.int .i64 (keepsN 9), .bool (keepsB 9)]) ∧ w = w' := by
  go_enter Tryd.func17, Tryd.ntmps17
  go_wp2
  go_ret2
  exact ⟨rfl, rfl⟩
set_option maxHeartbeats 400000 in
theorem keeps_10 (w : World) : Calls Tryd.prog 17 #[.int .u8 10] w fun e w' => e = .returned (.tuple #[.int .i64 (keepsN 10), .bool (keepsB 10)]) ∧ w = w' := by
  go_enter Tryd.func17, Tryd.ntmps17
  go_wp2
  go_ret2
  exact ⟨rfl, rfl⟩
set_option maxHeartbeats 400000 in
theorem keeps_11 (w : World) : Calls Tryd.prog 17 #[.int .u8 11] w fun e w' => e = .returned (.tuple #[.int .i64 (keepsN 11), .bool (keepsB 11)]) ∧ w = w' := by
  go_enter Tryd.func17, Tryd.ntmps17
  go_wp2
  go_ret2
  exact ⟨rfl, rfl⟩
set_option maxHeartbeats 400000 in
theorem keeps_12 (w : World) : Calls Tryd.prog 17 #[.int .u8 12] w fun e w' => e = .returned (.tuple #[.int .i64 (keepsN 12), .bool (keepsB 12)]) ∧ w = w' := by
  go_enter Tryd.func17, Tryd.ntmps17
  go_wp2
  go_ret2
  exact ⟨rfl, rfl⟩
set_option maxHeartbeats 400000 in
theorem keeps_13 (w : World) : Calls Tryd.prog 17 #[.int .u8 13] w fun e w' => e = .returned (.tuple #[.int .i64 (keepsN 13), .bool (keepsB 13)]) ∧ w = w' := by
  go_enter Tryd.func17, Tryd.ntmps17
  go_wp2
  go_ret2
  exact ⟨rfl, rfl⟩
set_option maxHeartbeats 400000 in
theorem keeps_14 (w : World) : Calls Tryd.prog 17 #[.int .u8 14] w fun e w' => e = .returned (.tuple #[.int .i64 (keepsN 14), .bool (keepsB 14)]) ∧ w = w' := by
  go_enter Tryd.func17, Tryd.ntmps17
  go_wp2
  go_ret2
  exact ⟨rfl, rfl⟩
set_option maxHeartbeats 400000 in
theorem keeps_15 (w : World) : Calls Tryd.prog 17 #[.int .u8 15] w fun e w' => e = .returned (.tuple #[.int .i64 (keepsN 15), .bool (keepsB 15)]) ∧ w = w' := by
  go_enter Tryd.func17, Tryd.ntmps17
  go_wp2
  go_ret2
  exact ⟨rfl, rfl⟩
set_option maxHeartbeats 400000 in
theorem keeps_16 (w : World) : Calls Tryd.prog 17 #[.int .u8 16] w fun e w' => e = .returned (.tuple #[.int .i64 (keepsN 16), .bool (keepsB 16)]) ∧ w = w' := by
  go_enter Tryd.func17, Tryd.ntmps17
  go_wp2
  go_ret2
  exact ⟨rfl, rfl⟩
theorem keeps_any (op : Int) (w : World) : Calls Tryd.prog 17 #[.int .u8 op] w fun e w' => e = .returned (.tuple #[.int .i64 (keepsN op), .bool (keepsB op)]) ∧ w = w' := by
  rcases op_cases op with rfl | rfl | rfl | rfl | rfl | rfl | rfl | rfl | rfl | rfl | rfl | rfl | rfl | rfl | rfl | rfl | hk
  · exact keeps_1 w
  · exact keeps_2 w
  · exact keeps_3 w
  · exact keeps_4 w
  · exact keeps_5 w
  · exact keeps_6 w
  · exact keeps_7 w
  · exact keeps_8 w
  · exact keeps_9 w
  · exact keeps_10 w
  · exact keeps_11 w
  · exact keeps_12 w
  · exact keeps_13 w
  · exact keeps_14 w
  · exact keeps_15 w
  · exact keeps_16 w
  · have h : Value.tuple #[.int .i64 (keepsN op), .bool (keepsB op)] = Value.tuple #[.int .i64 0, .bool false] := by
      have e1 : (op == 1) = false := by simp only [beq_eq_false_iff_ne]; intro h; subst h; exact absurd hk (by decide)
      have e2 : (op == 2) = false := by simp only [beq_eq_false_iff_ne]; intro h; subst h; exact absurd hk (by decide)
      have e3 : (op == 3) = false := by simp only [beq_eq_false_iff_ne]; intro h; subst h; exact absurd hk (by decide)
      have e4 : (op == 4) = false := by simp only [beq_eq_false_iff_ne]; intro h; subst h; exact absurd hk (by decide)
      have e5 : (op == 5) = false := by simp only [beq_eq_false_iff_ne]; intro h; subst h; exact absurd hk (by decide)
      have e6 : (op == 6) = false := by simp only [beq_eq_false_iff_ne]; intro h; subst h; exact absurd hk (by decide)
      have e7 : (op == 7) = false := by simp only [beq_eq_false_iff_ne]; intro h; subst h; exact absurd hk (by decide)
      have e8 : (op == 8) = false := by simp only [beq_eq_false_iff_ne]; intro h; subst h; exact absurd hk (by decide)
      have e9 : (op == 9) = false := by simp only [beq_eq_false_iff_ne]; intro h; subst h; exact absurd hk (by decide)
      have e10 : (op == 10) = false := by simp only [beq_eq_false_iff_ne]; intro h; subst h; exact absurd hk (by decide)
      have e11 : (op == 11) = false := by simp only [beq_eq_false_iff_ne]; intro h; subst h; exact absurd hk (by decide)
      have e12 : (op == 12) = false := by simp only [beq_eq_false_iff_ne]; intro h; subst h; exact absurd hk (by decide)
      have e13 : (op == 13) = false := by simp only [beq_eq_false_iff_ne]; intro h; subst h; exact absurd hk (by decide)
      have e14 : (op == 14) = false := by simp only [beq_eq_false_iff_ne]; intro h; subst h; exact absurd hk (by decide)
      have e15 : (op == 15) = false := by simp only [beq_eq_false_iff_ne]; intro h; subst h; exact absurd hk (by decide)
      have e16 : (op == 16) = false := by simp only [beq_eq_false_iff_ne]; intro h; subst h; exact absurd hk (by decide)
      simp [keepsN, keepsB, hk, e3, e4, e6, e8]
    rw [h]; exact keeps_none op w hk
end Go.Proofs.YtfibonciioipnaaDoor
