/-
  Layer 1, the document's own answers: Groups, Swaps, Keeps, Power, High.
-/
import Derived.Test.YtfibonciioipnaaDoorRefDo
namespace Go.Proofs.YtfibonciioipnaaDoor
open Go.RowKit
set_option maxHeartbeats 1000000 in
theorem refgroups_none (op : Int) (w : World) (hk : knownB op = false) : Calls Tryd.prog 24 #[.int .u8 op] w fun e w' => e = .returned (.bool false) ∧ w = w' := by
  have e1 : (op == 1) = false := by simp only [beq_eq_false_iff_ne]; intro h; subst h; exact absurd hk (by decide)
  have e2 : (op == 2) = false := by simp only [beq_eq_false_iff_ne]; intro h; subst h; exact absurd hk (by decide)
  have e3 : (op == 3) = false := by simp only [beq_eq_false_iff_ne]; intro h; subst h; exact absurd hk (by decide)
  have e4 : (op == 4) = false := by simp only [beq_eq_false_iff_ne]; intro h; subst h; exact absurd hk (by decide)
  have e5 : (op == 5) = false := by simp only [beq_eq_false_iff_ne]; intro h; subst h; exact absurd hk (by decide)
  have e6 : (op == 6) = false := by simp only [beq_eq_false_iff_ne]; intro h; subst h; exact absurd hk (by decide)
  have e7 : (op == 7) = false := by simp only [beq_eq_false_iff_ne]; intro h; subst h; exact absurd hk (by decide)
  have e8 : (op == 8) = false := by simp only [beq_eq_false_iff_ne]; intro h; subst h; exact absurd hk (by decide)
  have e9 : (op == 9) = false := by simp only [beq_eq_false_iff_ne]; intro h; subst h; exact absurd hk (by decide)
  have e10 : (op == 10) = false := by simp only [beq_eq_false_iff_ne]; intro h; subst h; exact absurd hk (by decide)
  have e11 : (op == 11) = false := by simp only [beq_eq_false_iff_ne]; intro h; subst h; exact absurd hk (by decide)
  have e12 : (op == 12) = false := by simp only [beq_eq_false_iff_ne]; intro h; subst h; exact absurd hk (by decide)
  have e13 : (op == 13) = false := by simp only [beq_eq_false_iff_ne]; intro h; subst h; exact absurd hk (by decide)
  have e14 : (op == 14) = false := by simp only [beq_eq_false_iff_ne]; intro h; subst h; exact absurd hk (by decide)
  have e15 : (op == 15) = false := by simp only [beq_eq_false_iff_ne]; intro h; subst h; exact absurd hk (by decide)
  have e16 : (op == 16) = false := by simp only [beq_eq_false_iff_ne]; intro h; subst h; exact absurd hk (by decide)
  clear hk
  go_enter Tryd.func24, Tryd.ntmps24
  go_wp2
  go_ret
  exact ⟨rfl, rfl⟩
set_option maxHeartbeats 400000 in
theorem refgroups_1 (w : World) : Calls Tryd.prog 24 #[.int .u8 1] w fun e w' => e = .returned (.bool (groupsB 1)) ∧ w = w' := by
  go_enter Tryd.func24, Tryd.ntmps24
  go_wp2
  go_ret
  exact ⟨rfl, rfl⟩
set_option maxHeartbeats 400000 in
theorem refgroups_2 (w : World) : Calls Tryd.prog 24 #[.int .u8 2] w fun e w' => e = .returned (.bool (groupsB 2)) ∧ w = w' := by
  go_enter Tryd.func24, Tryd.ntmps24
  go_wp2
  go_ret
  exact ⟨rfl, rfl⟩
set_option maxHeartbeats 400000 in
theorem refgroups_3 (w : World) : Calls Tryd.prog 24 #[.int .u8 3] w fun e w' => e = .returned (.bool (groupsB 3)) ∧ w = w' := by
  go_enter Tryd.func24, Tryd.ntmps24
  go_wp2
  go_ret
  exact ⟨rfl, rfl⟩
set_option maxHeartbeats 400000 in
theorem refgroups_4 (w : World) : Calls Tryd.prog 24 #[.int .u8 4] w fun e w' => e = .returned (.bool (groupsB 4)) ∧ w = w' := by
  go_enter Tryd.func24, Tryd.ntmps24
  go_wp2
  go_ret
  exact ⟨rfl, rfl⟩
set_option maxHeartbeats 400000 in
theorem refgroups_5 (w : World) : Calls Tryd.prog 24 #[.int .u8 5] w fun e w' => e = .returned (.bool (groupsB 5)) ∧ w = w' := by
  go_enter Tryd.func24, Tryd.ntmps24
  go_wp2
  go_ret
  exact ⟨rfl, rfl⟩
set_option maxHeartbeats 400000 in
theorem refgroups_6 (w : World) : Calls Tryd.prog 24 #[.int .u8 6] w fun e w' => e = .returned (.bool (groupsB 6)) ∧ w = w' := by
  go_enter Tryd.func24, Tryd.ntmps24
  go_wp2
  go_ret
  exact ⟨rfl, rfl⟩
set_option maxHeartbeats 400000 in
theorem refgroups_7 (w : World) : Calls Tryd.prog 24 #[.int .u8 7] w fun e w' => e = .returned (.bool (groupsB 7)) ∧ w = w' := by
  go_enter Tryd.func24, Tryd.ntmps24
  go_wp2
  go_ret
  exact ⟨rfl, rfl⟩
set_option maxHeartbeats 400000 in
theorem refgroups_8 (w : World) : Calls Tryd.prog 24 #[.int .u8 8] w fun e w' => e = .returned (.bool (groupsB 8)) ∧ w = w' := by
  go_enter Tryd.func24, Tryd.ntmps24
  go_wp2
  go_ret
  exact ⟨rfl, rfl⟩
set_option maxHeartbeats 400000 in
theorem refgroups_9 (w : World) : Calls Tryd.prog 24 #[.int .u8 9] w fun e w' => e = .returned (.bool (groupsB 9)) ∧ w = w' := by
  go_enter Tryd.func24, Tryd.ntmps24
  go_wp2
  go_ret
  exact ⟨rfl, rfl⟩
set_option maxHeartbeats 400000 in
theorem refgroups_10 (w : World) : Calls Tryd.prog 24 #[.int .u8 10] w fun e w' => e = .returned (.bool (groupsB 10)) ∧ w = w' := by
  go_enter Tryd.func24, Tryd.ntmps24
  go_wp2
  go_ret
  exact ⟨rfl, rfl⟩
set_option maxHeartbeats 400000 in
theorem refgroups_11 (w : World) : Calls Tryd.prog 24 #[.int .u8 11] w fun e w' => e = .returned (.bool (groupsB 11)) ∧ w = w' := by
  go_enter Tryd.func24, Tryd.ntmps24
  go_wp2
  go_ret
  exact ⟨rfl, rfl⟩
set_option maxHeartbeats 400000 in
theorem refgroups_12 (w : World) : Calls Tryd.prog 24 #[.int .u8 12] w fun e w' => e = .returned (.bool (groupsB 12)) ∧ w = w' := by
  go_enter Tryd.func24, Tryd.ntmps24
  go_wp2
  go_ret
  exact ⟨rfl, rfl⟩
set_option maxHeartbeats 400000 in
theorem refgroups_13 (w : World) : Calls Tryd.prog 24 #[.int .u8 13] w fun e w' => e = .returned (.bool (groupsB 13)) ∧ w = w' := by
  go_enter Tryd.func24, Tryd.ntmps24
  go_wp2
  go_ret
  exact ⟨rfl, rfl⟩
set_option maxHeartbeats 400000 in
theorem refgroups_14 (w : World) : Calls Tryd.prog 24 #[.int .u8 14] w fun e w' => e = .returned (.bool (groupsB 14)) ∧ w = w' := by
  go_enter Tryd.func24, Tryd.ntmps24
  go_wp2
  go_ret
  exact ⟨rfl, rfl⟩
set_option maxHeartbeats 400000 in
theorem refgroups_15 (w : World) : Calls Tryd.prog 24 #[.int .u8 15] w fun e w' => e = .returned (.bool (groupsB 15)) ∧ w = w' := by
  go_enter Tryd.func24, Tryd.ntmps24
  go_wp2
  go_ret
  exact ⟨rfl, rfl⟩
set_option maxHeartbeats 400000 in
theorem refgroups_16 (w : World) : Calls Tryd.prog 24 #[.int .u8 16] w fun e w' => e = .returned (.bool (groupsB 16)) ∧ w = w' := by
  go_enter Tryd.func24, Tryd.ntmps24
  go_wp2
  go_ret
  exact ⟨rfl, rfl⟩
theorem refgroups_any (op : Int) (w : World) : Calls Tryd.prog 24 #[.int .u8 op] w fun e w' => e = .returned (.bool (groupsB op)) ∧ w = w' := by
  rcases op_cases op with rfl | rfl | rfl | rfl | rfl | rfl | rfl | rfl | rfl | rfl | rfl | rfl | rfl | rfl | rfl | rfl | hk
  · exact refgroups_1 w
  · exact refgroups_2 w
  · exact refgroups_3 w
  · exact refgroups_4 w
  · exact refgroups_5 w
  · exact refgroups_6 w
  · exact refgroups_7 w
  · exact refgroups_8 w
  · exact refgroups_9 w
  · exact refgroups_10 w
  · exact refgroups_11 w
  · exact refgroups_12 w
  · exact refgroups_13 w
  · exact refgroups_14 w
  · exact refgroups_15 w
  · exact refgroups_16 w
  · have h : Value.bool (groupsB op) = Value.bool false := by
      have e1 : (op == 1) = false := by simp only [beq_eq_false_iff_ne]; intro h; subst h; exact absurd hk (by decide)
      have e2 : (op == 2) = false := by simp only [beq_eq_false_iff_ne]; intro h; subst h; exact absurd hk (by decide)
      have e3 : (op == 3) = false := by simp only [beq_eq_false_iff_ne]; intro h; subst h; exact absurd hk (by decide)
      have e4 : (op == 4) = false := by simp only [beq_eq_false_iff_ne]; intro h; subst h; exact absurd hk (by decide)
      have e5 : (op == 5) = false := by simp only [beq_eq_false_iff_ne]; intro h; subst h; exact absurd hk (by decide)
      have e6 : (op == 6) = false := by simp only [beq_eq_false_iff_ne]; intro h; subst h; exact absurd hk (by decide)
      have e7 : (op == 7) = false := by simp only [beq_eq_false_iff_ne]; intro h; subst h; exact absurd hk (by decide)
      have e8 : (op == 8) = false := by simp only [beq_eq_false_iff_ne]; intro h; subst h; exact absurd hk (by decide)
      have e9 : (op == 9) = false := by simp only [beq_eq_false_iff_ne]; intro h; subst h; exact absurd hk (by decide)
      have e10 : (op == 10) = false := by simp only [beq_eq_false_iff_ne]; intro h; subst h; exact absurd hk (by decide)
      have e11 : (op == 11) = false := by simp only [beq_eq_false_iff_ne]; intro h; subst h; exact absurd hk (by decide)
      have e12 : (op == 12) = false := by simp only [beq_eq_false_iff_ne]; intro h; subst h; exact absurd hk (by decide)
      have e13 : (op == 13) = false := by simp only [beq_eq_false_iff_ne]; intro h; subst h; exact absurd hk (by decide)
      have e14 : (op == 14) = false := by simp only [beq_eq_false_iff_ne]; intro h; subst h; exact absurd hk (by decide)
      have e15 : (op == 15) = false := by simp only [beq_eq_false_iff_ne]; intro h; subst h; exact absurd hk (by decide)
      have e16 : (op == 16) = false := by simp only [beq_eq_false_iff_ne]; intro h; subst h; exact absurd hk (by decide)
      simp [groupsB, e1, e3, e8, e9, e10]
    rw [h]; exact refgroups_none op w hk
set_option maxHeartbeats 1000000 in
theorem refswaps_none (op : Int) (w : World) (hk : knownB op = false) : Calls Tryd.prog 22 #[.int .u8 op] w fun e w' => e = .returned (.bool false) ∧ w = w' := by
  have e1 : (op == 1) = false := by simp only [beq_eq_false_iff_ne]; intro h; subst h; exact absurd hk (by decide)
  have e2 : (op == 2) = false := by simp only [beq_eq_false_iff_ne]; intro h; subst h; exact absurd hk (by decide)
  have e3 : (op == 3) = false := by simp only [beq_eq_false_iff_ne]; intro h; subst h; exact absurd hk (by decide)
  have e4 : (op == 4) = false := by simp only [beq_eq_false_iff_ne]; intro h; subst h; exact absurd hk (by decide)
  have e5 : (op == 5) = false := by simp only [beq_eq_false_iff_ne]; intro h; subst h; exact absurd hk (by decide)
  have e6 : (op == 6) = false := by simp only [beq_eq_false_iff_ne]; intro h; subst h; exact absurd hk (by decide)
  have e7 : (op == 7) = false := by simp only [beq_eq_false_iff_ne]; intro h; subst h; exact absurd hk (by decide)
  have e8 : (op == 8) = false := by simp only [beq_eq_false_iff_ne]; intro h; subst h; exact absurd hk (by decide)
  have e9 : (op == 9) = false := by simp only [beq_eq_false_iff_ne]; intro h; subst h; exact absurd hk (by decide)
  have e10 : (op == 10) = false := by simp only [beq_eq_false_iff_ne]; intro h; subst h; exact absurd hk (by decide)
  have e11 : (op == 11) = false := by simp only [beq_eq_false_iff_ne]; intro h; subst h; exact absurd hk (by decide)
  have e12 : (op == 12) = false := by simp only [beq_eq_false_iff_ne]; intro h; subst h; exact absurd hk (by decide)
  have e13 : (op == 13) = false := by simp only [beq_eq_false_iff_ne]; intro h; subst h; exact absurd hk (by decide)
  have e14 : (op == 14) = false := by simp only [beq_eq_false_iff_ne]; intro h; subst h; exact absurd hk (by decide)
  have e15 : (op == 15) = false := by simp only [beq_eq_false_iff_ne]; intro h; subst h; exact absurd hk (by decide)
  have e16 : (op == 16) = false := by simp only [beq_eq_false_iff_ne]; intro h; subst h; exact absurd hk (by decide)
  clear hk
  go_enter Tryd.func22, Tryd.ntmps22
  go_wp2
  go_ret
  exact ⟨rfl, rfl⟩
set_option maxHeartbeats 400000 in
theorem refswaps_1 (w : World) : Calls Tryd.prog 22 #[.int .u8 1] w fun e w' => e = .returned (.bool (swapsB 1)) ∧ w = w' := by
  go_enter Tryd.func22, Tryd.ntmps22
  go_wp2
  go_ret
  exact ⟨rfl, rfl⟩
set_option maxHeartbeats 400000 in
theorem refswaps_2 (w : World) : Calls Tryd.prog 22 #[.int .u8 2] w fun e w' => e = .returned (.bool (swapsB 2)) ∧ w = w' := by
  go_enter Tryd.func22, Tryd.ntmps22
  go_wp2
  go_ret
  exact ⟨rfl, rfl⟩
set_option maxHeartbeats 400000 in
theorem refswaps_3 (w : World) : Calls Tryd.prog 22 #[.int .u8 3] w fun e w' => e = .returned (.bool (swapsB 3)) ∧ w = w' := by
  go_enter Tryd.func22, Tryd.ntmps22
  go_wp2
  go_ret
  exact ⟨rfl, rfl⟩
set_option maxHeartbeats 400000 in
theorem refswaps_4 (w : World) : Calls Tryd.prog 22 #[.int .u8 4] w fun e w' => e = .returned (.bool (swapsB 4)) ∧ w = w' := by
  go_enter Tryd.func22, Tryd.ntmps22
  go_wp2
  go_ret
  exact ⟨rfl, rfl⟩
set_option maxHeartbeats 400000 in
theorem refswaps_5 (w : World) : Calls Tryd.prog 22 #[.int .u8 5] w fun e w' => e = .returned (.bool (swapsB 5)) ∧ w = w' := by
  go_enter Tryd.func22, Tryd.ntmps22
  go_wp2
  go_ret
  exact ⟨rfl, rfl⟩
set_option maxHeartbeats 400000 in
theorem refswaps_6 (w : World) : Calls Tryd.prog 22 #[.int .u8 6] w fun e w' => e = .returned (.bool (swapsB 6)) ∧ w = w' := by
  go_enter Tryd.func22, Tryd.ntmps22
  go_wp2
  go_ret
  exact ⟨rfl, rfl⟩
set_option maxHeartbeats 400000 in
theorem refswaps_7 (w : World) : Calls Tryd.prog 22 #[.int .u8 7] w fun e w' => e = .returned (.bool (swapsB 7)) ∧ w = w' := by
  go_enter Tryd.func22, Tryd.ntmps22
  go_wp2
  go_ret
  exact ⟨rfl, rfl⟩
set_option maxHeartbeats 400000 in
theorem refswaps_8 (w : World) : Calls Tryd.prog 22 #[.int .u8 8] w fun e w' => e = .returned (.bool (swapsB 8)) ∧ w = w' := by
  go_enter Tryd.func22, Tryd.ntmps22
  go_wp2
  go_ret
  exact ⟨rfl, rfl⟩
set_option maxHeartbeats 400000 in
theorem refswaps_9 (w : World) : Calls Tryd.prog 22 #[.int .u8 9] w fun e w' => e = .returned (.bool (swapsB 9)) ∧ w = w' := by
  go_enter Tryd.func22, Tryd.ntmps22
  go_wp2
  go_ret
  exact ⟨rfl, rfl⟩
set_option maxHeartbeats 400000 in
theorem refswaps_10 (w : World) : Calls Tryd.prog 22 #[.int .u8 10] w fun e w' => e = .returned (.bool (swapsB 10)) ∧ w = w' := by
  go_enter Tryd.func22, Tryd.ntmps22
  go_wp2
  go_ret
  exact ⟨rfl, rfl⟩
set_option maxHeartbeats 400000 in
theorem refswaps_11 (w : World) : Calls Tryd.prog 22 #[.int .u8 11] w fun e w' => e = .returned (.bool (swapsB 11)) ∧ w = w' := by
  go_enter Tryd.func22, Tryd.ntmps22
  go_wp2
  go_ret
  exact ⟨rfl, rfl⟩
set_option maxHeartbeats 400000 in
theorem refswaps_12 (w : World) : Calls Tryd.prog 22 #[.int .u8 12] w fun e w' => e = .returned (.bool (swapsB 12)) ∧ w = w' := by
  go_enter Tryd.func22, Tryd.ntmps22
  go_wp2
  go_ret
  exact ⟨rfl, rfl⟩
set_option maxHeartbeats 400000 in
theorem refswaps_13 (w : World) : Calls Tryd.prog 22 #[.int .u8 13] w fun e w' => e = .returned (.bool (swapsB 13)) ∧ w = w' := by
  go_enter Tryd.func22, Tryd.ntmps22
  go_wp2
  go_ret
  exact ⟨rfl, rfl⟩
set_option maxHeartbeats 400000 in
theorem refswaps_14 (w : World) : Calls Tryd.prog 22 #[.int .u8 14] w fun e w' => e = .returned (.bool (swapsB 14)) ∧ w = w' := by
  go_enter Tryd.func22, Tryd.ntmps22
  go_wp2
  go_ret
  exact ⟨rfl, rfl⟩
set_option maxHeartbeats 400000 in
theorem refswaps_15 (w : World) : Calls Tryd.prog 22 #[.int .u8 15] w fun e w' => e = .returned (.bool (swapsB 15)) ∧ w = w' := by
  go_enter Tryd.func22, Tryd.ntmps22
  go_wp2
  go_ret
  exact ⟨rfl, rfl⟩
set_option maxHeartbeats 400000 in
theorem refswaps_16 (w : World) : Calls Tryd.prog 22 #[.int .u8 16] w fun e w' => e = .returned (.bool (swapsB 16)) ∧ w = w' := by
  go_enter Tryd.func22, Tryd.ntmps22
  go_wp2
  go_ret
  exact ⟨rfl, rfl⟩
theorem refswaps_any (op : Int) (w : World) : Calls Tryd.prog 22 #[.int .u8 op] w fun e w' => e = .returned (.bool (swapsB op)) ∧ w = w' := by
  rcases op_cases op with rfl | rfl | rfl | rfl | rfl | rfl | rfl | rfl | rfl | rfl | rfl | rfl | rfl | rfl | rfl | rfl | hk
  · exact refswaps_1 w
  · exact refswaps_2 w
  · exact refswaps_3 w
  · exact refswaps_4 w
  · exact refswaps_5 w
  · exact refswaps_6 w
  · exact refswaps_7 w
  · exact refswaps_8 w
  · exact refswaps_9 w
  · exact refswaps_10 w
  · exact refswaps_11 w
  · exact refswaps_12 w
  · exact refswaps_13 w
  · exact refswaps_14 w
  · exact refswaps_15 w
  · exact refswaps_16 w
  · have h : Value.bool (swapsB op) = Value.bool false := by
      have e1 : (op == 1) = false := by simp only [beq_eq_false_iff_ne]; intro h; subst h; exact absurd hk (by decide)
      have e2 : (op == 2) = false := by simp only [beq_eq_false_iff_ne]; intro h; subst h; exact absurd hk (by decide)
      have e3 : (op == 3) = false := by simp only [beq_eq_false_iff_ne]; intro h; subst h; exact absurd hk (by decide)
      have e4 : (op == 4) = false := by simp only [beq_eq_false_iff_ne]; intro h; subst h; exact absurd hk (by decide)
      have e5 : (op == 5) = false := by simp only [beq_eq_false_iff_ne]; intro h; subst h; exact absurd hk (by decide)
      have e6 : (op == 6) = false := by simp only [beq_eq_false_iff_ne]; intro h; subst h; exact absurd hk (by decide)
      have e7 : (op == 7) = false := by simp only [beq_eq_false_iff_ne]; intro h; subst h; exact absurd hk (by decide)
      have e8 : (op == 8) = false := by simp only [beq_eq_false_iff_ne]; intro h; subst h; exact absurd hk (by decide)
      have e9 : (op == 9) = false := by simp only [beq_eq_false_iff_ne]; intro h; subst h; exact absurd hk (by decide)
      have e10 : (op == 10) = false := by simp only [beq_eq_false_iff_ne]; intro h; subst h; exact absurd hk (by decide)
      have e11 : (op == 11) = false := by simp only [beq_eq_false_iff_ne]; intro h; subst h; exact absurd hk (by decide)
      have e12 : (op == 12) = false := by simp only [beq_eq_false_iff_ne]; intro h; subst h; exact absurd hk (by decide)
      have e13 : (op == 13) = false := by simp only [beq_eq_false_iff_ne]; intro h; subst h; exact absurd hk (by decide)
      have e14 : (op == 14) = false := by simp only [beq_eq_false_iff_ne]; intro h; subst h; exact absurd hk (by decide)
      have e15 : (op == 15) = false := by simp only [beq_eq_false_iff_ne]; intro h; subst h; exact absurd hk (by decide)
      have e16 : (op == 16) = false := by simp only [beq_eq_false_iff_ne]; intro h; subst h; exact absurd hk (by decide)
      simp [swapsB, groupsB, e1, e3, e8, e9, e10, e16]
    rw [h]; exact refswaps_none op w hk
set_option maxHeartbeats 1000000 in
theorem refkeeps_none (op : Int) (w : World) (hk : knownB op = false) : Calls Tryd.prog 18 #[.int .u8 op] w fun e w' => e = .returned (.tuple #[.int .i64 0, .bool false]) ∧ w = w' := by
  have e1 : (op == 1) = false := by simp only [beq_eq_false_iff_ne]; intro h; subst h; exact absurd hk (by decide)
  have e2 : (op == 2) = false := by simp only [beq_eq_false_iff_ne]; intro h; subst h; exact absurd hk (by decide)
  have e3 : (op == 3) = false := by simp only [beq_eq_false_iff_ne]; intro h; subst h; exact absurd hk (by decide)
  have e4 : (op == 4) = false := by simp only [beq_eq_false_iff_ne]; intro h; subst h; exact absurd hk (by decide)
  have e5 : (op == 5) = false := by simp only [beq_eq_false_iff_ne]; intro h; subst h; exact absurd hk (by decide)
  have e6 : (op == 6) = false := by simp only [beq_eq_false_iff_ne]; intro h; subst h; exact absurd hk (by decide)
  have e7 : (op == 7) = false := by simp only [beq_eq_false_iff_ne]; intro h; subst h; exact absurd hk (by decide)
  have e8 : (op == 8) = false := by simp only [beq_eq_false_iff_ne]; intro h; subst h; exact absurd hk (by decide)
  have e9 : (op == 9) = false := by simp only [beq_eq_false_iff_ne]; intro h; subst h; exact absurd hk (by decide)
  have e10 : (op == 10) = false := by simp only [beq_eq_false_iff_ne]; intro h; subst h; exact absurd hk (by decide)
  have e11 : (op == 11) = false := by simp only [beq_eq_false_iff_ne]; intro h; subst h; exact absurd hk (by decide)
  have e12 : (op == 12) = false := by simp only [beq_eq_false_iff_ne]; intro h; subst h; exact absurd hk (by decide)
  have e13 : (op == 13) = false := by simp only [beq_eq_false_iff_ne]; intro h; subst h; exact absurd hk (by decide)
  have e14 : (op == 14) = false := by simp only [beq_eq_false_iff_ne]; intro h; subst h; exact absurd hk (by decide)
  have e15 : (op == 15) = false := by simp only [beq_eq_false_iff_ne]; intro h; subst h; exact absurd hk (by decide)
  have e16 : (op == 16) = false := by simp only [beq_eq_false_iff_ne]; intro h; subst h; exact absurd hk (by decide)
  clear hk
  go_enter Tryd.func18, Tryd.ntmps18
  go_wp2
  go_ret2
  exact ⟨rfl, rfl⟩
set_option maxHeartbeats 400000 in
theorem refkeeps_1 (w : World) : Calls Tryd.prog 18 #[.int .u8 1] w fun e w' => e = .returned (.tuple #[.int .i64 (keepsN 1), .bool (keepsB 1)]) ∧ w = w' := by
  go_enter Tryd.func18, Tryd.ntmps18
  go_wp2
  go_ret2
  exact ⟨rfl, rfl⟩
set_option maxHeartbeats 400000 in
theorem refkeeps_2 (w : World) : Calls Tryd.prog 18 #[.int .u8 2] w fun e w' => e = .returned (.tuple #[.int .i64 (keepsN 2), .bool (keepsB 2)]) ∧ w = w' := by
  go_enter Tryd.func18, Tryd.ntmps18
  go_wp2
  go_ret2
  exact ⟨rfl, rfl⟩
set_option maxHeartbeats 400000 in
theorem refkeeps_3 (w : World) : Calls Tryd.prog 18 #[.int .u8 3] w fun e w' => e = .returned (.tuple #[.int .i64 (keepsN 3), .bool (keepsB 3)]) ∧ w = w' := by
  go_enter Tryd.func18, Tryd.ntmps18
  go_wp2
  go_ret2
  exact ⟨rfl, rfl⟩
set_option maxHeartbeats 400000 in
theorem refkeeps_4 (w : World) : Calls Tryd.prog 18 #[.int .u8 4] w fun e w' => e = .returned (.tuple #[.int .i64 (keepsN 4), .bool (keepsB 4)]) ∧ w = w' := by
  go_enter Tryd.func18, Tryd.ntmps18
  go_wp2
  go_ret2
  exact ⟨rfl, rfl⟩
set_option maxHeartbeats 400000 in
theorem refkeeps_5 (w : World) : Calls Tryd.prog 18 #[.int .u8 5] w fun e w' => e = .returned (.tuple #[.int .i64 (keepsN 5), .bool (keepsB 5)]) ∧ w = w' := by
  go_enter Tryd.func18, Tryd.ntmps18
  go_wp2
  go_ret2
  exact ⟨rfl, rfl⟩
set_option maxHeartbeats 400000 in
theorem refkeeps_6 (w : World) : Calls Tryd.prog 18 #[.int .u8 6] w fun e w' => e = .returned (.tuple #[.int .i64 (keepsN 6), .bool (keepsB 6)]) ∧ w = w' := by
  go_enter Tryd.func18, Tryd.ntmps18
  go_wp2
  go_ret2
  exact ⟨rfl, rfl⟩
set_option maxHeartbeats 400000 in
theorem refkeeps_7 (w : World) : Calls Tryd.prog 18 #[.int .u8 7] w fun e w' => e = .returned (.tuple #[.int .i64 (keepsN 7), .bool (keepsB 7)]) ∧ w = w' := by
  go_enter Tryd.func18, Tryd.ntmps18
  go_wp2
  go_ret2
  exact ⟨rfl, rfl⟩
set_option maxHeartbeats 400000 in
theorem refkeeps_8 (w : World) : Calls Tryd.prog 18 #[.int .u8 8] w fun e w' => e = .returned (.tuple #[.int .i64 (keepsN 8), .bool (keepsB 8)]) ∧ w = w' := by
  go_enter Tryd.func18, Tryd.ntmps18
  go_wp2
  go_ret2
  exact ⟨rfl, rfl⟩
set_option maxHeartbeats 400000 in
theorem refkeeps_9 (w : World) : Calls Tryd.prog 18 #[.int .u8 9] w fun e w' => e = .returned (.tuple #[.int .i64 (keepsN 9), .bool (keepsB 9)]) ∧ w = w' := by
  go_enter Tryd.func18, Tryd.ntmps18
  go_wp2
  go_ret2
  exact ⟨rfl, rfl⟩
set_option maxHeartbeats 400000 in
theorem refkeeps_10 (w : World) : Calls Tryd.prog 18 #[.int .u8 10] w fun e w' => e = .returned (.tuple #[.int .i64 (keepsN 10), .bool (keepsB 10)]) ∧ w = w' := by
  go_enter Tryd.func18, Tryd.ntmps18
  go_wp2
  go_ret2
  exact ⟨rfl, rfl⟩
set_option maxHeartbeats 400000 in
theorem refkeeps_11 (w : World) : Calls Tryd.prog 18 #[.int .u8 11] w fun e w' => e = .returned (.tuple #[.int .i64 (keepsN 11), .bool (keepsB 11)]) ∧ w = w' := by
  go_enter Tryd.func18, Tryd.ntmps18
  go_wp2
  go_ret2
  exact ⟨rfl, rfl⟩
set_option maxHeartbeats 400000 in
theorem refkeeps_12 (w : World) : Calls Tryd.prog 18 #[.int .u8 12] w fun e w' => e = .returned (.tuple #[.int .i64 (keepsN 12), .bool (keepsB 12)]) ∧ w = w' := by
  go_enter Tryd.func18, Tryd.ntmps18
  go_wp2
  go_ret2
  exact ⟨rfl, rfl⟩
set_option maxHeartbeats 400000 in
theorem refkeeps_13 (w : World) : Calls Tryd.prog 18 #[.int .u8 13] w fun e w' => e = .returned (.tuple #[.int .i64 (keepsN 13), .bool (keepsB 13)]) ∧ w = w' := by
  go_enter Tryd.func18, Tryd.ntmps18
  go_wp2
  go_ret2
  exact ⟨rfl, rfl⟩
set_option maxHeartbeats 400000 in
theorem refkeeps_14 (w : World) : Calls Tryd.prog 18 #[.int .u8 14] w fun e w' => e = .returned (.tuple #[.int .i64 (keepsN 14), .bool (keepsB 14)]) ∧ w = w' := by
  go_enter Tryd.func18, Tryd.ntmps18
  go_wp2
  go_ret2
  exact ⟨rfl, rfl⟩
set_option maxHeartbeats 400000 in
theorem refkeeps_15 (w : World) : Calls Tryd.prog 18 #[.int .u8 15] w fun e w' => e = .returned (.tuple #[.int .i64 (keepsN 15), .bool (keepsB 15)]) ∧ w = w' := by
  go_enter Tryd.func18, Tryd.ntmps18
  go_wp2
  go_ret2
  exact ⟨rfl, rfl⟩
set_option maxHeartbeats 400000 in
theorem refkeeps_16 (w : World) : Calls Tryd.prog 18 #[.int .u8 16] w fun e w' => e = .returned (.tuple #[.int .i64 (keepsN 16), .bool (keepsB 16)]) ∧ w = w' := by
  go_enter Tryd.func18, Tryd.ntmps18
  go_wp2
  go_ret2
  exact ⟨rfl, rfl⟩
theorem refkeeps_any (op : Int) (w : World) : Calls Tryd.prog 18 #[.int .u8 op] w fun e w' => e = .returned (.tuple #[.int .i64 (keepsN op), .bool (keepsB op)]) ∧ w = w' := by
  rcases op_cases op with rfl | rfl | rfl | rfl | rfl | rfl | rfl | rfl | rfl | rfl | rfl | rfl | rfl | rfl | rfl | rfl | hk
  · exact refkeeps_1 w
  · exact refkeeps_2 w
  · exact refkeeps_3 w
  · exact refkeeps_4 w
  · exact refkeeps_5 w
  · exact refkeeps_6 w
  · exact refkeeps_7 w
  · exact refkeeps_8 w
  · exact refkeeps_9 w
  · exact refkeeps_10 w
  · exact refkeeps_11 w
  · exact refkeeps_12 w
  · exact refkeeps_13 w
  · exact refkeeps_14 w
  · exact refkeeps_15 w
  · exact refkeeps_16 w
  · have h : Value.tuple #[.int .i64 (keepsN op), .bool (keepsB op)] = Value.tuple #[.int .i64 0, .bool false] := by
      have e1 : (op == 1) = false := by simp only [beq_eq_false_iff_ne]; intro h; subst h; exact absurd hk (by decide)
      have e2 : (op == 2) = false := by simp only [beq_eq_false_iff_ne]; intro h; subst h; exact absurd hk (by decide)
      have e3 : (op == 3) = false := by simp only [beq_eq_false_iff_ne]; intro h; subst h; exact absurd hk (by decide)
      have e4 : (op == 4) = false := by simp only [beq_eq_false_iff_ne]; intro h; subst h; exact absurd hk (by decide)
      have e5 : (op == 5) = false := by simp only [beq_eq_false_iff_ne]; intro h; subst h; exact absurd hk (by decide)
      have e6 : (op == 6) = false := by simp only [beq_eq_false_iff_ne]; intro h; subst h; exact absurd hk (by decide)
      have e7 : (op == 7) = false := by simp only [beq_eq_false_iff_ne]; intro h; subst h; exact absurd hk (by decide)
      have e8 : (op == 8) = false := by simp only [beq_eq_false_iff_ne]; intro h; subst h; exact absurd hk (by decide)
      have e9 : (op == 9) = false := by simp only [beq_eq_false_iff_ne]; intro h; subst h; exact absurd hk (by decide)
      have e10 : (op == 10) = false := by simp only [beq_eq_false_iff_ne]; intro h; subst h; exact absurd hk (by decide)
      have e11 : (op == 11) = false := by simp only [beq_eq_false_iff_ne]; intro h; subst h; exact absurd hk (by decide)
      have e12 : (op == 12) = false := by simp only [beq_eq_false_iff_ne]; intro h; subst h; exact absurd hk (by decide)
      have e13 : (op == 13) = false := by simp only [beq_eq_false_iff_ne]; intro h; subst h; exact absurd hk (by decide)
      have e14 : (op == 14) = false := by simp only [beq_eq_false_iff_ne]; intro h; subst h; exact absurd hk (by decide)
      have e15 : (op == 15) = false := by simp only [beq_eq_false_iff_ne]; intro h; subst h; exact absurd hk (by decide)
      have e16 : (op == 16) = false := by simp only [beq_eq_false_iff_ne]; intro h; subst h; exact absurd hk (by decide)
      simp [keepsN, keepsB, hk, e3, e4, e6, e8]
    rw [h]; exact refkeeps_none op w hk

namespace Rp
theorem pow_u64 {k : Nat} (h : k < 64) : IntKind.u64.wrap (2 ^ k) = ((2 ^ k : Nat) : Int) := by
  have hp := Ad.pow_le h
  rw [two_pow_bv, Pw.wrapN _ (by omega)]
theorem found {n : Int} {k : Nat} (hk : k < 64) (h : (bv n).toNat = 2 ^ k) : powN n = (k : Int) ∧ powB n = true := by
  have hb : powB n = true := (powB_iff n).2 ⟨k, hk, h⟩
  refine ⟨?_, hb⟩
  unfold powN
  rw [if_pos hb, h, Nat.log2_two_pow]
theorem missed {n : Int} (h : ∀ j, j < 64 → ¬ (bv n).toNat = 2 ^ j) : powN n = 0 ∧ powB n = false := by
  have hb : powB n = false := by
    cases e : powB n
    · rfl
    · obtain ⟨k, hk, hh⟩ := (powB_iff n).1 e
      exact absurd hh (h k hk)
  refine ⟨?_, hb⟩
  unfold powN
  rw [hb]; rfl
end Rp
theorem ret_pow {a b : Int} {c d : Bool} (h : a = b) (g : c = d) : Ending.returned (.tuple #[.int .i64 a, .bool c]) = .returned (.tuple #[.int .i64 b, .bool d]) := by rw [h, g]
set_option maxHeartbeats 1000000 in
theorem refpower_any (n : Int) (w : World) :
    Calls Tryd.prog 20 #[.int .i64 n] w fun e w' => e = .returned (.tuple #[.int .i64 (powN n), .bool (powB n)]) ∧ w = w' := by
  have hu := u64_bv n
  have FO := Lib.hid (fun (k : Nat) hk h => Rp.found (n := n) (k := k) hk h)
  have MI := Lib.hid (fun h => Rp.missed (n := n) h)
  generalize (bv n).toNat = x at *
  generalize powN n = p at *
  generalize powB n = q at *
  go_enter Tryd.func20, Tryd.ntmps20
  go_wp2
  go_loop [4] (fun i => ∃ k : Nat, k ≤ 64 ∧ i = .int .i64 k ∧ Hid (∀ j, j < k → ¬ x = 2 ^ j)) (fun i => 64 - (intOf i).toNat)
  case atStart => exact ⟨0, Nat.zero_le _, rfl, fun j hj => absurd hj (Nat.not_lt_zero _)⟩
  case round =>
    obtain ⟨k, hk, rfl, hn⟩ := hrel
    by_cases hlt : k < 64
    · have hp := Rp.pow_u64 hlt
      by_cases hx : x = 2 ^ k
      · have t : ((x : Int) == ((2 ^ k : Nat) : Int)) = true := beq_iff_eq.2 (by rw [hx])
        have E := Lib.hid (FO.out k hlt hx)
        clear hx FO MI
        generalize 2 ^ k = y at *
        go_wp2
        go_ret2
        exact ⟨ret_pow E.out.1.symm E.out.2.symm, rfl⟩
      · have t : ((x : Int) == ((2 ^ k : Nat) : Int)) = false := beq_eq_false_iff_ne.2 (by omega)
        have hn' : Hid (∀ j, j < k + 1 → ¬ x = 2 ^ j) := fun j hj => by
          by_cases e : j = k
          · subst e; exact hx
          · exact hn.out j (by omega)
        clear hx FO MI hn
        generalize 2 ^ k = y at *
        go_wp2
        go_round
        case rel => exact ⟨k + 1, by omega, by go_num, hn'⟩
        case measure => simp [intOf]; omega
    · have hk' : k = 64 := by omega
      subst hk'
      have E := Lib.hid (MI.out hn.out)
      clear FO MI
      go_wp2
      go_ret2
      exact ⟨ret_pow E.out.1.symm E.out.2.symm, rfl⟩
end Go.Proofs.YtfibonciioipnaaDoor
