/-
  Layer 1, the document's own answers: quotients of numbers (signed), quotients, and Do: of any operation and any two numbers opI.
-/
import Derived.Test.YtfibonciioipnaaDoorDivide
namespace Go.Proofs.YtfibonciioipnaaDoor
open Go.RowKit

namespace Sg
theorem bv_neg0 (a : Int) : bv (opI 2 0 a) = - bv a := by
  rw [bv_opI]
  show 0#64 - bv a = _
  rw [BitVec.zero_sub]
theorem neg_ne {b : Int} (h : ¬ bv b = 0) : ¬ bv (opI 2 0 b) = 0 := by
  rw [bv_neg0]
  intro e
  apply h
  have := congrArg (fun x => - x) e
  simp only [BitVec.neg_neg] at this
  rw [this]; rfl
theorem op6 {a b : Int} (h : ¬ bv b = 0) : opI 6 a b = (bv a / bv b).toInt := congrArg BitVec.toInt (if_neg h)
theorem op7 {a b : Int} (h : ¬ bv b = 0) : opI 7 a b = (bv a % bv b).toInt := congrArg BitVec.toInt (if_neg h)
theorem op4 {a b : Int} (h : ¬ bv b = 0) : opI 4 a b = ((bv a).sdiv (bv b)).toInt := congrArg BitVec.toInt (if_neg h)
theorem op5 {a b : Int} (h : ¬ bv b = 0) : opI 5 a b = ((bv a).srem (bv b)).toInt := congrArg BitVec.toInt (if_neg h)
theorem msb_yes {a : Int} (ha : InR a) (h : a < 0) : (bv a).msb = true := by
  rw [BitVec.msb_eq_toInt, toInt_bv ha]; simpa using h
theorem msb_no {a : Int} (ha : InR a) (h : ¬ a < 0) : (bv a).msb = false := by
  rw [BitVec.msb_eq_toInt, toInt_bv ha]; simpa using h
theorem neg_op (k a b : Int) : opI 2 0 (opI k a b) = (- bv (opI k a b)).toInt := by
  show (bv 0 - bv (opI k a b)).toInt = _
  refine congrArg BitVec.toInt ?_
  show 0#64 - _ = _
  rw [BitVec.zero_sub]
theorem pp {a b : Int} (ha : InR a) (hb : InR b) (h : ¬ bv b = 0) (a0 : ¬ a < 0) (b0 : ¬ b < 0) : opI 6 a b = opI 4 a b ∧ opI 7 a b = opI 5 a b := by
  rw [op6 h, op7 h, op4 h, op5 h, BitVec.sdiv_eq, BitVec.srem_eq, msb_no ha a0, msb_no hb b0]
  exact ⟨rfl, rfl⟩
theorem pm {a b : Int} (ha : InR a) (hb : InR b) (h : ¬ bv b = 0) (a0 : ¬ a < 0) (b0 : b < 0) : opI 2 0 (opI 6 a (opI 2 0 b)) = opI 4 a b ∧ opI 7 a (opI 2 0 b) = opI 5 a b := by
  rw [neg_op, op6 (neg_ne h), op7 (neg_ne h), op4 h, op5 h, BitVec.sdiv_eq, BitVec.srem_eq, msb_no ha a0, msb_yes hb b0, bv_neg0, bv_toInt]
  exact ⟨rfl, rfl⟩
theorem mp {a b : Int} (ha : InR a) (hb : InR b) (h : ¬ bv b = 0) (a0 : a < 0) (b0 : ¬ b < 0) : opI 2 0 (opI 6 (opI 2 0 a) b) = opI 4 a b ∧ opI 2 0 (opI 7 (opI 2 0 a) b) = opI 5 a b := by
  rw [neg_op, neg_op, op6 h, op7 h, op4 h, op5 h, BitVec.sdiv_eq, BitVec.srem_eq, msb_yes ha a0, msb_no hb b0, bv_neg0, bv_toInt, bv_toInt]
  exact ⟨rfl, rfl⟩
theorem mm {a b : Int} (ha : InR a) (hb : InR b) (h : ¬ bv b = 0) (a0 : a < 0) (b0 : b < 0) : opI 6 (opI 2 0 a) (opI 2 0 b) = opI 4 a b ∧ opI 2 0 (opI 7 (opI 2 0 a) (opI 2 0 b)) = opI 5 a b := by
  rw [neg_op, op6 (neg_ne h), op7 (neg_ne h), op4 h, op5 h, BitVec.sdiv_eq, BitVec.srem_eq, msb_yes ha a0, msb_yes hb b0, bv_neg0, bv_neg0, bv_toInt]
  exact ⟨rfl, rfl⟩
theorem low (k : Int) (hk : k = 11 ∨ k = 12 ∨ k = 13) (a x : Int) : opI k a (far x : Int) = opI k a x := by
  have hm : (bv (far x : Int)).toNat % 64 = far x := by
    have := far_lt x
    rw [Pw.toNat_bv (far x) (by omega), Nat.mod_eq_of_lt this]
  rcases hk with rfl | rfl | rfl
  · show (bv a <<< ((bv (far x : Int)).toNat % 64)).toInt = (bv a <<< (far x)).toInt
    rw [hm]
  · show (bv a >>> ((bv (far x : Int)).toNat % 64)).toInt = (bv a >>> (far x)).toInt
    rw [hm]
  · show ((bv a).sshiftRight ((bv (far x : Int)).toNat % 64)).toInt = ((bv a).sshiftRight (far x)).toInt
    rw [hm]
end Sg

set_option maxHeartbeats 2000000 in
theorem refsigned_any (a b : Int) (w : World) (ha : InR a) (hb : InR b) (h0 : ¬ bv b = 0) :
    Calls Tryd.prog 57 #[.int .i64 a, .int .i64 b] w fun e w' => e = .returned (.tuple #[.int .i64 (opI 4 a b), .int .i64 (opI 5 a b)]) ∧ w = w' := by
  have HN := Lib.hid (Sg.neg_ne h0)
  by_cases a0 : a < 0
  all_goals by_cases b0 : b < 0
  all_goals
    have E := Lib.hid (show _ ∧ _ from by first | exact Sg.mm ha hb h0 a0 b0 | exact Sg.mp ha hb h0 a0 b0 | exact Sg.pm ha hb h0 a0 b0 | exact Sg.pp ha hb h0 a0 b0)
    have H0 := Lib.hid h0
    clear h0 ha hb
    first
      | (have da : decide (a < 0) = false := decide_eq_false a0)
      | skip
    first
      | (have db : decide (b < 0) = false := decide_eq_false b0)
      | skip
    go_enter Tryd.func57, Tryd.ntmps57
    go_wp2_with (first | (go_at_call 29; refine (refneg_any _ _).mono ?_; rintro e w' ⟨rfl, rfl⟩) | (go_at_call 56; refine (refdivide_any _ _ _ (by first | exact H0.out | exact HN.out)).mono ?_; rintro e w' ⟨rfl, rfl⟩))
    go_ret2
    exact ⟨ret_two E.out.1 E.out.2, rfl⟩

set_option maxHeartbeats 1000000 in
theorem refquot_zero (op a b : Int) (w : World) (hb : b = 0) (h1 : (op == 4) = true ∨ (op == 4) = false ∧ (op == 6) = true ∨ (op == 4) = false ∧ (op == 6) = false) :
    Calls Tryd.prog 31 #[.int .u8 op, .int .i64 a, .int .i64 b] w fun e w' => e = .returned (.int .i64 (if op == 4 || op == 6 then -1 else a)) ∧ w = w' := by
  subst hb
  rcases h1 with h | ⟨h, g⟩ | ⟨h, g⟩
  all_goals
    first
      | rw [h, g]
      | rw [h]
    try simp only [Bool.true_or, Bool.or_true, Bool.or_false, Bool.false_eq_true, if_true, if_false]
    go_enter Tryd.func31, Tryd.ntmps31
    go_wp2
    go_ret
    exact ⟨rfl, rfl⟩
set_option maxHeartbeats 1000000 in
theorem refquot_4 (a b : Int) (w : World) (ha : InR a) (hb : InR b) (h0 : ¬ b = 0) :
    Calls Tryd.prog 31 #[.int .u8 4, .int .i64 a, .int .i64 b] w fun e w' => e = .returned (.int .i64 (opI 4 a b)) ∧ w = w' := by
  have H0 : Hid (¬ bv b = 0) := fun h => h0 ((bv_zero_iff hb).1 h)
  have hz : (b == 0) = false := beq_eq_false_iff_ne.2 h0
  clear h0
  go_enter Tryd.func31, Tryd.ntmps31
  go_wp2_with (first | (go_at_call 56; refine (refdivide_any _ _ _ H0.out).mono ?_; rintro e w' ⟨rfl, rfl⟩) | (go_at_call 57; refine (refsigned_any _ _ _ ha hb H0.out).mono ?_; rintro e w' ⟨rfl, rfl⟩))
  go_ret
  exact ⟨rfl, rfl⟩
theorem refquot4_any (a b : Int) (w : World) (ha : InR a) (hb : InR b) :
    Calls Tryd.prog 31 #[.int .u8 4, .int .i64 a, .int .i64 b] w fun e w' => e = .returned (.int .i64 (opI 4 a b)) ∧ w = w' := by
  by_cases h0 : b = 0
  · refine (refquot_zero 4 a b w h0 (by decide)).mono ?_
    rintro e w' ⟨rfl, rfl⟩
    have e0 : bv b = 0 := by rw [h0]; rfl
    have e : opB 4 (bv a) (bv b) = -1 := if_pos e0
    refine ⟨ret_i64 ?_, rfl⟩
    show _ = (opB 4 (bv a) (bv b)).toInt
    rw [e]
    rfl
  · exact refquot_4 a b w ha hb h0
set_option maxHeartbeats 1000000 in
theorem refquot_5 (a b : Int) (w : World) (ha : InR a) (hb : InR b) (h0 : ¬ b = 0) :
    Calls Tryd.prog 31 #[.int .u8 5, .int .i64 a, .int .i64 b] w fun e w' => e = .returned (.int .i64 (opI 5 a b)) ∧ w = w' := by
  have H0 : Hid (¬ bv b = 0) := fun h => h0 ((bv_zero_iff hb).1 h)
  have hz : (b == 0) = false := beq_eq_false_iff_ne.2 h0
  clear h0
  go_enter Tryd.func31, Tryd.ntmps31
  go_wp2_with (first | (go_at_call 56; refine (refdivide_any _ _ _ H0.out).mono ?_; rintro e w' ⟨rfl, rfl⟩) | (go_at_call 57; refine (refsigned_any _ _ _ ha hb H0.out).mono ?_; rintro e w' ⟨rfl, rfl⟩))
  go_ret
  exact ⟨rfl, rfl⟩
theorem refquot5_any (a b : Int) (w : World) (ha : InR a) (hb : InR b) :
    Calls Tryd.prog 31 #[.int .u8 5, .int .i64 a, .int .i64 b] w fun e w' => e = .returned (.int .i64 (opI 5 a b)) ∧ w = w' := by
  by_cases h0 : b = 0
  · refine (refquot_zero 5 a b w h0 (by decide)).mono ?_
    rintro e w' ⟨rfl, rfl⟩
    have e0 : bv b = 0 := by rw [h0]; rfl
    have e : opB 5 (bv a) (bv b) = bv a := if_pos e0
    refine ⟨ret_i64 ?_, rfl⟩
    show _ = (opB 5 (bv a) (bv b)).toInt
    rw [e]
    exact (toInt_bv ha).symm
  · exact refquot_5 a b w ha hb h0
set_option maxHeartbeats 1000000 in
theorem refquot_6 (a b : Int) (w : World) (ha : InR a) (hb : InR b) (h0 : ¬ b = 0) :
    Calls Tryd.prog 31 #[.int .u8 6, .int .i64 a, .int .i64 b] w fun e w' => e = .returned (.int .i64 (opI 6 a b)) ∧ w = w' := by
  have H0 : Hid (¬ bv b = 0) := fun h => h0 ((bv_zero_iff hb).1 h)
  have hz : (b == 0) = false := beq_eq_false_iff_ne.2 h0
  clear h0
  go_enter Tryd.func31, Tryd.ntmps31
  go_wp2_with (first | (go_at_call 56; refine (refdivide_any _ _ _ H0.out).mono ?_; rintro e w' ⟨rfl, rfl⟩) | (go_at_call 57; refine (refsigned_any _ _ _ ha hb H0.out).mono ?_; rintro e w' ⟨rfl, rfl⟩))
  go_ret
  exact ⟨rfl, rfl⟩
theorem refquot6_any (a b : Int) (w : World) (ha : InR a) (hb : InR b) :
    Calls Tryd.prog 31 #[.int .u8 6, .int .i64 a, .int .i64 b] w fun e w' => e = .returned (.int .i64 (opI 6 a b)) ∧ w = w' := by
  by_cases h0 : b = 0
  · refine (refquot_zero 6 a b w h0 (by decide)).mono ?_
    rintro e w' ⟨rfl, rfl⟩
    have e0 : bv b = 0 := by rw [h0]; rfl
    have e : opB 6 (bv a) (bv b) = -1 := if_pos e0
    refine ⟨ret_i64 ?_, rfl⟩
    show _ = (opB 6 (bv a) (bv b)).toInt
    rw [e]
    rfl
  · exact refquot_6 a b w ha hb h0
set_option maxHeartbeats 1000000 in
theorem refquot_7 (a b : Int) (w : World) (ha : InR a) (hb : InR b) (h0 : ¬ b = 0) :
    Calls Tryd.prog 31 #[.int .u8 7, .int .i64 a, .int .i64 b] w fun e w' => e = .returned (.int .i64 (opI 7 a b)) ∧ w = w' := by
  have H0 : Hid (¬ bv b = 0) := fun h => h0 ((bv_zero_iff hb).1 h)
  have hz : (b == 0) = false := beq_eq_false_iff_ne.2 h0
  clear h0
  go_enter Tryd.func31, Tryd.ntmps31
  go_wp2_with (first | (go_at_call 56; refine (refdivide_any _ _ _ H0.out).mono ?_; rintro e w' ⟨rfl, rfl⟩) | (go_at_call 57; refine (refsigned_any _ _ _ ha hb H0.out).mono ?_; rintro e w' ⟨rfl, rfl⟩))
  go_ret
  exact ⟨rfl, rfl⟩
theorem refquot7_any (a b : Int) (w : World) (ha : InR a) (hb : InR b) :
    Calls Tryd.prog 31 #[.int .u8 7, .int .i64 a, .int .i64 b] w fun e w' => e = .returned (.int .i64 (opI 7 a b)) ∧ w = w' := by
  by_cases h0 : b = 0
  · refine (refquot_zero 7 a b w h0 (by decide)).mono ?_
    rintro e w' ⟨rfl, rfl⟩
    have e0 : bv b = 0 := by rw [h0]; rfl
    have e : opB 7 (bv a) (bv b) = bv a := if_pos e0
    refine ⟨ret_i64 ?_, rfl⟩
    show _ = (opB 7 (bv a) (bv b)).toInt
    rw [e]
    exact (toInt_bv ha).symm
  · exact refquot_7 a b w ha hb h0
set_option maxHeartbeats 1000000 in
theorem refdo1 (a b : Int) (w : World) :
    Calls Tryd.prog 11 #[.int .u8 1, .int .i64 a, .int .i64 b] w fun e w' => e = .returned (.int .i64 (opI 1 a b)) ∧ w = w' := by
  have hf := and63 b
  have HF := Lib.hid (far_lt b)
  have hi := IntWalk.i64_in (far b : Int) ⟨by omega, by have := far_lt b; omega⟩
  go_enter Tryd.func11, Tryd.ntmps11
  go_wp2_with (go_at_call 28; refine (refadd_any _ _ _).mono ?_; rintro e w' ⟨rfl, rfl⟩)
  go_ret
  exact ⟨rfl, rfl⟩
set_option maxHeartbeats 1000000 in
theorem refdo2 (a b : Int) (w : World) :
    Calls Tryd.prog 11 #[.int .u8 2, .int .i64 a, .int .i64 b] w fun e w' => e = .returned (.int .i64 (opI 2 a b)) ∧ w = w' := by
  have E : Hid (opI 1 a (opI 2 0 b) = opI 2 a b) := by
    show (bv a + bv (opI 2 0 b)).toInt = (bv a - bv b).toInt
    rw [Sg.bv_neg0, BitVec.sub_eq_add_neg]
  have hf := and63 b
  have HF := Lib.hid (far_lt b)
  have hi := IntWalk.i64_in (far b : Int) ⟨by omega, by have := far_lt b; omega⟩
  go_enter Tryd.func11, Tryd.ntmps11
  go_wp2_with (first | (go_at_call 29; refine (refneg_any _ _).mono ?_; rintro e w' ⟨rfl, rfl⟩) | (go_at_call 28; refine (refadd_any _ _ _).mono ?_; rintro e w' ⟨rfl, rfl⟩))
  go_ret
  exact ⟨ret_i64 E.out, rfl⟩
set_option maxHeartbeats 1000000 in
theorem refdo3 (a b : Int) (w : World) :
    Calls Tryd.prog 11 #[.int .u8 3, .int .i64 a, .int .i64 b] w fun e w' => e = .returned (.int .i64 (opI 3 a b)) ∧ w = w' := by
  have hf := and63 b
  have HF := Lib.hid (far_lt b)
  have hi := IntWalk.i64_in (far b : Int) ⟨by omega, by have := far_lt b; omega⟩
  go_enter Tryd.func11, Tryd.ntmps11
  go_wp2_with (go_at_call 30; refine (refmul_any _ _ _).mono ?_; rintro e w' ⟨rfl, rfl⟩)
  go_ret
  exact ⟨rfl, rfl⟩
set_option maxHeartbeats 1000000 in
theorem refdo4 (a b : Int) (w : World) (ha : InR a) (hb : InR b) :
    Calls Tryd.prog 11 #[.int .u8 4, .int .i64 a, .int .i64 b] w fun e w' => e = .returned (.int .i64 (opI 4 a b)) ∧ w = w' := by
  have hf := and63 b
  have HF := Lib.hid (far_lt b)
  have hi := IntWalk.i64_in (far b : Int) ⟨by omega, by have := far_lt b; omega⟩
  go_enter Tryd.func11, Tryd.ntmps11
  go_wp2_with (go_at_call 31; refine (refquot4_any _ _ _ ha hb).mono ?_; rintro e w' ⟨rfl, rfl⟩)
  go_ret
  exact ⟨rfl, rfl⟩
set_option maxHeartbeats 1000000 in
theorem refdo5 (a b : Int) (w : World) (ha : InR a) (hb : InR b) :
    Calls Tryd.prog 11 #[.int .u8 5, .int .i64 a, .int .i64 b] w fun e w' => e = .returned (.int .i64 (opI 5 a b)) ∧ w = w' := by
  have hf := and63 b
  have HF := Lib.hid (far_lt b)
  have hi := IntWalk.i64_in (far b : Int) ⟨by omega, by have := far_lt b; omega⟩
  go_enter Tryd.func11, Tryd.ntmps11
  go_wp2_with (go_at_call 31; refine (refquot5_any _ _ _ ha hb).mono ?_; rintro e w' ⟨rfl, rfl⟩)
  go_ret
  exact ⟨rfl, rfl⟩
set_option maxHeartbeats 1000000 in
theorem refdo6 (a b : Int) (w : World) (ha : InR a) (hb : InR b) :
    Calls Tryd.prog 11 #[.int .u8 6, .int .i64 a, .int .i64 b] w fun e w' => e = .returned (.int .i64 (opI 6 a b)) ∧ w = w' := by
  have hf := and63 b
  have HF := Lib.hid (far_lt b)
  have hi := IntWalk.i64_in (far b : Int) ⟨by omega, by have := far_lt b; omega⟩
  go_enter Tryd.func11, Tryd.ntmps11
  go_wp2_with (go_at_call 31; refine (refquot6_any _ _ _ ha hb).mono ?_; rintro e w' ⟨rfl, rfl⟩)
  go_ret
  exact ⟨rfl, rfl⟩
set_option maxHeartbeats 1000000 in
theorem refdo7 (a b : Int) (w : World) (ha : InR a) (hb : InR b) :
    Calls Tryd.prog 11 #[.int .u8 7, .int .i64 a, .int .i64 b] w fun e w' => e = .returned (.int .i64 (opI 7 a b)) ∧ w = w' := by
  have hf := and63 b
  have HF := Lib.hid (far_lt b)
  have hi := IntWalk.i64_in (far b : Int) ⟨by omega, by have := far_lt b; omega⟩
  go_enter Tryd.func11, Tryd.ntmps11
  go_wp2_with (go_at_call 31; refine (refquot7_any _ _ _ ha hb).mono ?_; rintro e w' ⟨rfl, rfl⟩)
  go_ret
  exact ⟨rfl, rfl⟩
set_option maxHeartbeats 1000000 in
theorem refdo8 (a b : Int) (w : World) :
    Calls Tryd.prog 11 #[.int .u8 8, .int .i64 a, .int .i64 b] w fun e w' => e = .returned (.int .i64 (opI 8 a b)) ∧ w = w' := by
  have hf := and63 b
  have HF := Lib.hid (far_lt b)
  have hi := IntWalk.i64_in (far b : Int) ⟨by omega, by have := far_lt b; omega⟩
  go_enter Tryd.func11, Tryd.ntmps11
  go_wp2_with fail
  go_ret
  exact ⟨ret_i64 (and_i64 a b), rfl⟩
set_option maxHeartbeats 1000000 in
theorem refdo9 (a b : Int) (w : World) :
    Calls Tryd.prog 11 #[.int .u8 9, .int .i64 a, .int .i64 b] w fun e w' => e = .returned (.int .i64 (opI 9 a b)) ∧ w = w' := by
  have hf := and63 b
  have HF := Lib.hid (far_lt b)
  have hi := IntWalk.i64_in (far b : Int) ⟨by omega, by have := far_lt b; omega⟩
  go_enter Tryd.func11, Tryd.ntmps11
  go_wp2_with fail
  go_ret
  exact ⟨ret_i64 (or_i64 a b), rfl⟩
set_option maxHeartbeats 1000000 in
theorem refdo10 (a b : Int) (w : World) :
    Calls Tryd.prog 11 #[.int .u8 10, .int .i64 a, .int .i64 b] w fun e w' => e = .returned (.int .i64 (opI 10 a b)) ∧ w = w' := by
  have hf := and63 b
  have HF := Lib.hid (far_lt b)
  have hi := IntWalk.i64_in (far b : Int) ⟨by omega, by have := far_lt b; omega⟩
  go_enter Tryd.func11, Tryd.ntmps11
  go_wp2_with fail
  go_ret
  exact ⟨ret_i64 (xor_i64 a b), rfl⟩
set_option maxHeartbeats 1000000 in
theorem refdo11 (a b : Int) (w : World) :
    Calls Tryd.prog 11 #[.int .u8 11, .int .i64 a, .int .i64 b] w fun e w' => e = .returned (.int .i64 (opI 11 a b)) ∧ w = w' := by
  have E := Lib.hid (Sg.low 11 (by decide) a b)
  have hf := and63 b
  have HF := Lib.hid (far_lt b)
  have hi := IntWalk.i64_in (far b : Int) ⟨by omega, by have := far_lt b; omega⟩
  go_enter Tryd.func11, Tryd.ntmps11
  go_wp2_with (go_at_call 32; refine (moved_up _ _ _ HF.out).mono ?_; rintro e w' ⟨rfl, rfl⟩)
  go_ret
  exact ⟨ret_i64 E.out, rfl⟩
set_option maxHeartbeats 1000000 in
theorem refdo12 (a b : Int) (w : World) :
    Calls Tryd.prog 11 #[.int .u8 12, .int .i64 a, .int .i64 b] w fun e w' => e = .returned (.int .i64 (opI 12 a b)) ∧ w = w' := by
  have E := Lib.hid (Sg.low 12 (by decide) a b)
  have hf := and63 b
  have HF := Lib.hid (far_lt b)
  have hi := IntWalk.i64_in (far b : Int) ⟨by omega, by have := far_lt b; omega⟩
  go_enter Tryd.func11, Tryd.ntmps11
  go_wp2_with (go_at_call 32; refine (moved_shr _ _ _ HF.out).mono ?_; rintro e w' ⟨rfl, rfl⟩)
  go_ret
  exact ⟨ret_i64 E.out, rfl⟩
set_option maxHeartbeats 1000000 in
theorem refdo13 (a b : Int) (w : World) :
    Calls Tryd.prog 11 #[.int .u8 13, .int .i64 a, .int .i64 b] w fun e w' => e = .returned (.int .i64 (opI 13 a b)) ∧ w = w' := by
  have E := Lib.hid (Sg.low 13 (by decide) a b)
  have hf := and63 b
  have HF := Lib.hid (far_lt b)
  have hi := IntWalk.i64_in (far b : Int) ⟨by omega, by have := far_lt b; omega⟩
  go_enter Tryd.func11, Tryd.ntmps11
  go_wp2_with (first | (go_at_call 33; refine (bit_any _ _ _ (by omega) (by omega)).mono ?_; rintro e w' ⟨rfl, rfl⟩) | (go_at_call 32; refine (moved_sar _ _ _ HF.out).mono ?_; rintro e w' ⟨rfl, rfl⟩))
  go_ret
  exact ⟨ret_i64 E.out, rfl⟩
set_option maxHeartbeats 1000000 in
theorem refdo14 (a b : Int) (w : World) :
    Calls Tryd.prog 11 #[.int .u8 14, .int .i64 a, .int .i64 b] w fun e w' => e = .returned (.int .i64 (opI 14 a b)) ∧ w = w' := by
  have E : Hid ((if ultI (bits .xor .i64 a (-9223372036854775808)) (bits .xor .i64 b (-9223372036854775808)) then (1 : Int) else 0) = opI 14 a b) := by
    rw [opI_14, slt_low]
    unfold ultI
    rw [xor_i64, xor_i64, bv_toInt, bv_toInt]; rfl
  have hf := and63 b
  have HF := Lib.hid (far_lt b)
  have hi := IntWalk.i64_in (far b : Int) ⟨by omega, by have := far_lt b; omega⟩
  go_enter Tryd.func11, Tryd.ntmps11
  go_wp2_with (first | (go_at_call 35; refine (refbelow_any _ _ _).mono ?_; rintro e w' ⟨rfl, rfl⟩) | (go_at_call 34; refine (refone_any _ _).mono ?_; rintro e w' ⟨rfl, rfl⟩))
  all_goals go_ret
  all_goals first | exact ⟨ret_i64 ((if_pos ‹_›).symm.trans E.out), rfl⟩ | exact ⟨ret_i64 ((if_neg ‹_›).symm.trans E.out), rfl⟩
set_option maxHeartbeats 1000000 in
theorem refdo15 (a b : Int) (w : World) :
    Calls Tryd.prog 11 #[.int .u8 15, .int .i64 a, .int .i64 b] w fun e w' => e = .returned (.int .i64 (opI 15 a b)) ∧ w = w' := by
  have E : Hid ((if ultI a b then (1 : Int) else 0) = opI 15 a b) := by
    rw [opI_15]; rfl
  have hf := and63 b
  have HF := Lib.hid (far_lt b)
  have hi := IntWalk.i64_in (far b : Int) ⟨by omega, by have := far_lt b; omega⟩
  go_enter Tryd.func11, Tryd.ntmps11
  go_wp2_with (first | (go_at_call 35; refine (refbelow_any _ _ _).mono ?_; rintro e w' ⟨rfl, rfl⟩) | (go_at_call 34; refine (refone_any _ _).mono ?_; rintro e w' ⟨rfl, rfl⟩))
  all_goals go_ret
  all_goals first | exact ⟨ret_i64 ((if_pos ‹_›).symm.trans E.out), rfl⟩ | exact ⟨ret_i64 ((if_neg ‹_›).symm.trans E.out), rfl⟩
set_option maxHeartbeats 1000000 in
theorem refdo16 (a b : Int) (w : World) (ha : InR a) (hb : InR b) :
    Calls Tryd.prog 11 #[.int .u8 16, .int .i64 a, .int .i64 b] w fun e w' => e = .returned (.int .i64 (opI 16 a b)) ∧ w = w' := by
  have E : Hid ((a = b → opI 16 a b = 1) ∧ (¬ a = b → opI 16 a b = 0)) := by
    rw [opI_16]
    exact ⟨fun h => if_pos (by rw [h]), fun h => if_neg (fun e => h (bv_inj ha hb e))⟩
  have hf := and63 b
  have HF := Lib.hid (far_lt b)
  have hi := IntWalk.i64_in (far b : Int) ⟨by omega, by have := far_lt b; omega⟩
  go_enter Tryd.func11, Tryd.ntmps11
  go_wp2_with (first | (go_at_call 35; refine (refbelow_any _ _ _).mono ?_; rintro e w' ⟨rfl, rfl⟩) | (go_at_call 34; refine (refone_any _ _).mono ?_; rintro e w' ⟨rfl, rfl⟩))
  all_goals go_ret
  all_goals by_cases h' : a = b
  all_goals first
    | exact absurd ‹a = b› ‹¬ a = b›
    | exact ⟨ret_i64 ((E.out.1 h').symm.trans (by first | rfl | rw [h'])), rfl⟩
    | exact ⟨ret_i64 (E.out.2 h').symm, rfl⟩
set_option maxHeartbeats 1000000 in
theorem refdo_none (op a b : Int) (w : World) (hk : knownB op = false) :
    Calls Tryd.prog 11 #[.int .u8 op, .int .i64 a, .int .i64 b] w fun e w' => e = .returned (.int .i64 0) ∧ w = w' := by
  have e1 : (op == 1) = false := by simp only [beq_eq_false_iff_ne]; intro h; subst h; exact absurd hk (by decide)
  have e2 : (op == 2) = false := by simp only [beq_eq_false_iff_ne]; intro h; subst h; exact absurd hk (by decide)
  have e3 : (op == 3) = false := by simp only [beq_eq_false_iff_ne]; intro h; subst h; exact absurd hk (by decide)
  have e4 : (op == 4) = false := by simp only [beq_eq_false_iff_ne]; intro h; subst h; exact absurd hk (by decide)
  have e5 : (op == 5) = false := by simp only [beq_eq_false_iff_ne]; intro h; subst h; exact absurd hk (by decide)
  have e6 : (op == 6) = false := by simp only [beq_eq_false_iff_ne]; intro h; subst h; exact absurd hk (by decide)
  have e7 : (op == 7) = false := by simp only [beq_eq_false_iff_ne]; intro h; subst h; exact absurd hk (by decide)
  have e8 : (op == 8) = false := by simp only [beq_eq_false_iff_ne]; intro h; subst h; exact absurd hk (by decide)
  have e9 : (op == 9) = false := by simp only [beq_eq_false_iff_ne]; intro h; subst h; exact absurd hk (by decide)
  have e10 : (op == 10) = false := by simp only [beq_eq_false_iff_ne]; intro h; subst h; exact absurd hk (by decide)
  have e11 : (op == 11) = false := by simp only [beq_eq_false_iff_ne]; intro h; subst h; exact absurd hk (by decide)
  have e12 : (op == 12) = false := by simp only [beq_eq_false_iff_ne]; intro h; subst h; exact absurd hk (by decide)
  have e13 : (op == 13) = false := by simp only [beq_eq_false_iff_ne]; intro h; subst h; exact absurd hk (by decide)
  have e14 : (op == 14) = false := by simp only [beq_eq_false_iff_ne]; intro h; subst h; exact absurd hk (by decide)
  have e15 : (op == 15) = false := by simp only [beq_eq_false_iff_ne]; intro h; subst h; exact absurd hk (by decide)
  have e16 : (op == 16) = false := by simp only [beq_eq_false_iff_ne]; intro h; subst h; exact absurd hk (by decide)
  have HK := Lib.hid hk; clear hk
  have hf := and63 b
  have hi := IntWalk.i64_in (far b : Int) ⟨by omega, by have := far_lt b; omega⟩
  go_enter Tryd.func11, Tryd.ntmps11
  go_wp2
  go_ret
  exact ⟨rfl, rfl⟩
/-- The document's own Do, of any operation and any two numbers. -/
theorem refdo_any (op a b : Int) (w : World) (ha : InR a) (hb : InR b) :
    Calls Tryd.prog 11 #[.int .u8 op, .int .i64 a, .int .i64 b] w fun e w' => e = .returned (.int .i64 (opI op a b)) ∧ w = w' := by
  rcases op_cases op with rfl | rfl | rfl | rfl | rfl | rfl | rfl | rfl | rfl | rfl | rfl | rfl | rfl | rfl | rfl | rfl | hk
  · exact refdo1 a b w
  · exact refdo2 a b w
  · exact refdo3 a b w
  · exact refdo4 a b w ha hb
  · exact refdo5 a b w ha hb
  · exact refdo6 a b w ha hb
  · exact refdo7 a b w ha hb
  · exact refdo8 a b w
  · exact refdo9 a b w
  · exact refdo10 a b w
  · exact refdo11 a b w
  · exact refdo12 a b w
  · exact refdo13 a b w
  · exact refdo14 a b w
  · exact refdo15 a b w
  · exact refdo16 a b w ha hb
  · rw [opI_none op a b hk]
    exact refdo_none op a b w hk
end Go.Proofs.YtfibonciioipnaaDoor
