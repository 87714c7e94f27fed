/-
  Several texts in one: Ops: Layer 1: word.operations answers the row of its closures, in a new block.; Word: Layer 1, the operations: contracts of word.Known, word.truth, each closure of word.operations, word.operations, and word.Do: of any operation and any two numbers Do answers opI, and writes nothing that was there.; Told: Layer 1: contracts of word.Groups, word.Swaps, word.Keeps: what they tell of any operation.; Pop: How many bits of a word are 1, as math/bits counts them (three steps within bytes, then the bytes' sum); that it is 1 just for powers of 2. Plain arithmetic: it speaks of no program.; RefDo: RefDo: Bit, Add, OrderM, Mul, Moved, Divide, RefDo in one text.; Power: Layer 1: contracts of math/bits.OnesCount64, math/bits.TrailingZeros64 (at a power of 2, its table laid), word.Power.; NLawsM: What WordLaws asks of words of 64 bits: where an operation swaps, groups, keeps; quotients and what is left; powers of 2; just one of below, above, same..
-/
import Derived.Test.YtgkjdmojbndicaaGreatDoorRows
import Derived.Test.YtgkjdmojbndicaaGreatDoorMA
import Derived.WalkSpells
import Derived.WalkLawsBesides
import Derived.Laws.EntriesVeiled
import Derived.Lib.Hide
import Derived.Laws.Bits64b
import Derived.Lib.TrailingZeros
namespace Go.Proofs.YtgkjdmojbndicaaGreatDoor
open Go.RowKit

/-- The row of closures. -/
def opsV : Array Value := #[Value.nilFunc, Value.func (Fn.func 73) #[] #[], Value.func (Fn.func 74) #[] #[], Value.func (Fn.func 75) #[] #[], Value.func (Fn.func 76) #[] #[], Value.func (Fn.func 77) #[] #[], Value.func (Fn.func 78) #[] #[], Value.func (Fn.func 79) #[] #[], Value.func (Fn.func 80) #[] #[], Value.func (Fn.func 81) #[] #[], Value.func (Fn.func 82) #[] #[], Value.func (Fn.func 83) #[] #[], Value.func (Fn.func 84) #[] #[], Value.func (Fn.func 85) #[] #[], Value.func (Fn.func 86) #[] #[], Value.func (Fn.func 88) #[] #[], Value.func (Fn.func 89) #[] #[]]
set_option maxHeartbeats 4000000 in
set_option maxRecDepth 100000 in
theorem operations_any (w : World) :
    Calls Tryz.prog 57 #[] w fun e w' => e = .returned (.agg opsV) ∧ w.alloc (.cells opsV 98) = w' := by
  go_enter Tryz.func57, Tryz.ntmps57
  go_wp2
  exact bodyPost_ret (v := .agg opsV) (by simp [results, Tryz.results57, go_sem]; rfl) rfl ⟨rfl, rfl⟩
end Go.Proofs.YtgkjdmojbndicaaGreatDoor

namespace Go.Proofs.YtgkjdmojbndicaaGreatDoor
open Go.RowKit

/-- Is it an operation? -/
def knownB (op : Int) : Bool := decide (1 ≤ op) && decide (op ≤ 16)
theorem ret_i64 {a b : Int} (h : a = b) : Ending.returned (.int .i64 a) = .returned (.int .i64 b) := by rw [h]

set_option maxHeartbeats 400000 in
theorem known_yes (op : Int) (w : World) (h1 : 1 ≤ op) (h2 : op ≤ 16) : Calls Tryz.prog 42 #[.int .u8 op] w fun e w' => e = .returned (.bool true) ∧ w = w' := by
  go_enter Tryz.func42, Tryz.ntmps42
  go_wp2
  go_ret
  exact ⟨rfl, rfl⟩
set_option maxHeartbeats 400000 in
theorem known_low (op : Int) (w : World) (h1 : op < 1) : Calls Tryz.prog 42 #[.int .u8 op] w fun e w' => e = .returned (.bool false) ∧ w = w' := by
  go_enter Tryz.func42, Tryz.ntmps42
  go_wp2
  go_ret
  exact ⟨rfl, rfl⟩
set_option maxHeartbeats 400000 in
theorem known_high (op : Int) (w : World) (h1 : ¬ op ≤ 16) : Calls Tryz.prog 42 #[.int .u8 op] w fun e w' => e = .returned (.bool false) ∧ w = w' := by
  have h2 : 1 ≤ op := by omega
  go_enter Tryz.func42, Tryz.ntmps42
  go_wp2
  go_ret
  exact ⟨rfl, rfl⟩
theorem known_any (op : Int) (w : World) : Calls Tryz.prog 42 #[.int .u8 op] w fun e w' => e = .returned (.bool (knownB op)) ∧ w = w' := by
  unfold knownB
  by_cases h1 : op < 1
  · refine (known_low op w h1).mono ?_
    rintro e w' ⟨rfl, rfl⟩
    simp; omega
  · by_cases h2 : op ≤ 16
    · refine (known_yes op w (by omega) h2).mono ?_
      rintro e w' ⟨rfl, rfl⟩
      simp; omega
    · refine (known_high op w h2).mono ?_
      rintro e w' ⟨rfl, rfl⟩
      simp; omega
set_option maxHeartbeats 400000 in
theorem truth_any (b : Bool) (w : World) : Calls Tryz.prog 87 #[.bool b] w fun e w' => e = .returned (.int .i64 (if b then 1 else 0)) ∧ w = w' := by
  cases b
  all_goals
    go_enter Tryz.func87, Tryz.ntmps87
    go_wp2
    go_ret
    exact ⟨rfl, rfl⟩
set_option maxHeartbeats 400000 in
theorem clo1 (a b : Int) (w : World) (ha : InR a) (hb : InR b) : Calls Tryz.prog 73 #[.int .i64 a, .int .i64 b] w fun e w' => e = .returned (.int .i64 (opI 1 a b)) ∧ w = w' := by
  have HA := Lib.hid ha; clear ha; have HB := Lib.hid hb; clear hb
  go_enter Tryz.func73, Tryz.ntmps73
  go_wp2
  go_ret
  refine ⟨ret_i64 ?_, rfl⟩
  show _ = (opB 1 (bv a) (bv b)).toInt
  rw [wrap64_bv, bv_add]; rfl
set_option maxHeartbeats 400000 in
theorem clo2 (a b : Int) (w : World) (ha : InR a) (hb : InR b) : Calls Tryz.prog 74 #[.int .i64 a, .int .i64 b] w fun e w' => e = .returned (.int .i64 (opI 2 a b)) ∧ w = w' := by
  have HA := Lib.hid ha; clear ha; have HB := Lib.hid hb; clear hb
  go_enter Tryz.func74, Tryz.ntmps74
  go_wp2
  go_ret
  refine ⟨ret_i64 ?_, rfl⟩
  show _ = (opB 2 (bv a) (bv b)).toInt
  rw [wrap64_bv, bv_sub]; rfl
set_option maxHeartbeats 400000 in
theorem clo3 (a b : Int) (w : World) (ha : InR a) (hb : InR b) : Calls Tryz.prog 75 #[.int .i64 a, .int .i64 b] w fun e w' => e = .returned (.int .i64 (opI 3 a b)) ∧ w = w' := by
  have HA := Lib.hid ha; clear ha; have HB := Lib.hid hb; clear hb
  go_enter Tryz.func75, Tryz.ntmps75
  go_wp2
  go_ret
  refine ⟨ret_i64 ?_, rfl⟩
  show _ = (opB 3 (bv a) (bv b)).toInt
  rw [wrap64_bv, bv_mul]; rfl
set_option maxHeartbeats 400000 in
theorem clo8 (a b : Int) (w : World) (ha : InR a) (hb : InR b) : Calls Tryz.prog 80 #[.int .i64 a, .int .i64 b] w fun e w' => e = .returned (.int .i64 (opI 8 a b)) ∧ w = w' := by
  have HA := Lib.hid ha; clear ha; have HB := Lib.hid hb; clear hb
  go_enter Tryz.func80, Tryz.ntmps80
  go_wp2
  go_ret
  refine ⟨ret_i64 ?_, rfl⟩
  show _ = (opB 8 (bv a) (bv b)).toInt
  rw [and_i64]; rfl
set_option maxHeartbeats 400000 in
theorem clo9 (a b : Int) (w : World) (ha : InR a) (hb : InR b) : Calls Tryz.prog 81 #[.int .i64 a, .int .i64 b] w fun e w' => e = .returned (.int .i64 (opI 9 a b)) ∧ w = w' := by
  have HA := Lib.hid ha; clear ha; have HB := Lib.hid hb; clear hb
  go_enter Tryz.func81, Tryz.ntmps81
  go_wp2
  go_ret
  refine ⟨ret_i64 ?_, rfl⟩
  show _ = (opB 9 (bv a) (bv b)).toInt
  rw [or_i64]; rfl
set_option maxHeartbeats 400000 in
theorem clo10 (a b : Int) (w : World) (ha : InR a) (hb : InR b) : Calls Tryz.prog 82 #[.int .i64 a, .int .i64 b] w fun e w' => e = .returned (.int .i64 (opI 10 a b)) ∧ w = w' := by
  have HA := Lib.hid ha; clear ha; have HB := Lib.hid hb; clear hb
  go_enter Tryz.func82, Tryz.ntmps82
  go_wp2
  go_ret
  refine ⟨ret_i64 ?_, rfl⟩
  show _ = (opB 10 (bv a) (bv b)).toInt
  rw [xor_i64]; rfl
set_option maxHeartbeats 400000 in
theorem clo4_zero (a b : Int) (w : World) (ha : InR a) (hb : InR b) (h0 : b = 0) : Calls Tryz.prog 76 #[.int .i64 a, .int .i64 b] w fun e w' => e = .returned (.int .i64 (opI 4 a b)) ∧ w = w' := by
  have e0 : bv b = 0 := (bv_zero_iff hb).2 h0
  have hz : (b == 0) = true := by simp [h0]
  have H0 := Lib.hid h0; clear h0
  have E0 := Lib.hid e0; clear e0
  have HA := Lib.hid ha; clear ha; have HB := Lib.hid hb; clear hb
  go_enter Tryz.func76, Tryz.ntmps76
  go_wp2
  go_ret
  refine ⟨ret_i64 ?_, rfl⟩
  show _ = (opB 4 (bv a) (bv b)).toInt
  rw [show opB 4 (bv a) (bv b) = -1 from if_pos E0.out]; rfl
set_option maxHeartbeats 400000 in
theorem clo4_some (a b : Int) (w : World) (ha : InR a) (hb : InR b) (h0 : ¬ b = 0) : Calls Tryz.prog 76 #[.int .i64 a, .int .i64 b] w fun e w' => e = .returned (.int .i64 (opI 4 a b)) ∧ w = w' := by
  have e0 : ¬ bv b = 0 := fun h => h0 ((bv_zero_iff hb).1 h)
  have hz : (b == 0) = false := by simp [h0]
  have E0 := Lib.hid e0; clear e0
  have HA := Lib.hid ha; clear ha; have HB := Lib.hid hb; clear hb
  go_enter Tryz.func76, Tryz.ntmps76
  go_wp2
  go_ret
  refine ⟨ret_i64 ?_, rfl⟩
  show _ = (opB 4 (bv a) (bv b)).toInt
  rw [sdiv_bv HA.out HB.out]; exact congrArg BitVec.toInt (if_neg E0.out).symm
set_option maxHeartbeats 400000 in
theorem clo5_zero (a b : Int) (w : World) (ha : InR a) (hb : InR b) (h0 : b = 0) : Calls Tryz.prog 77 #[.int .i64 a, .int .i64 b] w fun e w' => e = .returned (.int .i64 (opI 5 a b)) ∧ w = w' := by
  have e0 : bv b = 0 := (bv_zero_iff hb).2 h0
  have hz : (b == 0) = true := by simp [h0]
  have H0 := Lib.hid h0; clear h0
  have E0 := Lib.hid e0; clear e0
  have HA := Lib.hid ha; clear ha; have HB := Lib.hid hb; clear hb
  go_enter Tryz.func77, Tryz.ntmps77
  go_wp2
  go_ret
  refine ⟨ret_i64 ?_, rfl⟩
  show _ = (opB 5 (bv a) (bv b)).toInt
  rw [show opB 5 (bv a) (bv b) = bv a from if_pos E0.out, toInt_bv HA.out]
set_option maxHeartbeats 400000 in
theorem clo5_some (a b : Int) (w : World) (ha : InR a) (hb : InR b) (h0 : ¬ b = 0) : Calls Tryz.prog 77 #[.int .i64 a, .int .i64 b] w fun e w' => e = .returned (.int .i64 (opI 5 a b)) ∧ w = w' := by
  have e0 : ¬ bv b = 0 := fun h => h0 ((bv_zero_iff hb).1 h)
  have hz : (b == 0) = false := by simp [h0]
  have E0 := Lib.hid e0; clear e0
  have HA := Lib.hid ha; clear ha; have HB := Lib.hid hb; clear hb
  go_enter Tryz.func77, Tryz.ntmps77
  go_wp2
  go_ret
  refine ⟨ret_i64 ?_, rfl⟩
  show _ = (opB 5 (bv a) (bv b)).toInt
  rw [srem_bv HA.out HB.out]; exact congrArg BitVec.toInt (if_neg E0.out).symm
set_option maxHeartbeats 400000 in
theorem clo6_zero (a b : Int) (w : World) (ha : InR a) (hb : InR b) (h0 : b = 0) : Calls Tryz.prog 78 #[.int .i64 a, .int .i64 b] w fun e w' => e = .returned (.int .i64 (opI 6 a b)) ∧ w = w' := by
  have e0 : bv b = 0 := (bv_zero_iff hb).2 h0
  have hz : (b == 0) = true := by simp [h0]
  have H0 := Lib.hid h0; clear h0
  have E0 := Lib.hid e0; clear e0
  have HA := Lib.hid ha; clear ha; have HB := Lib.hid hb; clear hb
  go_enter Tryz.func78, Tryz.ntmps78
  go_wp2
  go_ret
  refine ⟨ret_i64 ?_, rfl⟩
  show _ = (opB 6 (bv a) (bv b)).toInt
  rw [show opB 6 (bv a) (bv b) = -1 from if_pos E0.out]; rfl
set_option maxHeartbeats 400000 in
theorem clo6_some (a b : Int) (w : World) (ha : InR a) (hb : InR b) (h0 : ¬ b = 0) : Calls Tryz.prog 78 #[.int .i64 a, .int .i64 b] w fun e w' => e = .returned (.int .i64 (opI 6 a b)) ∧ w = w' := by
  have e0 : ¬ bv b = 0 := fun h => h0 ((bv_zero_iff hb).1 h)
  have hz : (b == 0) = false := by simp [h0]
  have hu : ¬ IntKind.u64.wrap b = 0 := by
    rw [u64_bv]; intro h
    have h' : (bv b).toNat = 0 := by omega
    exact e0 (BitVec.eq_of_toNat_eq h')
  have E0 := Lib.hid e0; clear e0
  have HA := Lib.hid ha; clear ha; have HB := Lib.hid hb; clear hb
  go_enter Tryz.func78, Tryz.ntmps78
  go_wp2
  go_ret
  refine ⟨ret_i64 ?_, rfl⟩
  show _ = (opB 6 (bv a) (bv b)).toInt
  rw [u64_bv a, u64_bv b, udiv_bv, wrap64_bv, bv_toNat]; exact congrArg BitVec.toInt (if_neg E0.out).symm
set_option maxHeartbeats 400000 in
theorem clo7_zero (a b : Int) (w : World) (ha : InR a) (hb : InR b) (h0 : b = 0) : Calls Tryz.prog 79 #[.int .i64 a, .int .i64 b] w fun e w' => e = .returned (.int .i64 (opI 7 a b)) ∧ w = w' := by
  have e0 : bv b = 0 := (bv_zero_iff hb).2 h0
  have hz : (b == 0) = true := by simp [h0]
  have H0 := Lib.hid h0; clear h0
  have E0 := Lib.hid e0; clear e0
  have HA := Lib.hid ha; clear ha; have HB := Lib.hid hb; clear hb
  go_enter Tryz.func79, Tryz.ntmps79
  go_wp2
  go_ret
  refine ⟨ret_i64 ?_, rfl⟩
  show _ = (opB 7 (bv a) (bv b)).toInt
  rw [show opB 7 (bv a) (bv b) = bv a from if_pos E0.out, toInt_bv HA.out]
set_option maxHeartbeats 400000 in
theorem clo7_some (a b : Int) (w : World) (ha : InR a) (hb : InR b) (h0 : ¬ b = 0) : Calls Tryz.prog 79 #[.int .i64 a, .int .i64 b] w fun e w' => e = .returned (.int .i64 (opI 7 a b)) ∧ w = w' := by
  have e0 : ¬ bv b = 0 := fun h => h0 ((bv_zero_iff hb).1 h)
  have hz : (b == 0) = false := by simp [h0]
  have hu : ¬ IntKind.u64.wrap b = 0 := by
    rw [u64_bv]; intro h
    have h' : (bv b).toNat = 0 := by omega
    exact e0 (BitVec.eq_of_toNat_eq h')
  have E0 := Lib.hid e0; clear e0
  have HA := Lib.hid ha; clear ha; have HB := Lib.hid hb; clear hb
  go_enter Tryz.func79, Tryz.ntmps79
  go_wp2
  go_ret
  refine ⟨ret_i64 ?_, rfl⟩
  show _ = (opB 7 (bv a) (bv b)).toInt
  rw [u64_bv a, u64_bv b, umod_bv, wrap64_bv, bv_toNat]; exact congrArg BitVec.toInt (if_neg E0.out).symm
theorem clo4 (a b : Int) (w : World) (ha : InR a) (hb : InR b) : Calls Tryz.prog 76 #[.int .i64 a, .int .i64 b] w fun e w' => e = .returned (.int .i64 (opI 4 a b)) ∧ w = w' := by
  by_cases h0 : b = 0
  · exact clo4_zero a b w ha hb h0
  · exact clo4_some a b w ha hb h0
theorem clo5 (a b : Int) (w : World) (ha : InR a) (hb : InR b) : Calls Tryz.prog 77 #[.int .i64 a, .int .i64 b] w fun e w' => e = .returned (.int .i64 (opI 5 a b)) ∧ w = w' := by
  by_cases h0 : b = 0
  · exact clo5_zero a b w ha hb h0
  · exact clo5_some a b w ha hb h0
theorem clo6 (a b : Int) (w : World) (ha : InR a) (hb : InR b) : Calls Tryz.prog 78 #[.int .i64 a, .int .i64 b] w fun e w' => e = .returned (.int .i64 (opI 6 a b)) ∧ w = w' := by
  by_cases h0 : b = 0
  · exact clo6_zero a b w ha hb h0
  · exact clo6_some a b w ha hb h0
theorem clo7 (a b : Int) (w : World) (ha : InR a) (hb : InR b) : Calls Tryz.prog 79 #[.int .i64 a, .int .i64 b] w fun e w' => e = .returned (.int .i64 (opI 7 a b)) ∧ w = w' := by
  by_cases h0 : b = 0
  · exact clo7_zero a b w ha hb h0
  · exact clo7_some a b w ha hb h0
set_option maxHeartbeats 400000 in
theorem clo11 (a b : Int) (w : World) (ha : InR a) (hb : InR b) : Calls Tryz.prog 83 #[.int .i64 a, .int .i64 b] w fun e w' => e = .returned (.int .i64 (opI 11 a b)) ∧ w = w' := by
  have hs := and63 b
  have hf := far_lt b
  have l1 : (0 : Int) ≤ (far b : Int) := by omega
  have l2 : (far b : Int) ≤ 64 := by omega
  clear hf
  have HA := Lib.hid ha; clear ha; have HB := Lib.hid hb; clear hb
  go_enter Tryz.func83, Tryz.ntmps83
  go_wp2
  go_ret
  refine ⟨ret_i64 ?_, rfl⟩
  show _ = (opB 11 (bv a) (bv b)).toInt
  rw [wrap64_bv, shl_bv]; rfl
set_option maxHeartbeats 400000 in
theorem clo12 (a b : Int) (w : World) (ha : InR a) (hb : InR b) : Calls Tryz.prog 84 #[.int .i64 a, .int .i64 b] w fun e w' => e = .returned (.int .i64 (opI 12 a b)) ∧ w = w' := by
  have hs := and63 b
  have hf := far_lt b
  have l1 : (0 : Int) ≤ (far b : Int) := by omega
  have l2 : (far b : Int) ≤ 64 := by omega
  clear hf
  have HA := Lib.hid ha; clear ha; have HB := Lib.hid hb; clear hb
  go_enter Tryz.func84, Tryz.ntmps84
  go_wp2
  go_ret
  refine ⟨ret_i64 ?_, rfl⟩
  show _ = (opB 12 (bv a) (bv b)).toInt
  rw [u64_bv a, shrU_bv, wrap64_bv, bv_toNat]; rfl
set_option maxHeartbeats 400000 in
theorem clo13 (a b : Int) (w : World) (ha : InR a) (hb : InR b) : Calls Tryz.prog 85 #[.int .i64 a, .int .i64 b] w fun e w' => e = .returned (.int .i64 (opI 13 a b)) ∧ w = w' := by
  have hs := and63 b
  have hf := far_lt b
  have l1 : (0 : Int) ≤ (far b : Int) := by omega
  have l2 : (far b : Int) ≤ 64 := by omega
  clear hf
  have HA := Lib.hid ha; clear ha; have HB := Lib.hid hb; clear hb
  go_enter Tryz.func85, Tryz.ntmps85
  go_wp2
  go_ret
  refine ⟨ret_i64 ?_, rfl⟩
  show _ = (opB 13 (bv a) (bv b)).toInt
  conv => lhs; rw [← toInt_bv HA.out]
  rw [shrS_bv]; rfl
set_option maxHeartbeats 400000 in
theorem clo14 (a b : Int) (w : World) (ha : InR a) (hb : InR b) : Calls Tryz.prog 86 #[.int .i64 a, .int .i64 b] w fun e w' => e = .returned (.int .i64 (opI 14 a b)) ∧ w = w' := by
  have HA := Lib.hid ha; clear ha; have HB := Lib.hid hb; clear hb
  go_enter Tryz.func86, Tryz.ntmps86
  go_wp2_with (go_at_call 87; refine (truth_any _ _).mono ?_; rintro e w' ⟨rfl, rfl⟩)
  all_goals
    go_ret
    refine ⟨ret_i64 ?_, rfl⟩
    show _ = (opB 14 (bv a) (bv b)).toInt
    simp only [opB, slt_bv HA.out HB.out]
    split
    · first | rfl | (rename_i h; have h2 := of_decide_eq_true h; omega)
    · first | rfl | (rename_i h; exact absurd (decide_eq_true (by omega)) h)
set_option maxHeartbeats 400000 in
theorem clo15 (a b : Int) (w : World) (ha : InR a) (hb : InR b) : Calls Tryz.prog 88 #[.int .i64 a, .int .i64 b] w fun e w' => e = .returned (.int .i64 (opI 15 a b)) ∧ w = w' := by
  have HA := Lib.hid ha; clear ha; have HB := Lib.hid hb; clear hb
  go_enter Tryz.func88, Tryz.ntmps88
  go_wp2_with (go_at_call 87; refine (truth_any _ _).mono ?_; rintro e w' ⟨rfl, rfl⟩)
  all_goals
    go_ret
    refine ⟨ret_i64 ?_, rfl⟩
    show _ = (opB 15 (bv a) (bv b)).toInt
    simp only [opB, ult_bv, ← u64_bv]
    split
    · first | rfl | (rename_i h; have h2 := of_decide_eq_true h; omega)
    · first | rfl | (rename_i h; exact absurd (decide_eq_true (by omega)) h)
set_option maxHeartbeats 400000 in
theorem clo16 (a b : Int) (w : World) (ha : InR a) (hb : InR b) : Calls Tryz.prog 89 #[.int .i64 a, .int .i64 b] w fun e w' => e = .returned (.int .i64 (opI 16 a b)) ∧ w = w' := by
  have HA := Lib.hid ha; clear ha; have HB := Lib.hid hb; clear hb
  go_enter Tryz.func89, Tryz.ntmps89
  go_wp2_with (go_at_call 87; refine (truth_any _ _).mono ?_; rintro e w' ⟨rfl, rfl⟩)
  all_goals
    go_ret
    refine ⟨ret_i64 ?_, rfl⟩
    by_cases h' : a = b
    · have e : opB 16 (bv a) (bv b) = 1 := if_pos (by rw [h'])
      first | exact absurd h' ‹_› | (show (1 : Int) = (opB 16 _ _).toInt; rw [← h'] at e ⊢; rw [e]; rfl)
    · have e : opB 16 (bv a) (bv b) = 0 := if_neg (fun e => h' (bv_inj HA.out HB.out e))
      first | exact absurd ‹a = b› h' | (show (0 : Int) = (opB 16 _ _).toInt; rw [e]; rfl)
set_option maxHeartbeats 400000 in
theorem do1 (a b : Int) (w : World) (ha : InR a) (hb : InR b) :
    Calls Tryz.prog 27 #[.int .u8 1, .int .i64 a, .int .i64 b] w fun e w' => e = .returned (.int .i64 (opI 1 a b)) ∧ Below w.heap.size w w' := by
  have hix : ∀ w, (Instr.index 98 (.agg opsV) (.int .u8 1)).run Tryz.prog w = .ok (.func (.func 73) #[] #[]) w := fun _ => by kernel_rfl
  go_enter Tryz.func27, Tryz.ntmps27
  go_wp2_with (first | (go_at_call 42; refine (known_yes _ _ (by decide) (by decide)).mono ?_; rintro e w' ⟨rfl, rfl⟩) | (go_at_call 57; refine (operations_any _).mono ?_; rintro e w' ⟨rfl, rfl⟩) | (go_at_call 73; refine (clo1 _ _ _ ha hb).mono ?_; rintro e w' ⟨rfl, rfl⟩))
  go_ret
  exact ⟨rfl, (Below.refl _ _).alloc (Nat.le_refl _) _⟩
set_option maxHeartbeats 400000 in
theorem do2 (a b : Int) (w : World) (ha : InR a) (hb : InR b) :
    Calls Tryz.prog 27 #[.int .u8 2, .int .i64 a, .int .i64 b] w fun e w' => e = .returned (.int .i64 (opI 2 a b)) ∧ Below w.heap.size w w' := by
  have hix : ∀ w, (Instr.index 98 (.agg opsV) (.int .u8 2)).run Tryz.prog w = .ok (.func (.func 74) #[] #[]) w := fun _ => by kernel_rfl
  go_enter Tryz.func27, Tryz.ntmps27
  go_wp2_with (first | (go_at_call 42; refine (known_yes _ _ (by decide) (by decide)).mono ?_; rintro e w' ⟨rfl, rfl⟩) | (go_at_call 57; refine (operations_any _).mono ?_; rintro e w' ⟨rfl, rfl⟩) | (go_at_call 74; refine (clo2 _ _ _ ha hb).mono ?_; rintro e w' ⟨rfl, rfl⟩))
  go_ret
  exact ⟨rfl, (Below.refl _ _).alloc (Nat.le_refl _) _⟩
set_option maxHeartbeats 400000 in
theorem do3 (a b : Int) (w : World) (ha : InR a) (hb : InR b) :
    Calls Tryz.prog 27 #[.int .u8 3, .int .i64 a, .int .i64 b] w fun e w' => e = .returned (.int .i64 (opI 3 a b)) ∧ Below w.heap.size w w' := by
  have hix : ∀ w, (Instr.index 98 (.agg opsV) (.int .u8 3)).run Tryz.prog w = .ok (.func (.func 75) #[] #[]) w := fun _ => by kernel_rfl
  go_enter Tryz.func27, Tryz.ntmps27
  go_wp2_with (first | (go_at_call 42; refine (known_yes _ _ (by decide) (by decide)).mono ?_; rintro e w' ⟨rfl, rfl⟩) | (go_at_call 57; refine (operations_any _).mono ?_; rintro e w' ⟨rfl, rfl⟩) | (go_at_call 75; refine (clo3 _ _ _ ha hb).mono ?_; rintro e w' ⟨rfl, rfl⟩))
  go_ret
  exact ⟨rfl, (Below.refl _ _).alloc (Nat.le_refl _) _⟩
set_option maxHeartbeats 400000 in
theorem do4 (a b : Int) (w : World) (ha : InR a) (hb : InR b) :
    Calls Tryz.prog 27 #[.int .u8 4, .int .i64 a, .int .i64 b] w fun e w' => e = .returned (.int .i64 (opI 4 a b)) ∧ Below w.heap.size w w' := by
  have hix : ∀ w, (Instr.index 98 (.agg opsV) (.int .u8 4)).run Tryz.prog w = .ok (.func (.func 76) #[] #[]) w := fun _ => by kernel_rfl
  go_enter Tryz.func27, Tryz.ntmps27
  go_wp2_with (first | (go_at_call 42; refine (known_yes _ _ (by decide) (by decide)).mono ?_; rintro e w' ⟨rfl, rfl⟩) | (go_at_call 57; refine (operations_any _).mono ?_; rintro e w' ⟨rfl, rfl⟩) | (go_at_call 76; refine (clo4 _ _ _ ha hb).mono ?_; rintro e w' ⟨rfl, rfl⟩))
  go_ret
  exact ⟨rfl, (Below.refl _ _).alloc (Nat.le_refl _) _⟩
set_option maxHeartbeats 400000 in
theorem do5 (a b : Int) (w : World) (ha : InR a) (hb : InR b) :
    Calls Tryz.prog 27 #[.int .u8 5, .int .i64 a, .int .i64 b] w fun e w' => e = .returned (.int .i64 (opI 5 a b)) ∧ Below w.heap.size w w' := by
  have hix : ∀ w, (Instr.index 98 (.agg opsV) (.int .u8 5)).run Tryz.prog w = .ok (.func (.func 77) #[] #[]) w := fun _ => by kernel_rfl
  go_enter Tryz.func27, Tryz.ntmps27
  go_wp2_with (first | (go_at_call 42; refine (known_yes _ _ (by decide) (by decide)).mono ?_; rintro e w' ⟨rfl, rfl⟩) | (go_at_call 57; refine (operations_any _).mono ?_; rintro e w' ⟨rfl, rfl⟩) | (go_at_call 77; refine (clo5 _ _ _ ha hb).mono ?_; rintro e w' ⟨rfl, rfl⟩))
  go_ret
  exact ⟨rfl, (Below.refl _ _).alloc (Nat.le_refl _) _⟩
set_option maxHeartbeats 400000 in
theorem do6 (a b : Int) (w : World) (ha : InR a) (hb : InR b) :
    Calls Tryz.prog 27 #[.int .u8 6, .int .i64 a, .int .i64 b] w fun e w' => e = .returned (.int .i64 (opI 6 a b)) ∧ Below w.heap.size w w' := by
  have hix : ∀ w, (Instr.index 98 (.agg opsV) (.int .u8 6)).run Tryz.prog w = .ok (.func (.func 78) #[] #[]) w := fun _ => by kernel_rfl
  go_enter Tryz.func27, Tryz.ntmps27
  go_wp2_with (first | (go_at_call 42; refine (known_yes _ _ (by decide) (by decide)).mono ?_; rintro e w' ⟨rfl, rfl⟩) | (go_at_call 57; refine (operations_any _).mono ?_; rintro e w' ⟨rfl, rfl⟩) | (go_at_call 78; refine (clo6 _ _ _ ha hb).mono ?_; rintro e w' ⟨rfl, rfl⟩))
  go_ret
  exact ⟨rfl, (Below.refl _ _).alloc (Nat.le_refl _) _⟩
set_option maxHeartbeats 400000 in
theorem do7 (a b : Int) (w : World) (ha : InR a) (hb : InR b) :
    Calls Tryz.prog 27 #[.int .u8 7, .int .i64 a, .int .i64 b] w fun e w' => e = .returned (.int .i64 (opI 7 a b)) ∧ Below w.heap.size w w' := by
  have hix : ∀ w, (Instr.index 98 (.agg opsV) (.int .u8 7)).run Tryz.prog w = .ok (.func (.func 79) #[] #[]) w := fun _ => by kernel_rfl
  go_enter Tryz.func27, Tryz.ntmps27
  go_wp2_with (first | (go_at_call 42; refine (known_yes _ _ (by decide) (by decide)).mono ?_; rintro e w' ⟨rfl, rfl⟩) | (go_at_call 57; refine (operations_any _).mono ?_; rintro e w' ⟨rfl, rfl⟩) | (go_at_call 79; refine (clo7 _ _ _ ha hb).mono ?_; rintro e w' ⟨rfl, rfl⟩))
  go_ret
  exact ⟨rfl, (Below.refl _ _).alloc (Nat.le_refl _) _⟩
set_option maxHeartbeats 400000 in
theorem do8 (a b : Int) (w : World) (ha : InR a) (hb : InR b) :
    Calls Tryz.prog 27 #[.int .u8 8, .int .i64 a, .int .i64 b] w fun e w' => e = .returned (.int .i64 (opI 8 a b)) ∧ Below w.heap.size w w' := by
  have hix : ∀ w, (Instr.index 98 (.agg opsV) (.int .u8 8)).run Tryz.prog w = .ok (.func (.func 80) #[] #[]) w := fun _ => by kernel_rfl
  go_enter Tryz.func27, Tryz.ntmps27
  go_wp2_with (first | (go_at_call 42; refine (known_yes _ _ (by decide) (by decide)).mono ?_; rintro e w' ⟨rfl, rfl⟩) | (go_at_call 57; refine (operations_any _).mono ?_; rintro e w' ⟨rfl, rfl⟩) | (go_at_call 80; refine (clo8 _ _ _ ha hb).mono ?_; rintro e w' ⟨rfl, rfl⟩))
  go_ret
  exact ⟨rfl, (Below.refl _ _).alloc (Nat.le_refl _) _⟩
set_option maxHeartbeats 400000 in
theorem do9 (a b : Int) (w : World) (ha : InR a) (hb : InR b) :
    Calls Tryz.prog 27 #[.int .u8 9, .int .i64 a, .int .i64 b] w fun e w' => e = .returned (.int .i64 (opI 9 a b)) ∧ Below w.heap.size w w' := by
  have hix : ∀ w, (Instr.index 98 (.agg opsV) (.int .u8 9)).run Tryz.prog w = .ok (.func (.func 81) #[] #[]) w := fun _ => by kernel_rfl
  go_enter Tryz.func27, Tryz.ntmps27
  go_wp2_with (first | (go_at_call 42; refine (known_yes _ _ (by decide) (by decide)).mono ?_; rintro e w' ⟨rfl, rfl⟩) | (go_at_call 57; refine (operations_any _).mono ?_; rintro e w' ⟨rfl, rfl⟩) | (go_at_call 81; refine (clo9 _ _ _ ha hb).mono ?_; rintro e w' ⟨rfl, rfl⟩))
  go_ret
  exact ⟨rfl, (Below.refl _ _).alloc (Nat.le_refl _) _⟩
set_option maxHeartbeats 400000 in
theorem do10 (a b : Int) (w : World) (ha : InR a) (hb : InR b) :
    Calls Tryz.prog 27 #[.int .u8 10, .int .i64 a, .int .i64 b] w fun e w' => e = .returned (.int .i64 (opI 10 a b)) ∧ Below w.heap.size w w' := by
  have hix : ∀ w, (Instr.index 98 (.agg opsV) (.int .u8 10)).run Tryz.prog w = .ok (.func (.func 82) #[] #[]) w := fun _ => by kernel_rfl
  go_enter Tryz.func27, Tryz.ntmps27
  go_wp2_with (first | (go_at_call 42; refine (known_yes _ _ (by decide) (by decide)).mono ?_; rintro e w' ⟨rfl, rfl⟩) | (go_at_call 57; refine (operations_any _).mono ?_; rintro e w' ⟨rfl, rfl⟩) | (go_at_call 82; refine (clo10 _ _ _ ha hb).mono ?_; rintro e w' ⟨rfl, rfl⟩))
  go_ret
  exact ⟨rfl, (Below.refl _ _).alloc (Nat.le_refl _) _⟩
set_option maxHeartbeats 400000 in
theorem do11 (a b : Int) (w : World) (ha : InR a) (hb : InR b) :
    Calls Tryz.prog 27 #[.int .u8 11, .int .i64 a, .int .i64 b] w fun e w' => e = .returned (.int .i64 (opI 11 a b)) ∧ Below w.heap.size w w' := by
  have hix : ∀ w, (Instr.index 98 (.agg opsV) (.int .u8 11)).run Tryz.prog w = .ok (.func (.func 83) #[] #[]) w := fun _ => by kernel_rfl
  go_enter Tryz.func27, Tryz.ntmps27
  go_wp2_with (first | (go_at_call 42; refine (known_yes _ _ (by decide) (by decide)).mono ?_; rintro e w' ⟨rfl, rfl⟩) | (go_at_call 57; refine (operations_any _).mono ?_; rintro e w' ⟨rfl, rfl⟩) | (go_at_call 83; refine (clo11 _ _ _ ha hb).mono ?_; rintro e w' ⟨rfl, rfl⟩))
  go_ret
  exact ⟨rfl, (Below.refl _ _).alloc (Nat.le_refl _) _⟩
set_option maxHeartbeats 400000 in
theorem do12 (a b : Int) (w : World) (ha : InR a) (hb : InR b) :
    Calls Tryz.prog 27 #[.int .u8 12, .int .i64 a, .int .i64 b] w fun e w' => e = .returned (.int .i64 (opI 12 a b)) ∧ Below w.heap.size w w' := by
  have hix : ∀ w, (Instr.index 98 (.agg opsV) (.int .u8 12)).run Tryz.prog w = .ok (.func (.func 84) #[] #[]) w := fun _ => by kernel_rfl
  go_enter Tryz.func27, Tryz.ntmps27
  go_wp2_with (first | (go_at_call 42; refine (known_yes _ _ (by decide) (by decide)).mono ?_; rintro e w' ⟨rfl, rfl⟩) | (go_at_call 57; refine (operations_any _).mono ?_; rintro e w' ⟨rfl, rfl⟩) | (go_at_call 84; refine (clo12 _ _ _ ha hb).mono ?_; rintro e w' ⟨rfl, rfl⟩))
  go_ret
  exact ⟨rfl, (Below.refl _ _).alloc (Nat.le_refl _) _⟩
set_option maxHeartbeats 400000 in
theorem do13 (a b : Int) (w : World) (ha : InR a) (hb : InR b) :
    Calls Tryz.prog 27 #[.int .u8 13, .int .i64 a, .int .i64 b] w fun e w' => e = .returned (.int .i64 (opI 13 a b)) ∧ Below w.heap.size w w' := by
  have hix : ∀ w, (Instr.index 98 (.agg opsV) (.int .u8 13)).run Tryz.prog w = .ok (.func (.func 85) #[] #[]) w := fun _ => by kernel_rfl
  go_enter Tryz.func27, Tryz.ntmps27
  go_wp2_with (first | (go_at_call 42; refine (known_yes _ _ (by decide) (by decide)).mono ?_; rintro e w' ⟨rfl, rfl⟩) | (go_at_call 57; refine (operations_any _).mono ?_; rintro e w' ⟨rfl, rfl⟩) | (go_at_call 85; refine (clo13 _ _ _ ha hb).mono ?_; rintro e w' ⟨rfl, rfl⟩))
  go_ret
  exact ⟨rfl, (Below.refl _ _).alloc (Nat.le_refl _) _⟩
set_option maxHeartbeats 400000 in
theorem do14 (a b : Int) (w : World) (ha : InR a) (hb : InR b) :
    Calls Tryz.prog 27 #[.int .u8 14, .int .i64 a, .int .i64 b] w fun e w' => e = .returned (.int .i64 (opI 14 a b)) ∧ Below w.heap.size w w' := by
  have hix : ∀ w, (Instr.index 98 (.agg opsV) (.int .u8 14)).run Tryz.prog w = .ok (.func (.func 86) #[] #[]) w := fun _ => by kernel_rfl
  go_enter Tryz.func27, Tryz.ntmps27
  go_wp2_with (first | (go_at_call 42; refine (known_yes _ _ (by decide) (by decide)).mono ?_; rintro e w' ⟨rfl, rfl⟩) | (go_at_call 57; refine (operations_any _).mono ?_; rintro e w' ⟨rfl, rfl⟩) | (go_at_call 86; refine (clo14 _ _ _ ha hb).mono ?_; rintro e w' ⟨rfl, rfl⟩))
  go_ret
  exact ⟨rfl, (Below.refl _ _).alloc (Nat.le_refl _) _⟩
set_option maxHeartbeats 400000 in
theorem do15 (a b : Int) (w : World) (ha : InR a) (hb : InR b) :
    Calls Tryz.prog 27 #[.int .u8 15, .int .i64 a, .int .i64 b] w fun e w' => e = .returned (.int .i64 (opI 15 a b)) ∧ Below w.heap.size w w' := by
  have hix : ∀ w, (Instr.index 98 (.agg opsV) (.int .u8 15)).run Tryz.prog w = .ok (.func (.func 88) #[] #[]) w := fun _ => by kernel_rfl
  go_enter Tryz.func27, Tryz.ntmps27
  go_wp2_with (first | (go_at_call 42; refine (known_yes _ _ (by decide) (by decide)).mono ?_; rintro e w' ⟨rfl, rfl⟩) | (go_at_call 57; refine (operations_any _).mono ?_; rintro e w' ⟨rfl, rfl⟩) | (go_at_call 88; refine (clo15 _ _ _ ha hb).mono ?_; rintro e w' ⟨rfl, rfl⟩))
  go_ret
  exact ⟨rfl, (Below.refl _ _).alloc (Nat.le_refl _) _⟩
set_option maxHeartbeats 400000 in
theorem do16 (a b : Int) (w : World) (ha : InR a) (hb : InR b) :
    Calls Tryz.prog 27 #[.int .u8 16, .int .i64 a, .int .i64 b] w fun e w' => e = .returned (.int .i64 (opI 16 a b)) ∧ Below w.heap.size w w' := by
  have hix : ∀ w, (Instr.index 98 (.agg opsV) (.int .u8 16)).run Tryz.prog w = .ok (.func (.func 89) #[] #[]) w := fun _ => by kernel_rfl
  go_enter Tryz.func27, Tryz.ntmps27
  go_wp2_with (first | (go_at_call 42; refine (known_yes _ _ (by decide) (by decide)).mono ?_; rintro e w' ⟨rfl, rfl⟩) | (go_at_call 57; refine (operations_any _).mono ?_; rintro e w' ⟨rfl, rfl⟩) | (go_at_call 89; refine (clo16 _ _ _ ha hb).mono ?_; rintro e w' ⟨rfl, rfl⟩))
  go_ret
  exact ⟨rfl, (Below.refl _ _).alloc (Nat.le_refl _) _⟩
set_option maxHeartbeats 400000 in
theorem do_none (k : Int) (a b : Int) (w : World) (h : knownB k = false) (hr : opI k a b = 0) :
    Calls Tryz.prog 27 #[.int .u8 k, .int .i64 a, .int .i64 b] w fun e w' => e = .returned (.int .i64 (opI k a b)) ∧ Below w.heap.size w w' := by
  rw [hr]; clear hr
  go_enter Tryz.func27, Tryz.ntmps27
  go_wp2_with (go_at_call 42; refine (known_any _ _).mono ?_; rintro e w' ⟨rfl, rfl⟩)
  go_ret
  exact ⟨rfl, Below.refl _ _⟩
theorem opI_none (k a b : Int) (h : knownB k = false) : opI k a b = 0 := by
  have h1 : k < 1 ∨ 16 < k := by
    unfold knownB at h
    simp at h
    omega
  have h2 : opB k.toNat (bv a) (bv b) = 0 := by
    unfold opB
    split <;> first | omega | rfl
  show (opB k.toNat (bv a) (bv b)).toInt = 0
  rw [h2]; rfl
/-- word.Do, of any operation and any two numbers. -/
theorem do_any (op a b : Int) (w : World) (ha : InR a) (hb : InR b) :
    Calls Tryz.prog 27 #[.int .u8 op, .int .i64 a, .int .i64 b] w fun e w' => e = .returned (.int .i64 (opI op a b)) ∧ Below w.heap.size w w' := by
  by_cases hk : knownB op = true
  · have hc : op = 1 ∨ op = 2 ∨ op = 3 ∨ op = 4 ∨ op = 5 ∨ op = 6 ∨ op = 7 ∨ op = 8 ∨ op = 9 ∨ op = 10 ∨ op = 11 ∨ op = 12 ∨ op = 13 ∨ op = 14 ∨ op = 15 ∨ op = 16 := by
      unfold knownB at hk
      simp at hk
      omega
    rcases hc with rfl | rfl | rfl | rfl | rfl | rfl | rfl | rfl | rfl | rfl | rfl | rfl | rfl | rfl | rfl | rfl
    · exact do1 a b w ha hb
    · exact do2 a b w ha hb
    · exact do3 a b w ha hb
    · exact do4 a b w ha hb
    · exact do5 a b w ha hb
    · exact do6 a b w ha hb
    · exact do7 a b w ha hb
    · exact do8 a b w ha hb
    · exact do9 a b w ha hb
    · exact do10 a b w ha hb
    · exact do11 a b w ha hb
    · exact do12 a b w ha hb
    · exact do13 a b w ha hb
    · exact do14 a b w ha hb
    · exact do15 a b w ha hb
    · exact do16 a b w ha hb
  · have hk' : knownB op = false := by simpa using hk
    exact do_none op a b w hk' (opI_none op a b hk')
theorem op_cases (op : Int) : op = 1 ∨ op = 2 ∨ op = 3 ∨ op = 4 ∨ op = 5 ∨ op = 6 ∨ op = 7 ∨ op = 8 ∨ op = 9 ∨ op = 10 ∨ op = 11 ∨ op = 12 ∨ op = 13 ∨ op = 14 ∨ op = 15 ∨ op = 16 ∨ knownB op = false := by
  by_cases hk : knownB op = false
  · exact Or.inr (Or.inr (Or.inr (Or.inr (Or.inr (Or.inr (Or.inr (Or.inr (Or.inr (Or.inr (Or.inr (Or.inr (Or.inr (Or.inr (Or.inr (Or.inr hk)))))))))))))))
  · have hk2 : knownB op = true := by simpa using hk
    unfold knownB at hk2
    simp at hk2
    omega
end Go.Proofs.YtgkjdmojbndicaaGreatDoor

namespace Go.Proofs.YtgkjdmojbndicaaGreatDoor
open Go.RowKit

/-- Does it group? -/
def groupsB (op : Int) : Bool := op == 1 || op == 3 || op == 8 || op == 9 || op == 10
/-- Does it swap? -/
def swapsB (op : Int) : Bool := op == 16 || groupsB op
/-- What it keeps. -/
def keepsN (op : Int) : Int := if op == 3 || op == 4 || op == 6 then 1 else if op == 8 then -1 else 0
def keepsB (op : Int) : Bool := knownB op && !(op == 14 || op == 15 || op == 16)
set_option maxHeartbeats 1000000 in
theorem groups_none (op : Int) (w : World) (hk : knownB op = false) : Calls Tryz.prog 29 #[.int .u8 op] w fun e w' => e = .returned (.bool false) ∧ w = w' := by
  have e1 : (op == 1) = false := by simp only [beq_eq_false_iff_ne]; intro h; subst h; exact absurd hk (by decide)
  have e2 : (op == 2) = false := by simp only [beq_eq_false_iff_ne]; intro h; subst h; exact absurd hk (by decide)
  have e3 : (op == 3) = false := by simp only [beq_eq_false_iff_ne]; intro h; subst h; exact absurd hk (by decide)
  have e4 : (op == 4) = false := by simp only [beq_eq_false_iff_ne]; intro h; subst h; exact absurd hk (by decide)
  have e5 : (op == 5) = false := by simp only [beq_eq_false_iff_ne]; intro h; subst h; exact absurd hk (by decide)
  have e6 : (op == 6) = false := by simp only [beq_eq_false_iff_ne]; intro h; subst h; exact absurd hk (by decide)
  have e7 : (op == 7) = false := by simp only [beq_eq_false_iff_ne]; intro h; subst h; exact absurd hk (by decide)
  have e8 : (op == 8) = false := by simp only [beq_eq_false_iff_ne]; intro h; subst h; exact absurd hk (by decide)
  have e9 : (op == 9) = false := by simp only [beq_eq_false_iff_ne]; intro h; subst h; exact absurd hk (by decide)
  have e10 : (op == 10) = false := by simp only [beq_eq_false_iff_ne]; intro h; subst h; exact absurd hk (by decide)
  have e11 : (op == 11) = false := by simp only [beq_eq_false_iff_ne]; intro h; subst h; exact absurd hk (by decide)
  have e12 : (op == 12) = false := by simp only [beq_eq_false_iff_ne]; intro h; subst h; exact absurd hk (by decide)
  have e13 : (op == 13) = false := by simp only [beq_eq_false_iff_ne]; intro h; subst h; exact absurd hk (by decide)
  have e14 : (op == 14) = false := by simp only [beq_eq_false_iff_ne]; intro h; subst h; exact absurd hk (by decide)
  have e15 : (op == 15) = false := by simp only [beq_eq_false_iff_ne]; intro h; subst h; exact absurd hk (by decide)
  have e16 : (op == 16) = false := by simp only [beq_eq_false_iff_ne]; intro h; subst h; exact absurd hk (by decide)
  have HK := Lib.hid hk; clear hk
  go_enter Tryz.func29, Tryz.ntmps29
  go_wp2
  go_ret
  exact ⟨rfl, rfl⟩
set_option maxHeartbeats 400000 in
theorem groups_1 (w : World) : Calls Tryz.prog 29 #[.int .u8 1] w fun e w' => e = .returned (.bool (groupsB 1)) ∧ w = w' := by
  go_enter Tryz.func29, Tryz.ntmps29
  go_wp2
  go_ret
  exact ⟨rfl, rfl⟩
set_option maxHeartbeats 400000 in
theorem groups_2 (w : World) : Calls Tryz.prog 29 #[.int .u8 2] w fun e w' => e = .returned (.bool (groupsB 2)) ∧ w = w' := by
  go_enter Tryz.func29, Tryz.ntmps29
  go_wp2
  go_ret
  exact ⟨rfl, rfl⟩
set_option maxHeartbeats 400000 in
theorem groups_3 (w : World) : Calls Tryz.prog 29 #[.int .u8 3] w fun e w' => e = .returned (.bool (groupsB 3)) ∧ w = w' := by
  go_enter Tryz.func29, Tryz.ntmps29
  go_wp2
  go_ret
  exact ⟨rfl, rfl⟩
set_option maxHeartbeats 400000 in
theorem groups_4 (w : World) : Calls Tryz.prog 29 #[.int .u8 4] w fun e w' => e = .returned (.bool (groupsB 4)) ∧ w = w' := by
  go_enter Tryz.func29, Tryz.ntmps29
  go_wp2
  go_ret
  exact ⟨rfl, rfl⟩
set_option maxHeartbeats 400000 in
theorem groups_5 (w : World) : Calls Tryz.prog 29 #[.int .u8 5] w fun e w' => e = .returned (.bool (groupsB 5)) ∧ w = w' := by
  go_enter Tryz.func29, Tryz.ntmps29
  go_wp2
  go_ret
  exact ⟨rfl, rfl⟩
set_option maxHeartbeats 400000 in
theorem groups_6 (w : World) : Calls Tryz.prog 29 #[.int .u8 6] w fun e w' => e = .returned (.bool (groupsB 6)) ∧ w = w' := by
  go_enter Tryz.func29, Tryz.ntmps29
  go_wp2
  go_ret
  exact ⟨rfl, rfl⟩
set_option maxHeartbeats 400000 in
theorem groups_7 (w : World) : Calls Tryz.prog 29 #[.int .u8 7] w fun e w' => e = .returned (.bool (groupsB 7)) ∧ w = w' := by
  go_enter Tryz.func29, Tryz.ntmps29
  go_wp2
  go_ret
  exact ⟨rfl, rfl⟩
set_option maxHeartbeats 400000 in
theorem groups_8 (w : World) : Calls Tryz.prog 29 #[.int .u8 8] w fun e w' => e = .returned (.bool (groupsB 8)) ∧ w = w' := by
  go_enter Tryz.func29, Tryz.ntmps29
  go_wp2
  go_ret
  exact ⟨rfl, rfl⟩
set_option maxHeartbeats 400000 in
theorem groups_9 (w : World) : Calls Tryz.prog 29 #[.int .u8 9] w fun e w' => e = .returned (.bool (groupsB 9)) ∧ w = w' := by
  go_enter Tryz.func29, Tryz.ntmps29
  go_wp2
  go_ret
  exact ⟨rfl, rfl⟩
set_option maxHeartbeats 400000 in
theorem groups_10 (w : World) : Calls Tryz.prog 29 #[.int .u8 10] w fun e w' => e = .returned (.bool (groupsB 10)) ∧ w = w' := by
  go_enter Tryz.func29, Tryz.ntmps29
  go_wp2
  go_ret
  exact ⟨rfl, rfl⟩
set_option maxHeartbeats 400000 in
theorem groups_11 (w : World) : Calls Tryz.prog 29 #[.int .u8 11] w fun e w' => e = .returned (.bool (groupsB 11)) ∧ w = w' := by
  go_enter Tryz.func29, Tryz.ntmps29
  go_wp2
  go_ret
  exact ⟨rfl, rfl⟩
set_option maxHeartbeats 400000 in
theorem groups_12 (w : World) : Calls Tryz.prog 29 #[.int .u8 12] w fun e w' => e = .returned (.bool (groupsB 12)) ∧ w = w' := by
  go_enter Tryz.func29, Tryz.ntmps29
  go_wp2
  go_ret
  exact ⟨rfl, rfl⟩
set_option maxHeartbeats 400000 in
theorem groups_13 (w : World) : Calls Tryz.prog 29 #[.int .u8 13] w fun e w' => e = .returned (.bool (groupsB 13)) ∧ w = w' := by
  go_enter Tryz.func29, Tryz.ntmps29
  go_wp2
  go_ret
  exact ⟨rfl, rfl⟩
set_option maxHeartbeats 400000 in
theorem groups_14 (w : World) : Calls Tryz.prog 29 #[.int .u8 14] w fun e w' => e = .returned (.bool (groupsB 14)) ∧ w = w' := by
  go_enter Tryz.func29, Tryz.ntmps29
  go_wp2
  go_ret
  exact ⟨rfl, rfl⟩
set_option maxHeartbeats 400000 in
theorem groups_15 (w : World) : Calls Tryz.prog 29 #[.int .u8 15] w fun e w' => e = .returned (.bool (groupsB 15)) ∧ w = w' := by
  go_enter Tryz.func29, Tryz.ntmps29
  go_wp2
  go_ret
  exact ⟨rfl, rfl⟩
set_option maxHeartbeats 400000 in
theorem groups_16 (w : World) : Calls Tryz.prog 29 #[.int .u8 16] w fun e w' => e = .returned (.bool (groupsB 16)) ∧ w = w' := by
  go_enter Tryz.func29, Tryz.ntmps29
  go_wp2
  go_ret
  exact ⟨rfl, rfl⟩
theorem groups_any (op : Int) (w : World) : Calls Tryz.prog 29 #[.int .u8 op] w fun e w' => e = .returned (.bool (groupsB op)) ∧ w = w' := by
  rcases op_cases op with rfl | rfl | rfl | rfl | rfl | rfl | rfl | rfl | rfl | rfl | rfl | rfl | rfl | rfl | rfl | rfl | hk
  · exact groups_1 w
  · exact groups_2 w
  · exact groups_3 w
  · exact groups_4 w
  · exact groups_5 w
  · exact groups_6 w
  · exact groups_7 w
  · exact groups_8 w
  · exact groups_9 w
  · exact groups_10 w
  · exact groups_11 w
  · exact groups_12 w
  · exact groups_13 w
  · exact groups_14 w
  · exact groups_15 w
  · exact groups_16 w
  · have h : Value.bool (groupsB op) = Value.bool false := by
      have e1 : (op == 1) = false := by simp only [beq_eq_false_iff_ne]; intro h; subst h; exact absurd hk (by decide)
      have e2 : (op == 2) = false := by simp only [beq_eq_false_iff_ne]; intro h; subst h; exact absurd hk (by decide)
      have e3 : (op == 3) = false := by simp only [beq_eq_false_iff_ne]; intro h; subst h; exact absurd hk (by decide)
      have e4 : (op == 4) = false := by simp only [beq_eq_false_iff_ne]; intro h; subst h; exact absurd hk (by decide)
      have e5 : (op == 5) = false := by simp only [beq_eq_false_iff_ne]; intro h; subst h; exact absurd hk (by decide)
      have e6 : (op == 6) = false := by simp only [beq_eq_false_iff_ne]; intro h; subst h; exact absurd hk (by decide)
      have e7 : (op == 7) = false := by simp only [beq_eq_false_iff_ne]; intro h; subst h; exact absurd hk (by decide)
      have e8 : (op == 8) = false := by simp only [beq_eq_false_iff_ne]; intro h; subst h; exact absurd hk (by decide)
      have e9 : (op == 9) = false := by simp only [beq_eq_false_iff_ne]; intro h; subst h; exact absurd hk (by decide)
      have e10 : (op == 10) = false := by simp only [beq_eq_false_iff_ne]; intro h; subst h; exact absurd hk (by decide)
      have e11 : (op == 11) = false := by simp only [beq_eq_false_iff_ne]; intro h; subst h; exact absurd hk (by decide)
      have e12 : (op == 12) = false := by simp only [beq_eq_false_iff_ne]; intro h; subst h; exact absurd hk (by decide)
      have e13 : (op == 13) = false := by simp only [beq_eq_false_iff_ne]; intro h; subst h; exact absurd hk (by decide)
      have e14 : (op == 14) = false := by simp only [beq_eq_false_iff_ne]; intro h; subst h; exact absurd hk (by decide)
      have e15 : (op == 15) = false := by simp only [beq_eq_false_iff_ne]; intro h; subst h; exact absurd hk (by decide)
      have e16 : (op == 16) = false := by simp only [beq_eq_false_iff_ne]; intro h; subst h; exact absurd hk (by decide)
      simp [groupsB, e1, e3, e8, e9, e10]
    rw [h]; exact groups_none op w hk
set_option maxHeartbeats 1000000 in
theorem swaps_none (op : Int) (w : World) (hk : knownB op = false) : Calls Tryz.prog 28 #[.int .u8 op] w fun e w' => e = .returned (.bool false) ∧ w = w' := by
  have e1 : (op == 1) = false := by simp only [beq_eq_false_iff_ne]; intro h; subst h; exact absurd hk (by decide)
  have e2 : (op == 2) = false := by simp only [beq_eq_false_iff_ne]; intro h; subst h; exact absurd hk (by decide)
  have e3 : (op == 3) = false := by simp only [beq_eq_false_iff_ne]; intro h; subst h; exact absurd hk (by decide)
  have e4 : (op == 4) = false := by simp only [beq_eq_false_iff_ne]; intro h; subst h; exact absurd hk (by decide)
  have e5 : (op == 5) = false := by simp only [beq_eq_false_iff_ne]; intro h; subst h; exact absurd hk (by decide)
  have e6 : (op == 6) = false := by simp only [beq_eq_false_iff_ne]; intro h; subst h; exact absurd hk (by decide)
  have e7 : (op == 7) = false := by simp only [beq_eq_false_iff_ne]; intro h; subst h; exact absurd hk (by decide)
  have e8 : (op == 8) = false := by simp only [beq_eq_false_iff_ne]; intro h; subst h; exact absurd hk (by decide)
  have e9 : (op == 9) = false := by simp only [beq_eq_false_iff_ne]; intro h; subst h; exact absurd hk (by decide)
  have e10 : (op == 10) = false := by simp only [beq_eq_false_iff_ne]; intro h; subst h; exact absurd hk (by decide)
  have e11 : (op == 11) = false := by simp only [beq_eq_false_iff_ne]; intro h; subst h; exact absurd hk (by decide)
  have e12 : (op == 12) = false := by simp only [beq_eq_false_iff_ne]; intro h; subst h; exact absurd hk (by decide)
  have e13 : (op == 13) = false := by simp only [beq_eq_false_iff_ne]; intro h; subst h; exact absurd hk (by decide)
  have e14 : (op == 14) = false := by simp only [beq_eq_false_iff_ne]; intro h; subst h; exact absurd hk (by decide)
  have e15 : (op == 15) = false := by simp only [beq_eq_false_iff_ne]; intro h; subst h; exact absurd hk (by decide)
  have e16 : (op == 16) = false := by simp only [beq_eq_false_iff_ne]; intro h; subst h; exact absurd hk (by decide)
  have HK := Lib.hid hk; clear hk
  go_enter Tryz.func28, Tryz.ntmps28
  go_wp2_with (go_at_call 29; refine (groups_none _ _ HK.out).mono ?_; rintro e w' ⟨rfl, rfl⟩)
  go_ret
  exact ⟨rfl, rfl⟩
set_option maxHeartbeats 400000 in
theorem swaps_1 (w : World) : Calls Tryz.prog 28 #[.int .u8 1] w fun e w' => e = .returned (.bool (swapsB 1)) ∧ w = w' := by
  go_enter Tryz.func28, Tryz.ntmps28
  go_wp2_with (go_at_call 29; refine (groups_any _ _).mono ?_; rintro e w' ⟨rfl, rfl⟩)
  go_ret
  exact ⟨rfl, rfl⟩
set_option maxHeartbeats 400000 in
theorem swaps_2 (w : World) : Calls Tryz.prog 28 #[.int .u8 2] w fun e w' => e = .returned (.bool (swapsB 2)) ∧ w = w' := by
  go_enter Tryz.func28, Tryz.ntmps28
  go_wp2_with (go_at_call 29; refine (groups_any _ _).mono ?_; rintro e w' ⟨rfl, rfl⟩)
  go_ret
  exact ⟨rfl, rfl⟩
set_option maxHeartbeats 400000 in
theorem swaps_3 (w : World) : Calls Tryz.prog 28 #[.int .u8 3] w fun e w' => e = .returned (.bool (swapsB 3)) ∧ w = w' := by
  go_enter Tryz.func28, Tryz.ntmps28
  go_wp2_with (go_at_call 29; refine (groups_any _ _).mono ?_; rintro e w' ⟨rfl, rfl⟩)
  go_ret
  exact ⟨rfl, rfl⟩
set_option maxHeartbeats 400000 in
theorem swaps_4 (w : World) : Calls Tryz.prog 28 #[.int .u8 4] w fun e w' => e = .returned (.bool (swapsB 4)) ∧ w = w' := by
  go_enter Tryz.func28, Tryz.ntmps28
  go_wp2_with (go_at_call 29; refine (groups_any _ _).mono ?_; rintro e w' ⟨rfl, rfl⟩)
  go_ret
  exact ⟨rfl, rfl⟩
set_option maxHeartbeats 400000 in
theorem swaps_5 (w : World) : Calls Tryz.prog 28 #[.int .u8 5] w fun e w' => e = .returned (.bool (swapsB 5)) ∧ w = w' := by
  go_enter Tryz.func28, Tryz.ntmps28
  go_wp2_with (go_at_call 29; refine (groups_any _ _).mono ?_; rintro e w' ⟨rfl, rfl⟩)
  go_ret
  exact ⟨rfl, rfl⟩
set_option maxHeartbeats 400000 in
theorem swaps_6 (w : World) : Calls Tryz.prog 28 #[.int .u8 6] w fun e w' => e = .returned (.bool (swapsB 6)) ∧ w = w' := by
  go_enter Tryz.func28, Tryz.ntmps28
  go_wp2_with (go_at_call 29; refine (groups_any _ _).mono ?_; rintro e w' ⟨rfl, rfl⟩)
  go_ret
  exact ⟨rfl, rfl⟩
set_option maxHeartbeats 400000 in
theorem swaps_7 (w : World) : Calls Tryz.prog 28 #[.int .u8 7] w fun e w' => e = .returned (.bool (swapsB 7)) ∧ w = w' := by
  go_enter Tryz.func28, Tryz.ntmps28
  go_wp2_with (go_at_call 29; refine (groups_any _ _).mono ?_; rintro e w' ⟨rfl, rfl⟩)
  go_ret
  exact ⟨rfl, rfl⟩
set_option maxHeartbeats 400000 in
theorem swaps_8 (w : World) : Calls Tryz.prog 28 #[.int .u8 8] w fun e w' => e = .returned (.bool (swapsB 8)) ∧ w = w' := by
  go_enter Tryz.func28, Tryz.ntmps28
  go_wp2_with (go_at_call 29; refine (groups_any _ _).mono ?_; rintro e w' ⟨rfl, rfl⟩)
  go_ret
  exact ⟨rfl, rfl⟩
set_option maxHeartbeats 400000 in
theorem swaps_9 (w : World) : Calls Tryz.prog 28 #[.int .u8 9] w fun e w' => e = .returned (.bool (swapsB 9)) ∧ w = w' := by
  go_enter Tryz.func28, Tryz.ntmps28
  go_wp2_with (go_at_call 29; refine (groups_any _ _).mono ?_; rintro e w' ⟨rfl, rfl⟩)
  go_ret
  exact ⟨rfl, rfl⟩
set_option maxHeartbeats 400000 in
theorem swaps_10 (w : World) : Calls Tryz.prog 28 #[.int .u8 10] w fun e w' => e = .returned (.bool (swapsB 10)) ∧ w = w' := by
  go_enter Tryz.func28, Tryz.ntmps28
  go_wp2_with (go_at_call 29; refine (groups_any _ _).mono ?_; rintro e w' ⟨rfl, rfl⟩)
  go_ret
  exact ⟨rfl, rfl⟩
set_option maxHeartbeats 400000 in
theorem swaps_11 (w : World) : Calls Tryz.prog 28 #[.int .u8 11] w fun e w' => e = .returned (.bool (swapsB 11)) ∧ w = w' := by
  go_enter Tryz.func28, Tryz.ntmps28
  go_wp2_with (go_at_call 29; refine (groups_any _ _).mono ?_; rintro e w' ⟨rfl, rfl⟩)
  go_ret
  exact ⟨rfl, rfl⟩
set_option maxHeartbeats 400000 in
theorem swaps_12 (w : World) : Calls Tryz.prog 28 #[.int .u8 12] w fun e w' => e = .returned (.bool (swapsB 12)) ∧ w = w' := by
  go_enter Tryz.func28, Tryz.ntmps28
  go_wp2_with (go_at_call 29; refine (groups_any _ _).mono ?_; rintro e w' ⟨rfl, rfl⟩)
  go_ret
  exact ⟨rfl, rfl⟩
set_option maxHeartbeats 400000 in
theorem swaps_13 (w : World) : Calls Tryz.prog 28 #[.int .u8 13] w fun e w' => e = .returned (.bool (swapsB 13)) ∧ w = w' := by
  go_enter Tryz.func28, Tryz.ntmps28
  go_wp2_with (go_at_call 29; refine (groups_any _ _).mono ?_; rintro e w' ⟨rfl, rfl⟩)
  go_ret
  exact ⟨rfl, rfl⟩
set_option maxHeartbeats 400000 in
theorem swaps_14 (w : World) : Calls Tryz.prog 28 #[.int .u8 14] w fun e w' => e = .returned (.bool (swapsB 14)) ∧ w = w' := by
  go_enter Tryz.func28, Tryz.ntmps28
  go_wp2_with (go_at_call 29; refine (groups_any _ _).mono ?_; rintro e w' ⟨rfl, rfl⟩)
  go_ret
  exact ⟨rfl, rfl⟩
set_option maxHeartbeats 400000 in
theorem swaps_15 (w : World) : Calls Tryz.prog 28 #[.int .u8 15] w fun e w' => e = .returned (.bool (swapsB 15)) ∧ w = w' := by
  go_enter Tryz.func28, Tryz.ntmps28
  go_wp2_with (go_at_call 29; refine (groups_any _ _).mono ?_; rintro e w' ⟨rfl, rfl⟩)
  go_ret
  exact ⟨rfl, rfl⟩
set_option maxHeartbeats 400000 in
theorem swaps_16 (w : World) : Calls Tryz.prog 28 #[.int .u8 16] w fun e w' => e = .returned (.bool (swapsB 16)) ∧ w = w' := by
  go_enter Tryz.func28, Tryz.ntmps28
  go_wp2_with (go_at_call 29; refine (groups_any _ _).mono ?_; rintro e w' ⟨rfl, rfl⟩)
  go_ret
  exact ⟨rfl, rfl⟩
theorem swaps_any (op : Int) (w : World) : Calls Tryz.prog 28 #[.int .u8 op] w fun e w' => e = .returned (.bool (swapsB op)) ∧ w = w' := by
  rcases op_cases op with rfl | rfl | rfl | rfl | rfl | rfl | rfl | rfl | rfl | rfl | rfl | rfl | rfl | rfl | rfl | rfl | hk
  · exact swaps_1 w
  · exact swaps_2 w
  · exact swaps_3 w
  · exact swaps_4 w
  · exact swaps_5 w
  · exact swaps_6 w
  · exact swaps_7 w
  · exact swaps_8 w
  · exact swaps_9 w
  · exact swaps_10 w
  · exact swaps_11 w
  · exact swaps_12 w
  · exact swaps_13 w
  · exact swaps_14 w
  · exact swaps_15 w
  · exact swaps_16 w
  · have h : Value.bool (swapsB op) = Value.bool false := by
      have e1 : (op == 1) = false := by simp only [beq_eq_false_iff_ne]; intro h; subst h; exact absurd hk (by decide)
      have e2 : (op == 2) = false := by simp only [beq_eq_false_iff_ne]; intro h; subst h; exact absurd hk (by decide)
      have e3 : (op == 3) = false := by simp only [beq_eq_false_iff_ne]; intro h; subst h; exact absurd hk (by decide)
      have e4 : (op == 4) = false := by simp only [beq_eq_false_iff_ne]; intro h; subst h; exact absurd hk (by decide)
      have e5 : (op == 5) = false := by simp only [beq_eq_false_iff_ne]; intro h; subst h; exact absurd hk (by decide)
      have e6 : (op == 6) = false := by simp only [beq_eq_false_iff_ne]; intro h; subst h; exact absurd hk (by decide)
      have e7 : (op == 7) = false := by simp only [beq_eq_false_iff_ne]; intro h; subst h; exact absurd hk (by decide)
      have e8 : (op == 8) = false := by simp only [beq_eq_false_iff_ne]; intro h; subst h; exact absurd hk (by decide)
      have e9 : (op == 9) = false := by simp only [beq_eq_false_iff_ne]; intro h; subst h; exact absurd hk (by decide)
      have e10 : (op == 10) = false := by simp only [beq_eq_false_iff_ne]; intro h; subst h; exact absurd hk (by decide)
      have e11 : (op == 11) = false := by simp only [beq_eq_false_iff_ne]; intro h; subst h; exact absurd hk (by decide)
      have e12 : (op == 12) = false := by simp only [beq_eq_false_iff_ne]; intro h; subst h; exact absurd hk (by decide)
      have e13 : (op == 13) = false := by simp only [beq_eq_false_iff_ne]; intro h; subst h; exact absurd hk (by decide)
      have e14 : (op == 14) = false := by simp only [beq_eq_false_iff_ne]; intro h; subst h; exact absurd hk (by decide)
      have e15 : (op == 15) = false := by simp only [beq_eq_false_iff_ne]; intro h; subst h; exact absurd hk (by decide)
      have e16 : (op == 16) = false := by simp only [beq_eq_false_iff_ne]; intro h; subst h; exact absurd hk (by decide)
      simp [swapsB, groupsB, e1, e3, e8, e9, e10, e16]
    rw [h]; exact swaps_none op w hk
set_option maxHeartbeats 1000000 in
theorem keeps_none (op : Int) (w : World) (hk : knownB op = false) : Calls Tryz.prog 30 #[.int .u8 op] w fun e w' => e = .returned (.tuple #[.int .i64 0, .bool false]) ∧ w = w' := by
  have e1 : (op == 1) = false := by simp only [beq_eq_false_iff_ne]; intro h; subst h; exact absurd hk (by decide)
  have e2 : (op == 2) = false := by simp only [beq_eq_false_iff_ne]; intro h; subst h; exact absurd hk (by decide)
  have e3 : (op == 3) = false := by simp only [beq_eq_false_iff_ne]; intro h; subst h; exact absurd hk (by decide)
  have e4 : (op == 4) = false := by simp only [beq_eq_false_iff_ne]; intro h; subst h; exact absurd hk (by decide)
  have e5 : (op == 5) = false := by simp only [beq_eq_false_iff_ne]; intro h; subst h; exact absurd hk (by decide)
  have e6 : (op == 6) = false := by simp only [beq_eq_false_iff_ne]; intro h; subst h; exact absurd hk (by decide)
  have e7 : (op == 7) = false := by simp only [beq_eq_false_iff_ne]; intro h; subst h; exact absurd hk (by decide)
  have e8 : (op == 8) = false := by simp only [beq_eq_false_iff_ne]; intro h; subst h; exact absurd hk (by decide)
  have e9 : (op == 9) = false := by simp only [beq_eq_false_iff_ne]; intro h; subst h; exact absurd hk (by decide)
  have e10 : (op == 10) = false := by simp only [beq_eq_false_iff_ne]; intro h; subst h; exact absurd hk (by decide)
  have e11 : (op == 11) = false := by simp only [beq_eq_false_iff_ne]; intro h; subst h; exact absurd hk (by decide)
  have e12 : (op == 12) = false := by simp only [beq_eq_false_iff_ne]; intro h; subst h; exact absurd hk (by decide)
  have e13 : (op == 13) = false := by simp only [beq_eq_false_iff_ne]; intro h; subst h; exact absurd hk (by decide)
  have e14 : (op == 14) = false := by simp only [beq_eq_false_iff_ne]; intro h; subst h; exact absurd hk (by decide)
  have e15 : (op == 15) = false := by simp only [beq_eq_false_iff_ne]; intro h; subst h; exact absurd hk (by decide)
  have e16 : (op == 16) = false := by simp only [beq_eq_false_iff_ne]; intro h; subst h; exact absurd hk (by decide)
  have HK := Lib.hid hk; clear hk
  go_enter Tryz.func30, Tryz.ntmps30
  go_wp2
  go_ret2
  exact ⟨rfl, rfl⟩
set_option maxHeartbeats 400000 in
theorem keeps_1 (w : World) : Calls Tryz.prog 30 #[.int .u8 1] w fun e w' => e = .returned (.tuple #[.int .i64 (keepsN 1), .bool (keepsB 1)]) ∧ w = w' := by
  go_enter Tryz.func30, Tryz.ntmps30
  go_wp2
  go_ret2
  exact ⟨rfl, rfl⟩
set_option maxHeartbeats 400000 in
theorem keeps_2 (w : World) : Calls Tryz.prog 30 #[.int .u8 2] w fun e w' => e = .returned (.tuple #[.int .i64 (keepsN 2), .bool (keepsB 2)]) ∧ w = w' := by
  go_enter Tryz.func30, Tryz.ntmps30
  go_wp2
  go_ret2
  exact ⟨rfl, rfl⟩
set_option maxHeartbeats 400000 in
theorem keeps_3 (w : World) : Calls Tryz.prog 30 #[.int .u8 3] w fun e w' => e = .returned (.tuple #[.int .i64 (keepsN 3), .bool (keepsB 3)]) ∧ w = w' := by
  go_enter Tryz.func30, Tryz.ntmps30
  go_wp2
  go_ret2
  exact ⟨rfl, rfl⟩
set_option maxHeartbeats 400000 in
theorem keeps_4 (w : World) : Calls Tryz.prog 30 #[.int .u8 4] w fun e w' => e = .returned (.tuple #[.int .i64 (keepsN 4), .bool (keepsB 4)]) ∧ w = w' := by
  go_enter Tryz.func30, Tryz.ntmps30
  go_wp2
  go_ret2
  exact ⟨rfl, rfl⟩
set_option maxHeartbeats 400000 in
theorem keeps_5 (w : World) : Calls Tryz.prog 30 #[.int .u8 5] w fun e w' => e = .returned (.tuple #[.int .i64 (keepsN 5), .bool (keepsB 5)]) ∧ w = w' := by
  go_enter Tryz.func30, Tryz.ntmps30
  go_wp2
  go_ret2
  exact ⟨rfl, rfl⟩
set_option maxHeartbeats 400000 in
theorem keeps_6 (w : World) : Calls Tryz.prog 30 #[.int .u8 6] w fun e w' => e = .returned (.tuple #[.int .i64 (keepsN 6), .bool (keepsB 6)]) ∧ w = w' := by
  go_enter Tryz.func30, Tryz.ntmps30
  go_wp2
  go_ret2
  exact ⟨rfl, rfl⟩
set_option maxHeartbeats 400000 in
theorem keeps_7 (w : World) : Calls Tryz.prog 30 #[.int .u8 7] w fun e w' => e = .returned (.tuple #[.int .i64 (keepsN 7), .bool (keepsB 7)]) ∧ w = w' := by
  go_enter Tryz.func30, Tryz.ntmps30
  go_wp2
  go_ret2
  exact ⟨rfl, rfl⟩
set_option maxHeartbeats 400000 in
theorem keeps_8 (w : World) : Calls Tryz.prog 30 #[.int .u8 8] w fun e w' => e = .returned (.tuple #[.int .i64 (keepsN 8), .bool (keepsB 8)]) ∧ w = w' := by
  go_enter Tryz.func30, Tryz.ntmps30
  go_wp2
  go_ret2
  exact ⟨rfl, rfl⟩
set_option maxHeartbeats 400000 in
theorem keeps_9 (w : World) : Calls Tryz.prog 30 #[.int .u8 9] w fun e w' => e = .returned (.tuple #[.int .i64 (keepsN 9), .bool (keepsB 9)]) ∧ w = w' := by
  go_enter Tryz.func30, Tryz.ntmps30
  go_wp2
  go_ret2
  exact ⟨rfl, rfl⟩
set_option maxHeartbeats 400000 in
theorem keeps_10 (w : World) : Calls Tryz.prog 30 #[.int .u8 10] w fun e w' => e = .returned (.tuple #[.int .i64 (keepsN 10), .bool (keepsB 10)]) ∧ w = w' := by
  go_enter Tryz.func30, Tryz.ntmps30
  go_wp2
  go_ret2
  exact ⟨rfl, rfl⟩
set_option maxHeartbeats 400000 in
theorem keeps_11 (w : World) : Calls Tryz.prog 30 #[.int .u8 11] w fun e w' => e = .returned (.tuple #[.int .i64 (keepsN 11), .bool (keepsB 11)]) ∧ w = w' := by
  go_enter Tryz.func30, Tryz.ntmps30
  go_wp2
  go_ret2
  exact ⟨rfl, rfl⟩
set_option maxHeartbeats 400000 in
theorem keeps_12 (w : World) : Calls Tryz.prog 30 #[.int .u8 12] w fun e w' => e = .returned (.tuple #[.int .i64 (keepsN 12), .bool (keepsB 12)]) ∧ w = w' := by
  go_enter Tryz.func30, Tryz.ntmps30
  go_wp2
  go_ret2
  exact ⟨rfl, rfl⟩
set_option maxHeartbeats 400000 in
theorem keeps_13 (w : World) : Calls Tryz.prog 30 #[.int .u8 13] w fun e w' => e = .returned (.tuple #[.int .i64 (keepsN 13), .bool (keepsB 13)]) ∧ w = w' := by
  go_enter Tryz.func30, Tryz.ntmps30
  go_wp2
  go_ret2
  exact ⟨rfl, rfl⟩
set_option maxHeartbeats 400000 in
theorem keeps_14 (w : World) : Calls Tryz.prog 30 #[.int .u8 14] w fun e w' => e = .returned (.tuple #[.int .i64 (keepsN 14), .bool (keepsB 14)]) ∧ w = w' := by
  go_enter Tryz.func30, Tryz.ntmps30
  go_wp2
  go_ret2
  exact ⟨rfl, rfl⟩
set_option maxHeartbeats 400000 in
theorem keeps_15 (w : World) : Calls Tryz.prog 30 #[.int .u8 15] w fun e w' => e = .returned (.tuple #[.int .i64 (keepsN 15), .bool (keepsB 15)]) ∧ w = w' := by
  go_enter Tryz.func30, Tryz.ntmps30
  go_wp2
  go_ret2
  exact ⟨rfl, rfl⟩
set_option maxHeartbeats 400000 in
theorem keeps_16 (w : World) : Calls Tryz.prog 30 #[.int .u8 16] w fun e w' => e = .returned (.tuple #[.int .i64 (keepsN 16), .bool (keepsB 16)]) ∧ w = w' := by
  go_enter Tryz.func30, Tryz.ntmps30
  go_wp2
  go_ret2
  exact ⟨rfl, rfl⟩
theorem keeps_any (op : Int) (w : World) : Calls Tryz.prog 30 #[.int .u8 op] w fun e w' => e = .returned (.tuple #[.int .i64 (keepsN op), .bool (keepsB op)]) ∧ w = w' := by
  rcases op_cases op with rfl | rfl | rfl | rfl | rfl | rfl | rfl | rfl | rfl | rfl | rfl | rfl | rfl | rfl | rfl | rfl | hk
  · exact keeps_1 w
  · exact keeps_2 w
  · exact keeps_3 w
  · exact keeps_4 w
  · exact keeps_5 w
  · exact keeps_6 w
  · exact keeps_7 w
  · exact keeps_8 w
  · exact keeps_9 w
  · exact keeps_10 w
  · exact keeps_11 w
  · exact keeps_12 w
  · exact keeps_13 w
  · exact keeps_14 w
  · exact keeps_15 w
  · exact keeps_16 w
  · have h : Value.tuple #[.int .i64 (keepsN op), .bool (keepsB op)] = Value.tuple #[.int .i64 0, .bool false] := by
      have e1 : (op == 1) = false := by simp only [beq_eq_false_iff_ne]; intro h; subst h; exact absurd hk (by decide)
      have e2 : (op == 2) = false := by simp only [beq_eq_false_iff_ne]; intro h; subst h; exact absurd hk (by decide)
      have e3 : (op == 3) = false := by simp only [beq_eq_false_iff_ne]; intro h; subst h; exact absurd hk (by decide)
      have e4 : (op == 4) = false := by simp only [beq_eq_false_iff_ne]; intro h; subst h; exact absurd hk (by decide)
      have e5 : (op == 5) = false := by simp only [beq_eq_false_iff_ne]; intro h; subst h; exact absurd hk (by decide)
      have e6 : (op == 6) = false := by simp only [beq_eq_false_iff_ne]; intro h; subst h; exact absurd hk (by decide)
      have e7 : (op == 7) = false := by simp only [beq_eq_false_iff_ne]; intro h; subst h; exact absurd hk (by decide)
      have e8 : (op == 8) = false := by simp only [beq_eq_false_iff_ne]; intro h; subst h; exact absurd hk (by decide)
      have e9 : (op == 9) = false := by simp only [beq_eq_false_iff_ne]; intro h; subst h; exact absurd hk (by decide)
      have e10 : (op == 10) = false := by simp only [beq_eq_false_iff_ne]; intro h; subst h; exact absurd hk (by decide)
      have e11 : (op == 11) = false := by simp only [beq_eq_false_iff_ne]; intro h; subst h; exact absurd hk (by decide)
      have e12 : (op == 12) = false := by simp only [beq_eq_false_iff_ne]; intro h; subst h; exact absurd hk (by decide)
      have e13 : (op == 13) = false := by simp only [beq_eq_false_iff_ne]; intro h; subst h; exact absurd hk (by decide)
      have e14 : (op == 14) = false := by simp only [beq_eq_false_iff_ne]; intro h; subst h; exact absurd hk (by decide)
      have e15 : (op == 15) = false := by simp only [beq_eq_false_iff_ne]; intro h; subst h; exact absurd hk (by decide)
      have e16 : (op == 16) = false := by simp only [beq_eq_false_iff_ne]; intro h; subst h; exact absurd hk (by decide)
      simp [keepsN, keepsB, hk, e3, e4, e6, e8]
    rw [h]; exact keeps_none op w hk
end Go.Proofs.YtgkjdmojbndicaaGreatDoor

namespace Go.Proofs.YtgkjdmojbndicaaGreatDoor
namespace Pop

/-- A byte, n times over. -/
def rep (c : Nat) : Nat → Nat
  | 0 => 0
  | n + 1 => c + 256 * rep c n

theorem and_split (a b c d : Nat) (ha : a < 256) (hc : c < 256) : (a + 256 * b) &&& (c + 256 * d) = (a &&& c) + 256 * (b &&& d) := by
  have h1 := Nat.and_mod_two_pow (a := a + 256 * b) (b := c + 256 * d) (n := 8)
  have h2 := Nat.and_div_two_pow (a := a + 256 * b) (b := c + 256 * d) (n := 8)
  have e1 : (a + 256 * b) % 2 ^ 8 = a := by omega
  have e2 : (c + 256 * d) % 2 ^ 8 = c := by omega
  have e3 : (a + 256 * b) / 2 ^ 8 = b := by omega
  have e4 : (c + 256 * d) / 2 ^ 8 = d := by omega
  rw [e1, e2] at h1
  rw [e3, e4] at h2
  omega

def s1 (n x : Nat) : Nat := (x / 2 &&& rep 85 n) + (x &&& rep 85 n)
def s2 (n x : Nat) : Nat := (x / 4 &&& rep 51 n) + (x &&& rep 51 n)
def s3 (n x : Nat) : Nat := (x / 16 + x) &&& rep 15 n
def bytes (n x : Nat) : Nat := s3 n (s2 n (s1 n x))

theorem t1 : ∀ lo, lo < 256 → ∀ e, e < 2 → (lo / 2 + 128 * e) &&& 85 = lo / 2 &&& 85 := by decide +kernel
theorem t2 : ∀ lo, lo < 256 → ∀ e, e < 4 → (lo / 4 + 64 * e) &&& 51 = lo / 4 &&& 51 := by decide +kernel
theorem t3 : ∀ lo, lo < 69 → ∀ e, e < 5 → (lo / 16 + 16 * e + lo) &&& 15 = (lo / 16 + lo) &&& 15 := by decide +kernel
theorem s1_split (n lo hi : Nat) (h : lo < 256) : s1 (n + 1) (lo + 256 * hi) = s1 1 lo + 256 * s1 n hi := by
  have e : (lo + 256 * hi) / 2 = (lo / 2 + 128 * (hi % 2)) + 256 * (hi / 2) := by omega
  simp only [s1, rep, e]
  rw [and_split _ _ _ _ (by omega) (by decide), and_split _ _ _ _ h (by decide), t1 lo h _ (Nat.mod_lt _ (by decide))]
  simp only [Nat.mul_zero, Nat.add_zero]
  omega
theorem s2_split (n lo hi : Nat) (h : lo < 256) : s2 (n + 1) (lo + 256 * hi) = s2 1 lo + 256 * s2 n hi := by
  have e : (lo + 256 * hi) / 4 = (lo / 4 + 64 * (hi % 4)) + 256 * (hi / 4) := by omega
  simp only [s2, rep, e]
  rw [and_split _ _ _ _ (by omega) (by decide), and_split _ _ _ _ h (by decide), t2 lo h _ (Nat.mod_lt _ (by decide))]
  simp only [Nat.mul_zero, Nat.add_zero]
  omega
theorem s3_split (n lo hi : Nat) (h : lo ≤ 68) (hh : hi % 16 ≤ 4) : s3 (n + 1) (lo + 256 * hi) = s3 1 lo + 256 * s3 n hi := by
  have e : (lo + 256 * hi) / 16 + (lo + 256 * hi) = (lo / 16 + 16 * (hi % 16) + lo) + 256 * (hi / 16 + hi) := by omega
  simp only [s3, rep, e]
  rw [and_split _ _ _ _ (by omega) (by decide), t3 lo (by omega) _ (by omega)]
theorem one_lt : ∀ lo, lo < 256 → s1 1 lo < 256 ∧ s2 1 (s1 1 lo) ≤ 68 ∧ s2 1 (s1 1 lo) % 16 ≤ 4 ∧ bytes 1 lo ≤ 8 := by decide +kernel
theorem low_le (n x : Nat) : s2 n (s1 n x) % 16 ≤ 4 := by
  cases n with
  | zero => simp [s2, rep]
  | succ n =>
    have e : x = x % 256 + 256 * (x / 256) := by omega
    have h := one_lt (x % 256) (Nat.mod_lt _ (by decide))
    rw [e, s1_split _ _ _ (Nat.mod_lt _ (by decide)), s2_split _ _ _ h.1]
    omega
theorem bytes_split (n lo hi : Nat) (h : lo < 256) : bytes (n + 1) (lo + 256 * hi) = bytes 1 lo + 256 * bytes n hi := by
  have g := one_lt lo h
  unfold bytes
  rw [s1_split _ _ _ h, s2_split _ _ _ g.1, s3_split _ _ _ g.2.1 (low_le _ _)]

theorem divl (m a b : Nat) (h : a < m) : (a + m * b) / m = b := by
  rw [Nat.add_mul_div_left _ _ (by omega), Nat.div_eq_of_lt h, Nat.zero_add]
/-- The count, as math/bits reckons it. -/
def pop (x : Nat) : Nat :=
  let a := bytes 8 x
  let b := a + a / 256
  let c := b + b / 65536
  (c + c / 4294967296) % 128

theorem bytes8 (x : Nat) : ∃ b0 b1 b2 b3 b4 b5 b6 b7 r, b0 < 256 ∧ b1 < 256 ∧ b2 < 256 ∧ b3 < 256 ∧ b4 < 256 ∧ b5 < 256 ∧ b6 < 256 ∧ b7 < 256 ∧
    x = b0 + 256 * (b1 + 256 * (b2 + 256 * (b3 + 256 * (b4 + 256 * (b5 + 256 * (b6 + 256 * (b7 + 256 * r))))))) :=
  ⟨x % 256, x / 256 % 256, x / 256 / 256 % 256, x / 256 / 256 / 256 % 256, x / 256 / 256 / 256 / 256 % 256, x / 256 / 256 / 256 / 256 / 256 % 256, x / 256 / 256 / 256 / 256 / 256 / 256 % 256, x / 256 / 256 / 256 / 256 / 256 / 256 / 256 % 256, x / 256 / 256 / 256 / 256 / 256 / 256 / 256 / 256,
    by omega, by omega, by omega, by omega, by omega, by omega, by omega, by omega, by omega⟩
theorem pop_bytes (b0 b1 b2 b3 b4 b5 b6 b7 r : Nat) (h0 : b0 < 256) (h1 : b1 < 256) (h2 : b2 < 256) (h3 : b3 < 256) (h4 : b4 < 256) (h5 : b5 < 256) (h6 : b6 < 256) (h7 : b7 < 256) :
    pop (b0 + 256 * (b1 + 256 * (b2 + 256 * (b3 + 256 * (b4 + 256 * (b5 + 256 * (b6 + 256 * (b7 + 256 * r)))))))) = bytes 1 b0 + bytes 1 b1 + bytes 1 b2 + bytes 1 b3 + bytes 1 b4 + bytes 1 b5 + bytes 1 b6 + bytes 1 b7 := by
  have g0 := (one_lt b0 h0).2.2.2
  have g1 := (one_lt b1 h1).2.2.2
  have g2 := (one_lt b2 h2).2.2.2
  have g3 := (one_lt b3 h3).2.2.2
  have g4 := (one_lt b4 h4).2.2.2
  have g5 := (one_lt b5 h5).2.2.2
  have g6 := (one_lt b6 h6).2.2.2
  have g7 := (one_lt b7 h7).2.2.2
  unfold pop
  rw [bytes_split _ _ _ h0, bytes_split _ _ _ h1, bytes_split _ _ _ h2, bytes_split _ _ _ h3, bytes_split _ _ _ h4, bytes_split _ _ _ h5, bytes_split _ _ _ h6, bytes_split _ _ _ h7]
  have e0 : bytes 0 r = 0 := by simp [bytes, s3, rep]
  rw [e0]
  generalize bytes 1 b0 = c0 at *
  generalize bytes 1 b1 = c1 at *
  generalize bytes 1 b2 = c2 at *
  generalize bytes 1 b3 = c3 at *
  generalize bytes 1 b4 = c4 at *
  generalize bytes 1 b5 = c5 at *
  generalize bytes 1 b6 = c6 at *
  generalize bytes 1 b7 = c7 at *
  clear e0
  dsimp only
  rw [divl 256 c0 _ (by omega)]
  have hC : (c0 + 256 * (c1 + 256 * (c2 + 256 * (c3 + 256 * (c4 + 256 * (c5 + 256 * (c6 + 256 * (c7 + 256 * 0))))))) + (c1 + 256 * (c2 + 256 * (c3 + 256 * (c4 + 256 * (c5 + 256 * (c6 + 256 * (c7 + 256 * 0)))))))) = ((c0 + c1) + 256 * (c1 + c2)) + 65536 * (((c2 + c3) + 256 * (c3 + c4)) + 65536 * (((c4 + c5) + 256 * (c5 + c6)) + 65536 * ((c6 + c7) + 256 * c7))) := by omega
  rw [hC, divl 65536 _ _ (by omega)]
  have hE : ((c0 + c1) + 256 * (c1 + c2)) + 65536 * (((c2 + c3) + 256 * (c3 + c4)) + 65536 * (((c4 + c5) + 256 * (c5 + c6)) + 65536 * ((c6 + c7) + 256 * c7))) + (((c2 + c3) + 256 * (c3 + c4)) + 65536 * (((c4 + c5) + 256 * (c5 + c6)) + 65536 * ((c6 + c7) + 256 * c7))) = ((c0 + c1 + c2 + c3) + 256 * (c1 + c2 + c3 + c4) + 65536 * ((c2 + c3 + c4 + c5) + 256 * (c3 + c4 + c5 + c6))) + 4294967296 * ((c4 + c5 + c6 + c7) + 256 * (c5 + c6 + c7) + 65536 * ((c6 + c7) + 256 * c7)) := by omega
  rw [hE, divl 4294967296 _ _ (by omega)]
  have hG : ((c0 + c1 + c2 + c3) + 256 * (c1 + c2 + c3 + c4) + 65536 * ((c2 + c3 + c4 + c5) + 256 * (c3 + c4 + c5 + c6))) + 4294967296 * ((c4 + c5 + c6 + c7) + 256 * (c5 + c6 + c7) + 65536 * ((c6 + c7) + 256 * c7)) + ((c4 + c5 + c6 + c7) + 256 * (c5 + c6 + c7) + 65536 * ((c6 + c7) + 256 * c7)) = (c0 + c1 + c2 + c3 + c4 + c5 + c6 + c7) + 128 * (2 * (c1 + c2 + c3 + c4) + 512 * ((c2 + c3 + c4 + c5) + 256 * (c3 + c4 + c5 + c6)) + 33554432 * ((c4 + c5 + c6 + c7) + 256 * (c5 + c6 + c7) + 65536 * ((c6 + c7) + 256 * c7)) + 2 * (c5 + c6 + c7) + 512 * ((c6 + c7) + 256 * c7)) := by omega
  rw [hG, Nat.add_mul_mod_self_left, Nat.mod_eq_of_lt (by omega)]

theorem byte_zero : ∀ b, b < 256 → bytes 1 b = 0 → b = 0 := by decide +kernel
theorem byte_one : ∀ b, b < 256 → bytes 1 b = 1 → b = 1 ∨ b = 2 ∨ b = 4 ∨ b = 8 ∨ b = 16 ∨ b = 32 ∨ b = 64 ∨ b = 128 := by decide +kernel
theorem pop_pow : ∀ k, k < 64 → pop (2 ^ k) = 1 := by decide +kernel

theorem shifted {b : Nat} (h : b = 1 ∨ b = 2 ∨ b = 4 ∨ b = 8 ∨ b = 16 ∨ b = 32 ∨ b = 64 ∨ b = 128) : ∃ i, i < 8 ∧ b = 2 ^ i := by
  rcases h with h | h | h | h | h | h | h | h
  · exact ⟨0, by decide, h⟩
  · exact ⟨1, by decide, h⟩
  · exact ⟨2, by decide, h⟩
  · exact ⟨3, by decide, h⟩
  · exact ⟨4, by decide, h⟩
  · exact ⟨5, by decide, h⟩
  · exact ⟨6, by decide, h⟩
  · exact ⟨7, by decide, h⟩
theorem at_byte {x b : Nat} (j P : Nat) (hj : j < 8) (hP : P = 2 ^ (8 * j)) (hb : b < 256) (h1 : bytes 1 b = 1) (hx : x = P * b) : ∃ k, k < 64 ∧ x = 2 ^ k := by
  obtain ⟨i, hi, e⟩ := shifted (byte_one b hb h1)
  exact ⟨8 * j + i, by omega, by rw [hx, hP, e, ← Nat.pow_add]⟩
set_option maxHeartbeats 4000000 in
/-- One bit alone: just the powers of 2. -/
theorem pop_one (x : Nat) (hx : x < 18446744073709551616) : pop x = 1 ↔ ∃ k, k < 64 ∧ x = 2 ^ k := by
  constructor
  · intro h
    obtain ⟨b0, b1, b2, b3, b4, b5, b6, b7, r, h0, h1, h2, h3, h4, h5, h6, h7, e⟩ := bytes8 x
    have hr : r = 0 := by omega
    subst hr
    rw [e, pop_bytes _ _ _ _ _ _ _ _ _ h0 h1 h2 h3 h4 h5 h6 h7] at h
    have z0 := byte_zero b0 h0
    have z1 := byte_zero b1 h1
    have z2 := byte_zero b2 h2
    have z3 := byte_zero b3 h3
    have z4 := byte_zero b4 h4
    have z5 := byte_zero b5 h5
    have z6 := byte_zero b6 h6
    have z7 := byte_zero b7 h7
    have hc : bytes 1 b0 = 1 ∨ bytes 1 b1 = 1 ∨ bytes 1 b2 = 1 ∨ bytes 1 b3 = 1 ∨ bytes 1 b4 = 1 ∨ bytes 1 b5 = 1 ∨ bytes 1 b6 = 1 ∨ bytes 1 b7 = 1 := by omega
    rcases hc with c | c | c | c | c | c | c | c
    · exact at_byte 0 1 (by decide) (by decide) h0 c (by have a1 := z1 (by omega); have a2 := z2 (by omega); have a3 := z3 (by omega); have a4 := z4 (by omega); have a5 := z5 (by omega); have a6 := z6 (by omega); have a7 := z7 (by omega); omega)
    · exact at_byte 1 256 (by decide) (by decide) h1 c (by have a0 := z0 (by omega); have a2 := z2 (by omega); have a3 := z3 (by omega); have a4 := z4 (by omega); have a5 := z5 (by omega); have a6 := z6 (by omega); have a7 := z7 (by omega); omega)
    · exact at_byte 2 65536 (by decide) (by decide) h2 c (by have a0 := z0 (by omega); have a1 := z1 (by omega); have a3 := z3 (by omega); have a4 := z4 (by omega); have a5 := z5 (by omega); have a6 := z6 (by omega); have a7 := z7 (by omega); omega)
    · exact at_byte 3 16777216 (by decide) (by decide) h3 c (by have a0 := z0 (by omega); have a1 := z1 (by omega); have a2 := z2 (by omega); have a4 := z4 (by omega); have a5 := z5 (by omega); have a6 := z6 (by omega); have a7 := z7 (by omega); omega)
    · exact at_byte 4 4294967296 (by decide) (by decide) h4 c (by have a0 := z0 (by omega); have a1 := z1 (by omega); have a2 := z2 (by omega); have a3 := z3 (by omega); have a5 := z5 (by omega); have a6 := z6 (by omega); have a7 := z7 (by omega); omega)
    · exact at_byte 5 1099511627776 (by decide) (by decide) h5 c (by have a0 := z0 (by omega); have a1 := z1 (by omega); have a2 := z2 (by omega); have a3 := z3 (by omega); have a4 := z4 (by omega); have a6 := z6 (by omega); have a7 := z7 (by omega); omega)
    · exact at_byte 6 281474976710656 (by decide) (by decide) h6 c (by have a0 := z0 (by omega); have a1 := z1 (by omega); have a2 := z2 (by omega); have a3 := z3 (by omega); have a4 := z4 (by omega); have a5 := z5 (by omega); have a7 := z7 (by omega); omega)
    · exact at_byte 7 72057594037927936 (by decide) (by decide) h7 c (by have a0 := z0 (by omega); have a1 := z1 (by omega); have a2 := z2 (by omega); have a3 := z3 (by omega); have a4 := z4 (by omega); have a5 := z5 (by omega); have a6 := z6 (by omega); omega)
  · rintro ⟨k, hk, rfl⟩
    exact pop_pow k hk
end Pop
end Go.Proofs.YtgkjdmojbndicaaGreatDoor

namespace Go.Proofs.YtgkjdmojbndicaaGreatDoor
open Go.RowKit

namespace Pw
theorem wrapN (a : Nat) (ha : a < 18446744073709551616) : IntKind.u64.wrap (a : Int) = (a : Int) := by rw [IntKind.wrap_u64]; omega
theorem toNat_bv (m : Nat) (h : m < 18446744073709551616) : (bv (m : Int)).toNat = m := by
  show (BitVec.ofInt 64 (m : Int)).toNat = m
  rw [BitVec.ofInt_natCast, BitVec.toNat_ofNat]; exact Nat.mod_eq_of_lt (by omega)
end Pw

/-- The k-th bit of a word: 0 or 1. -/
def bt (x : BitVec 64) (k : Nat) : Nat := x.toNat / 2 ^ k % 2
theorem bt_le (x : BitVec 64) (k : Nat) : bt x k ≤ 1 := by unfold bt; omega
theorem and_one (n : Nat) (h : n < 18446744073709551616) : bits .and .u64 (n : Int) 1 = ((n % 2 : Nat) : Int) := by
  rw [show (1 : Int) = ((1 : Nat) : Int) from rfl, bits_and_u64_nat n 1 h (by decide)]
  exact congrArg Nat.cast (Nat.and_one_is_mod n)
set_option maxHeartbeats 400000 in
theorem bit_any (a k : Int) (w : World) (h0 : 0 ≤ k) (h1 : k < 64) :
    Calls Tryz.prog 53 #[.int .i64 a, .int .i64 k] w fun e w' => e = .returned (.int .u64 (bt (bv a) k.toNat : Nat)) ∧ w = w' := by
  have hu := u64_bv a
  have hl := (bv a).isLt
  obtain ⟨n, rfl⟩ := Int.eq_ofNat_of_zero_le h0
  have hq : ((bv a).toNat : Int) / 2 ^ n = (((bv a).toNat / 2 ^ n : Nat) : Int) := by simp
  have hle : (bv a).toNat / 2 ^ n < 18446744073709551616 := Nat.lt_of_le_of_lt (Nat.div_le_self _ _) hl
  have hm := and_one _ hle
  have hb : bt (bv a) ((n : Int)).toNat = (bv a).toNat / 2 ^ n % 2 := rfl
  rw [hb]
  clear hb hle
  generalize (bv a).toNat / 2 ^ n = q at *
  generalize (bv a).toNat = x at *
  have HM := Lib.hid hm; clear hm
  have HQ := Lib.hid hq; clear hq
  have HL := Lib.hid hl; clear hl
  go_enter Tryz.func53, Tryz.ntmps53
  go_wp2
  rw [HQ.out, HM.out]
  go_ret
  exact ⟨rfl, rfl⟩
theorem bit_nat (a : Int) (k : Nat) (w : World) (h1 : k < 64) :
    Calls Tryz.prog 53 #[.int .i64 a, .int .i64 k] w fun e w' => e = .returned (.int .u64 (bt (bv a) k : Nat)) ∧ w = w' :=
  bit_any a k w (by omega) (by omega)

/-- One more bit, above those that are there. -/
theorem or_bit (s k b : Nat) (h : s < 2 ^ k) : s ||| b * 2 ^ k = s + b * 2 ^ k := by
  have e := Nat.two_pow_add_eq_or_of_lt h b
  rw [Nat.mul_comm b, Nat.or_comm, ← e, Nat.add_comm]
end Go.Proofs.YtgkjdmojbndicaaGreatDoor

namespace Go.Proofs.YtgkjdmojbndicaaGreatDoor
open Go.RowKit

/-- What of a sum stands after k bits, and what is carried. -/
def sumTo (x y : BitVec 64) (k : Nat) : Nat := (x.toNat + y.toNat) % 2 ^ k
def carTo (x y : BitVec 64) (k : Nat) : Nat := (x.toNat % 2 ^ k + y.toNat % 2 ^ k) / 2 ^ k
def nTo (x y : BitVec 64) (k : Nat) : Nat := bt x k + bt y k + carTo x y k
namespace Ad
theorem split (x k : Nat) : x % 2 ^ (k + 1) = x % 2 ^ k + x / 2 ^ k % 2 * 2 ^ k := by
  rw [Nat.pow_succ, Nat.mod_mul, Nat.mul_comm (2 ^ k)]
theorem div_sum (x y k : Nat) : (x + y) / 2 ^ k = x / 2 ^ k + y / 2 ^ k + (x % 2 ^ k + y % 2 ^ k) / 2 ^ k := by
  have hp := Nat.two_pow_pos k
  have h1 := Nat.div_add_mod x (2 ^ k)
  have h2 := Nat.div_add_mod y (2 ^ k)
  have e : x + y = 2 ^ k * (x / 2 ^ k + y / 2 ^ k) + (x % 2 ^ k + y % 2 ^ k) := by rw [Nat.mul_add]; omega
  calc (x + y) / 2 ^ k = (2 ^ k * (x / 2 ^ k + y / 2 ^ k) + (x % 2 ^ k + y % 2 ^ k)) / 2 ^ k := by rw [← e]
    _ = _ := by rw [Nat.mul_add_div hp]
theorem car_le (x y : BitVec 64) (k : Nat) : carTo x y k ≤ 1 := by
  have hp := Nat.two_pow_pos k
  unfold carTo
  have h1 := Nat.mod_lt x.toNat hp
  have h2 := Nat.mod_lt y.toNat hp
  exact Nat.le_of_lt_succ (Nat.div_lt_of_lt_mul (by omega))
theorem n_mod (x y : BitVec 64) (k : Nat) : (x.toNat + y.toNat) / 2 ^ k % 2 = nTo x y k % 2 := by
  rw [div_sum]; unfold nTo bt carTo; omega
theorem sum_succ (x y : BitVec 64) (k : Nat) : sumTo x y (k + 1) = sumTo x y k + nTo x y k % 2 * 2 ^ k := by
  unfold sumTo
  rw [split, n_mod]
theorem car_succ (x y : BitVec 64) (k : Nat) : carTo x y (k + 1) = nTo x y k / 2 := by
  unfold carTo nTo bt carTo
  rw [split, split, Nat.pow_succ, ← Nat.div_div_eq_div_mul]
  have hp := Nat.two_pow_pos k
  have e : x.toNat % 2 ^ k + x.toNat / 2 ^ k % 2 * 2 ^ k + (y.toNat % 2 ^ k + y.toNat / 2 ^ k % 2 * 2 ^ k) = 2 ^ k * (x.toNat / 2 ^ k % 2 + y.toNat / 2 ^ k % 2) + (x.toNat % 2 ^ k + y.toNat % 2 ^ k) := by
    rw [Nat.mul_add, Nat.mul_comm _ (2 ^ k), Nat.mul_comm _ (2 ^ k)]; omega
  rw [e, Nat.mul_add_div hp]
theorem sum_lt (x y : BitVec 64) (k : Nat) : sumTo x y k < 2 ^ k := Nat.mod_lt _ (Nat.two_pow_pos k)
theorem pow_le {k : Nat} (h : k < 64) : 2 ^ k ≤ 9223372036854775808 := Nat.pow_le_pow_right (n := 2) (by decide) (show k ≤ 63 by omega)
theorem sum_le (x y : BitVec 64) {k : Nat} (h : k ≤ 64) : sumTo x y k < 18446744073709551616 :=
  Nat.lt_of_lt_of_le (sum_lt x y k) (Nat.pow_le_pow_right (n := 2) (by decide) h)
theorem n_le (x y : BitVec 64) (k : Nat) : nTo x y k ≤ 3 := by
  have h1 := bt_le x k
  have h2 := bt_le y k
  have h3 := car_le x y k
  unfold nTo; omega
theorem or_u64 (a b : Nat) (ha : a < 18446744073709551616) (hb : b < 18446744073709551616) : bits .or .u64 (a : Int) (b : Int) = ((a ||| b : Nat) : Int) := by
  rw [Go.Proofs.YtgkjdmojbndicaaGreatDoor.or_u64]
  rw [BitVec.toNat_or, Pw.toNat_bv a ha, Pw.toNat_bv b hb]
/-- The step of the sum, as the walk spells it. -/
theorem step (x y : BitVec 64) (k : Nat) (h : k < 64) : bits .or .u64 (sumTo x y k : Int) (IntKind.u64.wrap (((nTo x y k % 2 : Nat) : Int) * 2 ^ k)) = (sumTo x y (k + 1) : Int) := by
  have hp := pow_le h
  have hs := sum_lt x y k
  have hb : nTo x y k % 2 * 2 ^ k ≤ 2 ^ k := by
    have : nTo x y k % 2 < 2 := Nat.mod_lt _ (by decide)
    calc nTo x y k % 2 * 2 ^ k ≤ 1 * 2 ^ k := Nat.mul_le_mul_right _ (by omega)
      _ = 2 ^ k := Nat.one_mul _
  have e : ((nTo x y k % 2 : Nat) : Int) * 2 ^ k = ((nTo x y k % 2 * 2 ^ k : Nat) : Int) := by rw [Int.natCast_mul, Int.natCast_pow]; rfl
  rw [e, Pw.wrapN _ (by omega), or_u64 _ _ (by omega) (by omega), or_bit _ _ _ hs, ← sum_succ]
end Ad

set_option maxHeartbeats 1000000 in
theorem refadd_any (a b : Int) (w : World) :
    Calls Tryz.prog 48 #[.int .i64 a, .int .i64 b] w fun e w' => e = .returned (.int .i64 (opI 1 a b)) ∧ w = w' := by
  go_enter Tryz.func48, Tryz.ntmps48
  go_wp2
  go_loop [5, 6, 7] (fun s c i => ∃ k : Nat, k ≤ 64 ∧ i = .int .i64 k ∧ s = .int .u64 (sumTo (bv a) (bv b) k : Nat) ∧ c = .int .u64 (carTo (bv a) (bv b) k : Nat)) (fun _ _ i => 64 - (intOf i).toNat)
  case atStart => exact ⟨0, Nat.zero_le _, rfl, by simp [sumTo, Nat.mod_one], by simp [carTo, Nat.mod_one]⟩
  case round =>
    obtain ⟨k, hk, rfl, rfl, rfl⟩ := hrel
    by_cases hlt : k < 64
    · have hs := Ad.step (bv a) (bv b) k hlt
      have hn := Ad.n_le (bv a) (bv b) k
      have h1 := bt_le (bv a) k
      have h2 := bt_le (bv b) k
      have h3 := Ad.car_le (bv a) (bv b) k
      have e1 : IntKind.u64.wrap ((bt (bv a) k : Int) + (bt (bv b) k : Int)) = ((bt (bv a) k + bt (bv b) k : Nat) : Int) := by rw [← Int.natCast_add, Pw.wrapN _ (by omega)]
      have e2 : IntKind.u64.wrap (((bt (bv a) k + bt (bv b) k : Nat) : Int) + (carTo (bv a) (bv b) k : Int)) = (nTo (bv a) (bv b) k : Int) := by rw [← Int.natCast_add, Pw.wrapN _ (by omega)]; rfl
      have e3 := and_one (nTo (bv a) (bv b) k) (by omega)
      have e4 : (nTo (bv a) (bv b) k : Int) / 2 = (carTo (bv a) (bv b) (k + 1) : Int) := by rw [Ad.car_succ]; omega
      clear hn h1 h2 h3
      generalize bt (bv a) k + bt (bv b) k = t at *
      generalize nTo (bv a) (bv b) k % 2 = n2 at *
      generalize nTo (bv a) (bv b) k = n at *
      generalize hC : carTo (bv a) (bv b) (k + 1) = c1 at *
      generalize hS : sumTo (bv a) (bv b) (k + 1) = s1 at *
      have HC := Lib.hid hC; clear hC
      have HS := Lib.hid hS; clear hS
      go_wp2_with (go_at_call 53; refine (bit_nat _ _ _ hlt).mono ?_; rintro e w' ⟨rfl, rfl⟩)
      go_round
      case rel => exact ⟨k + 1, by omega, by go_num, by rw [HS.out], by rw [HC.out]⟩
      case measure => simp [intOf]; omega
    · have hk' : k = 64 := by omega
      have he : wrap64 (sumTo (bv a) (bv b) k : Int) = opI 1 a b := by
        rw [wrap64_bv]
        show _ = (bv a + bv b).toInt
        refine congrArg BitVec.toInt ?_
        apply BitVec.eq_of_toNat_eq
        rw [Pw.toNat_bv _ (Ad.sum_le _ _ hk), BitVec.toNat_add, hk']; rfl
      have HE := Lib.hid he; clear he hk'
      go_wp2
      go_ret
      exact ⟨ret_i64 HE.out, rfl⟩
/-- neg: 0 less that. -/
theorem bv_not (a : Int) : bv (bits .xor .i64 (-1) a) = ~~~ bv a := by
  rw [xor_i64, bv_toInt]
  exact BitVec.allOnes_xor
theorem neg_eq (a : Int) : opI 1 (bits .xor .i64 (-1) a) 1 = opI 2 0 a := by
  show (bv (bits .xor .i64 (-1) a) + bv 1).toInt = (bv 0 - bv a).toInt
  rw [bv_not]
  refine congrArg BitVec.toInt ?_
  show ~~~ bv a + 1#64 = 0#64 - bv a
  rw [BitVec.zero_sub, BitVec.neg_eq_not_add]
set_option maxHeartbeats 1000000 in
theorem refneg_any (a : Int) (w : World) :
    Calls Tryz.prog 49 #[.int .i64 a] w fun e w' => e = .returned (.int .i64 (opI 2 0 a)) ∧ w = w' := by
  have he := Lib.hid (neg_eq a)
  have hs : IntKind.i64.signed = true := rfl
  go_enter Tryz.func49, Tryz.ntmps49
  go_wp2_with (go_at_call 48; refine (refadd_any _ _ _).mono ?_; rintro e w' ⟨rfl, rfl⟩)
  go_ret
  exact ⟨ret_i64 he.out, rfl⟩
end Go.Proofs.YtgkjdmojbndicaaGreatDoor

namespace Go.Proofs.YtgkjdmojbndicaaGreatDoor
open Go.RowKit

namespace Sets
theorem halves (x y : Nat) : x + y = (x ^^^ y) + 2 * (x &&& y) := by
  induction x using Nat.strongRecOn generalizing y with
  | ind x ih =>
    have a1 := Nat.and_mod_two_pow (a := x) (b := y) (n := 1)
    have a2 := Nat.and_div_two_pow (a := x) (b := y) (n := 1)
    have o1 := Nat.xor_mod_two_pow (a := x) (b := y) (n := 1)
    have o2 := Nat.xor_div_two_pow (a := x) (b := y) (n := 1)
    simp only [Nat.pow_one] at a1 a2 o1 o2
    by_cases hx : x = 0
    · subst hx; simp
    · have h := ih (x / 2) (by omega) (y / 2)
      have m1 : x % 2 = 0 ∨ x % 2 = 1 := by omega
      have m2 : y % 2 = 0 ∨ y % 2 = 1 := by omega
      rcases m1 with m1 | m1 <;> rcases m2 with m2 | m2 <;> simp only [m1, m2, Nat.reduceAnd, Nat.reduceXor, Nat.zero_and, Nat.and_zero, Nat.zero_xor, Nat.xor_zero] at a1 o1 <;> omega
theorem parts (x y : Nat) : (x ||| y) = (x ^^^ y) + (x &&& y) := by
  induction x using Nat.strongRecOn generalizing y with
  | ind x ih =>
    have a1 := Nat.and_mod_two_pow (a := x) (b := y) (n := 1)
    have a2 := Nat.and_div_two_pow (a := x) (b := y) (n := 1)
    have o1 := Nat.xor_mod_two_pow (a := x) (b := y) (n := 1)
    have o2 := Nat.xor_div_two_pow (a := x) (b := y) (n := 1)
    have r1 := Nat.or_mod_two_pow (a := x) (b := y) (n := 1)
    have r2 := Nat.or_div_two_pow (a := x) (b := y) (n := 1)
    simp only [Nat.pow_one] at a1 a2 o1 o2 r1 r2
    by_cases hx : x = 0
    · subst hx; simp
    · have h := ih (x / 2) (by omega) (y / 2)
      have m1 : x % 2 = 0 ∨ x % 2 = 1 := by omega
      have m2 : y % 2 = 0 ∨ y % 2 = 1 := by omega
      rcases m1 with m1 | m1 <;> rcases m2 with m2 | m2 <;> simp only [m1, m2, Nat.reduceAnd, Nat.reduceXor, Nat.reduceOr, Nat.zero_and, Nat.and_zero, Nat.zero_xor, Nat.xor_zero, Nat.zero_or, Nat.or_zero] at a1 o1 r1 <;> omega
end Sets

theorem add_xor_and (x y : BitVec 64) : (x ^^^ y) + 2 * (x &&& y) = x + y := by
  apply BitVec.eq_of_toNat_eq
  rw [BitVec.toNat_add, BitVec.toNat_add, BitVec.toNat_mul, BitVec.toNat_xor, BitVec.toNat_and]
  rw [show (2 : BitVec 64).toNat = 2 from rfl]
  have h := Sets.halves x.toNat y.toNat
  omega
theorem or_sub_and (x y : BitVec 64) : (x ||| y) - (x &&& y) = x ^^^ y := by
  have h : (x ||| y) = (x ^^^ y) + (x &&& y) := by
    apply BitVec.eq_of_toNat_eq
    rw [BitVec.toNat_add, BitVec.toNat_or, BitVec.toNat_xor, BitVec.toNat_and, ← Sets.parts]
    exact (Nat.mod_eq_of_lt (Nat.or_lt_two_pow x.isLt y.isLt)).symm
  rw [h, BitVec.add_sub_cancel]
theorem xor_low (x : BitVec 64) : (x ^^^ bv (-9223372036854775808)).toNat = (x.toInt + 9223372036854775808).toNat := by
  have h := add_xor_and x (bv (-9223372036854775808))
  have h2 : 2 * (x &&& bv (-9223372036854775808)) = 0 := by
    apply BitVec.eq_of_toNat_eq
    rw [BitVec.toNat_mul, BitVec.toNat_and, show (2 : BitVec 64).toNat = 2 from rfl, show (bv (-9223372036854775808)).toNat = 2 ^ 63 from rfl]
    have g := Nat.and_mod_two_pow (a := x.toNat) (b := 2 ^ 63) (n := 63)
    rw [Nat.mod_self, Nat.and_zero] at g
    rw [show (0 : BitVec 64).toNat = 0 from rfl]
    omega
  rw [h2, show (0 : BitVec 64) = 0#64 from rfl, BitVec.add_zero] at h
  rw [h, BitVec.toNat_add, show (bv (-9223372036854775808)).toNat = 9223372036854775808 from rfl]
  rw [BitVec.toInt_eq_toNat_cond]
  have hl := x.isLt
  split <;> omega
theorem slt_low (x y : BitVec 64) : x.slt y = (x ^^^ bv (-9223372036854775808)).ult (y ^^^ bv (-9223372036854775808)) := by
  rw [BitVec.slt, BitVec.ult, xor_low, xor_low]
  have h1 := InR.toInt x
  have h2 := InR.toInt y
  unfold InR at h1 h2
  rw [decide_eq_decide]
  omega

theorem opI_14 (a b : Int) : opI 14 a b = if (bv a).slt (bv b) then 1 else 0 := by
  show BitVec.toInt (if (bv a).slt (bv b) then 1 else 0) = _
  split <;> rfl
theorem opI_15 (a b : Int) : opI 15 a b = if (bv a).ult (bv b) then 1 else 0 := by
  show BitVec.toInt (if (bv a).ult (bv b) then 1 else 0) = _
  split <;> rfl
theorem opI_16 (a b : Int) : opI 16 a b = if bv a = bv b then 1 else 0 := by
  show BitVec.toInt (if bv a = bv b then 1 else 0) = _
  split <;> rfl
end Go.Proofs.YtgkjdmojbndicaaGreatDoor

namespace Go.Proofs.YtgkjdmojbndicaaGreatDoor
open Go.RowKit

theorem bt_lsb (x : BitVec 64) (k : Nat) : bt x k = (x.getLsbD k).toNat := by
  rw [BitVec.getLsbD, Nat.testBit_eq_decide_div_mod_eq]
  unfold bt
  have h : x.toNat / 2 ^ k % 2 = 0 ∨ x.toNat / 2 ^ k % 2 = 1 := by omega
  rcases h with h | h <;> simp [h]

/-- The product with the lowest k bits. -/
def mulTo (x y : BitVec 64) (k : Nat) : Int := (x * BitVec.ofNat 64 (y.toNat % 2 ^ k)).toInt
namespace Mr
theorem zero (x y : BitVec 64) : mulTo x y 0 = 0 := by
  unfold mulTo; rw [Nat.pow_zero, Nat.mod_one]
  show (x * 0#64).toInt = 0
  rw [BitVec.mul_zero]; rfl
theorem full (a b : Int) : mulTo (bv a) (bv b) 64 = opI 3 a b := by
  unfold mulTo
  rw [Nat.mod_eq_of_lt (bv b).isLt, BitVec.ofNat_toNat, BitVec.setWidth_eq]; rfl
theorem none (x y : BitVec 64) (k : Nat) (h : bt y k = 0) : mulTo x y (k + 1) = mulTo x y k := by
  unfold mulTo
  rw [Ad.split]
  unfold bt at h
  rw [h, Nat.zero_mul, Nat.add_zero]
theorem some (a : Int) (y : BitVec 64) (k : Nat) (h : bt y k = 1) : opI 1 (mulTo (bv a) y k) (wrap64 (IntKind.u64.wrap (IntKind.u64.wrap a * 2 ^ k))) = mulTo (bv a) y (k + 1) := by
  show (bv (mulTo (bv a) y k) + bv (wrap64 (IntKind.u64.wrap (IntKind.u64.wrap a * 2 ^ k)))).toInt = _
  rw [wrap64_bv, bv_toInt, u64_bv, bv_toNat, shl_bv, u64_bv, bv_toNat]
  unfold mulTo
  rw [bv_toInt, Ad.split]
  unfold bt at h
  rw [h, Nat.one_mul]
  refine congrArg BitVec.toInt ?_
  have e : bv a <<< k = bv a * BitVec.ofNat 64 (2 ^ k) := by
    apply BitVec.eq_of_toNat_eq
    rw [BitVec.toNat_shiftLeft, BitVec.toNat_mul, BitVec.toNat_ofNat, Nat.shiftLeft_eq, Nat.mul_mod_mod]
  rw [e, ← BitVec.mul_add, BitVec.ofNat_add]
end Mr
theorem eq_nat {n : Nat} (h : n = 1) : ((n : Int) == 1) = true := by rw [h]; rfl
theorem ne_nat {n : Nat} (h : ¬ n = 1) : ((n : Int) == 1) = false := beq_eq_false_iff_ne.2 (by omega)

set_option maxHeartbeats 1000000 in
theorem refmul_any (a b : Int) (w : World) :
    Calls Tryz.prog 50 #[.int .i64 a, .int .i64 b] w fun e w' => e = .returned (.int .i64 (opI 3 a b)) ∧ w = w' := by
  go_enter Tryz.func50, Tryz.ntmps50
  go_wp2
  go_loop [5, 6] (fun s i => ∃ k : Nat, k ≤ 64 ∧ i = .int .i64 k ∧ s = .int .i64 (mulTo (bv a) (bv b) k)) (fun _ i => 64 - (intOf i).toNat)
  case atStart => exact ⟨0, Nat.zero_le _, rfl, by rw [Mr.zero]⟩
  case round =>
    obtain ⟨k, hk, rfl, rfl⟩ := hrel
    by_cases hlt : k < 64
    · by_cases h1 : bt (bv b) k = 1
      · have t1 := eq_nat h1
        have HE := Lib.hid (Mr.some a (bv b) k h1)
        clear h1
        go_wp2_with (first | (go_at_call 53; refine (bit_nat _ _ _ hlt).mono ?_; rintro e w' ⟨rfl, rfl⟩) | (go_at_call 48; refine (refadd_any _ _ _).mono ?_; rintro e w' ⟨rfl, rfl⟩))
        go_round
        case rel => exact ⟨k + 1, by omega, by go_num, by rw [HE.out]⟩
        case measure => simp [intOf]; omega
      · have t1 := ne_nat h1
        have HE := Lib.hid (Mr.none (bv a) (bv b) k (by have := bt_le (bv b) k; omega))
        clear h1
        go_wp2_with (go_at_call 53; refine (bit_nat _ _ _ hlt).mono ?_; rintro e w' ⟨rfl, rfl⟩)
        go_round
        case rel => exact ⟨k + 1, by omega, by go_num, by rw [HE.out]⟩
        case measure => simp [intOf]; omega
    · have hk' : k = 64 := by omega
      have HE := Lib.hid (Mr.full a b)
      rw [← hk'] at HE
      clear hk'
      go_wp2
      go_ret
      exact ⟨ret_i64 HE.out, rfl⟩

/-- As counts: is the first one below? -/
def ultI (a b : Int) : Bool := (bv a).ult (bv b)
namespace Bl
theorem split (x k : Nat) : x / 2 ^ k = 2 * (x / 2 ^ (k + 1)) + x / 2 ^ k % 2 := by
  rw [Nat.pow_succ, ← Nat.div_div_eq_div_mul]; omega
theorem same {x y : BitVec 64} {k : Nat} (h : x.toNat / 2 ^ (k + 1) = y.toNat / 2 ^ (k + 1)) (e : bt x k = bt y k) : x.toNat / 2 ^ k = y.toNat / 2 ^ k := by
  rw [split, split y.toNat, h]; unfold bt at e; rw [e]
theorem parts {a b : Int} {k : Nat} (h : (bv a).toNat / 2 ^ (k + 1) = (bv b).toNat / 2 ^ (k + 1)) (e : ¬ bt (bv a) k = bt (bv b) k) : ((bt (bv b) k : Int) == 1) = ultI a b := by
  have h1 := split (bv a).toNat k
  have h2 := split (bv b).toNat k
  have b1 := bt_le (bv a) k
  have b2 := bt_le (bv b) k
  unfold ultI
  rw [BitVec.ult]
  change (bv a).toNat / 2 ^ k = 2 * ((bv a).toNat / 2 ^ (k + 1)) + bt (bv a) k at h1
  change (bv b).toNat / 2 ^ k = 2 * ((bv b).toNat / 2 ^ (k + 1)) + bt (bv b) k at h2
  by_cases c : bt (bv b) k = 1
  · rw [eq_nat c]
    have hl : (bv a).toNat < (bv b).toNat := by
      have : (bv a).toNat / 2 ^ k < (bv b).toNat / 2 ^ k := by omega
      exact Nat.lt_of_div_lt_div this
    simpa using hl
  · rw [ne_nat c]
    have hl : (bv b).toNat < (bv a).toNat := by
      have : (bv b).toNat / 2 ^ k < (bv a).toNat / 2 ^ k := by omega
      exact Nat.lt_of_div_lt_div this
    symm
    rw [decide_eq_false_iff_not]
    omega
theorem ends {a b : Int} (h : (bv a).toNat / 2 ^ 0 = (bv b).toNat / 2 ^ 0) : ultI a b = false := by
  unfold ultI
  rw [BitVec.ult, decide_eq_false_iff_not]
  simp only [Nat.pow_zero, Nat.div_one] at h
  omega
theorem bne_nat {m n : Nat} (h : ¬ m = n) : ((m : Int) != (n : Int)) = true := by
  rw [bne_iff_ne]; omega
theorem beq_nat {m n : Nat} (h : m = n) : ((m : Int) != (n : Int)) = false := by
  rw [h]; simp
end Bl
theorem ret_bool {a b : Bool} (h : a = b) : Ending.returned (.bool a) = .returned (.bool b) := by rw [h]

set_option maxHeartbeats 1000000 in
theorem refbelow_any (a b : Int) (w : World) :
    Calls Tryz.prog 55 #[.int .i64 a, .int .i64 b] w fun e w' => e = .returned (.bool (ultI a b)) ∧ w = w' := by
  go_enter Tryz.func55, Tryz.ntmps55
  go_wp2
  go_loop [5] (fun i => ∃ j : Nat, j ≤ 64 ∧ i = .int .i64 ((j : Int) - 1) ∧ Hid ((bv a).toNat / 2 ^ j = (bv b).toNat / 2 ^ j)) (fun i => (intOf i + 1).toNat)
  case atStart => exact ⟨64, Nat.le_refl _, rfl, by show _ = _; rw [Nat.div_eq_of_lt (bv a).isLt, Nat.div_eq_of_lt (bv b).isLt]⟩
  case round =>
    obtain ⟨j, hj, rfl, he⟩ := hrel
    cases j with
    | zero =>
      have HE := Lib.hid (Bl.ends he.out)
      clear he
      rw [show ((0 : Nat) : Int) - 1 = -1 from rfl]
      go_wp2
      go_ret
      exact ⟨ret_bool HE.out.symm, rfl⟩
    | succ k =>
      rw [show ((k + 1 : Nat) : Int) - 1 = (k : Int) from by omega]
      have hk : k < 64 := by omega
      by_cases hb : bt (bv a) k = bt (bv b) k
      · have hs := Bl.same he.out hb
        have HS := Lib.hid hs
        clear hs he
        have t := Bl.beq_nat hb
        clear hb
        go_wp2_with (go_at_call 53; refine (bit_nat _ _ _ hk).mono ?_; rintro e w' ⟨rfl, rfl⟩)
        go_round
        case rel => exact ⟨k, by omega, rfl, HS.out⟩
        case measure => simp [intOf]
      · have HS := Lib.hid (Bl.parts he.out hb)
        clear he
        have t := Bl.bne_nat hb
        clear hb
        go_wp2_with (go_at_call 53; refine (bit_nat _ _ _ hk).mono ?_; rintro e w' ⟨rfl, rfl⟩)
        go_ret
        exact ⟨ret_bool HS.out, rfl⟩
set_option maxHeartbeats 400000 in
theorem refone_any (b : Bool) (w : World) : Calls Tryz.prog 54 #[.bool b] w fun e w' => e = .returned (.int .i64 (if b then 1 else 0)) ∧ w = w' := by
  cases b
  all_goals
    go_enter Tryz.func54, Tryz.ntmps54
    go_wp2
    go_ret
    exact ⟨rfl, rfl⟩
end Go.Proofs.YtgkjdmojbndicaaGreatDoor

namespace Go.Proofs.YtgkjdmojbndicaaGreatDoor
open Go.RowKit

/-- The lowest k bits of a word, as a count. -/
def lowTo (r : BitVec 64) (k : Nat) : Nat := r.toNat % 2 ^ k
namespace Mv
theorem succ (r : BitVec 64) (k : Nat) : lowTo r (k + 1) = lowTo r k + bt r k * 2 ^ k := Ad.split ..
theorem lt (r : BitVec 64) (k : Nat) : lowTo r k < 2 ^ k := Nat.mod_lt _ (Nat.two_pow_pos k)
theorem step (r : BitVec 64) (k n : Nat) (h : k < 64) (hn : bt r k = n) : bits .or .u64 (lowTo r k : Int) (IntKind.u64.wrap ((n : Int) * 2 ^ k)) = (lowTo r (k + 1) : Int) := by
  have hp := Ad.pow_le h
  have hs := lt r k
  have h1 := bt_le r k
  have hb : bt r k * 2 ^ k ≤ 2 ^ k := by
    calc bt r k * 2 ^ k ≤ 1 * 2 ^ k := Nat.mul_le_mul_right _ h1
      _ = 2 ^ k := Nat.one_mul _
  have e : (n : Int) * 2 ^ k = ((bt r k * 2 ^ k : Nat) : Int) := by rw [Int.natCast_mul, Int.natCast_pow, hn]; rfl
  rw [e, Pw.wrapN _ (by omega), Ad.or_u64 _ _ (by omega) (by omega), or_bit _ _ _ hs, ← succ]
theorem zero (r : BitVec 64) (k : Nat) (h : k < 64) (hn : bt r k = 0) : bits .or .u64 (lowTo r k : Int) 0 = (lowTo r (k + 1) : Int) := by
  have e := step r k 0 h hn
  rw [show IntKind.u64.wrap (((0 : Nat) : Int) * 2 ^ k) = 0 from by rw [show ((0 : Nat) : Int) = 0 from rfl, Int.zero_mul]; rfl] at e
  exact e
theorem full (r : BitVec 64) : wrap64 (lowTo r 64 : Int) = r.toInt := by
  unfold lowTo
  rw [Nat.mod_eq_of_lt r.isLt, wrap64_bv, bv_toNat]
theorem up_bit (x : BitVec 64) (m k : Nat) (hk : k < 64) : bt (x <<< m) k = if m ≤ k then bt x (k - m) else 0 := by
  rw [bt_lsb, BitVec.getLsbD_shiftLeft]
  by_cases h : m ≤ k
  · rw [if_pos h, bt_lsb]; simp [hk, Nat.not_lt.2 h]
  · rw [if_neg h]; simp [Nat.lt_of_not_le h]
theorem down_bit (x : BitVec 64) (m k : Nat) (_hk : k < 64) : bt (x >>> m) k = if k + m < 64 then bt x (k + m) else 0 := by
  rw [bt_lsb, BitVec.getLsbD_ushiftRight]
  by_cases h : k + m < 64
  · rw [if_pos h, bt_lsb, Nat.add_comm]
  · rw [if_neg h, BitVec.getLsbD_of_ge _ _ (by omega)]; rfl
theorem sown_bit (x : BitVec 64) (m k : Nat) (hk : k < 64) : bt (x.sshiftRight m) k = if k + m < 64 then bt x (k + m) else bt x 63 := by
  rw [bt_lsb, BitVec.getLsbD_sshiftRight]
  by_cases h : k + m < 64
  · rw [if_pos h, bt_lsb, Nat.add_comm k m]; simp [Nat.not_le.2 hk, show m + k < 64 by omega]
  · rw [if_neg h, bt_lsb]; simp [Nat.not_le.2 hk, show ¬ m + k < 64 by omega, BitVec.msb_eq_getLsbD_last]
end Mv

set_option maxHeartbeats 2000000 in
theorem moved_up (a : Int) (m : Nat) (w : World) (hm : m < 64) :
    Calls Tryz.prog 52 #[.int .i64 a, .bool true, .int .u64 0, .int .i64 m] w fun e w' => e = .returned (.int .i64 (opI 11 a m)) ∧ w = w' := by
  have hr : opI 11 a m = (bv a <<< m).toInt := by
    show (bv a <<< ((bv (m : Int)).toNat % 64)).toInt = _
    rw [Pw.toNat_bv m (by omega), Nat.mod_eq_of_lt hm]
  rw [hr, ← Mv.full]
  have bits1 := fun k hk => Mv.up_bit (bv a) m k hk
  generalize bv a <<< m = r at *
  have BT := Lib.hid bits1; clear bits1 hr
  go_enter Tryz.func52, Tryz.ntmps52
  go_wp2
  go_loop [9, 10] (fun s i => ∃ k : Nat, k ≤ 64 ∧ i = .int .i64 k ∧ s = .int .u64 (lowTo r k : Nat)) (fun _ i => 64 - (intOf i).toNat)
  case atStart => exact ⟨0, Nat.zero_le _, rfl, by simp [lowTo, Nat.mod_one]⟩
  case round =>
    obtain ⟨k, hk, rfl, rfl⟩ := hrel
    by_cases hlt : k < 64
    · by_cases hc : m ≤ k
      · have hb := BT.out k hlt
        rw [if_pos hc] at hb
        have HS := Lib.hid (Mv.step r k _ hlt hb)
        clear hb BT
        have f1 : (0 : Int) ≤ (k : Int) - (m : Int) := by omega
        have f2 : (k : Int) - (m : Int) < 64 := by omega
        have f3 : ((k : Int) - (m : Int)).toNat = k - m := by omega
        have F3 := Lib.hid f3; clear f3
        go_wp2_with (go_at_call 53; refine (bit_any _ _ _ f1 f2).mono ?_; rw [F3.out]; rintro e w' ⟨rfl, rfl⟩)
        rw [HS.out]
        go_round
        case rel => exact ⟨k + 1, by omega, by go_num, rfl⟩
        case measure => simp [intOf]; omega
      · have hb := BT.out k hlt
        rw [if_neg hc] at hb
        have HS := Lib.hid (Mv.zero r k hlt hb)
        clear hb BT
        have f1 : (k : Int) - (m : Int) < 0 := by omega
        go_wp2
        rw [HS.out]
        go_round
        case rel => exact ⟨k + 1, by omega, by go_num, rfl⟩
        case measure => simp [intOf]; omega
    · have hk' : k = 64 := by omega
      subst hk'
      go_wp2
      go_ret
      exact ⟨rfl, rfl⟩

set_option maxHeartbeats 400000 in
theorem moved_down (a : Int) (r : BitVec 64) (m f : Nat) (w : World) (hm : m < 64) (bits1 : ∀ k, k < 64 → bt r k = if k + m < 64 then bt (bv a) (k + m) else f) :
    Calls Tryz.prog 52 #[.int .i64 a, .bool false, .int .u64 f, .int .i64 m] w fun e w' => e = .returned (.int .i64 (wrap64 (lowTo r 64 : Int))) ∧ w = w' := by
  have BT := Lib.hid bits1; clear bits1
  go_enter Tryz.func52, Tryz.ntmps52
  go_wp2
  go_loop [9, 10] (fun s i => ∃ k : Nat, k ≤ 64 ∧ i = .int .i64 k ∧ s = .int .u64 (lowTo r k : Nat)) (fun _ i => 64 - (intOf i).toNat)
  case atStart => exact ⟨0, Nat.zero_le _, rfl, by simp [lowTo, Nat.mod_one]⟩
  case round =>
    obtain ⟨k, hk, rfl, rfl⟩ := hrel
    by_cases hlt : k < 64
    · by_cases hc : k + m < 64
      · have hb := BT.out k hlt
        rw [if_pos hc] at hb
        have HS := Lib.hid (Mv.step r k _ hlt hb)
        clear hb BT
        have f1 : (0 : Int) ≤ (k : Int) + (m : Int) := by omega
        have f2 : (k : Int) + (m : Int) < 64 := by omega
        have f3 : ((k : Int) + (m : Int)).toNat = k + m := by omega
        have F3 := Lib.hid f3; clear f3
        go_wp2_with (go_at_call 53; refine (bit_any _ _ _ f1 f2).mono ?_; rw [F3.out]; rintro e w' ⟨rfl, rfl⟩)
        rw [HS.out]
        go_round
        case rel => exact ⟨k + 1, by omega, by go_num, rfl⟩
        case measure => simp [intOf]; omega
      · have hb := BT.out k hlt
        rw [if_neg hc] at hb
        have HS := Lib.hid (Mv.step r k _ hlt hb)
        clear hb BT
        have f1 : 64 ≤ (k : Int) + (m : Int) := by omega
        have f0 : (0 : Int) ≤ (k : Int) + (m : Int) := by omega
        clear hc
        go_wp2
        rw [HS.out]
        go_round
        case rel => exact ⟨k + 1, by omega, by go_num, rfl⟩
        case measure => simp [intOf]; omega
    · have hk' : k = 64 := by omega
      subst hk'
      go_wp2
      go_ret
      exact ⟨rfl, rfl⟩
theorem moved_shr (a : Int) (m : Nat) (w : World) (hm : m < 64) :
    Calls Tryz.prog 52 #[.int .i64 a, .bool false, .int .u64 0, .int .i64 m] w fun e w' => e = .returned (.int .i64 (opI 12 a m)) ∧ w = w' := by
  have hr : opI 12 a m = (bv a >>> m).toInt := by
    show (bv a >>> ((bv (m : Int)).toNat % 64)).toInt = _
    rw [Pw.toNat_bv m (by omega), Nat.mod_eq_of_lt hm]
  rw [hr, ← Mv.full]
  exact moved_down a _ m 0 w hm (fun k hk => Mv.down_bit (bv a) m k hk)
theorem moved_sar (a : Int) (m : Nat) (w : World) (hm : m < 64) :
    Calls Tryz.prog 52 #[.int .i64 a, .bool false, .int .u64 (bt (bv a) 63 : Nat), .int .i64 m] w fun e w' => e = .returned (.int .i64 (opI 13 a m)) ∧ w = w' := by
  have hr : opI 13 a m = ((bv a).sshiftRight m).toInt := by
    show ((bv a).sshiftRight ((bv (m : Int)).toNat % 64)).toInt = _
    rw [Pw.toNat_bv m (by omega), Nat.mod_eq_of_lt hm]
  rw [hr, ← Mv.full]
  exact moved_down a _ m _ w hm (fun k hk => Mv.sown_bit (bv a) m k hk)
end Go.Proofs.YtgkjdmojbndicaaGreatDoor

namespace Go.Proofs.YtgkjdmojbndicaaGreatDoor
open Go.RowKit

/-- What is left, and the quotient, of the upper bits from the j-th on. -/
def remTo (x y : BitVec 64) (j : Nat) : Nat := x.toNat / 2 ^ j % y.toNat
def quoTo (x y : BitVec 64) (j : Nat) : Nat := x.toNat / 2 ^ j / y.toNat * 2 ^ j
/-- What is left, moved up by one, with the next bit. -/
def midTo (x y : BitVec 64) (m : Nat) : Nat := 2 * remTo x y (m + 1) + bt x m
def remI (x y : BitVec 64) (j : Nat) : Int := (BitVec.ofNat 64 (remTo x y j)).toInt
def midI (x y : BitVec 64) (m : Nat) : Int := (BitVec.ofNat 64 (midTo x y m)).toInt
namespace Dv
theorem half (x : BitVec 64) (m : Nat) : x.toNat / 2 ^ m = 2 * (x.toNat / 2 ^ (m + 1)) + bt x m := Bl.split ..
theorem rem_lt {x y : BitVec 64} (h : 0 < y.toNat) (j : Nat) : remTo x y j < y.toNat := Nat.mod_lt _ h
theorem mid_lt {x y : BitVec 64} (h : 0 < y.toNat) (m : Nat) : midTo x y m < 2 * y.toNat := by
  have h1 := rem_lt (x := x) h (m + 1)
  have h2 := bt_le x m
  unfold midTo; omega
theorem eucl (x y : BitVec 64) (m : Nat) : x.toNat / 2 ^ m = y.toNat * (2 * (x.toNat / 2 ^ (m + 1) / y.toNat)) + midTo x y m := by
  have h1 := Nat.div_add_mod (x.toNat / 2 ^ (m + 1)) y.toNat
  have h2 := half x m
  unfold midTo remTo
  rw [Nat.mul_left_comm]
  generalize x.toNat / 2 ^ (m + 1) = A at *
  generalize y.toNat * (A / y.toNat) = t at *
  omega
theorem over {x y : BitVec 64} (h : 0 < y.toNat) {m : Nat} (g : y.toNat ≤ midTo x y m) : remTo x y m = midTo x y m - y.toNat ∧ quoTo x y m = quoTo x y (m + 1) + 2 ^ m := by
  have hl := mid_lt (x := x) h m
  have e : x.toNat / 2 ^ m = (midTo x y m - y.toNat) + y.toNat * (2 * (x.toNat / 2 ^ (m + 1) / y.toNat) + 1) := by
    have := eucl x y m
    rw [Nat.mul_add, Nat.mul_one]; omega
  constructor
  · unfold remTo
    rw [e, Nat.add_mul_mod_self_left, Nat.mod_eq_of_lt (by omega)]
  · unfold quoTo
    rw [e, Nat.add_mul_div_left _ _ h, Nat.div_eq_of_lt (by omega), Nat.zero_add, Nat.add_mul, Nat.one_mul, Nat.pow_succ, Nat.mul_comm 2, Nat.mul_assoc, Nat.mul_comm 2]
theorem under {x y : BitVec 64} (h : 0 < y.toNat) {m : Nat} (g : midTo x y m < y.toNat) : remTo x y m = midTo x y m ∧ quoTo x y m = quoTo x y (m + 1) := by
  have e : x.toNat / 2 ^ m = midTo x y m + y.toNat * (2 * (x.toNat / 2 ^ (m + 1) / y.toNat)) := by
    have := eucl x y m
    omega
  constructor
  · unfold remTo
    rw [e, Nat.add_mul_mod_self_left, Nat.mod_eq_of_lt g]
  · unfold quoTo
    rw [e, Nat.add_mul_div_left _ _ h, Nat.div_eq_of_lt g, Nat.zero_add, Nat.pow_succ, Nat.mul_comm 2, Nat.mul_assoc, Nat.mul_comm 2]
theorem quo_le (x y : BitVec 64) (j : Nat) : quoTo x y j < 18446744073709551616 := by
  have h1 : x.toNat / 2 ^ j / y.toNat * 2 ^ j ≤ x.toNat / 2 ^ j * 2 ^ j := Nat.mul_le_mul_right _ (Nat.div_le_self _ _)
  have h2 : x.toNat / 2 ^ j * 2 ^ j ≤ x.toNat := Nat.div_mul_le_self _ _
  have h3 := x.isLt
  unfold quoTo; omega
/-- The top bit of what is left, asked. -/
theorem top {x y : BitVec 64} (h : 0 < y.toNat) (j : Nat) : bt (bv (remI x y j)) 63 = remTo x y j / 9223372036854775808 % 2 := by
  have h1 := rem_lt (x := x) h j
  have h2 := y.isLt
  have e : remTo x y j % 2 ^ 64 = remTo x y j := Nat.mod_eq_of_lt (by omega)
  unfold bt remI
  rw [bv_toInt, BitVec.toNat_ofNat, e]
theorem mid_word (x y : BitVec 64) (m : Nat) (h : 0 < y.toNat) : wrap64 (bits .or .u64 (IntKind.u64.wrap (IntKind.u64.wrap (remI x y (m + 1)) * 2)) (bt x m : Int)) = midI x y m := by
  have h1 := rem_lt (x := x) h (m + 1)
  have h2 := y.isLt
  have h3 := bt_le x m
  have er : IntKind.u64.wrap (remI x y (m + 1)) = (remTo x y (m + 1) : Int) := by
    unfold remI
    rw [u64_bv, bv_toInt, BitVec.toNat_ofNat, Nat.mod_eq_of_lt (by omega)]
  rw [er]
  unfold midI
  have e : IntKind.u64.wrap ((remTo x y (m + 1) : Int) * 2) = ((2 * remTo x y (m + 1) % 18446744073709551616 : Nat) : Int) := by
    rw [IntKind.wrap_u64]; omega
  have ev : 2 * remTo x y (m + 1) % 18446744073709551616 = 2 * (remTo x y (m + 1) % 9223372036854775808) := by omega
  rw [e, ev, Ad.or_u64 _ _ (by omega) (by omega), wrap64_bv]
  refine congrArg BitVec.toInt ?_
  apply BitVec.eq_of_toNat_eq
  have o : (2 * (remTo x y (m + 1) % 9223372036854775808)) ||| bt x m = 2 * (remTo x y (m + 1) % 9223372036854775808) + bt x m := by
    have := Nat.two_pow_add_eq_or_of_lt (i := 1) (show bt x m < 2 ^ 1 by omega) (remTo x y (m + 1) % 9223372036854775808)
    rw [Nat.pow_one] at this
    exact this.symm
  rw [o, Pw.toNat_bv _ (by omega), BitVec.toNat_ofNat]
  unfold midTo
  omega
theorem sub_word {x : BitVec 64} {b : Int} {m : Nat} (h : 0 < (bv b).toNat) (g : (bv b).toNat ≤ midTo x (bv b) m) : opI 1 (midI x (bv b) m) (opI 2 0 b) = remI x (bv b) m := by
  show (bv (midI x (bv b) m) + bv (opI 2 0 b)).toInt = _
  rw [bv_opI]
  unfold midI remI
  rw [bv_toInt, (over h g).1]
  refine congrArg BitVec.toInt ?_
  show _ + (0#64 - bv b) = _
  apply BitVec.eq_of_toNat_eq
  have h2 := (bv b).isLt
  have h3 := mid_lt (x := x) h m
  rw [BitVec.zero_sub, BitVec.toNat_add, BitVec.toNat_neg, BitVec.toNat_ofNat, BitVec.toNat_ofNat]
  omega
theorem or_word {x y : BitVec 64} {m : Nat} (hm : m < 64) (h : 0 < y.toNat) (g : y.toNat ≤ midTo x y m) : bits .or .u64 (quoTo x y (m + 1) : Int) (IntKind.u64.wrap (2 ^ m)) = (quoTo x y m : Int) := by
  have hp := Ad.pow_le hm
  rw [two_pow_bv, Pw.wrapN _ (by omega), Ad.or_u64 _ _ (quo_le ..) (by omega), (over h g).2]
  congr 1
  unfold quoTo
  have ho := Nat.two_pow_add_eq_or_of_lt (i := m + 1) (show 2 ^ m < 2 ^ (m + 1) by rw [Nat.pow_succ]; have := Nat.two_pow_pos m; omega) (x.toNat / 2 ^ (m + 1) / y.toNat)
  rw [Nat.mul_comm]
  exact ho.symm
theorem ult_mid {x : BitVec 64} {b : Int} {m : Nat} (g : midTo x (bv b) m < 18446744073709551616) : ultI (midI x (bv b) m) b = decide (midTo x (bv b) m < (bv b).toNat) := by
  unfold ultI midI
  rw [bv_toInt, BitVec.ult, BitVec.toNat_ofNat, Nat.mod_eq_of_lt g]
theorem starts (x y : BitVec 64) : remI x y 64 = 0 ∧ quoTo x y 64 = 0 := by
  have e : x.toNat / 2 ^ 64 = 0 := Nat.div_eq_of_lt x.isLt
  unfold remI remTo quoTo
  rw [e]
  constructor
  · rw [Nat.zero_mod]; rfl
  · rw [Nat.zero_div, Nat.zero_mul]
theorem pos {b : Int} (h : ¬ bv b = 0) : 0 < (bv b).toNat := Nat.pos_of_ne_zero fun e => h (BitVec.eq_of_toNat_eq e)
theorem quo_end {a b : Int} (h : ¬ bv b = 0) : wrap64 (quoTo (bv a) (bv b) 0 : Int) = opI 6 a b := by
  have e6 : opB 6 (bv a) (bv b) = bv a / bv b := if_neg h
  show _ = (opB 6 (bv a) (bv b)).toInt
  rw [e6, wrap64_bv]
  refine congrArg BitVec.toInt (BitVec.eq_of_toNat_eq ?_)
  rw [Pw.toNat_bv _ (quo_le ..), BitVec.toNat_udiv]
  unfold quoTo
  rw [Nat.pow_zero, Nat.div_one, Nat.mul_one]
theorem rem_end {a b : Int} (h : ¬ bv b = 0) : remI (bv a) (bv b) 0 = opI 7 a b := by
  have e7 : opB 7 (bv a) (bv b) = bv a % bv b := if_neg h
  show _ = (opB 7 (bv a) (bv b)).toInt
  rw [e7]
  refine congrArg BitVec.toInt (BitVec.eq_of_toNat_eq ?_)
  have hl := rem_lt (x := bv a) (pos h) 0
  have h2 := (bv b).isLt
  rw [BitVec.toNat_ofNat, Nat.mod_eq_of_lt (by omega), BitVec.toNat_umod]
  unfold remTo
  rw [Nat.pow_zero, Nat.div_one]
end Dv
theorem ret_two {a b c d : Int} (h : a = b) (g : c = d) : Ending.returned (.tuple #[.int .i64 a, .int .i64 c]) = .returned (.tuple #[.int .i64 b, .int .i64 d]) := by rw [h, g]

set_option maxHeartbeats 2000000 in
theorem refdivide_any (a b : Int) (w : World) (h0 : ¬ bv b = 0) :
    Calls Tryz.prog 69 #[.int .i64 a, .int .i64 b] w fun e w' => e = .returned (.tuple #[.int .i64 (opI 6 a b), .int .i64 (opI 7 a b)]) ∧ w = w' := by
  have hp := Dv.pos h0
  have HQ := Lib.hid (Dv.quo_end (a := a) h0)
  have HR := Lib.hid (Dv.rem_end (a := a) h0)
  have HP := Lib.hid hp
  clear hp h0
  obtain ⟨g1, g2⟩ := Dv.starts (bv a) (bv b)
  have G1 := Lib.hid g1; clear g1
  have G2 := Lib.hid g2; clear g2
  go_enter Tryz.func69, Tryz.ntmps69
  go_wp2
  go_loop [6, 7, 8] (fun q r i => ∃ j : Nat, j ≤ 64 ∧ i = .int .i64 ((j : Int) - 1) ∧ q = .int .u64 (quoTo (bv a) (bv b) j : Nat) ∧ r = .int .i64 (remI (bv a) (bv b) j)) (fun _ _ i => (intOf i + 1).toNat)
  case atStart => exact ⟨64, Nat.le_refl _, rfl, by rw [G2.out]; rfl, by rw [G1.out]⟩
  case round =>
    obtain ⟨j, hj, rfl, rfl, rfl⟩ := hrel
    cases j with
    | zero =>
      rw [show ((0 : Nat) : Int) - 1 = -1 from rfl]
      go_wp2
      go_ret2
      exact ⟨ret_two HQ.out HR.out, rfl⟩
    | succ m =>
      rw [show ((m + 1 : Nat) : Int) - 1 = (m : Int) from by omega]
      have hm : m < 64 := by omega
      clear HQ HR G1 G2
      have M := Dv.mid_word (bv a) (bv b) m HP.out
      have ht := Dv.top (x := bv a) HP.out (m + 1)
      have hrl := Dv.rem_lt (x := bv a) HP.out (m + 1)
      have hml := Dv.mid_lt (x := bv a) HP.out m
      have hbl := (bv b).isLt
      have hmd : midTo (bv a) (bv b) m = 2 * remTo (bv a) (bv b) (m + 1) + bt (bv a) m := rfl
      have hb1 := bt_le (bv a) m
      by_cases hc : (bv b).toNat ≤ midTo (bv a) (bv b) m
      · have S := Lib.hid (Dv.sub_word HP.out hc)
        have O := Lib.hid (Dv.or_word hm HP.out hc)
        by_cases t : bt (bv (remI (bv a) (bv b) (m + 1))) 63 = 1
        · have t1 := eq_nat t
          clear t ht hrl hml hbl hmd hb1 hc HP
          go_wp2_with (first | (go_at_call 53; refine (bit_any _ _ _ (by omega) (by omega)).mono ?_; rintro e w' ⟨rfl, rfl⟩) | (go_at_call 48; refine (refadd_any _ _ _).mono ?_; rintro e w' ⟨rfl, rfl⟩) | (go_at_call 49; refine (refneg_any _ _).mono ?_; rintro e w' ⟨rfl, rfl⟩) | (go_at_call 55; refine (refbelow_any _ _ _).mono ?_; rintro e w' ⟨rfl, rfl⟩))
          rw [O.out, S.out]
          go_round
          case rel => exact ⟨m, by omega, rfl, rfl, rfl⟩
          case measure => simp [intOf]
        · have u := Dv.ult_mid (x := bv a) (b := b) (m := m) (by omega)
          rw [decide_eq_false (by omega)] at u
          have t1 := ne_nat t
          clear t ht hrl hml hbl hmd hb1 hc HP
          go_wp2_with (first | (go_at_call 53; refine (bit_any _ _ _ (by omega) (by omega)).mono ?_; rintro e w' ⟨rfl, rfl⟩) | (go_at_call 48; refine (refadd_any _ _ _).mono ?_; rintro e w' ⟨rfl, rfl⟩) | (go_at_call 49; refine (refneg_any _ _).mono ?_; rintro e w' ⟨rfl, rfl⟩) | (go_at_call 55; refine (refbelow_any _ _ _).mono ?_; rintro e w' ⟨rfl, rfl⟩))
          rw [O.out, S.out]
          go_round
          case rel => exact ⟨m, by omega, rfl, rfl, rfl⟩
          case measure => simp [intOf]
      · obtain ⟨n1, n2⟩ := Dv.under (x := bv a) HP.out (Nat.lt_of_not_le hc)
        have u := Dv.ult_mid (x := bv a) (b := b) (m := m) (by omega)
        rw [decide_eq_true (by omega)] at u
        have t : ¬ bt (bv (remI (bv a) (bv b) (m + 1))) 63 = 1 := by omega
        have t1 := ne_nat t
        have N1 : Hid (midI (bv a) (bv b) m = remI (bv a) (bv b) m) := by unfold midI remI; rw [n1]; rfl
        have N2 := Lib.hid n2
        clear n1 n2 t ht hrl hml hbl hmd hb1 hc HP
        go_wp2_with (first | (go_at_call 53; refine (bit_any _ _ _ (by omega) (by omega)).mono ?_; rintro e w' ⟨rfl, rfl⟩) | (go_at_call 48; refine (refadd_any _ _ _).mono ?_; rintro e w' ⟨rfl, rfl⟩) | (go_at_call 49; refine (refneg_any _ _).mono ?_; rintro e w' ⟨rfl, rfl⟩) | (go_at_call 55; refine (refbelow_any _ _ _).mono ?_; rintro e w' ⟨rfl, rfl⟩))
        rw [N1.out, ← N2.out]
        go_round
        case rel => exact ⟨m, by omega, rfl, rfl, rfl⟩
        case measure => simp [intOf]
end Go.Proofs.YtgkjdmojbndicaaGreatDoor

namespace Go.Proofs.YtgkjdmojbndicaaGreatDoor
open Go.RowKit

namespace Sg
theorem bv_neg0 (a : Int) : bv (opI 2 0 a) = - bv a := by
  rw [bv_opI]
  show 0#64 - bv a = _
  rw [BitVec.zero_sub]
theorem neg_ne {b : Int} (h : ¬ bv b = 0) : ¬ bv (opI 2 0 b) = 0 := by
  rw [bv_neg0]
  intro e
  apply h
  have := congrArg (fun x => - x) e
  simp only [BitVec.neg_neg] at this
  rw [this]; rfl
theorem op6 {a b : Int} (h : ¬ bv b = 0) : opI 6 a b = (bv a / bv b).toInt := congrArg BitVec.toInt (if_neg h)
theorem op7 {a b : Int} (h : ¬ bv b = 0) : opI 7 a b = (bv a % bv b).toInt := congrArg BitVec.toInt (if_neg h)
theorem op4 {a b : Int} (h : ¬ bv b = 0) : opI 4 a b = ((bv a).sdiv (bv b)).toInt := congrArg BitVec.toInt (if_neg h)
theorem op5 {a b : Int} (h : ¬ bv b = 0) : opI 5 a b = ((bv a).srem (bv b)).toInt := congrArg BitVec.toInt (if_neg h)
theorem msb_yes {a : Int} (ha : InR a) (h : a < 0) : (bv a).msb = true := by
  rw [BitVec.msb_eq_toInt, toInt_bv ha]; simpa using h
theorem msb_no {a : Int} (ha : InR a) (h : ¬ a < 0) : (bv a).msb = false := by
  rw [BitVec.msb_eq_toInt, toInt_bv ha]; simpa using h
theorem neg_op (k a b : Int) : opI 2 0 (opI k a b) = (- bv (opI k a b)).toInt := by
  show (bv 0 - bv (opI k a b)).toInt = _
  refine congrArg BitVec.toInt ?_
  show 0#64 - _ = _
  rw [BitVec.zero_sub]
theorem pp {a b : Int} (ha : InR a) (hb : InR b) (h : ¬ bv b = 0) (a0 : ¬ a < 0) (b0 : ¬ b < 0) : opI 6 a b = opI 4 a b ∧ opI 7 a b = opI 5 a b := by
  rw [op6 h, op7 h, op4 h, op5 h, BitVec.sdiv_eq, BitVec.srem_eq, msb_no ha a0, msb_no hb b0]
  exact ⟨rfl, rfl⟩
theorem pm {a b : Int} (ha : InR a) (hb : InR b) (h : ¬ bv b = 0) (a0 : ¬ a < 0) (b0 : b < 0) : opI 2 0 (opI 6 a (opI 2 0 b)) = opI 4 a b ∧ opI 7 a (opI 2 0 b) = opI 5 a b := by
  rw [neg_op, op6 (neg_ne h), op7 (neg_ne h), op4 h, op5 h, BitVec.sdiv_eq, BitVec.srem_eq, msb_no ha a0, msb_yes hb b0, bv_neg0, bv_toInt]
  exact ⟨rfl, rfl⟩
theorem mp {a b : Int} (ha : InR a) (hb : InR b) (h : ¬ bv b = 0) (a0 : a < 0) (b0 : ¬ b < 0) : opI 2 0 (opI 6 (opI 2 0 a) b) = opI 4 a b ∧ opI 2 0 (opI 7 (opI 2 0 a) b) = opI 5 a b := by
  rw [neg_op, neg_op, op6 h, op7 h, op4 h, op5 h, BitVec.sdiv_eq, BitVec.srem_eq, msb_yes ha a0, msb_no hb b0, bv_neg0, bv_toInt, bv_toInt]
  exact ⟨rfl, rfl⟩
theorem mm {a b : Int} (ha : InR a) (hb : InR b) (h : ¬ bv b = 0) (a0 : a < 0) (b0 : b < 0) : opI 6 (opI 2 0 a) (opI 2 0 b) = opI 4 a b ∧ opI 2 0 (opI 7 (opI 2 0 a) (opI 2 0 b)) = opI 5 a b := by
  rw [neg_op, op6 (neg_ne h), op7 (neg_ne h), op4 h, op5 h, BitVec.sdiv_eq, BitVec.srem_eq, msb_yes ha a0, msb_yes hb b0, bv_neg0, bv_neg0, bv_toInt]
  exact ⟨rfl, rfl⟩
theorem low (k : Int) (hk : k = 11 ∨ k = 12 ∨ k = 13) (a x : Int) : opI k a (far x : Int) = opI k a x := by
  have hm : (bv (far x : Int)).toNat % 64 = far x := by
    have := far_lt x
    rw [Pw.toNat_bv (far x) (by omega), Nat.mod_eq_of_lt this]
  rcases hk with rfl | rfl | rfl
  · show (bv a <<< ((bv (far x : Int)).toNat % 64)).toInt = (bv a <<< (far x)).toInt
    rw [hm]
  · show (bv a >>> ((bv (far x : Int)).toNat % 64)).toInt = (bv a >>> (far x)).toInt
    rw [hm]
  · show ((bv a).sshiftRight ((bv (far x : Int)).toNat % 64)).toInt = ((bv a).sshiftRight (far x)).toInt
    rw [hm]
end Sg

set_option maxHeartbeats 2000000 in
theorem refsigned_any (a b : Int) (w : World) (ha : InR a) (hb : InR b) (h0 : ¬ bv b = 0) :
    Calls Tryz.prog 70 #[.int .i64 a, .int .i64 b] w fun e w' => e = .returned (.tuple #[.int .i64 (opI 4 a b), .int .i64 (opI 5 a b)]) ∧ w = w' := by
  have HN := Lib.hid (Sg.neg_ne h0)
  by_cases a0 : a < 0
  all_goals by_cases b0 : b < 0
  all_goals
    have E := Lib.hid (show _ ∧ _ from by first | exact Sg.mm ha hb h0 a0 b0 | exact Sg.mp ha hb h0 a0 b0 | exact Sg.pm ha hb h0 a0 b0 | exact Sg.pp ha hb h0 a0 b0)
    have H0 := Lib.hid h0
    clear h0 ha hb
    first
      | (have da : decide (a < 0) = false := decide_eq_false a0)
      | skip
    first
      | (have db : decide (b < 0) = false := decide_eq_false b0)
      | skip
    go_enter Tryz.func70, Tryz.ntmps70
    go_wp2_with (first | (go_at_call 49; refine (refneg_any _ _).mono ?_; rintro e w' ⟨rfl, rfl⟩) | (go_at_call 69; refine (refdivide_any _ _ _ (by first | exact H0.out | exact HN.out)).mono ?_; rintro e w' ⟨rfl, rfl⟩))
    go_ret2
    exact ⟨ret_two E.out.1 E.out.2, rfl⟩

set_option maxHeartbeats 1000000 in
theorem refquot_zero (op a b : Int) (w : World) (hb : b = 0) (h1 : (op == 4) = true ∨ (op == 4) = false ∧ (op == 6) = true ∨ (op == 4) = false ∧ (op == 6) = false) :
    Calls Tryz.prog 51 #[.int .u8 op, .int .i64 a, .int .i64 b] w fun e w' => e = .returned (.int .i64 (if op == 4 || op == 6 then -1 else a)) ∧ w = w' := by
  subst hb
  rcases h1 with h | ⟨h, g⟩ | ⟨h, g⟩
  all_goals
    first
      | rw [h, g]
      | rw [h]
    try simp only [Bool.true_or, Bool.or_true, Bool.or_false, Bool.false_eq_true, if_true, if_false]
    go_enter Tryz.func51, Tryz.ntmps51
    go_wp2
    go_ret
    exact ⟨rfl, rfl⟩
set_option maxHeartbeats 1000000 in
theorem refquot_4 (a b : Int) (w : World) (ha : InR a) (hb : InR b) (h0 : ¬ b = 0) :
    Calls Tryz.prog 51 #[.int .u8 4, .int .i64 a, .int .i64 b] w fun e w' => e = .returned (.int .i64 (opI 4 a b)) ∧ w = w' := by
  have H0 : Hid (¬ bv b = 0) := fun h => h0 ((bv_zero_iff hb).1 h)
  have hz : (b == 0) = false := beq_eq_false_iff_ne.2 h0
  clear h0
  go_enter Tryz.func51, Tryz.ntmps51
  go_wp2_with (first | (go_at_call 69; refine (refdivide_any _ _ _ H0.out).mono ?_; rintro e w' ⟨rfl, rfl⟩) | (go_at_call 70; refine (refsigned_any _ _ _ ha hb H0.out).mono ?_; rintro e w' ⟨rfl, rfl⟩))
  go_ret
  exact ⟨rfl, rfl⟩
theorem refquot4_any (a b : Int) (w : World) (ha : InR a) (hb : InR b) :
    Calls Tryz.prog 51 #[.int .u8 4, .int .i64 a, .int .i64 b] w fun e w' => e = .returned (.int .i64 (opI 4 a b)) ∧ w = w' := by
  by_cases h0 : b = 0
  · refine (refquot_zero 4 a b w h0 (by decide)).mono ?_
    rintro e w' ⟨rfl, rfl⟩
    have e0 : bv b = 0 := by rw [h0]; rfl
    have e : opB 4 (bv a) (bv b) = -1 := if_pos e0
    refine ⟨ret_i64 ?_, rfl⟩
    show _ = (opB 4 (bv a) (bv b)).toInt
    rw [e]
    rfl
  · exact refquot_4 a b w ha hb h0
set_option maxHeartbeats 1000000 in
theorem refquot_5 (a b : Int) (w : World) (ha : InR a) (hb : InR b) (h0 : ¬ b = 0) :
    Calls Tryz.prog 51 #[.int .u8 5, .int .i64 a, .int .i64 b] w fun e w' => e = .returned (.int .i64 (opI 5 a b)) ∧ w = w' := by
  have H0 : Hid (¬ bv b = 0) := fun h => h0 ((bv_zero_iff hb).1 h)
  have hz : (b == 0) = false := beq_eq_false_iff_ne.2 h0
  clear h0
  go_enter Tryz.func51, Tryz.ntmps51
  go_wp2_with (first | (go_at_call 69; refine (refdivide_any _ _ _ H0.out).mono ?_; rintro e w' ⟨rfl, rfl⟩) | (go_at_call 70; refine (refsigned_any _ _ _ ha hb H0.out).mono ?_; rintro e w' ⟨rfl, rfl⟩))
  go_ret
  exact ⟨rfl, rfl⟩
theorem refquot5_any (a b : Int) (w : World) (ha : InR a) (hb : InR b) :
    Calls Tryz.prog 51 #[.int .u8 5, .int .i64 a, .int .i64 b] w fun e w' => e = .returned (.int .i64 (opI 5 a b)) ∧ w = w' := by
  by_cases h0 : b = 0
  · refine (refquot_zero 5 a b w h0 (by decide)).mono ?_
    rintro e w' ⟨rfl, rfl⟩
    have e0 : bv b = 0 := by rw [h0]; rfl
    have e : opB 5 (bv a) (bv b) = bv a := if_pos e0
    refine ⟨ret_i64 ?_, rfl⟩
    show _ = (opB 5 (bv a) (bv b)).toInt
    rw [e]
    exact (toInt_bv ha).symm
  · exact refquot_5 a b w ha hb h0
set_option maxHeartbeats 1000000 in
theorem refquot_6 (a b : Int) (w : World) (_ha : InR a) (hb : InR b) (h0 : ¬ b = 0) :
    Calls Tryz.prog 51 #[.int .u8 6, .int .i64 a, .int .i64 b] w fun e w' => e = .returned (.int .i64 (opI 6 a b)) ∧ w = w' := by
  have H0 : Hid (¬ bv b = 0) := fun h => h0 ((bv_zero_iff hb).1 h)
  have hz : (b == 0) = false := beq_eq_false_iff_ne.2 h0
  clear h0
  go_enter Tryz.func51, Tryz.ntmps51
  go_wp2_with (first | (go_at_call 69; refine (refdivide_any _ _ _ H0.out).mono ?_; rintro e w' ⟨rfl, rfl⟩) | (go_at_call 70; refine (refsigned_any _ _ _ ha hb H0.out).mono ?_; rintro e w' ⟨rfl, rfl⟩))
  go_ret
  exact ⟨rfl, rfl⟩
theorem refquot6_any (a b : Int) (w : World) (ha : InR a) (hb : InR b) :
    Calls Tryz.prog 51 #[.int .u8 6, .int .i64 a, .int .i64 b] w fun e w' => e = .returned (.int .i64 (opI 6 a b)) ∧ w = w' := by
  by_cases h0 : b = 0
  · refine (refquot_zero 6 a b w h0 (by decide)).mono ?_
    rintro e w' ⟨rfl, rfl⟩
    have e0 : bv b = 0 := by rw [h0]; rfl
    have e : opB 6 (bv a) (bv b) = -1 := if_pos e0
    refine ⟨ret_i64 ?_, rfl⟩
    show _ = (opB 6 (bv a) (bv b)).toInt
    rw [e]
    rfl
  · exact refquot_6 a b w ha hb h0
set_option maxHeartbeats 1000000 in
theorem refquot_7 (a b : Int) (w : World) (_ha : InR a) (hb : InR b) (h0 : ¬ b = 0) :
    Calls Tryz.prog 51 #[.int .u8 7, .int .i64 a, .int .i64 b] w fun e w' => e = .returned (.int .i64 (opI 7 a b)) ∧ w = w' := by
  have H0 : Hid (¬ bv b = 0) := fun h => h0 ((bv_zero_iff hb).1 h)
  have hz : (b == 0) = false := beq_eq_false_iff_ne.2 h0
  clear h0
  go_enter Tryz.func51, Tryz.ntmps51
  go_wp2_with (first | (go_at_call 69; refine (refdivide_any _ _ _ H0.out).mono ?_; rintro e w' ⟨rfl, rfl⟩) | (go_at_call 70; refine (refsigned_any _ _ _ ha hb H0.out).mono ?_; rintro e w' ⟨rfl, rfl⟩))
  go_ret
  exact ⟨rfl, rfl⟩
theorem refquot7_any (a b : Int) (w : World) (ha : InR a) (hb : InR b) :
    Calls Tryz.prog 51 #[.int .u8 7, .int .i64 a, .int .i64 b] w fun e w' => e = .returned (.int .i64 (opI 7 a b)) ∧ w = w' := by
  by_cases h0 : b = 0
  · refine (refquot_zero 7 a b w h0 (by decide)).mono ?_
    rintro e w' ⟨rfl, rfl⟩
    have e0 : bv b = 0 := by rw [h0]; rfl
    have e : opB 7 (bv a) (bv b) = bv a := if_pos e0
    refine ⟨ret_i64 ?_, rfl⟩
    show _ = (opB 7 (bv a) (bv b)).toInt
    rw [e]
    exact (toInt_bv ha).symm
  · exact refquot_7 a b w ha hb h0
set_option maxHeartbeats 1000000 in
theorem refdo1 (a b : Int) (w : World) :
    Calls Tryz.prog 22 #[.int .u8 1, .int .i64 a, .int .i64 b] w fun e w' => e = .returned (.int .i64 (opI 1 a b)) ∧ w = w' := by
  have hf := and63 b
  have HF := Lib.hid (far_lt b)
  have hi := IntWalk.i64_in (far b : Int) ⟨by omega, by have := far_lt b; omega⟩
  go_enter Tryz.func22, Tryz.ntmps22
  go_wp2_with (go_at_call 48; refine (refadd_any _ _ _).mono ?_; rintro e w' ⟨rfl, rfl⟩)
  go_ret
  exact ⟨rfl, rfl⟩
set_option maxHeartbeats 1000000 in
theorem refdo2 (a b : Int) (w : World) :
    Calls Tryz.prog 22 #[.int .u8 2, .int .i64 a, .int .i64 b] w fun e w' => e = .returned (.int .i64 (opI 2 a b)) ∧ w = w' := by
  have E : Hid (opI 1 a (opI 2 0 b) = opI 2 a b) := by
    show (bv a + bv (opI 2 0 b)).toInt = (bv a - bv b).toInt
    rw [Sg.bv_neg0, BitVec.sub_eq_add_neg]
  have hf := and63 b
  have HF := Lib.hid (far_lt b)
  have hi := IntWalk.i64_in (far b : Int) ⟨by omega, by have := far_lt b; omega⟩
  go_enter Tryz.func22, Tryz.ntmps22
  go_wp2_with (first | (go_at_call 49; refine (refneg_any _ _).mono ?_; rintro e w' ⟨rfl, rfl⟩) | (go_at_call 48; refine (refadd_any _ _ _).mono ?_; rintro e w' ⟨rfl, rfl⟩))
  go_ret
  exact ⟨ret_i64 E.out, rfl⟩
set_option maxHeartbeats 1000000 in
theorem refdo3 (a b : Int) (w : World) :
    Calls Tryz.prog 22 #[.int .u8 3, .int .i64 a, .int .i64 b] w fun e w' => e = .returned (.int .i64 (opI 3 a b)) ∧ w = w' := by
  have hf := and63 b
  have HF := Lib.hid (far_lt b)
  have hi := IntWalk.i64_in (far b : Int) ⟨by omega, by have := far_lt b; omega⟩
  go_enter Tryz.func22, Tryz.ntmps22
  go_wp2_with (go_at_call 50; refine (refmul_any _ _ _).mono ?_; rintro e w' ⟨rfl, rfl⟩)
  go_ret
  exact ⟨rfl, rfl⟩
set_option maxHeartbeats 1000000 in
theorem refdo4 (a b : Int) (w : World) (ha : InR a) (hb : InR b) :
    Calls Tryz.prog 22 #[.int .u8 4, .int .i64 a, .int .i64 b] w fun e w' => e = .returned (.int .i64 (opI 4 a b)) ∧ w = w' := by
  have hf := and63 b
  have HF := Lib.hid (far_lt b)
  have hi := IntWalk.i64_in (far b : Int) ⟨by omega, by have := far_lt b; omega⟩
  go_enter Tryz.func22, Tryz.ntmps22
  go_wp2_with (go_at_call 51; refine (refquot4_any _ _ _ ha hb).mono ?_; rintro e w' ⟨rfl, rfl⟩)
  go_ret
  exact ⟨rfl, rfl⟩
set_option maxHeartbeats 1000000 in
theorem refdo5 (a b : Int) (w : World) (ha : InR a) (hb : InR b) :
    Calls Tryz.prog 22 #[.int .u8 5, .int .i64 a, .int .i64 b] w fun e w' => e = .returned (.int .i64 (opI 5 a b)) ∧ w = w' := by
  have hf := and63 b
  have HF := Lib.hid (far_lt b)
  have hi := IntWalk.i64_in (far b : Int) ⟨by omega, by have := far_lt b; omega⟩
  go_enter Tryz.func22, Tryz.ntmps22
  go_wp2_with (go_at_call 51; refine (refquot5_any _ _ _ ha hb).mono ?_; rintro e w' ⟨rfl, rfl⟩)
  go_ret
  exact ⟨rfl, rfl⟩
set_option maxHeartbeats 1000000 in
theorem refdo6 (a b : Int) (w : World) (ha : InR a) (hb : InR b) :
    Calls Tryz.prog 22 #[.int .u8 6, .int .i64 a, .int .i64 b] w fun e w' => e = .returned (.int .i64 (opI 6 a b)) ∧ w = w' := by
  have hf := and63 b
  have HF := Lib.hid (far_lt b)
  have hi := IntWalk.i64_in (far b : Int) ⟨by omega, by have := far_lt b; omega⟩
  go_enter Tryz.func22, Tryz.ntmps22
  go_wp2_with (go_at_call 51; refine (refquot6_any _ _ _ ha hb).mono ?_; rintro e w' ⟨rfl, rfl⟩)
  go_ret
  exact ⟨rfl, rfl⟩
set_option maxHeartbeats 1000000 in
theorem refdo7 (a b : Int) (w : World) (ha : InR a) (hb : InR b) :
    Calls Tryz.prog 22 #[.int .u8 7, .int .i64 a, .int .i64 b] w fun e w' => e = .returned (.int .i64 (opI 7 a b)) ∧ w = w' := by
  have hf := and63 b
  have HF := Lib.hid (far_lt b)
  have hi := IntWalk.i64_in (far b : Int) ⟨by omega, by have := far_lt b; omega⟩
  go_enter Tryz.func22, Tryz.ntmps22
  go_wp2_with (go_at_call 51; refine (refquot7_any _ _ _ ha hb).mono ?_; rintro e w' ⟨rfl, rfl⟩)
  go_ret
  exact ⟨rfl, rfl⟩
set_option maxHeartbeats 1000000 in
theorem refdo8 (a b : Int) (w : World) :
    Calls Tryz.prog 22 #[.int .u8 8, .int .i64 a, .int .i64 b] w fun e w' => e = .returned (.int .i64 (opI 8 a b)) ∧ w = w' := by
  have hf := and63 b
  have HF := Lib.hid (far_lt b)
  have hi := IntWalk.i64_in (far b : Int) ⟨by omega, by have := far_lt b; omega⟩
  go_enter Tryz.func22, Tryz.ntmps22
  go_wp2_with fail
  go_ret
  exact ⟨ret_i64 (and_i64 a b), rfl⟩
set_option maxHeartbeats 1000000 in
theorem refdo9 (a b : Int) (w : World) :
    Calls Tryz.prog 22 #[.int .u8 9, .int .i64 a, .int .i64 b] w fun e w' => e = .returned (.int .i64 (opI 9 a b)) ∧ w = w' := by
  have hf := and63 b
  have HF := Lib.hid (far_lt b)
  have hi := IntWalk.i64_in (far b : Int) ⟨by omega, by have := far_lt b; omega⟩
  go_enter Tryz.func22, Tryz.ntmps22
  go_wp2_with fail
  go_ret
  exact ⟨ret_i64 (or_i64 a b), rfl⟩
set_option maxHeartbeats 1000000 in
theorem refdo10 (a b : Int) (w : World) :
    Calls Tryz.prog 22 #[.int .u8 10, .int .i64 a, .int .i64 b] w fun e w' => e = .returned (.int .i64 (opI 10 a b)) ∧ w = w' := by
  have hf := and63 b
  have HF := Lib.hid (far_lt b)
  have hi := IntWalk.i64_in (far b : Int) ⟨by omega, by have := far_lt b; omega⟩
  go_enter Tryz.func22, Tryz.ntmps22
  go_wp2_with fail
  go_ret
  exact ⟨ret_i64 (xor_i64 a b), rfl⟩
set_option maxHeartbeats 1000000 in
theorem refdo11 (a b : Int) (w : World) :
    Calls Tryz.prog 22 #[.int .u8 11, .int .i64 a, .int .i64 b] w fun e w' => e = .returned (.int .i64 (opI 11 a b)) ∧ w = w' := by
  have E := Lib.hid (Sg.low 11 (by decide) a b)
  have hf := and63 b
  have HF := Lib.hid (far_lt b)
  have hi := IntWalk.i64_in (far b : Int) ⟨by omega, by have := far_lt b; omega⟩
  go_enter Tryz.func22, Tryz.ntmps22
  go_wp2_with (go_at_call 52; refine (moved_up _ _ _ HF.out).mono ?_; rintro e w' ⟨rfl, rfl⟩)
  go_ret
  exact ⟨ret_i64 E.out, rfl⟩
set_option maxHeartbeats 1000000 in
theorem refdo12 (a b : Int) (w : World) :
    Calls Tryz.prog 22 #[.int .u8 12, .int .i64 a, .int .i64 b] w fun e w' => e = .returned (.int .i64 (opI 12 a b)) ∧ w = w' := by
  have E := Lib.hid (Sg.low 12 (by decide) a b)
  have hf := and63 b
  have HF := Lib.hid (far_lt b)
  have hi := IntWalk.i64_in (far b : Int) ⟨by omega, by have := far_lt b; omega⟩
  go_enter Tryz.func22, Tryz.ntmps22
  go_wp2_with (go_at_call 52; refine (moved_shr _ _ _ HF.out).mono ?_; rintro e w' ⟨rfl, rfl⟩)
  go_ret
  exact ⟨ret_i64 E.out, rfl⟩
set_option maxHeartbeats 1000000 in
theorem refdo13 (a b : Int) (w : World) :
    Calls Tryz.prog 22 #[.int .u8 13, .int .i64 a, .int .i64 b] w fun e w' => e = .returned (.int .i64 (opI 13 a b)) ∧ w = w' := by
  have E := Lib.hid (Sg.low 13 (by decide) a b)
  have hf := and63 b
  have HF := Lib.hid (far_lt b)
  have hi := IntWalk.i64_in (far b : Int) ⟨by omega, by have := far_lt b; omega⟩
  go_enter Tryz.func22, Tryz.ntmps22
  go_wp2_with (first | (go_at_call 53; refine (bit_any _ _ _ (by omega) (by omega)).mono ?_; rintro e w' ⟨rfl, rfl⟩) | (go_at_call 52; refine (moved_sar _ _ _ HF.out).mono ?_; rintro e w' ⟨rfl, rfl⟩))
  go_ret
  exact ⟨ret_i64 E.out, rfl⟩
set_option maxHeartbeats 1000000 in
theorem refdo14 (a b : Int) (w : World) :
    Calls Tryz.prog 22 #[.int .u8 14, .int .i64 a, .int .i64 b] w fun e w' => e = .returned (.int .i64 (opI 14 a b)) ∧ w = w' := by
  have E : Hid ((if ultI (bits .xor .i64 a (-9223372036854775808)) (bits .xor .i64 b (-9223372036854775808)) then (1 : Int) else 0) = opI 14 a b) := by
    rw [opI_14, slt_low]
    unfold ultI
    rw [xor_i64, xor_i64, bv_toInt, bv_toInt]; rfl
  have hf := and63 b
  have HF := Lib.hid (far_lt b)
  have hi := IntWalk.i64_in (far b : Int) ⟨by omega, by have := far_lt b; omega⟩
  go_enter Tryz.func22, Tryz.ntmps22
  go_wp2_with (first | (go_at_call 55; refine (refbelow_any _ _ _).mono ?_; rintro e w' ⟨rfl, rfl⟩) | (go_at_call 54; refine (refone_any _ _).mono ?_; rintro e w' ⟨rfl, rfl⟩))
  all_goals go_ret
  all_goals first | exact ⟨ret_i64 ((if_pos ‹_›).symm.trans E.out), rfl⟩ | exact ⟨ret_i64 ((if_neg ‹_›).symm.trans E.out), rfl⟩
set_option maxHeartbeats 1000000 in
theorem refdo15 (a b : Int) (w : World) :
    Calls Tryz.prog 22 #[.int .u8 15, .int .i64 a, .int .i64 b] w fun e w' => e = .returned (.int .i64 (opI 15 a b)) ∧ w = w' := by
  have E : Hid ((if ultI a b then (1 : Int) else 0) = opI 15 a b) := by
    rw [opI_15]; rfl
  have hf := and63 b
  have HF := Lib.hid (far_lt b)
  have hi := IntWalk.i64_in (far b : Int) ⟨by omega, by have := far_lt b; omega⟩
  go_enter Tryz.func22, Tryz.ntmps22
  go_wp2_with (first | (go_at_call 55; refine (refbelow_any _ _ _).mono ?_; rintro e w' ⟨rfl, rfl⟩) | (go_at_call 54; refine (refone_any _ _).mono ?_; rintro e w' ⟨rfl, rfl⟩))
  all_goals go_ret
  all_goals first | exact ⟨ret_i64 ((if_pos ‹_›).symm.trans E.out), rfl⟩ | exact ⟨ret_i64 ((if_neg ‹_›).symm.trans E.out), rfl⟩
set_option maxHeartbeats 1000000 in
theorem refdo16 (a b : Int) (w : World) (ha : InR a) (hb : InR b) :
    Calls Tryz.prog 22 #[.int .u8 16, .int .i64 a, .int .i64 b] w fun e w' => e = .returned (.int .i64 (opI 16 a b)) ∧ w = w' := by
  have E : Hid ((a = b → opI 16 a b = 1) ∧ (¬ a = b → opI 16 a b = 0)) := by
    rw [opI_16]
    exact ⟨fun h => if_pos (by rw [h]), fun h => if_neg (fun e => h (bv_inj ha hb e))⟩
  have hf := and63 b
  have HF := Lib.hid (far_lt b)
  have hi := IntWalk.i64_in (far b : Int) ⟨by omega, by have := far_lt b; omega⟩
  go_enter Tryz.func22, Tryz.ntmps22
  go_wp2_with (first | (go_at_call 55; refine (refbelow_any _ _ _).mono ?_; rintro e w' ⟨rfl, rfl⟩) | (go_at_call 54; refine (refone_any _ _).mono ?_; rintro e w' ⟨rfl, rfl⟩))
  all_goals go_ret
  all_goals by_cases h' : a = b
  all_goals first
    | exact absurd ‹a = b› ‹¬ a = b›
    | exact ⟨ret_i64 ((E.out.1 h').symm.trans (by first | rfl | rw [h'])), rfl⟩
    | exact ⟨ret_i64 (E.out.2 h').symm, rfl⟩
set_option maxHeartbeats 1000000 in
theorem refdo_none (op a b : Int) (w : World) (hk : knownB op = false) :
    Calls Tryz.prog 22 #[.int .u8 op, .int .i64 a, .int .i64 b] w fun e w' => e = .returned (.int .i64 0) ∧ w = w' := by
  have e1 : (op == 1) = false := by simp only [beq_eq_false_iff_ne]; intro h; subst h; exact absurd hk (by decide)
  have e2 : (op == 2) = false := by simp only [beq_eq_false_iff_ne]; intro h; subst h; exact absurd hk (by decide)
  have e3 : (op == 3) = false := by simp only [beq_eq_false_iff_ne]; intro h; subst h; exact absurd hk (by decide)
  have e4 : (op == 4) = false := by simp only [beq_eq_false_iff_ne]; intro h; subst h; exact absurd hk (by decide)
  have e5 : (op == 5) = false := by simp only [beq_eq_false_iff_ne]; intro h; subst h; exact absurd hk (by decide)
  have e6 : (op == 6) = false := by simp only [beq_eq_false_iff_ne]; intro h; subst h; exact absurd hk (by decide)
  have e7 : (op == 7) = false := by simp only [beq_eq_false_iff_ne]; intro h; subst h; exact absurd hk (by decide)
  have e8 : (op == 8) = false := by simp only [beq_eq_false_iff_ne]; intro h; subst h; exact absurd hk (by decide)
  have e9 : (op == 9) = false := by simp only [beq_eq_false_iff_ne]; intro h; subst h; exact absurd hk (by decide)
  have e10 : (op == 10) = false := by simp only [beq_eq_false_iff_ne]; intro h; subst h; exact absurd hk (by decide)
  have e11 : (op == 11) = false := by simp only [beq_eq_false_iff_ne]; intro h; subst h; exact absurd hk (by decide)
  have e12 : (op == 12) = false := by simp only [beq_eq_false_iff_ne]; intro h; subst h; exact absurd hk (by decide)
  have e13 : (op == 13) = false := by simp only [beq_eq_false_iff_ne]; intro h; subst h; exact absurd hk (by decide)
  have e14 : (op == 14) = false := by simp only [beq_eq_false_iff_ne]; intro h; subst h; exact absurd hk (by decide)
  have e15 : (op == 15) = false := by simp only [beq_eq_false_iff_ne]; intro h; subst h; exact absurd hk (by decide)
  have e16 : (op == 16) = false := by simp only [beq_eq_false_iff_ne]; intro h; subst h; exact absurd hk (by decide)
  have HK := Lib.hid hk; clear hk
  have hf := and63 b
  have hi := IntWalk.i64_in (far b : Int) ⟨by omega, by have := far_lt b; omega⟩
  go_enter Tryz.func22, Tryz.ntmps22
  go_wp2
  go_ret
  exact ⟨rfl, rfl⟩
/-- The document's own Do, of any operation and any two numbers. -/
theorem refdo_any (op a b : Int) (w : World) (ha : InR a) (hb : InR b) :
    Calls Tryz.prog 22 #[.int .u8 op, .int .i64 a, .int .i64 b] w fun e w' => e = .returned (.int .i64 (opI op a b)) ∧ w = w' := by
  rcases op_cases op with rfl | rfl | rfl | rfl | rfl | rfl | rfl | rfl | rfl | rfl | rfl | rfl | rfl | rfl | rfl | rfl | hk
  · exact refdo1 a b w
  · exact refdo2 a b w
  · exact refdo3 a b w
  · exact refdo4 a b w ha hb
  · exact refdo5 a b w ha hb
  · exact refdo6 a b w ha hb
  · exact refdo7 a b w ha hb
  · exact refdo8 a b w
  · exact refdo9 a b w
  · exact refdo10 a b w
  · exact refdo11 a b w
  · exact refdo12 a b w
  · exact refdo13 a b w
  · exact refdo14 a b w
  · exact refdo15 a b w
  · exact refdo16 a b w ha hb
  · rw [opI_none op a b hk]
    exact refdo_none op a b w hk
end Go.Proofs.YtgkjdmojbndicaaGreatDoor

namespace Go.Proofs.YtgkjdmojbndicaaGreatDoor
open Go.RowKit

namespace Pw
theorem f1 (x : Nat) (hx : x < 18446744073709551616) : IntKind.u64.wrap (bits .and .u64 ((x : Int) / 2) 6148914691236517205 + bits .and .u64 (x : Int) 6148914691236517205) = ((Pop.s1 8 x : Nat) : Int) ∧ Pop.s1 8 x ≤ 12297829382473034410 := by
  have h1 := bits_and_u64_nat (x / 2) 6148914691236517205 (by omega) (by omega)
  have h2 := bits_and_u64_nat x 6148914691236517205 (by omega) (by omega)
  have e : ((x : Int) / 2) = ((x / 2 : Nat) : Int) := by omega
  have b1 : x / 2 &&& 6148914691236517205 ≤ 6148914691236517205 := Nat.and_le_right
  have b2 : x &&& 6148914691236517205 ≤ 6148914691236517205 := Nat.and_le_right
  have hs : Pop.s1 8 x = (x / 2 &&& 6148914691236517205) + (x &&& 6148914691236517205) := rfl
  rw [e]
  refine ⟨?_, by omega⟩
  rw [show (6148914691236517205 : Int) = ((6148914691236517205 : Nat) : Int) from rfl, h1, h2, ← Int.natCast_add, wrapN _ (by omega), hs]
theorem f2 (x : Nat) (hx : x ≤ 12297829382473034410) : IntKind.u64.wrap (bits .and .u64 ((x : Int) / 4) 3689348814741910323 + bits .and .u64 (x : Int) 3689348814741910323) = ((Pop.s2 8 x : Nat) : Int) ∧ Pop.s2 8 x ≤ 7378697629483820646 := by
  have h1 := bits_and_u64_nat (x / 4) 3689348814741910323 (by omega) (by omega)
  have h2 := bits_and_u64_nat x 3689348814741910323 (by omega) (by omega)
  have e : ((x : Int) / 4) = ((x / 4 : Nat) : Int) := by omega
  have b1 : x / 4 &&& 3689348814741910323 ≤ 3689348814741910323 := Nat.and_le_right
  have b2 : x &&& 3689348814741910323 ≤ 3689348814741910323 := Nat.and_le_right
  have hs : Pop.s2 8 x = (x / 4 &&& 3689348814741910323) + (x &&& 3689348814741910323) := rfl
  rw [e]
  refine ⟨?_, by omega⟩
  rw [show (3689348814741910323 : Int) = ((3689348814741910323 : Nat) : Int) from rfl, h1, h2, ← Int.natCast_add, wrapN _ (by omega), hs]
theorem f3 (x : Nat) (hx : x ≤ 7378697629483820646) : bits .and .u64 (IntKind.u64.wrap ((x : Int) / 16 + (x : Int))) 1085102592571150095 = ((Pop.s3 8 x : Nat) : Int) ∧ Pop.s3 8 x ≤ 1085102592571150095 := by
  have e : ((x : Int) / 16 + (x : Int)) = ((x / 16 + x : Nat) : Int) := by omega
  have h1 := bits_and_u64_nat (x / 16 + x) 1085102592571150095 (by omega) (by omega)
  have b1 : x / 16 + x &&& 1085102592571150095 ≤ 1085102592571150095 := Nat.and_le_right
  have hs : Pop.s3 8 x = (x / 16 + x) &&& 1085102592571150095 := rfl
  refine ⟨?_, by omega⟩
  rw [e, wrapN _ (by omega), show (1085102592571150095 : Int) = ((1085102592571150095 : Nat) : Int) from rfl, h1, hs]
theorem f4 (N : Nat) (h : N < 9223372036854775808) : bits .and .i64 (N : Int) 127 = ((N % 128 : Nat) : Int) := by
  have e : (bv (N : Int) &&& bv 127) = bv ((N % 128 : Nat) : Int) := by
    apply BitVec.eq_of_toNat_eq
    rw [BitVec.toNat_and, toNat_bv N (by omega), toNat_bv (N % 128) (by omega)]
    exact Nat.and_two_pow_sub_one_eq_mod N 7
  rw [and_i64, e, toInt_bv ⟨by omega, by omega⟩]
theorem f5 (a : Nat) (b3 : a ≤ 1085102592571150095) : bits BinOp.and IntKind.i64
      (wrap64 (IntKind.u64.wrap (IntKind.u64.wrap (IntKind.u64.wrap ((a : Int) + (a : Int) / 256) + IntKind.u64.wrap ((a : Int) + (a : Int) / 256) / 65536) +
            IntKind.u64.wrap (IntKind.u64.wrap ((a : Int) + (a : Int) / 256) + IntKind.u64.wrap ((a : Int) + (a : Int) / 256) / 65536) / 4294967296))) 127 =
    (((a + a / 256 + (a + a / 256) / 65536 + (a + a / 256 + (a + a / 256) / 65536) / 4294967296) % 128 : Nat) : Int) := by
  have s1 : (a : Int) + (a : Int) / 256 = ((a + a / 256 : Nat) : Int) := by omega
  rw [s1]
  have g1 : a + a / 256 ≤ 1089341274573381150 := by omega
  generalize a + a / 256 = b at *
  rw [wrapN b (by omega)]
  have s2 : (b : Int) + (b : Int) / 65536 = ((b + b / 65536 : Nat) : Int) := by omega
  rw [s2]
  have g2 : b + b / 65536 ≤ 1089357896645246000 := by omega
  generalize b + b / 65536 = c at *
  rw [wrapN c (by omega)]
  have s3 : (c : Int) + (c : Int) / 4294967296 = ((c + c / 4294967296 : Nat) : Int) := by omega
  rw [s3]
  have g3 : c + c / 4294967296 < 9223372036854775808 := by omega
  generalize c + c / 4294967296 = d at *
  rw [wrapN d (by omega), IntWalk.wrap64_in _ ⟨by omega, by omega⟩]
  exact f4 d g3
end Pw

set_option maxHeartbeats 1000000 in
theorem ones_any (x : Nat) (hx : x < 18446744073709551616) (w : World) :
    Calls Tryz.prog 125 #[.int .u64 x] w fun e w' => e = .returned (.int .i64 (Pop.pop x : Nat)) ∧ w = w' := by
  obtain ⟨e1, b1⟩ := Pw.f1 x hx
  obtain ⟨e2, b2⟩ := Pw.f2 _ b1
  obtain ⟨e3, b3⟩ := Pw.f3 _ b2
  have hp : Pop.pop x = (Pop.s3 8 (Pop.s2 8 (Pop.s1 8 x)) + Pop.s3 8 (Pop.s2 8 (Pop.s1 8 x)) / 256 + (Pop.s3 8 (Pop.s2 8 (Pop.s1 8 x)) + Pop.s3 8 (Pop.s2 8 (Pop.s1 8 x)) / 256) / 65536 + (Pop.s3 8 (Pop.s2 8 (Pop.s1 8 x)) + Pop.s3 8 (Pop.s2 8 (Pop.s1 8 x)) / 256 + (Pop.s3 8 (Pop.s2 8 (Pop.s1 8 x)) + Pop.s3 8 (Pop.s2 8 (Pop.s1 8 x)) / 256) / 65536) / 4294967296) % 128 := rfl
  have E1 := Lib.hid e1; clear e1
  have E2 := Lib.hid e2; clear e2
  have E3 := Lib.hid e3; clear e3
  have HP := Lib.hid hp; clear hp
  have B1 := Lib.hid b1; clear b1
  have B2 := Lib.hid b2; clear b2
  have B3 := Lib.hid b3; clear b3
  go_enter Tryz.func125, Tryz.ntmps125
  go_wp2
  rw [E1.out, E2.out, E3.out]
  go_ret
  refine ⟨ret_i64 ?_, rfl⟩
  rw [HP.out]
  have b3 := B3.out
  clear E1 E2 E3 HP B1 B2 B3
  exact Pw.f5 _ b3

/-- The table of math/bits, laid. -/
def Tab (w : World) : Prop := ∀ j, j < 64 → w.cell? ⟨1, j, none⟩ = some (.int .u8 ((Lib.deBruijn64tab.getD j 0 : Nat) : Int))
theorem Tab.below {w w' : World} (h : Tab w) (hb : Below w.heap.size w w') : Tab w' := by
  intro j hj
  have hc := h j hj
  have hs : 1 < w.heap.size := by
    rcases Nat.lt_or_ge 1 w.heap.size with h1 | h1
    · exact h1
    · simp [World.cell?, Array.getElem?_eq_none h1] at hc
  rw [hb.cell (p := ⟨1, j, none⟩) hs]; exact hc

/-- Where the table of math/bits is asked, at a power of 2. -/
def tzAt (k : Nat) : Nat := 2 ^ k * 285870213051353865 % 18446744073709551616 / 288230376151711744
theorem tz_at : ∀ k, k < 64 → tzAt k < 64 ∧ Lib.deBruijn64tab.getD (tzAt k) 0 = k ∧
    IntKind.u64.wrap (bits BinOp.and IntKind.u64 ((2 ^ k : Nat) : Int) (IntKind.u64.wrap (-((2 ^ k : Nat) : Int))) * 285870213051353865) / 288230376151711744 = (tzAt k : Int) := by decide +kernel
set_option maxHeartbeats 1000000 in
theorem tz_of (x i : Nat) (n : Int) (w : World) (h0 : ((x : Int) == 0) = false) (hi : i < 64)
    (ask : IntKind.u64.wrap (bits BinOp.and IntKind.u64 (x : Int) (IntKind.u64.wrap (-(x : Int))) * 285870213051353865) / 288230376151711744 = (i : Int))
    (told : w.cell? ⟨1, i, none⟩ = some (.int .u8 n)) (hn : IntKind.i64.wrap n = n) :
    Calls Tryz.prog 126 #[.int .u64 x] w fun e w' => e = .returned (.int .i64 n) ∧ w = w' := by
  have l0 : (0 : Int) ≤ (i : Int) := by omega
  have l1 : (i : Int) < 64 := by omega
  go_enter Tryz.func126, Tryz.ntmps126
  go_wp2
  go_ret
  exact ⟨rfl, rfl⟩
/-- At a power of 2: its number. -/
theorem tz_pow (k : Nat) (hk : k < 64) (w : World) (hT : Tab w) :
    Calls Tryz.prog 126 #[.int .u64 ((2 ^ k : Nat) : Int)] w fun e w' => e = .returned (.int .i64 k) ∧ w = w' := by
  obtain ⟨hi, htab, ask⟩ := tz_at k hk
  have told := hT _ hi
  rw [htab] at told
  exact tz_of (2 ^ k) (tzAt k) k w (beq_eq_false_iff_ne.2 (by exact_mod_cast Nat.ne_of_gt (Nat.two_pow_pos k))) hi ask told (IntWalk.i64_in _ ⟨by omega, by omega⟩)

/-- Is it a power of 2, as a count? -/
def powB (n : Int) : Bool := decide (Pop.pop (bv n).toNat = 1)
/-- Which one. -/
def powN (n : Int) : Int := if powB n then ((bv n).toNat.log2 : Int) else 0
theorem powB_iff (n : Int) : powB n = true ↔ ∃ k, k < 64 ∧ (bv n).toNat = 2 ^ k := by
  unfold powB
  rw [decide_eq_true_iff]
  exact Pop.pop_one _ (bv n).isLt
set_option maxHeartbeats 1000000 in
theorem power_no (n : Int) (w : World) (h : powB n = false) :
    Calls Tryz.prog 108 #[.int .i64 n] w fun e w' => e = .returned (.tuple #[.int .i64 0, .bool false]) ∧ w = w' := by
  have hc : ((Pop.pop (bv n).toNat : Int) == 1) = false := by
    unfold powB at h
    have := of_decide_eq_false h
    rw [beq_eq_false_iff_ne]; omega
  have hn : ((Pop.pop (bv n).toNat : Int) != 1) = true := by rw [bne, hc]; rfl
  have hl := (bv n).isLt
  have hu := u64_bv n
  generalize (bv n).toNat = x at *
  have H := Lib.hid h; clear h
  go_enter Tryz.func108, Tryz.ntmps108
  go_wp2_with (go_at_call 125; refine (ones_any _ hl _).mono ?_; rintro e w' ⟨rfl, rfl⟩)
  go_ret2
  exact ⟨rfl, rfl⟩
set_option maxHeartbeats 1000000 in
theorem power_yes (n : Int) (k : Nat) (w : World) (hT : Tab w) (hk : k < 64) (h : (bv n).toNat = 2 ^ k) :
    Calls Tryz.prog 108 #[.int .i64 n] w fun e w' => e = .returned (.tuple #[.int .i64 k, .bool true]) ∧ w = w' := by
  have hl := (bv n).isLt
  have hu := u64_bv n
  have hp : Pop.pop (bv n).toNat = 1 := (Pop.pop_one _ hl).2 ⟨k, hk, h⟩
  rw [h] at hu hl hp
  have HP := Lib.hid hp; clear hp
  have HT := Lib.hid hT; clear hT
  clear h
  have hz := fun w hT => tz_pow k hk w hT
  generalize 2 ^ k = x at *
  have hc : ((Pop.pop x : Int) == 1) = true := by rw [HP.out]; rfl
  have hn : ((Pop.pop x : Int) != 1) = false := by rw [bne, hc]; rfl
  have HZ := Lib.hid hz; clear hz
  go_enter Tryz.func108, Tryz.ntmps108
  go_wp2_with (first | (go_at_call 125; refine (ones_any _ hl _).mono ?_; rintro e w' ⟨rfl, rfl⟩) | (go_at_call 126; refine (HZ.out _ HT.out).mono ?_; rintro e w' ⟨rfl, rfl⟩))
  go_ret2
  exact ⟨rfl, rfl⟩
/-- word.Power, of any number. -/
theorem power_any (n : Int) (w : World) (hT : Tab w) :
    Calls Tryz.prog 108 #[.int .i64 n] w fun e w' => e = .returned (.tuple #[.int .i64 (powN n), .bool (powB n)]) ∧ w = w' := by
  unfold powN
  by_cases h : powB n = true
  · obtain ⟨k, hk, e⟩ := (powB_iff n).1 h
    rw [h, e, Nat.log2_two_pow]
    exact power_yes n k w hT hk e
  · have h' : powB n = false := by simpa using h
    rw [h']
    exact power_no n w h'
end Go.Proofs.YtgkjdmojbndicaaGreatDoor

namespace Go.Proofs.YtgkjdmojbndicaaGreatDoor
open Go.RowKit

namespace Lw
theorem bnf {a b : Int} (h : a = b) : (a != b) = false := by rw [bne_eq_false_iff_eq]; exact h
theorem beq {a b : Int} (h : a = b) : (a == b) = true := beq_iff_eq.2 h
theorem small (m : Nat) (h : m < 64) : (bv (m : Int)).toNat % 64 = m := by
  rw [Pw.toNat_bv m (by omega), Nat.mod_eq_of_lt h]
theorem swaps_cases {op : Int} (h : swapsB op = true) : op = 1 ∨ op = 3 ∨ op = 8 ∨ op = 9 ∨ op = 10 ∨ op = 16 := by
  unfold swapsB groupsB at h
  simp only [Bool.or_eq_true, beq_iff_eq] at h
  omega
theorem groups_cases {op : Int} (h : groupsB op = true) : op = 1 ∨ op = 3 ∨ op = 8 ∨ op = 9 ∨ op = 10 := by
  unfold groupsB at h
  simp only [Bool.or_eq_true, beq_iff_eq] at h
  omega
theorem swap {op : Int} (h : swapsB op = true) (a b : Int) : opI op a b = opI op b a := by
  rcases swaps_cases h with rfl | rfl | rfl | rfl | rfl | rfl
  · exact congrArg BitVec.toInt (BitVec.add_comm ..)
  · exact congrArg BitVec.toInt (BitVec.mul_comm ..)
  · exact congrArg BitVec.toInt (BitVec.and_comm ..)
  · exact congrArg BitVec.toInt (BitVec.or_comm ..)
  · exact congrArg BitVec.toInt (BitVec.xor_comm ..)
  · rw [opI_16, opI_16]
    by_cases e : bv a = bv b
    · rw [if_pos e, if_pos e.symm]
    · rw [if_neg e, if_neg (fun h => e h.symm)]
theorem group {op : Int} (h : groupsB op = true) (a b c : Int) : opI op (opI op a b) c = opI op a (opI op b c) := by
  show (opB op.toNat (bv (opI op a b)) (bv c)).toInt = (opB op.toNat (bv a) (bv (opI op b c))).toInt
  rw [bv_opI, bv_opI]
  rcases groups_cases h with rfl | rfl | rfl | rfl | rfl
  · exact congrArg BitVec.toInt (BitVec.add_assoc ..)
  · exact congrArg BitVec.toInt (BitVec.mul_assoc ..)
  · exact congrArg BitVec.toInt (BitVec.and_assoc ..)
  · exact congrArg BitVec.toInt (BitVec.or_assoc ..)
  · exact congrArg BitVec.toInt (BitVec.xor_assoc ..)
theorem keeps_in (op : Int) : InR (keepsN op) := by
  unfold keepsN InR
  split
  · omega
  · split <;> omega
theorem keep_word {op : Int} (h : keepsB op = true) (x : BitVec 64) : opB op.toNat x (bv (keepsN op)) = x := by
  rcases op_cases op with rfl | rfl | rfl | rfl | rfl | rfl | rfl | rfl | rfl | rfl | rfl | rfl | rfl | rfl | rfl | rfl | hk
  · exact BitVec.add_zero x
  · exact BitVec.sub_zero x
  · exact BitVec.mul_one x
  · show (if bv 1 = 0 then -1 else x.sdiv (bv 1)) = x
    rw [if_neg (by decide)]
    apply BitVec.eq_of_toInt_eq
    rw [BitVec.toInt_sdiv, show (bv 1).toInt = 1 from rfl, Int.tdiv_one]
    exact (BitVec.toInt_ofInt ..).symm.trans (congrArg BitVec.toInt (BitVec.ofInt_toInt))
  · show (if bv 0 = 0 then x else x.srem (bv 0)) = x
    exact if_pos rfl
  · show (if bv 1 = 0 then -1 else x / bv 1) = x
    rw [if_neg (by decide)]
    apply BitVec.eq_of_toNat_eq
    rw [BitVec.toNat_udiv, show (bv 1).toNat = 1 from rfl, Nat.div_one]
  · show (if bv 0 = 0 then x else x % bv 0) = x
    exact if_pos rfl
  · show x &&& bv (-1) = x
    exact BitVec.and_allOnes
  · exact BitVec.or_zero
  · exact BitVec.xor_zero
  · exact BitVec.shiftLeft_zero x
  · exact BitVec.ushiftRight_zero x
  · exact BitVec.sshiftRight_zero
  · exact absurd h (by decide)
  · exact absurd h (by decide)
  · exact absurd h (by decide)
  · unfold keepsB at h; rw [hk] at h; exact absurd h (by simp)
theorem keep {op a : Int} (h : keepsB op = true) (ha : InR a) : opI op a (keepsN op) = a := by
  show (opB op.toNat (bv a) (bv (keepsN op))).toInt = a
  rw [keep_word h, toInt_bv ha]
theorem sdiv_eq (x y : BitVec 64) : x.sdiv y = bv (x.toInt.tdiv y.toInt) := by
  apply BitVec.eq_of_toInt_eq
  rw [BitVec.toInt_sdiv, BitVec.toInt_ofInt]
theorem srem_eq (x y : BitVec 64) : x.srem y = bv (x.toInt.tmod y.toInt) := by
  rw [← BitVec.toInt_srem, bv_toInt]
theorem both {a b : Int} (ha : InR a) (hb : InR b) (h : ¬ b = 0) : opI 1 (opI 3 (opI 4 a b) b) (opI 5 a b) = a := by
  have e0 : ¬ bv b = 0 := fun e => h ((bv_zero_iff hb).1 e)
  have e4 : opB 4 (bv a) (bv b) = (bv a).sdiv (bv b) := if_neg e0
  have e5 : opB 5 (bv a) (bv b) = (bv a).srem (bv b) := if_neg e0
  show (bv (opI 3 (opI 4 a b) b) + bv (opI 5 a b)).toInt = a
  rw [bv_opI, bv_opI, bv_opI]
  show (opB 4 (bv a) (bv b) * bv b + opB 5 (bv a) (bv b)).toInt = a
  rw [e4, e5, sdiv_eq, srem_eq, toInt_bv ha, toInt_bv hb, ← bv_mul, ← bv_add, Int.tdiv_mul_add_tmod, toInt_bv ha]
theorem bothU {a b : Int} (ha : InR a) (hb : InR b) (h : ¬ b = 0) : opI 1 (opI 3 (opI 6 a b) b) (opI 7 a b) = a := by
  have e0 : ¬ bv b = 0 := fun e => h ((bv_zero_iff hb).1 e)
  have e6 : opB 6 (bv a) (bv b) = bv a / bv b := if_neg e0
  have e7 : opB 7 (bv a) (bv b) = bv a % bv b := if_neg e0
  show (bv (opI 3 (opI 6 a b) b) + bv (opI 7 a b)).toInt = a
  rw [bv_opI, bv_opI, bv_opI]
  show (opB 6 (bv a) (bv b) * bv b + opB 7 (bv a) (bv b)).toInt = a
  rw [e6, e7]
  have hw : bv a / bv b * bv b + bv a % bv b = bv a := by
    apply BitVec.eq_of_toNat_eq
    rw [BitVec.toNat_add, BitVec.toNat_mul, BitVec.toNat_udiv, BitVec.toNat_umod]
    have hd := Nat.div_add_mod' (bv a).toNat (bv b).toNat
    have hl := (bv a).isLt
    generalize (bv a).toNat / (bv b).toNat * (bv b).toNat = t at *
    omega
  rw [hw, toInt_bv ha]
theorem left {a b : Int} (hb : InR b) (h : ¬ b = 0) : opI 15 (opI 7 a b) b = 1 := by
  have e0 : ¬ bv b = 0 := fun e => h ((bv_zero_iff hb).1 e)
  have e7 : opB 7 (bv a) (bv b) = bv a % bv b := if_neg e0
  rw [opI_15, bv_opI]
  show (if BitVec.ult (opB 7 (bv a) (bv b)) (bv b) then (1 : Int) else 0) = 1
  rw [e7, if_pos]
  rw [BitVec.ult, BitVec.toNat_umod, decide_eq_true_iff]
  refine Nat.mod_lt _ (Nat.pos_of_ne_zero fun e => e0 (BitVec.eq_of_toNat_eq e))
theorem pow_in (n : Int) : InR (powN n) := by
  by_cases h : powB n = true
  · obtain ⟨k, hk, e⟩ := (powB_iff n).1 h
    unfold powN InR
    rw [if_pos h, e, Nat.log2_two_pow]
    omega
  · unfold powN InR
    rw [if_neg h]; omega
theorem pow_is {n : Int} (h : powB n = true) : ∃ k : Nat, k < 64 ∧ (bv n).toNat = 2 ^ k ∧ powN n = (k : Int) := by
  obtain ⟨k, hk, e⟩ := (powB_iff n).1 h
  refine ⟨k, hk, e, ?_⟩
  unfold powN
  rw [if_pos h, e, Nat.log2_two_pow]
theorem pow_ne {n : Int} (h : powB n = true) : ¬ n = 0 := by
  intro e; subst e; exact absurd h (by decide +kernel)
theorem mulp {a b : Int} (h : powB b = true) : opI 3 a b = opI 11 a (powN b) := by
  obtain ⟨k, hk, e, ek⟩ := pow_is h
  rw [ek]
  show (bv a * bv b).toInt = (bv a <<< ((bv (k : Int)).toNat % 64)).toInt
  rw [small k hk]
  refine congrArg BitVec.toInt (BitVec.eq_of_toNat_eq ?_)
  rw [BitVec.toNat_mul, BitVec.toNat_shiftLeft, e, Nat.shiftLeft_eq]
theorem word_ne {b : Int} {k : Nat} (e : (bv b).toNat = 2 ^ k) : ¬ bv b = 0 := by
  intro e0
  rw [e0] at e
  exact absurd e.symm (Nat.ne_of_gt (Nat.two_pow_pos k))
theorem divp {a b : Int} (h : powB b = true) : opI 6 a b = opI 12 a (powN b) := by
  obtain ⟨k, hk, e, ek⟩ := pow_is h
  have e6 : opB 6 (bv a) (bv b) = bv a / bv b := if_neg (word_ne e)
  rw [ek]
  show (opB 6 (bv a) (bv b)).toInt = (bv a >>> ((bv (k : Int)).toNat % 64)).toInt
  rw [e6, small k hk]
  refine congrArg BitVec.toInt (BitVec.eq_of_toNat_eq ?_)
  rw [BitVec.toNat_udiv, BitVec.toNat_ushiftRight, e, Nat.shiftRight_eq_div_pow]
theorem modp {a b : Int} (h : powB b = true) : opI 7 a b = opI 8 a (opI 2 b 1) := by
  obtain ⟨k, hk, e, ek⟩ := pow_is h
  have e7 : opB 7 (bv a) (bv b) = bv a % bv b := if_neg (word_ne e)
  show (opB 7 (bv a) (bv b)).toInt = (bv a &&& bv (opI 2 b 1)).toInt
  rw [bv_opI, e7]
  refine congrArg BitVec.toInt (BitVec.eq_of_toNat_eq ?_)
  show (bv a % bv b).toNat = (bv a &&& (bv b - bv 1)).toNat
  have hp := Nat.two_pow_pos k
  have hl := (bv b).isLt
  have h1 : (bv b - bv 1).toNat = 2 ^ k - 1 := by
    rw [BitVec.toNat_sub, show (bv 1).toNat = 1 from rfl, e]
    rw [e] at hl
    omega
  rw [BitVec.toNat_umod, BitVec.toNat_and, h1, e, Nat.and_two_pow_sub_one_eq_mod]
theorem sub0 (a b : Int) : opI 2 a b = opI 1 a (opI 2 0 b) := by
  show (bv a - bv b).toInt = (bv a + bv (opI 2 0 b)).toInt
  rw [bv_opI]
  show _ = (bv a + (0 - bv b)).toInt
  refine congrArg BitVec.toInt ?_
  rw [BitVec.sub_eq_add_neg, BitVec.sub_eq_add_neg, show (0 : BitVec 64) = 0#64 from rfl, BitVec.zero_add]
theorem one14 {a b : Int} (ha : InR a) (hb : InR b) : wrap64 (wrap64 (opI 14 a b + opI 14 b a) + opI 16 a b) = 1 := by
  have h16 : opI 16 a b = if a = b then 1 else 0 := by
    rw [opI_16]
    by_cases e : a = b
    · rw [if_pos e, if_pos (by rw [e])]
    · rw [if_neg e, if_neg (fun h => e (bv_inj ha hb h))]
  have h1 : opI 14 a b = if a < b then 1 else 0 := by rw [opI_14, slt_bv ha hb]; simp
  have h2 : opI 14 b a = if b < a then 1 else 0 := by rw [opI_14, slt_bv hb ha]; simp
  rw [h16, h1, h2]
  unfold wrap64
  split <;> split <;> split <;> omega
theorem one15 (a b : Int) : wrap64 (wrap64 (opI 15 a b + opI 15 b a) + opI 16 a b) = 1 := by
  have h16 : opI 16 a b = if (bv a).toNat = (bv b).toNat then 1 else 0 := by
    rw [opI_16]
    by_cases e : bv a = bv b
    · rw [if_pos e, if_pos (by rw [e])]
    · rw [if_neg e, if_neg (fun h => e (BitVec.eq_of_toNat_eq h))]
  have h1 : opI 15 a b = if (bv a).toNat < (bv b).toNat then 1 else 0 := by rw [opI_15, BitVec.ult]; simp
  have h2 : opI 15 b a = if (bv b).toNat < (bv a).toNat then 1 else 0 := by rw [opI_15, BitVec.ult]; simp
  rw [h16, h1, h2]
  unfold wrap64
  split <;> split <;> split <;> omega
end Lw
end Go.Proofs.YtgkjdmojbndicaaGreatDoor
