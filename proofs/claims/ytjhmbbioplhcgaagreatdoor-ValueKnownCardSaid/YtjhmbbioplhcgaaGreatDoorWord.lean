/-
  Layer 1, the operations: contracts of word.Known, word.truth, each closure of word.operations, word.operations, and word.Do: of any operation and any two numbers Do answers opI, and writes nothing that was there.
-/
import Derived.Test.YtjhmbbioplhcgaaGreatDoorRows
import Derived.Test.YtjhmbbioplhcgaaGreatDoorMath
import Derived.WalkSpells
import Derived.Lib.Hide
import Derived.WalkLawsBesides
import Derived.Test.YtjhmbbioplhcgaaGreatDoorOps
namespace Go.Proofs.YtjhmbbioplhcgaaGreatDoor
open Go.RowKit

/-- Is it an operation? -/
def knownB (op : Int) : Bool := decide (1 ≤ op) && decide (op ≤ 16)
theorem ret_i64 {a b : Int} (h : a = b) : Ending.returned (.int .i64 a) = .returned (.int .i64 b) := by rw [h]

set_option maxHeartbeats 400000 in
theorem known_yes (op : Int) (w : World) (h1 : 1 ≤ op) (h2 : op ≤ 16) : Calls Tryz.prog 54 #[.int .u8 op] w fun e w' => e = .returned (.bool true) ∧ w = w' := by
  go_enter Tryz.func54, Tryz.ntmps54
  go_wp2
  go_ret
  exact ⟨rfl, rfl⟩
set_option maxHeartbeats 400000 in
theorem known_low (op : Int) (w : World) (h1 : op < 1) : Calls Tryz.prog 54 #[.int .u8 op] w fun e w' => e = .returned (.bool false) ∧ w = w' := by
  go_enter Tryz.func54, Tryz.ntmps54
  go_wp2
  go_ret
  exact ⟨rfl, rfl⟩
set_option maxHeartbeats 400000 in
theorem known_high (op : Int) (w : World) (h1 : ¬ op ≤ 16) : Calls Tryz.prog 54 #[.int .u8 op] w fun e w' => e = .returned (.bool false) ∧ w = w' := by
  have h2 : 1 ≤ op := by omega
  go_enter Tryz.func54, Tryz.ntmps54
  go_wp2
  go_ret
  exact ⟨rfl, rfl⟩
theorem known_any (op : Int) (w : World) : Calls Tryz.prog 54 #[.int .u8 op] w fun e w' => e = .returned (.bool (knownB op)) ∧ w = w' := by
  unfold knownB
  by_cases h1 : op < 1
  · refine (known_low op w h1).mono ?_
    rintro e w' ⟨rfl, rfl⟩
    simp; omega
  · by_cases h2 : op ≤ 16
    · refine (known_yes op w (by omega) h2).mono ?_
      rintro e w' ⟨rfl, rfl⟩
      simp; omega
    · refine (known_high op w h2).mono ?_
      rintro e w' ⟨rfl, rfl⟩
      simp; omega
set_option maxHeartbeats 400000 in
theorem truth_any (b : Bool) (w : World) : Calls Tryz.prog 87 #[.bool b] w fun e w' => e = .returned (.int .i64 (if b then 1 else 0)) ∧ w = w' := by
  cases b
  all_goals
    go_enter Tryz.func87, Tryz.ntmps87
    go_wp2
    go_ret
    exact ⟨rfl, rfl⟩
set_option maxHeartbeats 400000 in
theorem clo1 (a b : Int) (w : World) (ha : InR a) (hb : InR b) : Calls Tryz.prog 73 #[.int .i64 a, .int .i64 b] w fun e w' => e = .returned (.int .i64 (opI 1 a b)) ∧ w = w' := by
  have HA := Lib.hid ha; clear ha; have HB := Lib.hid hb; clear hb
  go_enter Tryz.func73, Tryz.ntmps73
  go_wp2
  go_ret
  refine ⟨ret_i64 ?_, rfl⟩
  show _ = (opB 1 (bv a) (bv b)).toInt
  rw [wrap64_bv, bv_add]; rfl
set_option maxHeartbeats 400000 in
theorem clo2 (a b : Int) (w : World) (ha : InR a) (hb : InR b) : Calls Tryz.prog 74 #[.int .i64 a, .int .i64 b] w fun e w' => e = .returned (.int .i64 (opI 2 a b)) ∧ w = w' := by
  have HA := Lib.hid ha; clear ha; have HB := Lib.hid hb; clear hb
  go_enter Tryz.func74, Tryz.ntmps74
  go_wp2
  go_ret
  refine ⟨ret_i64 ?_, rfl⟩
  show _ = (opB 2 (bv a) (bv b)).toInt
  rw [wrap64_bv, bv_sub]; rfl
set_option maxHeartbeats 400000 in
theorem clo3 (a b : Int) (w : World) (ha : InR a) (hb : InR b) : Calls Tryz.prog 75 #[.int .i64 a, .int .i64 b] w fun e w' => e = .returned (.int .i64 (opI 3 a b)) ∧ w = w' := by
  have HA := Lib.hid ha; clear ha; have HB := Lib.hid hb; clear hb
  go_enter Tryz.func75, Tryz.ntmps75
  go_wp2
  go_ret
  refine ⟨ret_i64 ?_, rfl⟩
  show _ = (opB 3 (bv a) (bv b)).toInt
  rw [wrap64_bv, bv_mul]; rfl
set_option maxHeartbeats 400000 in
theorem clo8 (a b : Int) (w : World) (ha : InR a) (hb : InR b) : Calls Tryz.prog 80 #[.int .i64 a, .int .i64 b] w fun e w' => e = .returned (.int .i64 (opI 8 a b)) ∧ w = w' := by
  have HA := Lib.hid ha; clear ha; have HB := Lib.hid hb; clear hb
  go_enter Tryz.func80, Tryz.ntmps80
  go_wp2
  go_ret
  refine ⟨ret_i64 ?_, rfl⟩
  show _ = (opB 8 (bv a) (bv b)).toInt
  rw [and_i64]; rfl
set_option maxHeartbeats 400000 in
theorem clo9 (a b : Int) (w : World) (ha : InR a) (hb : InR b) : Calls Tryz.prog 81 #[.int .i64 a, .int .i64 b] w fun e w' => e = .returned (.int .i64 (opI 9 a b)) ∧ w = w' := by
  have HA := Lib.hid ha; clear ha; have HB := Lib.hid hb; clear hb
  go_enter Tryz.func81, Tryz.ntmps81
  go_wp2
  go_ret
  refine ⟨ret_i64 ?_, rfl⟩
  show _ = (opB 9 (bv a) (bv b)).toInt
  rw [or_i64]; rfl
set_option maxHeartbeats 400000 in
theorem clo10 (a b : Int) (w : World) (ha : InR a) (hb : InR b) : Calls Tryz.prog 82 #[.int .i64 a, .int .i64 b] w fun e w' => e = .returned (.int .i64 (opI 10 a b)) ∧ w = w' := by
  have HA := Lib.hid ha; clear ha; have HB := Lib.hid hb; clear hb
  go_enter Tryz.func82, Tryz.ntmps82
  go_wp2
  go_ret
  refine ⟨ret_i64 ?_, rfl⟩
  show _ = (opB 10 (bv a) (bv b)).toInt
  rw [xor_i64]; rfl
set_option maxHeartbeats 400000 in
theorem clo4_zero (a b : Int) (w : World) (ha : InR a) (hb : InR b) (h0 : b = 0) : Calls Tryz.prog 76 #[.int .i64 a, .int .i64 b] w fun e w' => e = .returned (.int .i64 (opI 4 a b)) ∧ w = w' := by
  have e0 : bv b = 0 := (bv_zero_iff hb).2 h0
  have hz : (b == 0) = true := by simp [h0]
  have H0 := Lib.hid h0; clear h0
  have E0 := Lib.hid e0; clear e0
  have HA := Lib.hid ha; clear ha; have HB := Lib.hid hb; clear hb
  go_enter Tryz.func76, Tryz.ntmps76
  go_wp2
  go_ret
  refine ⟨ret_i64 ?_, rfl⟩
  show _ = (opB 4 (bv a) (bv b)).toInt
  rw [show opB 4 (bv a) (bv b) = -1 from if_pos E0.out]; rfl
set_option maxHeartbeats 400000 in
theorem clo4_some (a b : Int) (w : World) (ha : InR a) (hb : InR b) (h0 : ¬ b = 0) : Calls Tryz.prog 76 #[.int .i64 a, .int .i64 b] w fun e w' => e = .returned (.int .i64 (opI 4 a b)) ∧ w = w' := by
  have e0 : ¬ bv b = 0 := fun h => h0 ((bv_zero_iff hb).1 h)
  have hz : (b == 0) = false := by simp [h0]
  have E0 := Lib.hid e0; clear e0
  have HA := Lib.hid ha; clear ha; have HB := Lib.hid hb; clear hb
  go_enter Tryz.func76, Tryz.ntmps76
  go_wp2
  go_ret
  refine ⟨ret_i64 ?_, rfl⟩
  show _ = (opB 4 (bv a) (bv b)).toInt
  rw [sdiv_bv HA.out HB.out]; exact congrArg BitVec.toInt (if_neg E0.out).symm
set_option maxHeartbeats 400000 in
theorem clo5_zero (a b : Int) (w : World) (ha : InR a) (hb : InR b) (h0 : b = 0) : Calls Tryz.prog 77 #[.int .i64 a, .int .i64 b] w fun e w' => e = .returned (.int .i64 (opI 5 a b)) ∧ w = w' := by
  have e0 : bv b = 0 := (bv_zero_iff hb).2 h0
  have hz : (b == 0) = true := by simp [h0]
  have H0 := Lib.hid h0; clear h0
  have E0 := Lib.hid e0; clear e0
  have HA := Lib.hid ha; clear ha; have HB := Lib.hid hb; clear hb
  go_enter Tryz.func77, Tryz.ntmps77
  go_wp2
  go_ret
  refine ⟨ret_i64 ?_, rfl⟩
  show _ = (opB 5 (bv a) (bv b)).toInt
  rw [show opB 5 (bv a) (bv b) = bv a from if_pos E0.out, toInt_bv HA.out]
set_option maxHeartbeats 400000 in
theorem clo5_some (a b : Int) (w : World) (ha : InR a) (hb : InR b) (h0 : ¬ b = 0) : Calls Tryz.prog 77 #[.int .i64 a, .int .i64 b] w fun e w' => e = .returned (.int .i64 (opI 5 a b)) ∧ w = w' := by
  have e0 : ¬ bv b = 0 := fun h => h0 ((bv_zero_iff hb).1 h)
  have hz : (b == 0) = false := by simp [h0]
  have E0 := Lib.hid e0; clear e0
  have HA := Lib.hid ha; clear ha; have HB := Lib.hid hb; clear hb
  go_enter Tryz.func77, Tryz.ntmps77
  go_wp2
  go_ret
  refine ⟨ret_i64 ?_, rfl⟩
  show _ = (opB 5 (bv a) (bv b)).toInt
  rw [srem_bv HA.out HB.out]; exact congrArg BitVec.toInt (if_neg E0.out).symm
set_option maxHeartbeats 400000 in
theorem clo6_zero (a b : Int) (w : World) (ha : InR a) (hb : InR b) (h0 : b = 0) : Calls Tryz.prog 78 #[.int .i64 a, .int .i64 b] w fun e w' => e = .returned (.int .i64 (opI 6 a b)) ∧ w = w' := by
  have e0 : bv b = 0 := (bv_zero_iff hb).2 h0
  have hz : (b == 0) = true := by simp [h0]
  have H0 := Lib.hid h0; clear h0
  have E0 := Lib.hid e0; clear e0
  have HA := Lib.hid ha; clear ha; have HB := Lib.hid hb; clear hb
  go_enter Tryz.func78, Tryz.ntmps78
  go_wp2
  go_ret
  refine ⟨ret_i64 ?_, rfl⟩
  show _ = (opB 6 (bv a) (bv b)).toInt
  rw [show opB 6 (bv a) (bv b) = -1 from if_pos E0.out]; rfl
set_option maxHeartbeats 400000 in
theorem clo6_some (a b : Int) (w : World) (ha : InR a) (hb : InR b) (h0 : ¬ b = 0) : Calls Tryz.prog 78 #[.int .i64 a, .int .i64 b] w fun e w' => e = .returned (.int .i64 (opI 6 a b)) ∧ w = w' := by
  have e0 : ¬ bv b = 0 := fun h => h0 ((bv_zero_iff hb).1 h)
  have hz : (b == 0) = false := by simp [h0]
  have hu : ¬ IntKind.u64.wrap b = 0 := by
    rw [u64_bv]; intro h
    have h' : (bv b).toNat = 0 := by omega
    exact e0 (BitVec.eq_of_toNat_eq h')
  have E0 := Lib.hid e0; clear e0
  have HA := Lib.hid ha; clear ha; have HB := Lib.hid hb; clear hb
  go_enter Tryz.func78, Tryz.ntmps78
  go_wp2
  go_ret
  refine ⟨ret_i64 ?_, rfl⟩
  show _ = (opB 6 (bv a) (bv b)).toInt
  rw [u64_bv a, u64_bv b, udiv_bv, wrap64_bv, bv_toNat]; exact congrArg BitVec.toInt (if_neg E0.out).symm
set_option maxHeartbeats 400000 in
theorem clo7_zero (a b : Int) (w : World) (ha : InR a) (hb : InR b) (h0 : b = 0) : Calls Tryz.prog 79 #[.int .i64 a, .int .i64 b] w fun e w' => e = .returned (.int .i64 (opI 7 a b)) ∧ w = w' := by
  have e0 : bv b = 0 := (bv_zero_iff hb).2 h0
  have hz : (b == 0) = true := by simp [h0]
  have H0 := Lib.hid h0; clear h0
  have E0 := Lib.hid e0; clear e0
  have HA := Lib.hid ha; clear ha; have HB := Lib.hid hb; clear hb
  go_enter Tryz.func79, Tryz.ntmps79
  go_wp2
  go_ret
  refine ⟨ret_i64 ?_, rfl⟩
  show _ = (opB 7 (bv a) (bv b)).toInt
  rw [show opB 7 (bv a) (bv b) = bv a from if_pos E0.out, toInt_bv HA.out]
set_option maxHeartbeats 400000 in
theorem clo7_some (a b : Int) (w : World) (ha : InR a) (hb : InR b) (h0 : ¬ b = 0) : Calls Tryz.prog 79 #[.int .i64 a, .int .i64 b] w fun e w' => e = .returned (.int .i64 (opI 7 a b)) ∧ w = w' := by
  have e0 : ¬ bv b = 0 := fun h => h0 ((bv_zero_iff hb).1 h)
  have hz : (b == 0) = false := by simp [h0]
  have hu : ¬ IntKind.u64.wrap b = 0 := by
    rw [u64_bv]; intro h
    have h' : (bv b).toNat = 0 := by omega
    exact e0 (BitVec.eq_of_toNat_eq h')
  have E0 := Lib.hid e0; clear e0
  have HA := Lib.hid ha; clear ha; have HB := Lib.hid hb; clear hb
  go_enter Tryz.func79, Tryz.ntmps79
  go_wp2
  go_ret
  refine ⟨ret_i64 ?_, rfl⟩
  show _ = (opB 7 (bv a) (bv b)).toInt
  rw [u64_bv a, u64_bv b, umod_bv, wrap64_bv, bv_toNat]; exact congrArg BitVec.toInt (if_neg E0.out).symm
theorem clo4 (a b : Int) (w : World) (ha : InR a) (hb : InR b) : Calls Tryz.prog 76 #[.int .i64 a, .int .i64 b] w fun e w' => e = .returned (.int .i64 (opI 4 a b)) ∧ w = w' := by
  by_cases h0 : b = 0
  · exact clo4_zero a b w ha hb h0
  · exact clo4_some a b w ha hb h0
theorem clo5 (a b : Int) (w : World) (ha : InR a) (hb : InR b) : Calls Tryz.prog 77 #[.int .i64 a, .int .i64 b] w fun e w' => e = .returned (.int .i64 (opI 5 a b)) ∧ w = w' := by
  by_cases h0 : b = 0
  · exact clo5_zero a b w ha hb h0
  · exact clo5_some a b w ha hb h0
theorem clo6 (a b : Int) (w : World) (ha : InR a) (hb : InR b) : Calls Tryz.prog 78 #[.int .i64 a, .int .i64 b] w fun e w' => e = .returned (.int .i64 (opI 6 a b)) ∧ w = w' := by
  by_cases h0 : b = 0
  · exact clo6_zero a b w ha hb h0
  · exact clo6_some a b w ha hb h0
theorem clo7 (a b : Int) (w : World) (ha : InR a) (hb : InR b) : Calls Tryz.prog 79 #[.int .i64 a, .int .i64 b] w fun e w' => e = .returned (.int .i64 (opI 7 a b)) ∧ w = w' := by
  by_cases h0 : b = 0
  · exact clo7_zero a b w ha hb h0
  · exact clo7_some a b w ha hb h0
set_option maxHeartbeats 400000 in
theorem clo11 (a b : Int) (w : World) (ha : InR a) (hb : InR b) : Calls Tryz.prog 83 #[.int .i64 a, .int .i64 b] w fun e w' => e = .returned (.int .i64 (opI 11 a b)) ∧ w = w' := by
  have hs := and63 b
  have hf := far_lt b
  have l1 : (0 : Int) ≤ (far b : Int) := by omega
  have l2 : (far b : Int) ≤ 64 := by omega
  clear hf
  have HA := Lib.hid ha; clear ha; have HB := Lib.hid hb; clear hb
  go_enter Tryz.func83, Tryz.ntmps83
  go_wp2
  go_ret
  refine ⟨ret_i64 ?_, rfl⟩
  show _ = (opB 11 (bv a) (bv b)).toInt
  rw [wrap64_bv, shl_bv]; rfl
set_option maxHeartbeats 400000 in
theorem clo12 (a b : Int) (w : World) (ha : InR a) (hb : InR b) : Calls Tryz.prog 84 #[.int .i64 a, .int .i64 b] w fun e w' => e = .returned (.int .i64 (opI 12 a b)) ∧ w = w' := by
  have hs := and63 b
  have hf := far_lt b
  have l1 : (0 : Int) ≤ (far b : Int) := by omega
  have l2 : (far b : Int) ≤ 64 := by omega
  clear hf
  have HA := Lib.hid ha; clear ha; have HB := Lib.hid hb; clear hb
  go_enter Tryz.func84, Tryz.ntmps84
  go_wp2
  go_ret
  refine ⟨ret_i64 ?_, rfl⟩
  show _ = (opB 12 (bv a) (bv b)).toInt
  rw [u64_bv a, shrU_bv, wrap64_bv, bv_toNat]; rfl
set_option maxHeartbeats 400000 in
theorem clo13 (a b : Int) (w : World) (ha : InR a) (hb : InR b) : Calls Tryz.prog 85 #[.int .i64 a, .int .i64 b] w fun e w' => e = .returned (.int .i64 (opI 13 a b)) ∧ w = w' := by
  have hs := and63 b
  have hf := far_lt b
  have l1 : (0 : Int) ≤ (far b : Int) := by omega
  have l2 : (far b : Int) ≤ 64 := by omega
  clear hf
  have HA := Lib.hid ha; clear ha; have HB := Lib.hid hb; clear hb
  go_enter Tryz.func85, Tryz.ntmps85
  go_wp2
  go_ret
  refine ⟨ret_i64 ?_, rfl⟩
  show _ = (opB 13 (bv a) (bv b)).toInt
  conv => lhs; rw [← toInt_bv HA.out]
  rw [shrS_bv]; rfl
set_option maxHeartbeats 400000 in
theorem clo14 (a b : Int) (w : World) (ha : InR a) (hb : InR b) : Calls Tryz.prog 86 #[.int .i64 a, .int .i64 b] w fun e w' => e = .returned (.int .i64 (opI 14 a b)) ∧ w = w' := by
  have HA := Lib.hid ha; clear ha; have HB := Lib.hid hb; clear hb
  go_enter Tryz.func86, Tryz.ntmps86
  go_wp2_with (go_at_call 87; refine (truth_any _ _).mono ?_; rintro e w' ⟨rfl, rfl⟩)
  all_goals
    go_ret
    refine ⟨ret_i64 ?_, rfl⟩
    show _ = (opB 14 (bv a) (bv b)).toInt
    simp only [opB, slt_bv HA.out HB.out]
    split
    · first | rfl | (rename_i h; have h2 := of_decide_eq_true h; omega)
    · first | rfl | (rename_i h; exact absurd (decide_eq_true (by omega)) h)
set_option maxHeartbeats 400000 in
theorem clo15 (a b : Int) (w : World) (ha : InR a) (hb : InR b) : Calls Tryz.prog 88 #[.int .i64 a, .int .i64 b] w fun e w' => e = .returned (.int .i64 (opI 15 a b)) ∧ w = w' := by
  have HA := Lib.hid ha; clear ha; have HB := Lib.hid hb; clear hb
  go_enter Tryz.func88, Tryz.ntmps88
  go_wp2_with (go_at_call 87; refine (truth_any _ _).mono ?_; rintro e w' ⟨rfl, rfl⟩)
  all_goals
    go_ret
    refine ⟨ret_i64 ?_, rfl⟩
    show _ = (opB 15 (bv a) (bv b)).toInt
    simp only [opB, ult_bv, ← u64_bv]
    split
    · first | rfl | (rename_i h; have h2 := of_decide_eq_true h; omega)
    · first | rfl | (rename_i h; exact absurd (decide_eq_true (by omega)) h)
set_option maxHeartbeats 400000 in
theorem clo16 (a b : Int) (w : World) (ha : InR a) (hb : InR b) : Calls Tryz.prog 89 #[.int .i64 a, .int .i64 b] w fun e w' => e = .returned (.int .i64 (opI 16 a b)) ∧ w = w' := by
  have HA := Lib.hid ha; clear ha; have HB := Lib.hid hb; clear hb
  go_enter Tryz.func89, Tryz.ntmps89
  go_wp2_with (go_at_call 87; refine (truth_any _ _).mono ?_; rintro e w' ⟨rfl, rfl⟩)
  all_goals
    go_ret
    refine ⟨ret_i64 ?_, rfl⟩
    by_cases h' : a = b
    · have e : opB 16 (bv a) (bv b) = 1 := if_pos (by rw [h'])
      first | exact absurd h' ‹_› | (show (1 : Int) = (opB 16 _ _).toInt; rw [← h'] at e ⊢; rw [e]; rfl)
    · have e : opB 16 (bv a) (bv b) = 0 := if_neg (fun e => h' (bv_inj HA.out HB.out e))
      first | exact absurd ‹a = b› h' | (show (0 : Int) = (opB 16 _ _).toInt; rw [e]; rfl)
set_option maxHeartbeats 400000 in
theorem do1 (a b : Int) (w : World) (ha : InR a) (hb : InR b) :
    Calls Tryz.prog 33 #[.int .u8 1, .int .i64 a, .int .i64 b] w fun e w' => e = .returned (.int .i64 (opI 1 a b)) ∧ Below w.heap.size w w' := by
  have hix : ∀ w, (Instr.index 112 (.agg opsV) (.int .u8 1)).run Tryz.prog w = .ok (.func (.func 73) #[] #[]) w := fun _ => by kernel_rfl
  go_enter Tryz.func33, Tryz.ntmps33
  go_wp2_with (first | (go_at_call 54; refine (known_yes _ _ (by decide) (by decide)).mono ?_; rintro e w' ⟨rfl, rfl⟩) | (go_at_call 55; refine (operations_any _).mono ?_; rintro e w' ⟨rfl, rfl⟩) | (go_at_call 73; refine (clo1 _ _ _ ha hb).mono ?_; rintro e w' ⟨rfl, rfl⟩))
  go_ret
  exact ⟨rfl, (Below.refl _ _).alloc (Nat.le_refl _) _⟩
set_option maxHeartbeats 400000 in
theorem do2 (a b : Int) (w : World) (ha : InR a) (hb : InR b) :
    Calls Tryz.prog 33 #[.int .u8 2, .int .i64 a, .int .i64 b] w fun e w' => e = .returned (.int .i64 (opI 2 a b)) ∧ Below w.heap.size w w' := by
  have hix : ∀ w, (Instr.index 112 (.agg opsV) (.int .u8 2)).run Tryz.prog w = .ok (.func (.func 74) #[] #[]) w := fun _ => by kernel_rfl
  go_enter Tryz.func33, Tryz.ntmps33
  go_wp2_with (first | (go_at_call 54; refine (known_yes _ _ (by decide) (by decide)).mono ?_; rintro e w' ⟨rfl, rfl⟩) | (go_at_call 55; refine (operations_any _).mono ?_; rintro e w' ⟨rfl, rfl⟩) | (go_at_call 74; refine (clo2 _ _ _ ha hb).mono ?_; rintro e w' ⟨rfl, rfl⟩))
  go_ret
  exact ⟨rfl, (Below.refl _ _).alloc (Nat.le_refl _) _⟩
set_option maxHeartbeats 400000 in
theorem do3 (a b : Int) (w : World) (ha : InR a) (hb : InR b) :
    Calls Tryz.prog 33 #[.int .u8 3, .int .i64 a, .int .i64 b] w fun e w' => e = .returned (.int .i64 (opI 3 a b)) ∧ Below w.heap.size w w' := by
  have hix : ∀ w, (Instr.index 112 (.agg opsV) (.int .u8 3)).run Tryz.prog w = .ok (.func (.func 75) #[] #[]) w := fun _ => by kernel_rfl
  go_enter Tryz.func33, Tryz.ntmps33
  go_wp2_with (first | (go_at_call 54; refine (known_yes _ _ (by decide) (by decide)).mono ?_; rintro e w' ⟨rfl, rfl⟩) | (go_at_call 55; refine (operations_any _).mono ?_; rintro e w' ⟨rfl, rfl⟩) | (go_at_call 75; refine (clo3 _ _ _ ha hb).mono ?_; rintro e w' ⟨rfl, rfl⟩))
  go_ret
  exact ⟨rfl, (Below.refl _ _).alloc (Nat.le_refl _) _⟩
set_option maxHeartbeats 400000 in
theorem do4 (a b : Int) (w : World) (ha : InR a) (hb : InR b) :
    Calls Tryz.prog 33 #[.int .u8 4, .int .i64 a, .int .i64 b] w fun e w' => e = .returned (.int .i64 (opI 4 a b)) ∧ Below w.heap.size w w' := by
  have hix : ∀ w, (Instr.index 112 (.agg opsV) (.int .u8 4)).run Tryz.prog w = .ok (.func (.func 76) #[] #[]) w := fun _ => by kernel_rfl
  go_enter Tryz.func33, Tryz.ntmps33
  go_wp2_with (first | (go_at_call 54; refine (known_yes _ _ (by decide) (by decide)).mono ?_; rintro e w' ⟨rfl, rfl⟩) | (go_at_call 55; refine (operations_any _).mono ?_; rintro e w' ⟨rfl, rfl⟩) | (go_at_call 76; refine (clo4 _ _ _ ha hb).mono ?_; rintro e w' ⟨rfl, rfl⟩))
  go_ret
  exact ⟨rfl, (Below.refl _ _).alloc (Nat.le_refl _) _⟩
set_option maxHeartbeats 400000 in
theorem do5 (a b : Int) (w : World) (ha : InR a) (hb : InR b) :
    Calls Tryz.prog 33 #[.int .u8 5, .int .i64 a, .int .i64 b] w fun e w' => e = .returned (.int .i64 (opI 5 a b)) ∧ Below w.heap.size w w' := by
  have hix : ∀ w, (Instr.index 112 (.agg opsV) (.int .u8 5)).run Tryz.prog w = .ok (.func (.func 77) #[] #[]) w := fun _ => by kernel_rfl
  go_enter Tryz.func33, Tryz.ntmps33
  go_wp2_with (first | (go_at_call 54; refine (known_yes _ _ (by decide) (by decide)).mono ?_; rintro e w' ⟨rfl, rfl⟩) | (go_at_call 55; refine (operations_any _).mono ?_; rintro e w' ⟨rfl, rfl⟩) | (go_at_call 77; refine (clo5 _ _ _ ha hb).mono ?_; rintro e w' ⟨rfl, rfl⟩))
  go_ret
  exact ⟨rfl, (Below.refl _ _).alloc (Nat.le_refl _) _⟩
set_option maxHeartbeats 400000 in
theorem do6 (a b : Int) (w : World) (ha : InR a) (hb : InR b) :
    Calls Tryz.prog 33 #[.int .u8 6, .int .i64 a, .int .i64 b] w fun e w' => e = .returned (.int .i64 (opI 6 a b)) ∧ Below w.heap.size w w' := by
  have hix : ∀ w, (Instr.index 112 (.agg opsV) (.int .u8 6)).run Tryz.prog w = .ok (.func (.func 78) #[] #[]) w := fun _ => by kernel_rfl
  go_enter Tryz.func33, Tryz.ntmps33
  go_wp2_with (first | (go_at_call 54; refine (known_yes _ _ (by decide) (by decide)).mono ?_; rintro e w' ⟨rfl, rfl⟩) | (go_at_call 55; refine (operations_any _).mono ?_; rintro e w' ⟨rfl, rfl⟩) | (go_at_call 78; refine (clo6 _ _ _ ha hb).mono ?_; rintro e w' ⟨rfl, rfl⟩))
  go_ret
  exact ⟨rfl, (Below.refl _ _).alloc (Nat.le_refl _) _⟩
set_option maxHeartbeats 400000 in
theorem do7 (a b : Int) (w : World) (ha : InR a) (hb : InR b) :
    Calls Tryz.prog 33 #[.int .u8 7, .int .i64 a, .int .i64 b] w fun e w' => e = .returned (.int .i64 (opI 7 a b)) ∧ Below w.heap.size w w' := by
  have hix : ∀ w, (Instr.index 112 (.agg opsV) (.int .u8 7)).run Tryz.prog w = .ok (.func (.func 79) #[] #[]) w := fun _ => by kernel_rfl
  go_enter Tryz.func33, Tryz.ntmps33
  go_wp2_with (first | (go_at_call 54; refine (known_yes _ _ (by decide) (by decide)).mono ?_; rintro e w' ⟨rfl, rfl⟩) | (go_at_call 55; refine (operations_any _).mono ?_; rintro e w' ⟨rfl, rfl⟩) | (go_at_call 79; refine (clo7 _ _ _ ha hb).mono ?_; rintro e w' ⟨rfl, rfl⟩))
  go_ret
  exact ⟨rfl, (Below.refl _ _).alloc (Nat.le_refl _) _⟩
set_option maxHeartbeats 400000 in
theorem do8 (a b : Int) (w : World) (ha : InR a) (hb : InR b) :
    Calls Tryz.prog 33 #[.int .u8 8, .int .i64 a, .int .i64 b] w fun e w' => e = .returned (.int .i64 (opI 8 a b)) ∧ Below w.heap.size w w' := by
  have hix : ∀ w, (Instr.index 112 (.agg opsV) (.int .u8 8)).run Tryz.prog w = .ok (.func (.func 80) #[] #[]) w := fun _ => by kernel_rfl
  go_enter Tryz.func33, Tryz.ntmps33
  go_wp2_with (first | (go_at_call 54; refine (known_yes _ _ (by decide) (by decide)).mono ?_; rintro e w' ⟨rfl, rfl⟩) | (go_at_call 55; refine (operations_any _).mono ?_; rintro e w' ⟨rfl, rfl⟩) | (go_at_call 80; refine (clo8 _ _ _ ha hb).mono ?_; rintro e w' ⟨rfl, rfl⟩))
  go_ret
  exact ⟨rfl, (Below.refl _ _).alloc (Nat.le_refl _) _⟩
set_option maxHeartbeats 400000 in
theorem do9 (a b : Int) (w : World) (ha : InR a) (hb : InR b) :
    Calls Tryz.prog 33 #[.int .u8 9, .int .i64 a, .int .i64 b] w fun e w' => e = .returned (.int .i64 (opI 9 a b)) ∧ Below w.heap.size w w' := by
  have hix : ∀ w, (Instr.index 112 (.agg opsV) (.int .u8 9)).run Tryz.prog w = .ok (.func (.func 81) #[] #[]) w := fun _ => by kernel_rfl
  go_enter Tryz.func33, Tryz.ntmps33
  go_wp2_with (first | (go_at_call 54; refine (known_yes _ _ (by decide) (by decide)).mono ?_; rintro e w' ⟨rfl, rfl⟩) | (go_at_call 55; refine (operations_any _).mono ?_; rintro e w' ⟨rfl, rfl⟩) | (go_at_call 81; refine (clo9 _ _ _ ha hb).mono ?_; rintro e w' ⟨rfl, rfl⟩))
  go_ret
  exact ⟨rfl, (Below.refl _ _).alloc (Nat.le_refl _) _⟩
set_option maxHeartbeats 400000 in
theorem do10 (a b : Int) (w : World) (ha : InR a) (hb : InR b) :
    Calls Tryz.prog 33 #[.int .u8 10, .int .i64 a, .int .i64 b] w fun e w' => e = .returned (.int .i64 (opI 10 a b)) ∧ Below w.heap.size w w' := by
  have hix : ∀ w, (Instr.index 112 (.agg opsV) (.int .u8 10)).run Tryz.prog w = .ok (.func (.func 82) #[] #[]) w := fun _ => by kernel_rfl
  go_enter Tryz.func33, Tryz.ntmps33
  go_wp2_with (first | (go_at_call 54; refine (known_yes _ _ (by decide) (by decide)).mono ?_; rintro e w' ⟨rfl, rfl⟩) | (go_at_call 55; refine (operations_any _).mono ?_; rintro e w' ⟨rfl, rfl⟩) | (go_at_call 82; refine (clo10 _ _ _ ha hb).mono ?_; rintro e w' ⟨rfl, rfl⟩))
  go_ret
  exact ⟨rfl, (Below.refl _ _).alloc (Nat.le_refl _) _⟩
set_option maxHeartbeats 400000 in
theorem do11 (a b : Int) (w : World) (ha : InR a) (hb : InR b) :
    Calls Tryz.prog 33 #[.int .u8 11, .int .i64 a, .int .i64 b] w fun e w' => e = .returned (.int .i64 (opI 11 a b)) ∧ Below w.heap.size w w' := by
  have hix : ∀ w, (Instr.index 112 (.agg opsV) (.int .u8 11)).run Tryz.prog w = .ok (.func (.func 83) #[] #[]) w := fun _ => by kernel_rfl
  go_enter Tryz.func33, Tryz.ntmps33
  go_wp2_with (first | (go_at_call 54; refine (known_yes _ _ (by decide) (by decide)).mono ?_; rintro e w' ⟨rfl, rfl⟩) | (go_at_call 55; refine (operations_any _).mono ?_; rintro e w' ⟨rfl, rfl⟩) | (go_at_call 83; refine (clo11 _ _ _ ha hb).mono ?_; rintro e w' ⟨rfl, rfl⟩))
  go_ret
  exact ⟨rfl, (Below.refl _ _).alloc (Nat.le_refl _) _⟩
set_option maxHeartbeats 400000 in
theorem do12 (a b : Int) (w : World) (ha : InR a) (hb : InR b) :
    Calls Tryz.prog 33 #[.int .u8 12, .int .i64 a, .int .i64 b] w fun e w' => e = .returned (.int .i64 (opI 12 a b)) ∧ Below w.heap.size w w' := by
  have hix : ∀ w, (Instr.index 112 (.agg opsV) (.int .u8 12)).run Tryz.prog w = .ok (.func (.func 84) #[] #[]) w := fun _ => by kernel_rfl
  go_enter Tryz.func33, Tryz.ntmps33
  go_wp2_with (first | (go_at_call 54; refine (known_yes _ _ (by decide) (by decide)).mono ?_; rintro e w' ⟨rfl, rfl⟩) | (go_at_call 55; refine (operations_any _).mono ?_; rintro e w' ⟨rfl, rfl⟩) | (go_at_call 84; refine (clo12 _ _ _ ha hb).mono ?_; rintro e w' ⟨rfl, rfl⟩))
  go_ret
  exact ⟨rfl, (Below.refl _ _).alloc (Nat.le_refl _) _⟩
set_option maxHeartbeats 400000 in
theorem do13 (a b : Int) (w : World) (ha : InR a) (hb : InR b) :
    Calls Tryz.prog 33 #[.int .u8 13, .int .i64 a, .int .i64 b] w fun e w' => e = .returned (.int .i64 (opI 13 a b)) ∧ Below w.heap.size w w' := by
  have hix : ∀ w, (Instr.index 112 (.agg opsV) (.int .u8 13)).run Tryz.prog w = .ok (.func (.func 85) #[] #[]) w := fun _ => by kernel_rfl
  go_enter Tryz.func33, Tryz.ntmps33
  go_wp2_with (first | (go_at_call 54; refine (known_yes _ _ (by decide) (by decide)).mono ?_; rintro e w' ⟨rfl, rfl⟩) | (go_at_call 55; refine (operations_any _).mono ?_; rintro e w' ⟨rfl, rfl⟩) | (go_at_call 85; refine (clo13 _ _ _ ha hb).mono ?_; rintro e w' ⟨rfl, rfl⟩))
  go_ret
  exact ⟨rfl, (Below.refl _ _).alloc (Nat.le_refl _) _⟩
set_option maxHeartbeats 400000 in
theorem do14 (a b : Int) (w : World) (ha : InR a) (hb : InR b) :
    Calls Tryz.prog 33 #[.int .u8 14, .int .i64 a, .int .i64 b] w fun e w' => e = .returned (.int .i64 (opI 14 a b)) ∧ Below w.heap.size w w' := by
  have hix : ∀ w, (Instr.index 112 (.agg opsV) (.int .u8 14)).run Tryz.prog w = .ok (.func (.func 86) #[] #[]) w := fun _ => by kernel_rfl
  go_enter Tryz.func33, Tryz.ntmps33
  go_wp2_with (first | (go_at_call 54; refine (known_yes _ _ (by decide) (by decide)).mono ?_; rintro e w' ⟨rfl, rfl⟩) | (go_at_call 55; refine (operations_any _).mono ?_; rintro e w' ⟨rfl, rfl⟩) | (go_at_call 86; refine (clo14 _ _ _ ha hb).mono ?_; rintro e w' ⟨rfl, rfl⟩))
  go_ret
  exact ⟨rfl, (Below.refl _ _).alloc (Nat.le_refl _) _⟩
set_option maxHeartbeats 400000 in
theorem do15 (a b : Int) (w : World) (ha : InR a) (hb : InR b) :
    Calls Tryz.prog 33 #[.int .u8 15, .int .i64 a, .int .i64 b] w fun e w' => e = .returned (.int .i64 (opI 15 a b)) ∧ Below w.heap.size w w' := by
  have hix : ∀ w, (Instr.index 112 (.agg opsV) (.int .u8 15)).run Tryz.prog w = .ok (.func (.func 88) #[] #[]) w := fun _ => by kernel_rfl
  go_enter Tryz.func33, Tryz.ntmps33
  go_wp2_with (first | (go_at_call 54; refine (known_yes _ _ (by decide) (by decide)).mono ?_; rintro e w' ⟨rfl, rfl⟩) | (go_at_call 55; refine (operations_any _).mono ?_; rintro e w' ⟨rfl, rfl⟩) | (go_at_call 88; refine (clo15 _ _ _ ha hb).mono ?_; rintro e w' ⟨rfl, rfl⟩))
  go_ret
  exact ⟨rfl, (Below.refl _ _).alloc (Nat.le_refl _) _⟩
set_option maxHeartbeats 400000 in
theorem do16 (a b : Int) (w : World) (ha : InR a) (hb : InR b) :
    Calls Tryz.prog 33 #[.int .u8 16, .int .i64 a, .int .i64 b] w fun e w' => e = .returned (.int .i64 (opI 16 a b)) ∧ Below w.heap.size w w' := by
  have hix : ∀ w, (Instr.index 112 (.agg opsV) (.int .u8 16)).run Tryz.prog w = .ok (.func (.func 89) #[] #[]) w := fun _ => by kernel_rfl
  go_enter Tryz.func33, Tryz.ntmps33
  go_wp2_with (first | (go_at_call 54; refine (known_yes _ _ (by decide) (by decide)).mono ?_; rintro e w' ⟨rfl, rfl⟩) | (go_at_call 55; refine (operations_any _).mono ?_; rintro e w' ⟨rfl, rfl⟩) | (go_at_call 89; refine (clo16 _ _ _ ha hb).mono ?_; rintro e w' ⟨rfl, rfl⟩))
  go_ret
  exact ⟨rfl, (Below.refl _ _).alloc (Nat.le_refl _) _⟩
set_option maxHeartbeats 400000 in
theorem do_none (k : Int) (a b : Int) (w : World) (h : knownB k = false) (hr : opI k a b = 0) :
    Calls Tryz.prog 33 #[.int .u8 k, .int .i64 a, .int .i64 b] w fun e w' => e = .returned (.int .i64 (opI k a b)) ∧ Below w.heap.size w w' := by
  rw [hr]; clear hr
  go_enter Tryz.func33, Tryz.ntmps33
  go_wp2_with (go_at_call 54; refine (known_any _ _).mono ?_; rintro e w' ⟨rfl, rfl⟩)
  go_ret
  exact ⟨rfl, Below.refl _ _⟩
theorem opI_none (k a b : Int) (h : knownB k = false) : opI k a b = 0 := by
  have h1 : k < 1 ∨ 16 < k := by
    unfold knownB at h
    simp at h
    omega
  have h2 : opB k.toNat (bv a) (bv b) = 0 := by
    unfold opB
    split <;> first | omega | rfl
  show (opB k.toNat (bv a) (bv b)).toInt = 0
  rw [h2]; rfl
/-- word.Do, of any operation and any two numbers. -/
theorem do_any (op a b : Int) (w : World) (ha : InR a) (hb : InR b) :
    Calls Tryz.prog 33 #[.int .u8 op, .int .i64 a, .int .i64 b] w fun e w' => e = .returned (.int .i64 (opI op a b)) ∧ Below w.heap.size w w' := by
  by_cases hk : knownB op = true
  · have hc : op = 1 ∨ op = 2 ∨ op = 3 ∨ op = 4 ∨ op = 5 ∨ op = 6 ∨ op = 7 ∨ op = 8 ∨ op = 9 ∨ op = 10 ∨ op = 11 ∨ op = 12 ∨ op = 13 ∨ op = 14 ∨ op = 15 ∨ op = 16 := by
      unfold knownB at hk
      simp at hk
      omega
    rcases hc with rfl | rfl | rfl | rfl | rfl | rfl | rfl | rfl | rfl | rfl | rfl | rfl | rfl | rfl | rfl | rfl
    · exact do1 a b w ha hb
    · exact do2 a b w ha hb
    · exact do3 a b w ha hb
    · exact do4 a b w ha hb
    · exact do5 a b w ha hb
    · exact do6 a b w ha hb
    · exact do7 a b w ha hb
    · exact do8 a b w ha hb
    · exact do9 a b w ha hb
    · exact do10 a b w ha hb
    · exact do11 a b w ha hb
    · exact do12 a b w ha hb
    · exact do13 a b w ha hb
    · exact do14 a b w ha hb
    · exact do15 a b w ha hb
    · exact do16 a b w ha hb
  · have hk' : knownB op = false := by simpa using hk
    exact do_none op a b w hk' (opI_none op a b hk')
theorem op_cases (op : Int) : op = 1 ∨ op = 2 ∨ op = 3 ∨ op = 4 ∨ op = 5 ∨ op = 6 ∨ op = 7 ∨ op = 8 ∨ op = 9 ∨ op = 10 ∨ op = 11 ∨ op = 12 ∨ op = 13 ∨ op = 14 ∨ op = 15 ∨ op = 16 ∨ knownB op = false := by
  by_cases hk : knownB op = false
  · exact Or.inr (Or.inr (Or.inr (Or.inr (Or.inr (Or.inr (Or.inr (Or.inr (Or.inr (Or.inr (Or.inr (Or.inr (Or.inr (Or.inr (Or.inr (Or.inr hk)))))))))))))))
  · have hk2 : knownB op = true := by simpa using hk
    unfold knownB at hk2
    simp at hk2
    omega
end Go.Proofs.YtjhmbbioplhcgaaGreatDoor
