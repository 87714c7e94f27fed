/-
  What WordLaws asks of words of 64 bits: where an operation swaps, groups, keeps; quotients and what is left; powers of 2; just one of below, above, same.
-/
import Derived.Test.YtfibonciioipnaaDoorWorks
import Derived.Test.YtfibonciioipnaaDoorOrderM
namespace Go.Proofs.YtfibonciioipnaaDoor
open Go.RowKit

namespace Lw
theorem bnf {a b : Int} (h : a = b) : (a != b) = false := by rw [bne_eq_false_iff_eq]; exact h
theorem beq {a b : Int} (h : a = b) : (a == b) = true := beq_iff_eq.2 h
theorem small (m : Nat) (h : m < 64) : (bv (m : Int)).toNat % 64 = m := by
  rw [Pw.toNat_bv m (by omega), Nat.mod_eq_of_lt h]
theorem swaps_cases {op : Int} (h : swapsB op = true) : op = 1 ∨ op = 3 ∨ op = 8 ∨ op = 9 ∨ op = 10 ∨ op = 16 := by
  unfold swapsB groupsB at h
  simp only [Bool.or_eq_true, beq_iff_eq] at h
  omega
theorem groups_cases {op : Int} (h : groupsB op = true) : op = 1 ∨ op = 3 ∨ op = 8 ∨ op = 9 ∨ op = 10 := by
  unfold groupsB at h
  simp only [Bool.or_eq_true, beq_iff_eq] at h
  omega
theorem swap {op : Int} (h : swapsB op = true) (a b : Int) : opI op a b = opI op b a := by
  rcases swaps_cases h with rfl | rfl | rfl | rfl | rfl | rfl
  · exact congrArg BitVec.toInt (BitVec.add_comm ..)
  · exact congrArg BitVec.toInt (BitVec.mul_comm ..)
  · exact congrArg BitVec.toInt (BitVec.and_comm ..)
  · exact congrArg BitVec.toInt (BitVec.or_comm ..)
  · exact congrArg BitVec.toInt (BitVec.xor_comm ..)
  · rw [opI_16, opI_16]
    by_cases e : bv a = bv b
    · rw [if_pos e, if_pos e.symm]
    · rw [if_neg e, if_neg (fun h => e h.symm)]
theorem group {op : Int} (h : groupsB op = true) (a b c : Int) : opI op (opI op a b) c = opI op a (opI op b c) := by
  show (opB op.toNat (bv (opI op a b)) (bv c)).toInt = (opB op.toNat (bv a) (bv (opI op b c))).toInt
  rw [bv_opI, bv_opI]
  rcases groups_cases h with rfl | rfl | rfl | rfl | rfl
  · exact congrArg BitVec.toInt (BitVec.add_assoc ..)
  · exact congrArg BitVec.toInt (BitVec.mul_assoc ..)
  · exact congrArg BitVec.toInt (BitVec.and_assoc ..)
  · exact congrArg BitVec.toInt (BitVec.or_assoc ..)
  · exact congrArg BitVec.toInt (BitVec.xor_assoc ..)
theorem keeps_in (op : Int) : InR (keepsN op) := by
  unfold keepsN InR
  split
  · omega
  · split <;> omega
theorem keep_word {op : Int} (h : keepsB op = true) (x : BitVec 64) : opB op.toNat x (bv (keepsN op)) = x := by
  rcases op_cases op with rfl | rfl | rfl | rfl | rfl | rfl | rfl | rfl | rfl | rfl | rfl | rfl | rfl | rfl | rfl | rfl | hk
  · exact BitVec.add_zero x
  · exact BitVec.sub_zero x
  · exact BitVec.mul_one x
  · show (if bv 1 = 0 then -1 else x.sdiv (bv 1)) = x
    rw [if_neg (by decide)]
    apply BitVec.eq_of_toInt_eq
    rw [BitVec.toInt_sdiv, show (bv 1).toInt = 1 from rfl, Int.tdiv_one]
    exact (BitVec.toInt_ofInt ..).symm.trans (congrArg BitVec.toInt (BitVec.ofInt_toInt))
  · show (if bv 0 = 0 then x else x.srem (bv 0)) = x
    exact if_pos rfl
  · show (if bv 1 = 0 then -1 else x / bv 1) = x
    rw [if_neg (by decide)]
    apply BitVec.eq_of_toNat_eq
    rw [BitVec.toNat_udiv, show (bv 1).toNat = 1 from rfl, Nat.div_one]
  · show (if bv 0 = 0 then x else x % bv 0) = x
    exact if_pos rfl
  · show x &&& bv (-1) = x
    exact BitVec.and_allOnes
  · exact BitVec.or_zero
  · exact BitVec.xor_zero
  · exact BitVec.shiftLeft_zero x
  · exact BitVec.ushiftRight_zero x
  · exact BitVec.sshiftRight_zero
  · exact absurd h (by decide)
  · exact absurd h (by decide)
  · exact absurd h (by decide)
  · unfold keepsB at h; rw [hk] at h; exact absurd h (by simp)
theorem keep {op a : Int} (h : keepsB op = true) (ha : InR a) : opI op a (keepsN op) = a := by
  show (opB op.toNat (bv a) (bv (keepsN op))).toInt = a
  rw [keep_word h, toInt_bv ha]
theorem sdiv_eq (x y : BitVec 64) : x.sdiv y = bv (x.toInt.tdiv y.toInt) := by
  apply BitVec.eq_of_toInt_eq
  rw [BitVec.toInt_sdiv, BitVec.toInt_ofInt]
theorem srem_eq (x y : BitVec 64) : x.srem y = bv (x.toInt.tmod y.toInt) := by
  rw [← BitVec.toInt_srem, bv_toInt]
theorem both {a b : Int} (ha : InR a) (hb : InR b) (h : ¬ b = 0) : opI 1 (opI 3 (opI 4 a b) b) (opI 5 a b) = a := by
  have e0 : ¬ bv b = 0 := fun e => h ((bv_zero_iff hb).1 e)
  have e4 : opB 4 (bv a) (bv b) = (bv a).sdiv (bv b) := if_neg e0
  have e5 : opB 5 (bv a) (bv b) = (bv a).srem (bv b) := if_neg e0
  show (bv (opI 3 (opI 4 a b) b) + bv (opI 5 a b)).toInt = a
  rw [bv_opI, bv_opI, bv_opI]
  show (opB 4 (bv a) (bv b) * bv b + opB 5 (bv a) (bv b)).toInt = a
  rw [e4, e5, sdiv_eq, srem_eq, toInt_bv ha, toInt_bv hb, ← bv_mul, ← bv_add, Int.tdiv_mul_add_tmod, toInt_bv ha]
theorem bothU {a b : Int} (ha : InR a) (hb : InR b) (h : ¬ b = 0) : opI 1 (opI 3 (opI 6 a b) b) (opI 7 a b) = a := by
  have e0 : ¬ bv b = 0 := fun e => h ((bv_zero_iff hb).1 e)
  have e6 : opB 6 (bv a) (bv b) = bv a / bv b := if_neg e0
  have e7 : opB 7 (bv a) (bv b) = bv a % bv b := if_neg e0
  show (bv (opI 3 (opI 6 a b) b) + bv (opI 7 a b)).toInt = a
  rw [bv_opI, bv_opI, bv_opI]
  show (opB 6 (bv a) (bv b) * bv b + opB 7 (bv a) (bv b)).toInt = a
  rw [e6, e7]
  have hw : bv a / bv b * bv b + bv a % bv b = bv a := by
    apply BitVec.eq_of_toNat_eq
    rw [BitVec.toNat_add, BitVec.toNat_mul, BitVec.toNat_udiv, BitVec.toNat_umod]
    have hd := Nat.div_add_mod' (bv a).toNat (bv b).toNat
    have hl := (bv a).isLt
    generalize (bv a).toNat / (bv b).toNat * (bv b).toNat = t at *
    omega
  rw [hw, toInt_bv ha]
theorem left {a b : Int} (hb : InR b) (h : ¬ b = 0) : opI 15 (opI 7 a b) b = 1 := by
  have e0 : ¬ bv b = 0 := fun e => h ((bv_zero_iff hb).1 e)
  have e7 : opB 7 (bv a) (bv b) = bv a % bv b := if_neg e0
  rw [opI_15, bv_opI]
  show (if BitVec.ult (opB 7 (bv a) (bv b)) (bv b) then (1 : Int) else 0) = 1
  rw [e7, if_pos]
  rw [BitVec.ult, BitVec.toNat_umod, decide_eq_true_iff]
  refine Nat.mod_lt _ (Nat.pos_of_ne_zero fun e => e0 (BitVec.eq_of_toNat_eq e))
theorem pow_in (n : Int) : InR (powN n) := by
  by_cases h : powB n = true
  · obtain ⟨k, hk, e⟩ := (powB_iff n).1 h
    unfold powN InR
    rw [if_pos h, e, Nat.log2_two_pow]
    omega
  · unfold powN InR
    rw [if_neg h]; omega
theorem pow_is {n : Int} (h : powB n = true) : ∃ k : Nat, k < 64 ∧ (bv n).toNat = 2 ^ k ∧ powN n = (k : Int) := by
  obtain ⟨k, hk, e⟩ := (powB_iff n).1 h
  refine ⟨k, hk, e, ?_⟩
  unfold powN
  rw [if_pos h, e, Nat.log2_two_pow]
theorem pow_ne {n : Int} (h : powB n = true) : ¬ n = 0 := by
  intro e; subst e; exact absurd h (by decide +kernel)
theorem mulp {a b : Int} (h : powB b = true) : opI 3 a b = opI 11 a (powN b) := by
  obtain ⟨k, hk, e, ek⟩ := pow_is h
  rw [ek]
  show (bv a * bv b).toInt = (bv a <<< ((bv (k : Int)).toNat % 64)).toInt
  rw [small k hk]
  refine congrArg BitVec.toInt (BitVec.eq_of_toNat_eq ?_)
  rw [BitVec.toNat_mul, BitVec.toNat_shiftLeft, e, Nat.shiftLeft_eq]
theorem word_ne {b : Int} {k : Nat} (e : (bv b).toNat = 2 ^ k) : ¬ bv b = 0 := by
  intro e0
  rw [e0] at e
  exact absurd e.symm (Nat.ne_of_gt (Nat.two_pow_pos k))
theorem divp {a b : Int} (h : powB b = true) : opI 6 a b = opI 12 a (powN b) := by
  obtain ⟨k, hk, e, ek⟩ := pow_is h
  have e6 : opB 6 (bv a) (bv b) = bv a / bv b := if_neg (word_ne e)
  rw [ek]
  show (opB 6 (bv a) (bv b)).toInt = (bv a >>> ((bv (k : Int)).toNat % 64)).toInt
  rw [e6, small k hk]
  refine congrArg BitVec.toInt (BitVec.eq_of_toNat_eq ?_)
  rw [BitVec.toNat_udiv, BitVec.toNat_ushiftRight, e, Nat.shiftRight_eq_div_pow]
theorem modp {a b : Int} (h : powB b = true) : opI 7 a b = opI 8 a (opI 2 b 1) := by
  obtain ⟨k, hk, e, ek⟩ := pow_is h
  have e7 : opB 7 (bv a) (bv b) = bv a % bv b := if_neg (word_ne e)
  show (opB 7 (bv a) (bv b)).toInt = (bv a &&& bv (opI 2 b 1)).toInt
  rw [bv_opI, e7]
  refine congrArg BitVec.toInt (BitVec.eq_of_toNat_eq ?_)
  show (bv a % bv b).toNat = (bv a &&& (bv b - bv 1)).toNat
  have hp := Nat.two_pow_pos k
  have hl := (bv b).isLt
  have h1 : (bv b - bv 1).toNat = 2 ^ k - 1 := by
    rw [BitVec.toNat_sub, show (bv 1).toNat = 1 from rfl, e]
    rw [e] at hl
    omega
  rw [BitVec.toNat_umod, BitVec.toNat_and, h1, e, Nat.and_two_pow_sub_one_eq_mod]
theorem sub0 (a b : Int) : opI 2 a b = opI 1 a (opI 2 0 b) := by
  show (bv a - bv b).toInt = (bv a + bv (opI 2 0 b)).toInt
  rw [bv_opI]
  show _ = (bv a + (0 - bv b)).toInt
  refine congrArg BitVec.toInt ?_
  rw [BitVec.sub_eq_add_neg, BitVec.sub_eq_add_neg, show (0 : BitVec 64) = 0#64 from rfl, BitVec.zero_add]
theorem one14 {a b : Int} (ha : InR a) (hb : InR b) : wrap64 (wrap64 (opI 14 a b + opI 14 b a) + opI 16 a b) = 1 := by
  have h16 : opI 16 a b = if a = b then 1 else 0 := by
    rw [opI_16]
    by_cases e : a = b
    · rw [if_pos e, if_pos (by rw [e])]
    · rw [if_neg e, if_neg (fun h => e (bv_inj ha hb h))]
  have h1 : opI 14 a b = if a < b then 1 else 0 := by rw [opI_14, slt_bv ha hb]; simp
  have h2 : opI 14 b a = if b < a then 1 else 0 := by rw [opI_14, slt_bv hb ha]; simp
  rw [h16, h1, h2]
  unfold wrap64
  split <;> split <;> split <;> omega
theorem one15 (a b : Int) : wrap64 (wrap64 (opI 15 a b + opI 15 b a) + opI 16 a b) = 1 := by
  have h16 : opI 16 a b = if (bv a).toNat = (bv b).toNat then 1 else 0 := by
    rw [opI_16]
    by_cases e : bv a = bv b
    · rw [if_pos e, if_pos (by rw [e])]
    · rw [if_neg e, if_neg (fun h => e (BitVec.eq_of_toNat_eq h))]
  have h1 : opI 15 a b = if (bv a).toNat < (bv b).toNat then 1 else 0 := by rw [opI_15, BitVec.ult]; simp
  have h2 : opI 15 b a = if (bv b).toNat < (bv a).toNat then 1 else 0 := by rw [opI_15, BitVec.ult]; simp
  rw [h16, h1, h2]
  unfold wrap64
  split <;> split <;> split <;> omega
end Lw
end Go.Proofs.YtfibonciioipnaaDoor
