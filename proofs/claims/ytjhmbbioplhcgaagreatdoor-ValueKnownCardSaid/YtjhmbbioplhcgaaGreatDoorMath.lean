/-
  Numbers of 64 bits: how the model's integers, their wraps, bits, shifts and quotients read as words of 64 bits (BitVec 64); and what an operation of layer 1 makes of two such words. It speaks of no program.
-/
import Derived.WalkKit
import Derived.Test.YtjhmbbioplhcgaaGreatDoorRange
namespace Go.Proofs.YtjhmbbioplhcgaaGreatDoor
open Go.RowKit

/-- A number as a word. -/
abbrev bv (a : Int) : BitVec 64 := BitVec.ofInt 64 a

theorem InR.toInt (x : BitVec 64) : InR x.toInt := by
  have h1 := @BitVec.le_toInt 64 x
  have h2 := @BitVec.toInt_lt 64 x
  constructor <;> omega
theorem bv_toInt (x : BitVec 64) : bv x.toInt = x := BitVec.ofInt_toInt
theorem bv_toNat (x : BitVec 64) : bv (x.toNat : Int) = x := by
  rw [bv, BitVec.ofInt_natCast]; simp
theorem toInt_bv {a : Int} (h : InR a) : (bv a).toInt = a := by
  obtain ⟨h1, h2⟩ := h
  rw [BitVec.toInt_ofInt]
  exact Int.bmod_eq_of_le (by omega) (by omega)
theorem wrap64_bv (n : Int) : wrap64 n = (bv n).toInt := by
  rw [BitVec.toInt_ofInt]; unfold wrap64 Int.bmod; simp; split <;> omega
theorem u64_bv (n : Int) : IntKind.u64.wrap n = ((bv n).toNat : Int) := by
  rw [BitVec.toNat_ofInt, IntKind.wrap_u64]; omega
theorem bv_add (a b : Int) : bv (a + b) = bv a + bv b := BitVec.ofInt_add ..
theorem bv_mul (a b : Int) : bv (a * b) = bv a * bv b := BitVec.ofInt_mul ..
theorem bv_neg (a : Int) : bv (-a) = - bv a := by
  rw [bv, BitVec.ofInt_neg]
theorem bv_sub (a b : Int) : bv (a - b) = bv a - bv b := by
  rw [Int.sub_eq_add_neg, bv_add, bv_neg, BitVec.sub_eq_add_neg]
theorem bv_inj {a b : Int} (ha : InR a) (hb : InR b) (h : bv a = bv b) : a = b := by
  rw [← toInt_bv ha, ← toInt_bv hb, h]

theorem wrap_i64_bv (n : Int) : IntKind.i64.wrap n = (bv n).toInt := (IntWalk.i64_left n).trans (wrap64_bv n)
theorem wrap_nat (x : BitVec 64) : (bv (x.toNat : Int)).toInt = x.toInt := by rw [bv_toNat]

theorem and_i64 (a b : Int) : bits .and .i64 a b = (bv a &&& bv b).toInt := by
  show IntKind.i64.wrap ((bv a &&& bv b).toNat : Int) = _
  rw [wrap_i64_bv, wrap_nat]
theorem or_i64 (a b : Int) : bits .or .i64 a b = (bv a ||| bv b).toInt := by
  show IntKind.i64.wrap ((bv a ||| bv b).toNat : Int) = _
  rw [wrap_i64_bv, wrap_nat]
theorem xor_i64 (a b : Int) : bits .xor .i64 a b = (bv a ^^^ bv b).toInt := by
  show IntKind.i64.wrap ((bv a ^^^ bv b).toNat : Int) = _
  rw [wrap_i64_bv, wrap_nat]
theorem and_u64 (a b : Int) : bits .and .u64 a b = ((bv a &&& bv b).toNat : Int) := by
  show IntKind.u64.wrap ((bv a &&& bv b).toNat : Int) = _
  rw [u64_bv, bv_toNat]
theorem or_u64 (a b : Int) : bits .or .u64 a b = ((bv a ||| bv b).toNat : Int) := by
  show IntKind.u64.wrap ((bv a ||| bv b).toNat : Int) = _
  rw [u64_bv, bv_toNat]

/-- How far a move goes: the lowest six bits. -/
def far (b : Int) : Nat := (bv b).toNat % 64
theorem far_lt (b : Int) : far b < 64 := Nat.mod_lt _ (by decide)
theorem and63 (b : Int) : bits .and .u64 (IntKind.u64.wrap b) 63 = (far b : Int) := by
  rw [and_u64, u64_bv, bv_toNat]
  have h : (bv b &&& bv 63).toNat = far b := by
    rw [BitVec.toNat_and]
    show (bv b).toNat &&& 63 = _
    rw [show (63 : Nat) = 2 ^ 6 - 1 from rfl, Nat.and_two_pow_sub_one_eq_mod]; rfl
  rw [h]

theorem two_pow_bv (k : Nat) : ((2 : Int) ^ k) = ((2 ^ k : Nat) : Int) := by simp
theorem shl_bv (a : Int) (k : Nat) : bv (a * 2 ^ k) = bv a <<< k := by
  apply BitVec.eq_of_toInt_eq
  rw [BitVec.toInt_shiftLeft, BitVec.toInt_ofInt, BitVec.toNat_ofInt]
  rw [Nat.shiftLeft_eq]
  have h : (((a % ((2 : Nat) ^ 64 : Nat)).toNat * 2 ^ k : Nat) : Int) = (a % ((2 : Nat) ^ 64 : Nat)) * 2 ^ k := by
    rw [Int.natCast_mul, two_pow_bv, Int.toNat_of_nonneg (Int.emod_nonneg _ (by decide))]
  rw [h]
  exact (Int.emod_mul_bmod ..).symm
theorem shrU_bv (x : BitVec 64) (k : Nat) : (x.toNat : Int) / 2 ^ k = ((x >>> k).toNat : Int) := by
  rw [BitVec.toNat_ushiftRight, Nat.shiftRight_eq_div_pow]; simp
theorem shrS_bv (x : BitVec 64) (k : Nat) : x.toInt / 2 ^ k = (x.sshiftRight k).toInt := by
  rw [BitVec.toInt_sshiftRight, Int.shiftRight_eq_div_pow]; simp

theorem sdiv_bv {a b : Int} (ha : InR a) (hb : InR b) : wrap64 (a.tdiv b) = ((bv a).sdiv (bv b)).toInt := by
  rw [BitVec.toInt_sdiv, toInt_bv ha, toInt_bv hb, wrap64_bv, BitVec.toInt_ofInt]
theorem srem_bv {a b : Int} (ha : InR a) (hb : InR b) : a.tmod b = ((bv a).srem (bv b)).toInt := by
  rw [BitVec.toInt_srem, toInt_bv ha, toInt_bv hb]
theorem udiv_bv (x y : BitVec 64) : IntKind.u64.wrap ((x.toNat : Int).tdiv (y.toNat : Int)) = ((x / y).toNat : Int) := by
  have h : (x.toNat : Int).tdiv (y.toNat : Int) = ((x / y).toNat : Int) := by rw [BitVec.toNat_udiv]; rfl
  rw [h, u64_bv, bv_toNat]
theorem umod_bv (x y : BitVec 64) : (x.toNat : Int).tmod (y.toNat : Int) = ((x % y).toNat : Int) := by
  rw [BitVec.toNat_umod]; rfl

/-- What an operation makes of two words. -/
def opB (op : Nat) (x y : BitVec 64) : BitVec 64 :=
  match op with
  | 1 => x + y
  | 2 => x - y
  | 3 => x * y
  | 4 => if y = 0 then -1 else x.sdiv y
  | 5 => if y = 0 then x else x.srem y
  | 6 => if y = 0 then -1 else x / y
  | 7 => if y = 0 then x else x % y
  | 8 => x &&& y
  | 9 => x ||| y
  | 10 => x ^^^ y
  | 11 => x <<< (y.toNat % 64)
  | 12 => x >>> (y.toNat % 64)
  | 13 => x.sshiftRight (y.toNat % 64)
  | 14 => if x.slt y then 1 else 0
  | 15 => if x.ult y then 1 else 0
  | 16 => if x = y then 1 else 0
  | _ => 0
/-- The same of numbers. -/
def opI (op a b : Int) : Int := (opB op.toNat (bv a) (bv b)).toInt
theorem opI_in (op a b : Int) : InR (opI op a b) := InR.toInt _
theorem bv_opI (op a b : Int) : bv (opI op a b) = opB op.toNat (bv a) (bv b) := bv_toInt _

theorem slt_bv {a b : Int} (ha : InR a) (hb : InR b) : (bv a).slt (bv b) = decide (a < b) := by
  rw [BitVec.slt, toInt_bv ha, toInt_bv hb]
theorem ult_bv (x y : BitVec 64) : x.ult y = decide ((x.toNat : Int) < (y.toNat : Int)) := by
  rw [BitVec.ult]; simp
theorem bv_zero_iff {b : Int} (hb : InR b) : bv b = 0 ↔ b = 0 :=
  ⟨fun h => bv_inj hb ⟨by decide, by decide⟩ h, fun h => by rw [h]; rfl⟩
theorem bv_eq_iff {a b : Int} (ha : InR a) (hb : InR b) : bv a = bv b ↔ a = b := ⟨bv_inj ha hb, fun h => by rw [h]⟩
end Go.Proofs.YtjhmbbioplhcgaaGreatDoor
