/-
  What the laws of layer 1 say of words of 64 bits: order, sums and sets of bits, moves. Plain arithmetic: it speaks of no program.
-/
import Derived.Test.YtfibonciioipnaaDoorMath
namespace Go.Proofs.YtfibonciioipnaaDoor
open Go.RowKit

namespace Sets
theorem halves (x y : Nat) : x + y = (x ^^^ y) + 2 * (x &&& y) := by
  induction x using Nat.strongRecOn generalizing y with
  | ind x ih =>
    have a1 := Nat.and_mod_two_pow (a := x) (b := y) (n := 1)
    have a2 := Nat.and_div_two_pow (a := x) (b := y) (n := 1)
    have o1 := Nat.xor_mod_two_pow (a := x) (b := y) (n := 1)
    have o2 := Nat.xor_div_two_pow (a := x) (b := y) (n := 1)
    simp only [Nat.pow_one] at a1 a2 o1 o2
    by_cases hx : x = 0
    · subst hx; simp
    · have h := ih (x / 2) (by omega) (y / 2)
      have m1 : x % 2 = 0 ∨ x % 2 = 1 := by omega
      have m2 : y % 2 = 0 ∨ y % 2 = 1 := by omega
      rcases m1 with m1 | m1 <;> rcases m2 with m2 | m2 <;> simp only [m1, m2, Nat.reduceAnd, Nat.reduceXor, Nat.zero_and, Nat.and_zero, Nat.zero_xor, Nat.xor_zero] at a1 o1 <;> omega
theorem parts (x y : Nat) : (x ||| y) = (x ^^^ y) + (x &&& y) := by
  induction x using Nat.strongRecOn generalizing y with
  | ind x ih =>
    have a1 := Nat.and_mod_two_pow (a := x) (b := y) (n := 1)
    have a2 := Nat.and_div_two_pow (a := x) (b := y) (n := 1)
    have o1 := Nat.xor_mod_two_pow (a := x) (b := y) (n := 1)
    have o2 := Nat.xor_div_two_pow (a := x) (b := y) (n := 1)
    have r1 := Nat.or_mod_two_pow (a := x) (b := y) (n := 1)
    have r2 := Nat.or_div_two_pow (a := x) (b := y) (n := 1)
    simp only [Nat.pow_one] at a1 a2 o1 o2 r1 r2
    by_cases hx : x = 0
    · subst hx; simp
    · have h := ih (x / 2) (by omega) (y / 2)
      have m1 : x % 2 = 0 ∨ x % 2 = 1 := by omega
      have m2 : y % 2 = 0 ∨ y % 2 = 1 := by omega
      rcases m1 with m1 | m1 <;> rcases m2 with m2 | m2 <;> simp only [m1, m2, Nat.reduceAnd, Nat.reduceXor, Nat.reduceOr, Nat.zero_and, Nat.and_zero, Nat.zero_xor, Nat.xor_zero, Nat.zero_or, Nat.or_zero] at a1 o1 r1 <;> omega
end Sets

theorem add_xor_and (x y : BitVec 64) : (x ^^^ y) + 2 * (x &&& y) = x + y := by
  apply BitVec.eq_of_toNat_eq
  rw [BitVec.toNat_add, BitVec.toNat_add, BitVec.toNat_mul, BitVec.toNat_xor, BitVec.toNat_and]
  rw [show (2 : BitVec 64).toNat = 2 from rfl]
  have h := Sets.halves x.toNat y.toNat
  omega
theorem or_sub_and (x y : BitVec 64) : (x ||| y) - (x &&& y) = x ^^^ y := by
  have h : (x ||| y) = (x ^^^ y) + (x &&& y) := by
    apply BitVec.eq_of_toNat_eq
    rw [BitVec.toNat_add, BitVec.toNat_or, BitVec.toNat_xor, BitVec.toNat_and, ← Sets.parts]
    exact (Nat.mod_eq_of_lt (Nat.or_lt_two_pow x.isLt y.isLt)).symm
  rw [h, BitVec.add_sub_cancel]
theorem xor_low (x : BitVec 64) : (x ^^^ bv (-9223372036854775808)).toNat = (x.toInt + 9223372036854775808).toNat := by
  have h := add_xor_and x (bv (-9223372036854775808))
  have h2 : 2 * (x &&& bv (-9223372036854775808)) = 0 := by
    apply BitVec.eq_of_toNat_eq
    rw [BitVec.toNat_mul, BitVec.toNat_and, show (2 : BitVec 64).toNat = 2 from rfl, show (bv (-9223372036854775808)).toNat = 2 ^ 63 from rfl]
    have g := Nat.and_mod_two_pow (a := x.toNat) (b := 2 ^ 63) (n := 63)
    rw [Nat.mod_self, Nat.and_zero] at g
    rw [show (0 : BitVec 64).toNat = 0 from rfl]
    omega
  rw [h2, show (0 : BitVec 64) = 0#64 from rfl, BitVec.add_zero] at h
  rw [h, BitVec.toNat_add, show (bv (-9223372036854775808)).toNat = 9223372036854775808 from rfl]
  rw [BitVec.toInt_eq_toNat_cond]
  have hl := x.isLt
  split <;> omega
theorem slt_low (x y : BitVec 64) : x.slt y = (x ^^^ bv (-9223372036854775808)).ult (y ^^^ bv (-9223372036854775808)) := by
  rw [BitVec.slt, BitVec.ult, xor_low, xor_low]
  have h1 := InR.toInt x
  have h2 := InR.toInt y
  unfold InR at h1 h2
  rw [decide_eq_decide]
  omega

theorem opI_14 (a b : Int) : opI 14 a b = if (bv a).slt (bv b) then 1 else 0 := by
  show BitVec.toInt (if (bv a).slt (bv b) then 1 else 0) = _
  split <;> rfl
theorem opI_15 (a b : Int) : opI 15 a b = if (bv a).ult (bv b) then 1 else 0 := by
  show BitVec.toInt (if (bv a).ult (bv b) then 1 else 0) = _
  split <;> rfl
theorem opI_16 (a b : Int) : opI 16 a b = if bv a = bv b then 1 else 0 := by
  show BitVec.toInt (if bv a = bv b then 1 else 0) = _
  split <;> rfl
end Go.Proofs.YtfibonciioipnaaDoor
