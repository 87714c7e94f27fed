/-
  Layer 1, the document's own answers, the smallest: a number's k-th bit; 1 of what is so.
-/
import Derived.Test.YtfibonciioipnaaDoorWorks
namespace Go.Proofs.YtfibonciioipnaaDoor
open Go.RowKit

/-- The k-th bit of a word: 0 or 1. -/
def bt (x : BitVec 64) (k : Nat) : Nat := x.toNat / 2 ^ k % 2
theorem bt_le (x : BitVec 64) (k : Nat) : bt x k ≤ 1 := by unfold bt; omega
theorem and_one (n : Nat) (h : n < 18446744073709551616) : bits .and .u64 (n : Int) 1 = ((n % 2 : Nat) : Int) := by
  rw [show (1 : Int) = ((1 : Nat) : Int) from rfl, bits_and_u64_nat n 1 h (by decide)]
  exact congrArg Nat.cast (Nat.and_one_is_mod n)
set_option maxHeartbeats 400000 in
theorem bit_any (a k : Int) (w : World) (h0 : 0 ≤ k) (h1 : k < 64) :
    Calls Tryd.prog 33 #[.int .i64 a, .int .i64 k] w fun e w' => e = .returned (.int .u64 (bt (bv a) k.toNat : Nat)) ∧ w = w' := by
  have hu := u64_bv a
  have hl := (bv a).isLt
  obtain ⟨n, rfl⟩ := Int.eq_ofNat_of_zero_le h0
  have hq : ((bv a).toNat : Int) / 2 ^ n = (((bv a).toNat / 2 ^ n : Nat) : Int) := by simp
  have hle : (bv a).toNat / 2 ^ n < 18446744073709551616 := Nat.lt_of_le_of_lt (Nat.div_le_self _ _) hl
  have hm := and_one _ hle
  have hb : bt (bv a) ((n : Int)).toNat = (bv a).toNat / 2 ^ n % 2 := rfl
  rw [hb]
  clear hb hle
  generalize (bv a).toNat / 2 ^ n = q at *
  generalize (bv a).toNat = x at *
  have HM := Lib.hid hm; clear hm
  have HQ := Lib.hid hq; clear hq
  have HL := Lib.hid hl; clear hl
  go_enter Tryd.func33, Tryd.ntmps33
  go_wp2
  rw [HQ.out, HM.out]
  go_ret
  exact ⟨rfl, rfl⟩
theorem bit_nat (a : Int) (k : Nat) (w : World) (h1 : k < 64) :
    Calls Tryd.prog 33 #[.int .i64 a, .int .i64 k] w fun e w' => e = .returned (.int .u64 (bt (bv a) k : Nat)) ∧ w = w' :=
  bit_any a k w (by omega) (by omega)

/-- One more bit, above those that are there. -/
theorem or_bit (s k b : Nat) (h : s < 2 ^ k) : s ||| b * 2 ^ k = s + b * 2 ^ k := by
  have e := Nat.two_pow_add_eq_or_of_lt h b
  rw [Nat.mul_comm b, Nat.or_comm, ← e, Nat.add_comm]
end Go.Proofs.YtfibonciioipnaaDoor
