/-
  RefDo: Bit, Add, OrderM, Mul, Moved, Divide, RefDo in one text.
-/
import Derived.Test.YtjhmbbioplhcgaaGreatDoorWord
import Derived.Test.YtjhmbbioplhcgaaGreatDoorMath
namespace Go.Proofs.YtjhmbbioplhcgaaGreatDoor
open Go.RowKit

namespace Pw
theorem wrapN (a : Nat) (ha : a < 18446744073709551616) : IntKind.u64.wrap (a : Int) = (a : Int) := by rw [IntKind.wrap_u64]; omega
theorem toNat_bv (m : Nat) (h : m < 18446744073709551616) : (bv (m : Int)).toNat = m := by
  show (BitVec.ofInt 64 (m : Int)).toNat = m
  rw [BitVec.ofInt_natCast, BitVec.toNat_ofNat]; exact Nat.mod_eq_of_lt (by omega)
end Pw

/-- The k-th bit of a word: 0 or 1. -/
def bt (x : BitVec 64) (k : Nat) : Nat := x.toNat / 2 ^ k % 2
theorem bt_le (x : BitVec 64) (k : Nat) : bt x k ≤ 1 := by unfold bt; omega
theorem and_one (n : Nat) (h : n < 18446744073709551616) : bits .and .u64 (n : Int) 1 = ((n % 2 : Nat) : Int) := by
  rw [show (1 : Int) = ((1 : Nat) : Int) from rfl, bits_and_u64_nat n 1 h (by decide)]
  exact congrArg Nat.cast (Nat.and_one_is_mod n)
set_option maxHeartbeats 400000 in
theorem bit_any (a k : Int) (w : World) (h0 : 0 ≤ k) (h1 : k < 64) :
    Calls Tryz.prog 42 #[.int .i64 a, .int .i64 k] w fun e w' => e = .returned (.int .u64 (bt (bv a) k.toNat : Nat)) ∧ w = w' := by
  have hu := u64_bv a
  have hl := (bv a).isLt
  obtain ⟨n, rfl⟩ := Int.eq_ofNat_of_zero_le h0
  have hq : ((bv a).toNat : Int) / 2 ^ n = (((bv a).toNat / 2 ^ n : Nat) : Int) := by simp
  have hle : (bv a).toNat / 2 ^ n < 18446744073709551616 := Nat.lt_of_le_of_lt (Nat.div_le_self _ _) hl
  have hm := and_one _ hle
  have hb : bt (bv a) ((n : Int)).toNat = (bv a).toNat / 2 ^ n % 2 := rfl
  rw [hb]
  clear hb hle
  generalize (bv a).toNat / 2 ^ n = q at *
  generalize (bv a).toNat = x at *
  have HM := Lib.hid hm; clear hm
  have HQ := Lib.hid hq; clear hq
  have HL := Lib.hid hl; clear hl
  go_enter Tryz.func42, Tryz.ntmps42
  go_wp2
  rw [HQ.out, HM.out]
  go_ret
  exact ⟨rfl, rfl⟩
theorem bit_nat (a : Int) (k : Nat) (w : World) (h1 : k < 64) :
    Calls Tryz.prog 42 #[.int .i64 a, .int .i64 k] w fun e w' => e = .returned (.int .u64 (bt (bv a) k : Nat)) ∧ w = w' :=
  bit_any a k w (by omega) (by omega)

/-- One more bit, above those that are there. -/
theorem or_bit (s k b : Nat) (h : s < 2 ^ k) : s ||| b * 2 ^ k = s + b * 2 ^ k := by
  have e := Nat.two_pow_add_eq_or_of_lt h b
  rw [Nat.mul_comm b, Nat.or_comm, ← e, Nat.add_comm]
end Go.Proofs.YtjhmbbioplhcgaaGreatDoor

namespace Go.Proofs.YtjhmbbioplhcgaaGreatDoor
open Go.RowKit

/-- What of a sum stands after k bits, and what is carried. -/
def sumTo (x y : BitVec 64) (k : Nat) : Nat := (x.toNat + y.toNat) % 2 ^ k
def carTo (x y : BitVec 64) (k : Nat) : Nat := (x.toNat % 2 ^ k + y.toNat % 2 ^ k) / 2 ^ k
def nTo (x y : BitVec 64) (k : Nat) : Nat := bt x k + bt y k + carTo x y k
namespace Ad
theorem split (x k : Nat) : x % 2 ^ (k + 1) = x % 2 ^ k + x / 2 ^ k % 2 * 2 ^ k := by
  rw [Nat.pow_succ, Nat.mod_mul, Nat.mul_comm (2 ^ k)]
theorem div_sum (x y k : Nat) : (x + y) / 2 ^ k = x / 2 ^ k + y / 2 ^ k + (x % 2 ^ k + y % 2 ^ k) / 2 ^ k := by
  have hp := Nat.two_pow_pos k
  have h1 := Nat.div_add_mod x (2 ^ k)
  have h2 := Nat.div_add_mod y (2 ^ k)
  have e : x + y = 2 ^ k * (x / 2 ^ k + y / 2 ^ k) + (x % 2 ^ k + y % 2 ^ k) := by rw [Nat.mul_add]; omega
  calc (x + y) / 2 ^ k = (2 ^ k * (x / 2 ^ k + y / 2 ^ k) + (x % 2 ^ k + y % 2 ^ k)) / 2 ^ k := by rw [← e]
    _ = _ := by rw [Nat.mul_add_div hp]
theorem car_le (x y : BitVec 64) (k : Nat) : carTo x y k ≤ 1 := by
  have hp := Nat.two_pow_pos k
  unfold carTo
  have h1 := Nat.mod_lt x.toNat hp
  have h2 := Nat.mod_lt y.toNat hp
  exact Nat.le_of_lt_succ (Nat.div_lt_of_lt_mul (by omega))
theorem n_mod (x y : BitVec 64) (k : Nat) : (x.toNat + y.toNat) / 2 ^ k % 2 = nTo x y k % 2 := by
  rw [div_sum]; unfold nTo bt carTo; omega
theorem sum_succ (x y : BitVec 64) (k : Nat) : sumTo x y (k + 1) = sumTo x y k + nTo x y k % 2 * 2 ^ k := by
  unfold sumTo
  rw [split, n_mod]
theorem car_succ (x y : BitVec 64) (k : Nat) : carTo x y (k + 1) = nTo x y k / 2 := by
  unfold carTo nTo bt carTo
  rw [split, split, Nat.pow_succ, ← Nat.div_div_eq_div_mul]
  have hp := Nat.two_pow_pos k
  have e : x.toNat % 2 ^ k + x.toNat / 2 ^ k % 2 * 2 ^ k + (y.toNat % 2 ^ k + y.toNat / 2 ^ k % 2 * 2 ^ k) = 2 ^ k * (x.toNat / 2 ^ k % 2 + y.toNat / 2 ^ k % 2) + (x.toNat % 2 ^ k + y.toNat % 2 ^ k) := by
    rw [Nat.mul_add, Nat.mul_comm _ (2 ^ k), Nat.mul_comm _ (2 ^ k)]; omega
  rw [e, Nat.mul_add_div hp]
theorem sum_lt (x y : BitVec 64) (k : Nat) : sumTo x y k < 2 ^ k := Nat.mod_lt _ (Nat.two_pow_pos k)
theorem pow_le {k : Nat} (h : k < 64) : 2 ^ k ≤ 9223372036854775808 := Nat.pow_le_pow_right (n := 2) (by decide) (show k ≤ 63 by omega)
theorem sum_le (x y : BitVec 64) {k : Nat} (h : k ≤ 64) : sumTo x y k < 18446744073709551616 :=
  Nat.lt_of_lt_of_le (sum_lt x y k) (Nat.pow_le_pow_right (n := 2) (by decide) h)
theorem n_le (x y : BitVec 64) (k : Nat) : nTo x y k ≤ 3 := by
  have h1 := bt_le x k
  have h2 := bt_le y k
  have h3 := car_le x y k
  unfold nTo; omega
theorem or_u64 (a b : Nat) (ha : a < 18446744073709551616) (hb : b < 18446744073709551616) : bits .or .u64 (a : Int) (b : Int) = ((a ||| b : Nat) : Int) := by
  rw [Go.Proofs.YtjhmbbioplhcgaaGreatDoor.or_u64]
  rw [BitVec.toNat_or, Pw.toNat_bv a ha, Pw.toNat_bv b hb]
/-- The step of the sum, as the walk spells it. -/
theorem step (x y : BitVec 64) (k : Nat) (h : k < 64) : bits .or .u64 (sumTo x y k : Int) (IntKind.u64.wrap (((nTo x y k % 2 : Nat) : Int) * 2 ^ k)) = (sumTo x y (k + 1) : Int) := by
  have hp := pow_le h
  have hs := sum_lt x y k
  have hb : nTo x y k % 2 * 2 ^ k ≤ 2 ^ k := by
    have : nTo x y k % 2 < 2 := Nat.mod_lt _ (by decide)
    calc nTo x y k % 2 * 2 ^ k ≤ 1 * 2 ^ k := Nat.mul_le_mul_right _ (by omega)
      _ = 2 ^ k := Nat.one_mul _
  have e : ((nTo x y k % 2 : Nat) : Int) * 2 ^ k = ((nTo x y k % 2 * 2 ^ k : Nat) : Int) := by rw [Int.natCast_mul, Int.natCast_pow]; rfl
  rw [e, Pw.wrapN _ (by omega), or_u64 _ _ (by omega) (by omega), or_bit _ _ _ hs, ← sum_succ]
end Ad

set_option maxHeartbeats 1000000 in
theorem refadd_any (a b : Int) (w : World) :
    Calls Tryz.prog 37 #[.int .i64 a, .int .i64 b] w fun e w' => e = .returned (.int .i64 (opI 1 a b)) ∧ w = w' := by
  go_enter Tryz.func37, Tryz.ntmps37
  go_wp2
  go_loop [5, 6, 7] (fun s c i => ∃ k : Nat, k ≤ 64 ∧ i = .int .i64 k ∧ s = .int .u64 (sumTo (bv a) (bv b) k : Nat) ∧ c = .int .u64 (carTo (bv a) (bv b) k : Nat)) (fun _ _ i => 64 - (intOf i).toNat)
  case atStart => exact ⟨0, Nat.zero_le _, rfl, by simp [sumTo, Nat.mod_one], by simp [carTo, Nat.mod_one]⟩
  case round =>
    obtain ⟨k, hk, rfl, rfl, rfl⟩ := hrel
    by_cases hlt : k < 64
    · have hs := Ad.step (bv a) (bv b) k hlt
      have hn := Ad.n_le (bv a) (bv b) k
      have h1 := bt_le (bv a) k
      have h2 := bt_le (bv b) k
      have h3 := Ad.car_le (bv a) (bv b) k
      have e1 : IntKind.u64.wrap ((bt (bv a) k : Int) + (bt (bv b) k : Int)) = ((bt (bv a) k + bt (bv b) k : Nat) : Int) := by rw [← Int.natCast_add, Pw.wrapN _ (by omega)]
      have e2 : IntKind.u64.wrap (((bt (bv a) k + bt (bv b) k : Nat) : Int) + (carTo (bv a) (bv b) k : Int)) = (nTo (bv a) (bv b) k : Int) := by rw [← Int.natCast_add, Pw.wrapN _ (by omega)]; rfl
      have e3 := and_one (nTo (bv a) (bv b) k) (by omega)
      have e4 : (nTo (bv a) (bv b) k : Int) / 2 = (carTo (bv a) (bv b) (k + 1) : Int) := by rw [Ad.car_succ]; omega
      clear hn h1 h2 h3
      generalize bt (bv a) k + bt (bv b) k = t at *
      generalize nTo (bv a) (bv b) k % 2 = n2 at *
      generalize nTo (bv a) (bv b) k = n at *
      generalize hC : carTo (bv a) (bv b) (k + 1) = c1 at *
      generalize hS : sumTo (bv a) (bv b) (k + 1) = s1 at *
      have HC := Lib.hid hC; clear hC
      have HS := Lib.hid hS; clear hS
      go_wp2_with (go_at_call 42; refine (bit_nat _ _ _ hlt).mono ?_; rintro e w' ⟨rfl, rfl⟩)
      go_round
      case rel => exact ⟨k + 1, by omega, by go_num, by rw [HS.out], by rw [HC.out]⟩
      case measure => simp [intOf]; omega
    · have hk' : k = 64 := by omega
      have he : wrap64 (sumTo (bv a) (bv b) k : Int) = opI 1 a b := by
        rw [wrap64_bv]
        show _ = (bv a + bv b).toInt
        refine congrArg BitVec.toInt ?_
        apply BitVec.eq_of_toNat_eq
        rw [Pw.toNat_bv _ (Ad.sum_le _ _ hk), BitVec.toNat_add, hk']; rfl
      have HE := Lib.hid he; clear he hk'
      go_wp2
      go_ret
      exact ⟨ret_i64 HE.out, rfl⟩
/-- neg: 0 less that. -/
theorem bv_not (a : Int) : bv (bits .xor .i64 (-1) a) = ~~~ bv a := by
  rw [xor_i64, bv_toInt]
  exact BitVec.allOnes_xor
theorem neg_eq (a : Int) : opI 1 (bits .xor .i64 (-1) a) 1 = opI 2 0 a := by
  show (bv (bits .xor .i64 (-1) a) + bv 1).toInt = (bv 0 - bv a).toInt
  rw [bv_not]
  refine congrArg BitVec.toInt ?_
  show ~~~ bv a + 1#64 = 0#64 - bv a
  rw [BitVec.zero_sub, BitVec.neg_eq_not_add]
set_option maxHeartbeats 1000000 in
theorem refneg_any (a : Int) (w : World) :
    Calls Tryz.prog 38 #[.int .i64 a] w fun e w' => e = .returned (.int .i64 (opI 2 0 a)) ∧ w = w' := by
  have he := Lib.hid (neg_eq a)
  have hs : IntKind.i64.signed = true := rfl
  go_enter Tryz.func38, Tryz.ntmps38
  go_wp2_with (go_at_call 37; refine (refadd_any _ _ _).mono ?_; rintro e w' ⟨rfl, rfl⟩)
  go_ret
  exact ⟨ret_i64 he.out, rfl⟩
end Go.Proofs.YtjhmbbioplhcgaaGreatDoor

namespace Go.Proofs.YtjhmbbioplhcgaaGreatDoor
open Go.RowKit

namespace Sets
theorem halves (x y : Nat) : x + y = (x ^^^ y) + 2 * (x &&& y) := by
  induction x using Nat.strongRecOn generalizing y with
  | ind x ih =>
    have a1 := Nat.and_mod_two_pow (a := x) (b := y) (n := 1)
    have a2 := Nat.and_div_two_pow (a := x) (b := y) (n := 1)
    have o1 := Nat.xor_mod_two_pow (a := x) (b := y) (n := 1)
    have o2 := Nat.xor_div_two_pow (a := x) (b := y) (n := 1)
    simp only [Nat.pow_one] at a1 a2 o1 o2
    by_cases hx : x = 0
    · subst hx; simp
    · have h := ih (x / 2) (by omega) (y / 2)
      have m1 : x % 2 = 0 ∨ x % 2 = 1 := by omega
      have m2 : y % 2 = 0 ∨ y % 2 = 1 := by omega
      rcases m1 with m1 | m1 <;> rcases m2 with m2 | m2 <;> simp only [m1, m2, Nat.reduceAnd, Nat.reduceXor, Nat.zero_and, Nat.and_zero, Nat.zero_xor, Nat.xor_zero] at a1 o1 <;> omega
theorem parts (x y : Nat) : (x ||| y) = (x ^^^ y) + (x &&& y) := by
  induction x using Nat.strongRecOn generalizing y with
  | ind x ih =>
    have a1 := Nat.and_mod_two_pow (a := x) (b := y) (n := 1)
    have a2 := Nat.and_div_two_pow (a := x) (b := y) (n := 1)
    have o1 := Nat.xor_mod_two_pow (a := x) (b := y) (n := 1)
    have o2 := Nat.xor_div_two_pow (a := x) (b := y) (n := 1)
    have r1 := Nat.or_mod_two_pow (a := x) (b := y) (n := 1)
    have r2 := Nat.or_div_two_pow (a := x) (b := y) (n := 1)
    simp only [Nat.pow_one] at a1 a2 o1 o2 r1 r2
    by_cases hx : x = 0
    · subst hx; simp
    · have h := ih (x / 2) (by omega) (y / 2)
      have m1 : x % 2 = 0 ∨ x % 2 = 1 := by omega
      have m2 : y % 2 = 0 ∨ y % 2 = 1 := by omega
      rcases m1 with m1 | m1 <;> rcases m2 with m2 | m2 <;> simp only [m1, m2, Nat.reduceAnd, Nat.reduceXor, Nat.reduceOr, Nat.zero_and, Nat.and_zero, Nat.zero_xor, Nat.xor_zero, Nat.zero_or, Nat.or_zero] at a1 o1 r1 <;> omega
end Sets

theorem add_xor_and (x y : BitVec 64) : (x ^^^ y) + 2 * (x &&& y) = x + y := by
  apply BitVec.eq_of_toNat_eq
  rw [BitVec.toNat_add, BitVec.toNat_add, BitVec.toNat_mul, BitVec.toNat_xor, BitVec.toNat_and]
  rw [show (2 : BitVec 64).toNat = 2 from rfl]
  have h := Sets.halves x.toNat y.toNat
  omega
theorem or_sub_and (x y : BitVec 64) : (x ||| y) - (x &&& y) = x ^^^ y := by
  have h : (x ||| y) = (x ^^^ y) + (x &&& y) := by
    apply BitVec.eq_of_toNat_eq
    rw [BitVec.toNat_add, BitVec.toNat_or, BitVec.toNat_xor, BitVec.toNat_and, ← Sets.parts]
    exact (Nat.mod_eq_of_lt (Nat.or_lt_two_pow x.isLt y.isLt)).symm
  rw [h, BitVec.add_sub_cancel]
theorem xor_low (x : BitVec 64) : (x ^^^ bv (-9223372036854775808)).toNat = (x.toInt + 9223372036854775808).toNat := by
  have h := add_xor_and x (bv (-9223372036854775808))
  have h2 : 2 * (x &&& bv (-9223372036854775808)) = 0 := by
    apply BitVec.eq_of_toNat_eq
    rw [BitVec.toNat_mul, BitVec.toNat_and, show (2 : BitVec 64).toNat = 2 from rfl, show (bv (-9223372036854775808)).toNat = 2 ^ 63 from rfl]
    have g := Nat.and_mod_two_pow (a := x.toNat) (b := 2 ^ 63) (n := 63)
    rw [Nat.mod_self, Nat.and_zero] at g
    rw [show (0 : BitVec 64).toNat = 0 from rfl]
    omega
  rw [h2, show (0 : BitVec 64) = 0#64 from rfl, BitVec.add_zero] at h
  rw [h, BitVec.toNat_add, show (bv (-9223372036854775808)).toNat = 9223372036854775808 from rfl]
  rw [BitVec.toInt_eq_toNat_cond]
  have hl := x.isLt
  split <;> omega
theorem slt_low (x y : BitVec 64) : x.slt y = (x ^^^ bv (-9223372036854775808)).ult (y ^^^ bv (-9223372036854775808)) := by
  rw [BitVec.slt, BitVec.ult, xor_low, xor_low]
  have h1 := InR.toInt x
  have h2 := InR.toInt y
  unfold InR at h1 h2
  rw [decide_eq_decide]
  omega

theorem opI_14 (a b : Int) : opI 14 a b = if (bv a).slt (bv b) then 1 else 0 := by
  show BitVec.toInt (if (bv a).slt (bv b) then 1 else 0) = _
  split <;> rfl
theorem opI_15 (a b : Int) : opI 15 a b = if (bv a).ult (bv b) then 1 else 0 := by
  show BitVec.toInt (if (bv a).ult (bv b) then 1 else 0) = _
  split <;> rfl
theorem opI_16 (a b : Int) : opI 16 a b = if bv a = bv b then 1 else 0 := by
  show BitVec.toInt (if bv a = bv b then 1 else 0) = _
  split <;> rfl
end Go.Proofs.YtjhmbbioplhcgaaGreatDoor

namespace Go.Proofs.YtjhmbbioplhcgaaGreatDoor
open Go.RowKit

theorem bt_lsb (x : BitVec 64) (k : Nat) : bt x k = (x.getLsbD k).toNat := by
  rw [BitVec.getLsbD, Nat.testBit_eq_decide_div_mod_eq]
  unfold bt
  have h : x.toNat / 2 ^ k % 2 = 0 ∨ x.toNat / 2 ^ k % 2 = 1 := by omega
  rcases h with h | h <;> simp [h]

/-- The product with the lowest k bits. -/
def mulTo (x y : BitVec 64) (k : Nat) : Int := (x * BitVec.ofNat 64 (y.toNat % 2 ^ k)).toInt
namespace Mr
theorem zero (x y : BitVec 64) : mulTo x y 0 = 0 := by
  unfold mulTo; rw [Nat.pow_zero, Nat.mod_one]
  show (x * 0#64).toInt = 0
  rw [BitVec.mul_zero]; rfl
theorem full (a b : Int) : mulTo (bv a) (bv b) 64 = opI 3 a b := by
  unfold mulTo
  rw [Nat.mod_eq_of_lt (bv b).isLt, BitVec.ofNat_toNat, BitVec.setWidth_eq]; rfl
theorem none (x y : BitVec 64) (k : Nat) (h : bt y k = 0) : mulTo x y (k + 1) = mulTo x y k := by
  unfold mulTo
  rw [Ad.split]
  unfold bt at h
  rw [h, Nat.zero_mul, Nat.add_zero]
theorem some (a : Int) (y : BitVec 64) (k : Nat) (h : bt y k = 1) : opI 1 (mulTo (bv a) y k) (wrap64 (IntKind.u64.wrap (IntKind.u64.wrap a * 2 ^ k))) = mulTo (bv a) y (k + 1) := by
  show (bv (mulTo (bv a) y k) + bv (wrap64 (IntKind.u64.wrap (IntKind.u64.wrap a * 2 ^ k)))).toInt = _
  rw [wrap64_bv, bv_toInt, u64_bv, bv_toNat, shl_bv, u64_bv, bv_toNat]
  unfold mulTo
  rw [bv_toInt, Ad.split]
  unfold bt at h
  rw [h, Nat.one_mul]
  refine congrArg BitVec.toInt ?_
  have e : bv a <<< k = bv a * BitVec.ofNat 64 (2 ^ k) := by
    apply BitVec.eq_of_toNat_eq
    rw [BitVec.toNat_shiftLeft, BitVec.toNat_mul, BitVec.toNat_ofNat, Nat.shiftLeft_eq, Nat.mul_mod_mod]
  rw [e, ← BitVec.mul_add, BitVec.ofNat_add]
end Mr
theorem eq_nat {n : Nat} (h : n = 1) : ((n : Int) == 1) = true := by rw [h]; rfl
theorem ne_nat {n : Nat} (h : ¬ n = 1) : ((n : Int) == 1) = false := beq_eq_false_iff_ne.2 (by omega)

set_option maxHeartbeats 1000000 in
theorem refmul_any (a b : Int) (w : World) :
    Calls Tryz.prog 39 #[.int .i64 a, .int .i64 b] w fun e w' => e = .returned (.int .i64 (opI 3 a b)) ∧ w = w' := by
  go_enter Tryz.func39, Tryz.ntmps39
  go_wp2
  go_loop [5, 6] (fun s i => ∃ k : Nat, k ≤ 64 ∧ i = .int .i64 k ∧ s = .int .i64 (mulTo (bv a) (bv b) k)) (fun _ i => 64 - (intOf i).toNat)
  case atStart => exact ⟨0, Nat.zero_le _, rfl, by rw [Mr.zero]⟩
  case round =>
    obtain ⟨k, hk, rfl, rfl⟩ := hrel
    by_cases hlt : k < 64
    · by_cases h1 : bt (bv b) k = 1
      · have t1 := eq_nat h1
        have HE := Lib.hid (Mr.some a (bv b) k h1)
        clear h1
        go_wp2_with (first | (go_at_call 42; refine (bit_nat _ _ _ hlt).mono ?_; rintro e w' ⟨rfl, rfl⟩) | (go_at_call 37; refine (refadd_any _ _ _).mono ?_; rintro e w' ⟨rfl, rfl⟩))
        go_round
        case rel => exact ⟨k + 1, by omega, by go_num, by rw [HE.out]⟩
        case measure => simp [intOf]; omega
      · have t1 := ne_nat h1
        have HE := Lib.hid (Mr.none (bv a) (bv b) k (by have := bt_le (bv b) k; omega))
        clear h1
        go_wp2_with (go_at_call 42; refine (bit_nat _ _ _ hlt).mono ?_; rintro e w' ⟨rfl, rfl⟩)
        go_round
        case rel => exact ⟨k + 1, by omega, by go_num, by rw [HE.out]⟩
        case measure => simp [intOf]; omega
    · have hk' : k = 64 := by omega
      have HE := Lib.hid (Mr.full a b)
      rw [← hk'] at HE
      clear hk'
      go_wp2
      go_ret
      exact ⟨ret_i64 HE.out, rfl⟩

/-- As counts: is the first one below? -/
def ultI (a b : Int) : Bool := (bv a).ult (bv b)
namespace Bl
theorem split (x k : Nat) : x / 2 ^ k = 2 * (x / 2 ^ (k + 1)) + x / 2 ^ k % 2 := by
  rw [Nat.pow_succ, ← Nat.div_div_eq_div_mul]; omega
theorem same {x y : BitVec 64} {k : Nat} (h : x.toNat / 2 ^ (k + 1) = y.toNat / 2 ^ (k + 1)) (e : bt x k = bt y k) : x.toNat / 2 ^ k = y.toNat / 2 ^ k := by
  rw [split, split y.toNat, h]; unfold bt at e; rw [e]
theorem parts {a b : Int} {k : Nat} (h : (bv a).toNat / 2 ^ (k + 1) = (bv b).toNat / 2 ^ (k + 1)) (e : ¬ bt (bv a) k = bt (bv b) k) : ((bt (bv b) k : Int) == 1) = ultI a b := by
  have h1 := split (bv a).toNat k
  have h2 := split (bv b).toNat k
  have b1 := bt_le (bv a) k
  have b2 := bt_le (bv b) k
  unfold ultI
  rw [BitVec.ult]
  change (bv a).toNat / 2 ^ k = 2 * ((bv a).toNat / 2 ^ (k + 1)) + bt (bv a) k at h1
  change (bv b).toNat / 2 ^ k = 2 * ((bv b).toNat / 2 ^ (k + 1)) + bt (bv b) k at h2
  by_cases c : bt (bv b) k = 1
  · rw [eq_nat c]
    have hl : (bv a).toNat < (bv b).toNat := by
      have : (bv a).toNat / 2 ^ k < (bv b).toNat / 2 ^ k := by omega
      exact Nat.lt_of_div_lt_div this
    simpa using hl
  · rw [ne_nat c]
    have hl : (bv b).toNat < (bv a).toNat := by
      have : (bv b).toNat / 2 ^ k < (bv a).toNat / 2 ^ k := by omega
      exact Nat.lt_of_div_lt_div this
    symm
    rw [decide_eq_false_iff_not]
    omega
theorem ends {a b : Int} (h : (bv a).toNat / 2 ^ 0 = (bv b).toNat / 2 ^ 0) : ultI a b = false := by
  unfold ultI
  rw [BitVec.ult, decide_eq_false_iff_not]
  simp only [Nat.pow_zero, Nat.div_one] at h
  omega
theorem bne_nat {m n : Nat} (h : ¬ m = n) : ((m : Int) != (n : Int)) = true := by
  rw [bne_iff_ne]; omega
theorem beq_nat {m n : Nat} (h : m = n) : ((m : Int) != (n : Int)) = false := by
  rw [h]; simp
end Bl
theorem ret_bool {a b : Bool} (h : a = b) : Ending.returned (.bool a) = .returned (.bool b) := by rw [h]

set_option maxHeartbeats 1000000 in
theorem refbelow_any (a b : Int) (w : World) :
    Calls Tryz.prog 44 #[.int .i64 a, .int .i64 b] w fun e w' => e = .returned (.bool (ultI a b)) ∧ w = w' := by
  go_enter Tryz.func44, Tryz.ntmps44
  go_wp2
  go_loop [5] (fun i => ∃ j : Nat, j ≤ 64 ∧ i = .int .i64 ((j : Int) - 1) ∧ Hid ((bv a).toNat / 2 ^ j = (bv b).toNat / 2 ^ j)) (fun i => (intOf i + 1).toNat)
  case atStart => exact ⟨64, Nat.le_refl _, rfl, by show _ = _; rw [Nat.div_eq_of_lt (bv a).isLt, Nat.div_eq_of_lt (bv b).isLt]⟩
  case round =>
    obtain ⟨j, hj, rfl, he⟩ := hrel
    cases j with
    | zero =>
      have HE := Lib.hid (Bl.ends he.out)
      clear he
      rw [show ((0 : Nat) : Int) - 1 = -1 from rfl]
      go_wp2
      go_ret
      exact ⟨ret_bool HE.out.symm, rfl⟩
    | succ k =>
      rw [show ((k + 1 : Nat) : Int) - 1 = (k : Int) from by omega]
      have hk : k < 64 := by omega
      by_cases hb : bt (bv a) k = bt (bv b) k
      · have hs := Bl.same he.out hb
        have HS := Lib.hid hs
        clear hs he
        have t := Bl.beq_nat hb
        clear hb
        go_wp2_with (go_at_call 42; refine (bit_nat _ _ _ hk).mono ?_; rintro e w' ⟨rfl, rfl⟩)
        go_round
        case rel => exact ⟨k, by omega, rfl, HS.out⟩
        case measure => simp [intOf]
      · have HS := Lib.hid (Bl.parts he.out hb)
        clear he
        have t := Bl.bne_nat hb
        clear hb
        go_wp2_with (go_at_call 42; refine (bit_nat _ _ _ hk).mono ?_; rintro e w' ⟨rfl, rfl⟩)
        go_ret
        exact ⟨ret_bool HS.out, rfl⟩
set_option maxHeartbeats 400000 in
theorem refone_any (b : Bool) (w : World) : Calls Tryz.prog 43 #[.bool b] w fun e w' => e = .returned (.int .i64 (if b then 1 else 0)) ∧ w = w' := by
  cases b
  all_goals
    go_enter Tryz.func43, Tryz.ntmps43
    go_wp2
    go_ret
    exact ⟨rfl, rfl⟩
end Go.Proofs.YtjhmbbioplhcgaaGreatDoor

namespace Go.Proofs.YtjhmbbioplhcgaaGreatDoor
open Go.RowKit

/-- The lowest k bits of a word, as a count. -/
def lowTo (r : BitVec 64) (k : Nat) : Nat := r.toNat % 2 ^ k
namespace Mv
theorem succ (r : BitVec 64) (k : Nat) : lowTo r (k + 1) = lowTo r k + bt r k * 2 ^ k := Ad.split ..
theorem lt (r : BitVec 64) (k : Nat) : lowTo r k < 2 ^ k := Nat.mod_lt _ (Nat.two_pow_pos k)
theorem step (r : BitVec 64) (k n : Nat) (h : k < 64) (hn : bt r k = n) : bits .or .u64 (lowTo r k : Int) (IntKind.u64.wrap ((n : Int) * 2 ^ k)) = (lowTo r (k + 1) : Int) := by
  have hp := Ad.pow_le h
  have hs := lt r k
  have h1 := bt_le r k
  have hb : bt r k * 2 ^ k ≤ 2 ^ k := by
    calc bt r k * 2 ^ k ≤ 1 * 2 ^ k := Nat.mul_le_mul_right _ h1
      _ = 2 ^ k := Nat.one_mul _
  have e : (n : Int) * 2 ^ k = ((bt r k * 2 ^ k : Nat) : Int) := by rw [Int.natCast_mul, Int.natCast_pow, hn]; rfl
  rw [e, Pw.wrapN _ (by omega), Ad.or_u64 _ _ (by omega) (by omega), or_bit _ _ _ hs, ← succ]
theorem zero (r : BitVec 64) (k : Nat) (h : k < 64) (hn : bt r k = 0) : bits .or .u64 (lowTo r k : Int) 0 = (lowTo r (k + 1) : Int) := by
  have e := step r k 0 h hn
  rw [show IntKind.u64.wrap (((0 : Nat) : Int) * 2 ^ k) = 0 from by rw [show ((0 : Nat) : Int) = 0 from rfl, Int.zero_mul]; rfl] at e
  exact e
theorem full (r : BitVec 64) : wrap64 (lowTo r 64 : Int) = r.toInt := by
  unfold lowTo
  rw [Nat.mod_eq_of_lt r.isLt, wrap64_bv, bv_toNat]
theorem up_bit (x : BitVec 64) (m k : Nat) (hk : k < 64) : bt (x <<< m) k = if m ≤ k then bt x (k - m) else 0 := by
  rw [bt_lsb, BitVec.getLsbD_shiftLeft]
  by_cases h : m ≤ k
  · rw [if_pos h, bt_lsb]; simp [hk, Nat.not_lt.2 h]
  · rw [if_neg h]; simp [Nat.lt_of_not_le h]
theorem down_bit (x : BitVec 64) (m k : Nat) (_hk : k < 64) : bt (x >>> m) k = if k + m < 64 then bt x (k + m) else 0 := by
  rw [bt_lsb, BitVec.getLsbD_ushiftRight]
  by_cases h : k + m < 64
  · rw [if_pos h, bt_lsb, Nat.add_comm]
  · rw [if_neg h, BitVec.getLsbD_of_ge _ _ (by omega)]; rfl
theorem sown_bit (x : BitVec 64) (m k : Nat) (hk : k < 64) : bt (x.sshiftRight m) k = if k + m < 64 then bt x (k + m) else bt x 63 := by
  rw [bt_lsb, BitVec.getLsbD_sshiftRight]
  by_cases h : k + m < 64
  · rw [if_pos h, bt_lsb, Nat.add_comm k m]; simp [Nat.not_le.2 hk, show m + k < 64 by omega]
  · rw [if_neg h, bt_lsb]; simp [Nat.not_le.2 hk, show ¬ m + k < 64 by omega, BitVec.msb_eq_getLsbD_last]
end Mv

set_option maxHeartbeats 2000000 in
theorem moved_up (a : Int) (m : Nat) (w : World) (hm : m < 64) :
    Calls Tryz.prog 41 #[.int .i64 a, .bool true, .int .u64 0, .int .i64 m] w fun e w' => e = .returned (.int .i64 (opI 11 a m)) ∧ w = w' := by
  have hr : opI 11 a m = (bv a <<< m).toInt := by
    show (bv a <<< ((bv (m : Int)).toNat % 64)).toInt = _
    rw [Pw.toNat_bv m (by omega), Nat.mod_eq_of_lt hm]
  rw [hr, ← Mv.full]
  have bits1 := fun k hk => Mv.up_bit (bv a) m k hk
  generalize bv a <<< m = r at *
  have BT := Lib.hid bits1; clear bits1 hr
  go_enter Tryz.func41, Tryz.ntmps41
  go_wp2
  go_loop [9, 10] (fun s i => ∃ k : Nat, k ≤ 64 ∧ i = .int .i64 k ∧ s = .int .u64 (lowTo r k : Nat)) (fun _ i => 64 - (intOf i).toNat)
  case atStart => exact ⟨0, Nat.zero_le _, rfl, by simp [lowTo, Nat.mod_one]⟩
  case round =>
    obtain ⟨k, hk, rfl, rfl⟩ := hrel
    by_cases hlt : k < 64
    · by_cases hc : m ≤ k
      · have hb := BT.out k hlt
        rw [if_pos hc] at hb
        have HS := Lib.hid (Mv.step r k _ hlt hb)
        clear hb BT
        have f1 : (0 : Int) ≤ (k : Int) - (m : Int) := by omega
        have f2 : (k : Int) - (m : Int) < 64 := by omega
        have f3 : ((k : Int) - (m : Int)).toNat = k - m := by omega
        have F3 := Lib.hid f3; clear f3
        go_wp2_with (go_at_call 42; refine (bit_any _ _ _ f1 f2).mono ?_; rw [F3.out]; rintro e w' ⟨rfl, rfl⟩)
        rw [HS.out]
        go_round
        case rel => exact ⟨k + 1, by omega, by go_num, rfl⟩
        case measure => simp [intOf]; omega
      · have hb := BT.out k hlt
        rw [if_neg hc] at hb
        have HS := Lib.hid (Mv.zero r k hlt hb)
        clear hb BT
        have f1 : (k : Int) - (m : Int) < 0 := by omega
        go_wp2
        rw [HS.out]
        go_round
        case rel => exact ⟨k + 1, by omega, by go_num, rfl⟩
        case measure => simp [intOf]; omega
    · have hk' : k = 64 := by omega
      subst hk'
      go_wp2
      go_ret
      exact ⟨rfl, rfl⟩

set_option maxHeartbeats 400000 in
theorem moved_down (a : Int) (r : BitVec 64) (m f : Nat) (w : World) (hm : m < 64) (bits1 : ∀ k, k < 64 → bt r k = if k + m < 64 then bt (bv a) (k + m) else f) :
    Calls Tryz.prog 41 #[.int .i64 a, .bool false, .int .u64 f, .int .i64 m] w fun e w' => e = .returned (.int .i64 (wrap64 (lowTo r 64 : Int))) ∧ w = w' := by
  have BT := Lib.hid bits1; clear bits1
  go_enter Tryz.func41, Tryz.ntmps41
  go_wp2
  go_loop [9, 10] (fun s i => ∃ k : Nat, k ≤ 64 ∧ i = .int .i64 k ∧ s = .int .u64 (lowTo r k : Nat)) (fun _ i => 64 - (intOf i).toNat)
  case atStart => exact ⟨0, Nat.zero_le _, rfl, by simp [lowTo, Nat.mod_one]⟩
  case round =>
    obtain ⟨k, hk, rfl, rfl⟩ := hrel
    by_cases hlt : k < 64
    · by_cases hc : k + m < 64
      · have hb := BT.out k hlt
        rw [if_pos hc] at hb
        have HS := Lib.hid (Mv.step r k _ hlt hb)
        clear hb BT
        have f1 : (0 : Int) ≤ (k : Int) + (m : Int) := by omega
        have f2 : (k : Int) + (m : Int) < 64 := by omega
        have f3 : ((k : Int) + (m : Int)).toNat = k + m := by omega
        have F3 := Lib.hid f3; clear f3
        go_wp2_with (go_at_call 42; refine (bit_any _ _ _ f1 f2).mono ?_; rw [F3.out]; rintro e w' ⟨rfl, rfl⟩)
        rw [HS.out]
        go_round
        case rel => exact ⟨k + 1, by omega, by go_num, rfl⟩
        case measure => simp [intOf]; omega
      · have hb := BT.out k hlt
        rw [if_neg hc] at hb
        have HS := Lib.hid (Mv.step r k _ hlt hb)
        clear hb BT
        have f1 : 64 ≤ (k : Int) + (m : Int) := by omega
        have f0 : (0 : Int) ≤ (k : Int) + (m : Int) := by omega
        clear hc
        go_wp2
        rw [HS.out]
        go_round
        case rel => exact ⟨k + 1, by omega, by go_num, rfl⟩
        case measure => simp [intOf]; omega
    · have hk' : k = 64 := by omega
      subst hk'
      go_wp2
      go_ret
      exact ⟨rfl, rfl⟩
theorem moved_shr (a : Int) (m : Nat) (w : World) (hm : m < 64) :
    Calls Tryz.prog 41 #[.int .i64 a, .bool false, .int .u64 0, .int .i64 m] w fun e w' => e = .returned (.int .i64 (opI 12 a m)) ∧ w = w' := by
  have hr : opI 12 a m = (bv a >>> m).toInt := by
    show (bv a >>> ((bv (m : Int)).toNat % 64)).toInt = _
    rw [Pw.toNat_bv m (by omega), Nat.mod_eq_of_lt hm]
  rw [hr, ← Mv.full]
  exact moved_down a _ m 0 w hm (fun k hk => Mv.down_bit (bv a) m k hk)
theorem moved_sar (a : Int) (m : Nat) (w : World) (hm : m < 64) :
    Calls Tryz.prog 41 #[.int .i64 a, .bool false, .int .u64 (bt (bv a) 63 : Nat), .int .i64 m] w fun e w' => e = .returned (.int .i64 (opI 13 a m)) ∧ w = w' := by
  have hr : opI 13 a m = ((bv a).sshiftRight m).toInt := by
    show ((bv a).sshiftRight ((bv (m : Int)).toNat % 64)).toInt = _
    rw [Pw.toNat_bv m (by omega), Nat.mod_eq_of_lt hm]
  rw [hr, ← Mv.full]
  exact moved_down a _ m _ w hm (fun k hk => Mv.sown_bit (bv a) m k hk)
end Go.Proofs.YtjhmbbioplhcgaaGreatDoor

namespace Go.Proofs.YtjhmbbioplhcgaaGreatDoor
open Go.RowKit

/-- What is left, and the quotient, of the upper bits from the j-th on. -/
def remTo (x y : BitVec 64) (j : Nat) : Nat := x.toNat / 2 ^ j % y.toNat
def quoTo (x y : BitVec 64) (j : Nat) : Nat := x.toNat / 2 ^ j / y.toNat * 2 ^ j
/-- What is left, moved up by one, with the next bit. -/
def midTo (x y : BitVec 64) (m : Nat) : Nat := 2 * remTo x y (m + 1) + bt x m
def remI (x y : BitVec 64) (j : Nat) : Int := (BitVec.ofNat 64 (remTo x y j)).toInt
def midI (x y : BitVec 64) (m : Nat) : Int := (BitVec.ofNat 64 (midTo x y m)).toInt
namespace Dv
theorem half (x : BitVec 64) (m : Nat) : x.toNat / 2 ^ m = 2 * (x.toNat / 2 ^ (m + 1)) + bt x m := Bl.split ..
theorem rem_lt {x y : BitVec 64} (h : 0 < y.toNat) (j : Nat) : remTo x y j < y.toNat := Nat.mod_lt _ h
theorem mid_lt {x y : BitVec 64} (h : 0 < y.toNat) (m : Nat) : midTo x y m < 2 * y.toNat := by
  have h1 := rem_lt (x := x) h (m + 1)
  have h2 := bt_le x m
  unfold midTo; omega
theorem eucl (x y : BitVec 64) (m : Nat) : x.toNat / 2 ^ m = y.toNat * (2 * (x.toNat / 2 ^ (m + 1) / y.toNat)) + midTo x y m := by
  have h1 := Nat.div_add_mod (x.toNat / 2 ^ (m + 1)) y.toNat
  have h2 := half x m
  unfold midTo remTo
  rw [Nat.mul_left_comm]
  generalize x.toNat / 2 ^ (m + 1) = A at *
  generalize y.toNat * (A / y.toNat) = t at *
  omega
theorem over {x y : BitVec 64} (h : 0 < y.toNat) {m : Nat} (g : y.toNat ≤ midTo x y m) : remTo x y m = midTo x y m - y.toNat ∧ quoTo x y m = quoTo x y (m + 1) + 2 ^ m := by
  have hl := mid_lt (x := x) h m
  have e : x.toNat / 2 ^ m = (midTo x y m - y.toNat) + y.toNat * (2 * (x.toNat / 2 ^ (m + 1) / y.toNat) + 1) := by
    have := eucl x y m
    rw [Nat.mul_add, Nat.mul_one]; omega
  constructor
  · unfold remTo
    rw [e, Nat.add_mul_mod_self_left, Nat.mod_eq_of_lt (by omega)]
  · unfold quoTo
    rw [e, Nat.add_mul_div_left _ _ h, Nat.div_eq_of_lt (by omega), Nat.zero_add, Nat.add_mul, Nat.one_mul, Nat.pow_succ, Nat.mul_comm 2, Nat.mul_assoc, Nat.mul_comm 2]
theorem under {x y : BitVec 64} (h : 0 < y.toNat) {m : Nat} (g : midTo x y m < y.toNat) : remTo x y m = midTo x y m ∧ quoTo x y m = quoTo x y (m + 1) := by
  have e : x.toNat / 2 ^ m = midTo x y m + y.toNat * (2 * (x.toNat / 2 ^ (m + 1) / y.toNat)) := by
    have := eucl x y m
    omega
  constructor
  · unfold remTo
    rw [e, Nat.add_mul_mod_self_left, Nat.mod_eq_of_lt g]
  · unfold quoTo
    rw [e, Nat.add_mul_div_left _ _ h, Nat.div_eq_of_lt g, Nat.zero_add, Nat.pow_succ, Nat.mul_comm 2, Nat.mul_assoc, Nat.mul_comm 2]
theorem quo_le (x y : BitVec 64) (j : Nat) : quoTo x y j < 18446744073709551616 := by
  have h1 : x.toNat / 2 ^ j / y.toNat * 2 ^ j ≤ x.toNat / 2 ^ j * 2 ^ j := Nat.mul_le_mul_right _ (Nat.div_le_self _ _)
  have h2 : x.toNat / 2 ^ j * 2 ^ j ≤ x.toNat := Nat.div_mul_le_self _ _
  have h3 := x.isLt
  unfold quoTo; omega
/-- The top bit of what is left, asked. -/
theorem top {x y : BitVec 64} (h : 0 < y.toNat) (j : Nat) : bt (bv (remI x y j)) 63 = remTo x y j / 9223372036854775808 % 2 := by
  have h1 := rem_lt (x := x) h j
  have h2 := y.isLt
  have e : remTo x y j % 2 ^ 64 = remTo x y j := Nat.mod_eq_of_lt (by omega)
  unfold bt remI
  rw [bv_toInt, BitVec.toNat_ofNat, e]
theorem mid_word (x y : BitVec 64) (m : Nat) (h : 0 < y.toNat) : wrap64 (bits .or .u64 (IntKind.u64.wrap (IntKind.u64.wrap (remI x y (m + 1)) * 2)) (bt x m : Int)) = midI x y m := by
  have h1 := rem_lt (x := x) h (m + 1)
  have h2 := y.isLt
  have h3 := bt_le x m
  have er : IntKind.u64.wrap (remI x y (m + 1)) = (remTo x y (m + 1) : Int) := by
    unfold remI
    rw [u64_bv, bv_toInt, BitVec.toNat_ofNat, Nat.mod_eq_of_lt (by omega)]
  rw [er]
  unfold midI
  have e : IntKind.u64.wrap ((remTo x y (m + 1) : Int) * 2) = ((2 * remTo x y (m + 1) % 18446744073709551616 : Nat) : Int) := by
    rw [IntKind.wrap_u64]; omega
  have ev : 2 * remTo x y (m + 1) % 18446744073709551616 = 2 * (remTo x y (m + 1) % 9223372036854775808) := by omega
  rw [e, ev, Ad.or_u64 _ _ (by omega) (by omega), wrap64_bv]
  refine congrArg BitVec.toInt ?_
  apply BitVec.eq_of_toNat_eq
  have o : (2 * (remTo x y (m + 1) % 9223372036854775808)) ||| bt x m = 2 * (remTo x y (m + 1) % 9223372036854775808) + bt x m := by
    have := Nat.two_pow_add_eq_or_of_lt (i := 1) (show bt x m < 2 ^ 1 by omega) (remTo x y (m + 1) % 9223372036854775808)
    rw [Nat.pow_one] at this
    exact this.symm
  rw [o, Pw.toNat_bv _ (by omega), BitVec.toNat_ofNat]
  unfold midTo
  omega
theorem sub_word {x : BitVec 64} {b : Int} {m : Nat} (h : 0 < (bv b).toNat) (g : (bv b).toNat ≤ midTo x (bv b) m) : opI 1 (midI x (bv b) m) (opI 2 0 b) = remI x (bv b) m := by
  show (bv (midI x (bv b) m) + bv (opI 2 0 b)).toInt = _
  rw [bv_opI]
  unfold midI remI
  rw [bv_toInt, (over h g).1]
  refine congrArg BitVec.toInt ?_
  show _ + (0#64 - bv b) = _
  apply BitVec.eq_of_toNat_eq
  have h2 := (bv b).isLt
  have h3 := mid_lt (x := x) h m
  rw [BitVec.zero_sub, BitVec.toNat_add, BitVec.toNat_neg, BitVec.toNat_ofNat, BitVec.toNat_ofNat]
  omega
theorem or_word {x y : BitVec 64} {m : Nat} (hm : m < 64) (h : 0 < y.toNat) (g : y.toNat ≤ midTo x y m) : bits .or .u64 (quoTo x y (m + 1) : Int) (IntKind.u64.wrap (2 ^ m)) = (quoTo x y m : Int) := by
  have hp := Ad.pow_le hm
  rw [two_pow_bv, Pw.wrapN _ (by omega), Ad.or_u64 _ _ (quo_le ..) (by omega), (over h g).2]
  congr 1
  unfold quoTo
  have ho := Nat.two_pow_add_eq_or_of_lt (i := m + 1) (show 2 ^ m < 2 ^ (m + 1) by rw [Nat.pow_succ]; have := Nat.two_pow_pos m; omega) (x.toNat / 2 ^ (m + 1) / y.toNat)
  rw [Nat.mul_comm]
  exact ho.symm
theorem ult_mid {x : BitVec 64} {b : Int} {m : Nat} (g : midTo x (bv b) m < 18446744073709551616) : ultI (midI x (bv b) m) b = decide (midTo x (bv b) m < (bv b).toNat) := by
  unfold ultI midI
  rw [bv_toInt, BitVec.ult, BitVec.toNat_ofNat, Nat.mod_eq_of_lt g]
theorem starts (x y : BitVec 64) : remI x y 64 = 0 ∧ quoTo x y 64 = 0 := by
  have e : x.toNat / 2 ^ 64 = 0 := Nat.div_eq_of_lt x.isLt
  unfold remI remTo quoTo
  rw [e]
  constructor
  · rw [Nat.zero_mod]; rfl
  · rw [Nat.zero_div, Nat.zero_mul]
theorem pos {b : Int} (h : ¬ bv b = 0) : 0 < (bv b).toNat := Nat.pos_of_ne_zero fun e => h (BitVec.eq_of_toNat_eq e)
theorem quo_end {a b : Int} (h : ¬ bv b = 0) : wrap64 (quoTo (bv a) (bv b) 0 : Int) = opI 6 a b := by
  have e6 : opB 6 (bv a) (bv b) = bv a / bv b := if_neg h
  show _ = (opB 6 (bv a) (bv b)).toInt
  rw [e6, wrap64_bv]
  refine congrArg BitVec.toInt (BitVec.eq_of_toNat_eq ?_)
  rw [Pw.toNat_bv _ (quo_le ..), BitVec.toNat_udiv]
  unfold quoTo
  rw [Nat.pow_zero, Nat.div_one, Nat.mul_one]
theorem rem_end {a b : Int} (h : ¬ bv b = 0) : remI (bv a) (bv b) 0 = opI 7 a b := by
  have e7 : opB 7 (bv a) (bv b) = bv a % bv b := if_neg h
  show _ = (opB 7 (bv a) (bv b)).toInt
  rw [e7]
  refine congrArg BitVec.toInt (BitVec.eq_of_toNat_eq ?_)
  have hl := rem_lt (x := bv a) (pos h) 0
  have h2 := (bv b).isLt
  rw [BitVec.toNat_ofNat, Nat.mod_eq_of_lt (by omega), BitVec.toNat_umod]
  unfold remTo
  rw [Nat.pow_zero, Nat.div_one]
end Dv
theorem ret_two {a b c d : Int} (h : a = b) (g : c = d) : Ending.returned (.tuple #[.int .i64 a, .int .i64 c]) = .returned (.tuple #[.int .i64 b, .int .i64 d]) := by rw [h, g]

set_option maxHeartbeats 2000000 in
theorem refdivide_any (a b : Int) (w : World) (h0 : ¬ bv b = 0) :
    Calls Tryz.prog 57 #[.int .i64 a, .int .i64 b] w fun e w' => e = .returned (.tuple #[.int .i64 (opI 6 a b), .int .i64 (opI 7 a b)]) ∧ w = w' := by
  have hp := Dv.pos h0
  have HQ := Lib.hid (Dv.quo_end (a := a) h0)
  have HR := Lib.hid (Dv.rem_end (a := a) h0)
  have HP := Lib.hid hp
  clear hp h0
  obtain ⟨g1, g2⟩ := Dv.starts (bv a) (bv b)
  have G1 := Lib.hid g1; clear g1
  have G2 := Lib.hid g2; clear g2
  go_enter Tryz.func57, Tryz.ntmps57
  go_wp2
  go_loop [6, 7, 8] (fun q r i => ∃ j : Nat, j ≤ 64 ∧ i = .int .i64 ((j : Int) - 1) ∧ q = .int .u64 (quoTo (bv a) (bv b) j : Nat) ∧ r = .int .i64 (remI (bv a) (bv b) j)) (fun _ _ i => (intOf i + 1).toNat)
  case atStart => exact ⟨64, Nat.le_refl _, rfl, by rw [G2.out]; rfl, by rw [G1.out]⟩
  case round =>
    obtain ⟨j, hj, rfl, rfl, rfl⟩ := hrel
    cases j with
    | zero =>
      rw [show ((0 : Nat) : Int) - 1 = -1 from rfl]
      go_wp2
      go_ret2
      exact ⟨ret_two HQ.out HR.out, rfl⟩
    | succ m =>
      rw [show ((m + 1 : Nat) : Int) - 1 = (m : Int) from by omega]
      have hm : m < 64 := by omega
      clear HQ HR G1 G2
      have M := Dv.mid_word (bv a) (bv b) m HP.out
      have ht := Dv.top (x := bv a) HP.out (m + 1)
      have hrl := Dv.rem_lt (x := bv a) HP.out (m + 1)
      have hml := Dv.mid_lt (x := bv a) HP.out m
      have hbl := (bv b).isLt
      have hmd : midTo (bv a) (bv b) m = 2 * remTo (bv a) (bv b) (m + 1) + bt (bv a) m := rfl
      have hb1 := bt_le (bv a) m
      by_cases hc : (bv b).toNat ≤ midTo (bv a) (bv b) m
      · have S := Lib.hid (Dv.sub_word HP.out hc)
        have O := Lib.hid (Dv.or_word hm HP.out hc)
        by_cases t : bt (bv (remI (bv a) (bv b) (m + 1))) 63 = 1
        · have t1 := eq_nat t
          clear t ht hrl hml hbl hmd hb1 hc HP
          go_wp2_with (first | (go_at_call 42; refine (bit_any _ _ _ (by omega) (by omega)).mono ?_; rintro e w' ⟨rfl, rfl⟩) | (go_at_call 37; refine (refadd_any _ _ _).mono ?_; rintro e w' ⟨rfl, rfl⟩) | (go_at_call 38; refine (refneg_any _ _).mono ?_; rintro e w' ⟨rfl, rfl⟩) | (go_at_call 44; refine (refbelow_any _ _ _).mono ?_; rintro e w' ⟨rfl, rfl⟩))
          rw [O.out, S.out]
          go_round
          case rel => exact ⟨m, by omega, rfl, rfl, rfl⟩
          case measure => simp [intOf]
        · have u := Dv.ult_mid (x := bv a) (b := b) (m := m) (by omega)
          rw [decide_eq_false (by omega)] at u
          have t1 := ne_nat t
          clear t ht hrl hml hbl hmd hb1 hc HP
          go_wp2_with (first | (go_at_call 42; refine (bit_any _ _ _ (by omega) (by omega)).mono ?_; rintro e w' ⟨rfl, rfl⟩) | (go_at_call 37; refine (refadd_any _ _ _).mono ?_; rintro e w' ⟨rfl, rfl⟩) | (go_at_call 38; refine (refneg_any _ _).mono ?_; rintro e w' ⟨rfl, rfl⟩) | (go_at_call 44; refine (refbelow_any _ _ _).mono ?_; rintro e w' ⟨rfl, rfl⟩))
          rw [O.out, S.out]
          go_round
          case rel => exact ⟨m, by omega, rfl, rfl, rfl⟩
          case measure => simp [intOf]
      · obtain ⟨n1, n2⟩ := Dv.under (x := bv a) HP.out (Nat.lt_of_not_le hc)
        have u := Dv.ult_mid (x := bv a) (b := b) (m := m) (by omega)
        rw [decide_eq_true (by omega)] at u
        have t : ¬ bt (bv (remI (bv a) (bv b) (m + 1))) 63 = 1 := by omega
        have t1 := ne_nat t
        have N1 : Hid (midI (bv a) (bv b) m = remI (bv a) (bv b) m) := by unfold midI remI; rw [n1]; rfl
        have N2 := Lib.hid n2
        clear n1 n2 t ht hrl hml hbl hmd hb1 hc HP
        go_wp2_with (first | (go_at_call 42; refine (bit_any _ _ _ (by omega) (by omega)).mono ?_; rintro e w' ⟨rfl, rfl⟩) | (go_at_call 37; refine (refadd_any _ _ _).mono ?_; rintro e w' ⟨rfl, rfl⟩) | (go_at_call 38; refine (refneg_any _ _).mono ?_; rintro e w' ⟨rfl, rfl⟩) | (go_at_call 44; refine (refbelow_any _ _ _).mono ?_; rintro e w' ⟨rfl, rfl⟩))
        rw [N1.out, ← N2.out]
        go_round
        case rel => exact ⟨m, by omega, rfl, rfl, rfl⟩
        case measure => simp [intOf]
end Go.Proofs.YtjhmbbioplhcgaaGreatDoor

namespace Go.Proofs.YtjhmbbioplhcgaaGreatDoor
open Go.RowKit

namespace Sg
theorem bv_neg0 (a : Int) : bv (opI 2 0 a) = - bv a := by
  rw [bv_opI]
  show 0#64 - bv a = _
  rw [BitVec.zero_sub]
theorem neg_ne {b : Int} (h : ¬ bv b = 0) : ¬ bv (opI 2 0 b) = 0 := by
  rw [bv_neg0]
  intro e
  apply h
  have := congrArg (fun x => - x) e
  simp only [BitVec.neg_neg] at this
  rw [this]; rfl
theorem op6 {a b : Int} (h : ¬ bv b = 0) : opI 6 a b = (bv a / bv b).toInt := congrArg BitVec.toInt (if_neg h)
theorem op7 {a b : Int} (h : ¬ bv b = 0) : opI 7 a b = (bv a % bv b).toInt := congrArg BitVec.toInt (if_neg h)
theorem op4 {a b : Int} (h : ¬ bv b = 0) : opI 4 a b = ((bv a).sdiv (bv b)).toInt := congrArg BitVec.toInt (if_neg h)
theorem op5 {a b : Int} (h : ¬ bv b = 0) : opI 5 a b = ((bv a).srem (bv b)).toInt := congrArg BitVec.toInt (if_neg h)
theorem msb_yes {a : Int} (ha : InR a) (h : a < 0) : (bv a).msb = true := by
  rw [BitVec.msb_eq_toInt, toInt_bv ha]; simpa using h
theorem msb_no {a : Int} (ha : InR a) (h : ¬ a < 0) : (bv a).msb = false := by
  rw [BitVec.msb_eq_toInt, toInt_bv ha]; simpa using h
theorem neg_op (k a b : Int) : opI 2 0 (opI k a b) = (- bv (opI k a b)).toInt := by
  show (bv 0 - bv (opI k a b)).toInt = _
  refine congrArg BitVec.toInt ?_
  show 0#64 - _ = _
  rw [BitVec.zero_sub]
theorem pp {a b : Int} (ha : InR a) (hb : InR b) (h : ¬ bv b = 0) (a0 : ¬ a < 0) (b0 : ¬ b < 0) : opI 6 a b = opI 4 a b ∧ opI 7 a b = opI 5 a b := by
  rw [op6 h, op7 h, op4 h, op5 h, BitVec.sdiv_eq, BitVec.srem_eq, msb_no ha a0, msb_no hb b0]
  exact ⟨rfl, rfl⟩
theorem pm {a b : Int} (ha : InR a) (hb : InR b) (h : ¬ bv b = 0) (a0 : ¬ a < 0) (b0 : b < 0) : opI 2 0 (opI 6 a (opI 2 0 b)) = opI 4 a b ∧ opI 7 a (opI 2 0 b) = opI 5 a b := by
  rw [neg_op, op6 (neg_ne h), op7 (neg_ne h), op4 h, op5 h, BitVec.sdiv_eq, BitVec.srem_eq, msb_no ha a0, msb_yes hb b0, bv_neg0, bv_toInt]
  exact ⟨rfl, rfl⟩
theorem mp {a b : Int} (ha : InR a) (hb : InR b) (h : ¬ bv b = 0) (a0 : a < 0) (b0 : ¬ b < 0) : opI 2 0 (opI 6 (opI 2 0 a) b) = opI 4 a b ∧ opI 2 0 (opI 7 (opI 2 0 a) b) = opI 5 a b := by
  rw [neg_op, neg_op, op6 h, op7 h, op4 h, op5 h, BitVec.sdiv_eq, BitVec.srem_eq, msb_yes ha a0, msb_no hb b0, bv_neg0, bv_toInt, bv_toInt]
  exact ⟨rfl, rfl⟩
theorem mm {a b : Int} (ha : InR a) (hb : InR b) (h : ¬ bv b = 0) (a0 : a < 0) (b0 : b < 0) : opI 6 (opI 2 0 a) (opI 2 0 b) = opI 4 a b ∧ opI 2 0 (opI 7 (opI 2 0 a) (opI 2 0 b)) = opI 5 a b := by
  rw [neg_op, op6 (neg_ne h), op7 (neg_ne h), op4 h, op5 h, BitVec.sdiv_eq, BitVec.srem_eq, msb_yes ha a0, msb_yes hb b0, bv_neg0, bv_neg0, bv_toInt]
  exact ⟨rfl, rfl⟩
theorem low (k : Int) (hk : k = 11 ∨ k = 12 ∨ k = 13) (a x : Int) : opI k a (far x : Int) = opI k a x := by
  have hm : (bv (far x : Int)).toNat % 64 = far x := by
    have := far_lt x
    rw [Pw.toNat_bv (far x) (by omega), Nat.mod_eq_of_lt this]
  rcases hk with rfl | rfl | rfl
  · show (bv a <<< ((bv (far x : Int)).toNat % 64)).toInt = (bv a <<< (far x)).toInt
    rw [hm]
  · show (bv a >>> ((bv (far x : Int)).toNat % 64)).toInt = (bv a >>> (far x)).toInt
    rw [hm]
  · show ((bv a).sshiftRight ((bv (far x : Int)).toNat % 64)).toInt = ((bv a).sshiftRight (far x)).toInt
    rw [hm]
end Sg

set_option maxHeartbeats 2000000 in
theorem refsigned_any (a b : Int) (w : World) (ha : InR a) (hb : InR b) (h0 : ¬ bv b = 0) :
    Calls Tryz.prog 58 #[.int .i64 a, .int .i64 b] w fun e w' => e = .returned (.tuple #[.int .i64 (opI 4 a b), .int .i64 (opI 5 a b)]) ∧ w = w' := by
  have HN := Lib.hid (Sg.neg_ne h0)
  by_cases a0 : a < 0
  all_goals by_cases b0 : b < 0
  all_goals
    have E := Lib.hid (show _ ∧ _ from by first | exact Sg.mm ha hb h0 a0 b0 | exact Sg.mp ha hb h0 a0 b0 | exact Sg.pm ha hb h0 a0 b0 | exact Sg.pp ha hb h0 a0 b0)
    have H0 := Lib.hid h0
    clear h0 ha hb
    first
      | (have da : decide (a < 0) = false := decide_eq_false a0)
      | skip
    first
      | (have db : decide (b < 0) = false := decide_eq_false b0)
      | skip
    go_enter Tryz.func58, Tryz.ntmps58
    go_wp2_with (first | (go_at_call 38; refine (refneg_any _ _).mono ?_; rintro e w' ⟨rfl, rfl⟩) | (go_at_call 57; refine (refdivide_any _ _ _ (by first | exact H0.out | exact HN.out)).mono ?_; rintro e w' ⟨rfl, rfl⟩))
    go_ret2
    exact ⟨ret_two E.out.1 E.out.2, rfl⟩

set_option maxHeartbeats 1000000 in
theorem refquot_zero (op a b : Int) (w : World) (hb : b = 0) (h1 : (op == 4) = true ∨ (op == 4) = false ∧ (op == 6) = true ∨ (op == 4) = false ∧ (op == 6) = false) :
    Calls Tryz.prog 40 #[.int .u8 op, .int .i64 a, .int .i64 b] w fun e w' => e = .returned (.int .i64 (if op == 4 || op == 6 then -1 else a)) ∧ w = w' := by
  subst hb
  rcases h1 with h | ⟨h, g⟩ | ⟨h, g⟩
  all_goals
    first
      | rw [h, g]
      | rw [h]
    try simp only [Bool.true_or, Bool.or_true, Bool.or_false, Bool.false_eq_true, if_true, if_false]
    go_enter Tryz.func40, Tryz.ntmps40
    go_wp2
    go_ret
    exact ⟨rfl, rfl⟩
set_option maxHeartbeats 1000000 in
theorem refquot_4 (a b : Int) (w : World) (ha : InR a) (hb : InR b) (h0 : ¬ b = 0) :
    Calls Tryz.prog 40 #[.int .u8 4, .int .i64 a, .int .i64 b] w fun e w' => e = .returned (.int .i64 (opI 4 a b)) ∧ w = w' := by
  have H0 : Hid (¬ bv b = 0) := fun h => h0 ((bv_zero_iff hb).1 h)
  have hz : (b == 0) = false := beq_eq_false_iff_ne.2 h0
  clear h0
  go_enter Tryz.func40, Tryz.ntmps40
  go_wp2_with (first | (go_at_call 57; refine (refdivide_any _ _ _ H0.out).mono ?_; rintro e w' ⟨rfl, rfl⟩) | (go_at_call 58; refine (refsigned_any _ _ _ ha hb H0.out).mono ?_; rintro e w' ⟨rfl, rfl⟩))
  go_ret
  exact ⟨rfl, rfl⟩
theorem refquot4_any (a b : Int) (w : World) (ha : InR a) (hb : InR b) :
    Calls Tryz.prog 40 #[.int .u8 4, .int .i64 a, .int .i64 b] w fun e w' => e = .returned (.int .i64 (opI 4 a b)) ∧ w = w' := by
  by_cases h0 : b = 0
  · refine (refquot_zero 4 a b w h0 (by decide)).mono ?_
    rintro e w' ⟨rfl, rfl⟩
    have e0 : bv b = 0 := by rw [h0]; rfl
    have e : opB 4 (bv a) (bv b) = -1 := if_pos e0
    refine ⟨ret_i64 ?_, rfl⟩
    show _ = (opB 4 (bv a) (bv b)).toInt
    rw [e]
    rfl
  · exact refquot_4 a b w ha hb h0
set_option maxHeartbeats 1000000 in
theorem refquot_5 (a b : Int) (w : World) (ha : InR a) (hb : InR b) (h0 : ¬ b = 0) :
    Calls Tryz.prog 40 #[.int .u8 5, .int .i64 a, .int .i64 b] w fun e w' => e = .returned (.int .i64 (opI 5 a b)) ∧ w = w' := by
  have H0 : Hid (¬ bv b = 0) := fun h => h0 ((bv_zero_iff hb).1 h)
  have hz : (b == 0) = false := beq_eq_false_iff_ne.2 h0
  clear h0
  go_enter Tryz.func40, Tryz.ntmps40
  go_wp2_with (first | (go_at_call 57; refine (refdivide_any _ _ _ H0.out).mono ?_; rintro e w' ⟨rfl, rfl⟩) | (go_at_call 58; refine (refsigned_any _ _ _ ha hb H0.out).mono ?_; rintro e w' ⟨rfl, rfl⟩))
  go_ret
  exact ⟨rfl, rfl⟩
theorem refquot5_any (a b : Int) (w : World) (ha : InR a) (hb : InR b) :
    Calls Tryz.prog 40 #[.int .u8 5, .int .i64 a, .int .i64 b] w fun e w' => e = .returned (.int .i64 (opI 5 a b)) ∧ w = w' := by
  by_cases h0 : b = 0
  · refine (refquot_zero 5 a b w h0 (by decide)).mono ?_
    rintro e w' ⟨rfl, rfl⟩
    have e0 : bv b = 0 := by rw [h0]; rfl
    have e : opB 5 (bv a) (bv b) = bv a := if_pos e0
    refine ⟨ret_i64 ?_, rfl⟩
    show _ = (opB 5 (bv a) (bv b)).toInt
    rw [e]
    exact (toInt_bv ha).symm
  · exact refquot_5 a b w ha hb h0
set_option maxHeartbeats 1000000 in
theorem refquot_6 (a b : Int) (w : World) (ha : InR a) (hb : InR b) (h0 : ¬ b = 0) :
    Calls Tryz.prog 40 #[.int .u8 6, .int .i64 a, .int .i64 b] w fun e w' => e = .returned (.int .i64 (opI 6 a b)) ∧ w = w' := by
  have H0 : Hid (¬ bv b = 0) := fun h => h0 ((bv_zero_iff hb).1 h)
  have hz : (b == 0) = false := beq_eq_false_iff_ne.2 h0
  clear h0
  go_enter Tryz.func40, Tryz.ntmps40
  go_wp2_with (first | (go_at_call 57; refine (refdivide_any _ _ _ H0.out).mono ?_; rintro e w' ⟨rfl, rfl⟩) | (go_at_call 58; refine (refsigned_any _ _ _ ha hb H0.out).mono ?_; rintro e w' ⟨rfl, rfl⟩))
  go_ret
  exact ⟨rfl, rfl⟩
theorem refquot6_any (a b : Int) (w : World) (ha : InR a) (hb : InR b) :
    Calls Tryz.prog 40 #[.int .u8 6, .int .i64 a, .int .i64 b] w fun e w' => e = .returned (.int .i64 (opI 6 a b)) ∧ w = w' := by
  by_cases h0 : b = 0
  · refine (refquot_zero 6 a b w h0 (by decide)).mono ?_
    rintro e w' ⟨rfl, rfl⟩
    have e0 : bv b = 0 := by rw [h0]; rfl
    have e : opB 6 (bv a) (bv b) = -1 := if_pos e0
    refine ⟨ret_i64 ?_, rfl⟩
    show _ = (opB 6 (bv a) (bv b)).toInt
    rw [e]
    rfl
  · exact refquot_6 a b w ha hb h0
set_option maxHeartbeats 1000000 in
theorem refquot_7 (a b : Int) (w : World) (ha : InR a) (hb : InR b) (h0 : ¬ b = 0) :
    Calls Tryz.prog 40 #[.int .u8 7, .int .i64 a, .int .i64 b] w fun e w' => e = .returned (.int .i64 (opI 7 a b)) ∧ w = w' := by
  have H0 : Hid (¬ bv b = 0) := fun h => h0 ((bv_zero_iff hb).1 h)
  have hz : (b == 0) = false := beq_eq_false_iff_ne.2 h0
  clear h0
  go_enter Tryz.func40, Tryz.ntmps40
  go_wp2_with (first | (go_at_call 57; refine (refdivide_any _ _ _ H0.out).mono ?_; rintro e w' ⟨rfl, rfl⟩) | (go_at_call 58; refine (refsigned_any _ _ _ ha hb H0.out).mono ?_; rintro e w' ⟨rfl, rfl⟩))
  go_ret
  exact ⟨rfl, rfl⟩
theorem refquot7_any (a b : Int) (w : World) (ha : InR a) (hb : InR b) :
    Calls Tryz.prog 40 #[.int .u8 7, .int .i64 a, .int .i64 b] w fun e w' => e = .returned (.int .i64 (opI 7 a b)) ∧ w = w' := by
  by_cases h0 : b = 0
  · refine (refquot_zero 7 a b w h0 (by decide)).mono ?_
    rintro e w' ⟨rfl, rfl⟩
    have e0 : bv b = 0 := by rw [h0]; rfl
    have e : opB 7 (bv a) (bv b) = bv a := if_pos e0
    refine ⟨ret_i64 ?_, rfl⟩
    show _ = (opB 7 (bv a) (bv b)).toInt
    rw [e]
    exact (toInt_bv ha).symm
  · exact refquot_7 a b w ha hb h0
set_option maxHeartbeats 1000000 in
theorem refdo1 (a b : Int) (w : World) :
    Calls Tryz.prog 27 #[.int .u8 1, .int .i64 a, .int .i64 b] w fun e w' => e = .returned (.int .i64 (opI 1 a b)) ∧ w = w' := by
  have hf := and63 b
  have HF := Lib.hid (far_lt b)
  have hi := IntWalk.i64_in (far b : Int) ⟨by omega, by have := far_lt b; omega⟩
  go_enter Tryz.func27, Tryz.ntmps27
  go_wp2_with (go_at_call 37; refine (refadd_any _ _ _).mono ?_; rintro e w' ⟨rfl, rfl⟩)
  go_ret
  exact ⟨rfl, rfl⟩
set_option maxHeartbeats 1000000 in
theorem refdo2 (a b : Int) (w : World) :
    Calls Tryz.prog 27 #[.int .u8 2, .int .i64 a, .int .i64 b] w fun e w' => e = .returned (.int .i64 (opI 2 a b)) ∧ w = w' := by
  have E : Hid (opI 1 a (opI 2 0 b) = opI 2 a b) := by
    show (bv a + bv (opI 2 0 b)).toInt = (bv a - bv b).toInt
    rw [Sg.bv_neg0, BitVec.sub_eq_add_neg]
  have hf := and63 b
  have HF := Lib.hid (far_lt b)
  have hi := IntWalk.i64_in (far b : Int) ⟨by omega, by have := far_lt b; omega⟩
  go_enter Tryz.func27, Tryz.ntmps27
  go_wp2_with (first | (go_at_call 38; refine (refneg_any _ _).mono ?_; rintro e w' ⟨rfl, rfl⟩) | (go_at_call 37; refine (refadd_any _ _ _).mono ?_; rintro e w' ⟨rfl, rfl⟩))
  go_ret
  exact ⟨ret_i64 E.out, rfl⟩
set_option maxHeartbeats 1000000 in
theorem refdo3 (a b : Int) (w : World) :
    Calls Tryz.prog 27 #[.int .u8 3, .int .i64 a, .int .i64 b] w fun e w' => e = .returned (.int .i64 (opI 3 a b)) ∧ w = w' := by
  have hf := and63 b
  have HF := Lib.hid (far_lt b)
  have hi := IntWalk.i64_in (far b : Int) ⟨by omega, by have := far_lt b; omega⟩
  go_enter Tryz.func27, Tryz.ntmps27
  go_wp2_with (go_at_call 39; refine (refmul_any _ _ _).mono ?_; rintro e w' ⟨rfl, rfl⟩)
  go_ret
  exact ⟨rfl, rfl⟩
set_option maxHeartbeats 1000000 in
theorem refdo4 (a b : Int) (w : World) (ha : InR a) (hb : InR b) :
    Calls Tryz.prog 27 #[.int .u8 4, .int .i64 a, .int .i64 b] w fun e w' => e = .returned (.int .i64 (opI 4 a b)) ∧ w = w' := by
  have hf := and63 b
  have HF := Lib.hid (far_lt b)
  have hi := IntWalk.i64_in (far b : Int) ⟨by omega, by have := far_lt b; omega⟩
  go_enter Tryz.func27, Tryz.ntmps27
  go_wp2_with (go_at_call 40; refine (refquot4_any _ _ _ ha hb).mono ?_; rintro e w' ⟨rfl, rfl⟩)
  go_ret
  exact ⟨rfl, rfl⟩
set_option maxHeartbeats 1000000 in
theorem refdo5 (a b : Int) (w : World) (ha : InR a) (hb : InR b) :
    Calls Tryz.prog 27 #[.int .u8 5, .int .i64 a, .int .i64 b] w fun e w' => e = .returned (.int .i64 (opI 5 a b)) ∧ w = w' := by
  have hf := and63 b
  have HF := Lib.hid (far_lt b)
  have hi := IntWalk.i64_in (far b : Int) ⟨by omega, by have := far_lt b; omega⟩
  go_enter Tryz.func27, Tryz.ntmps27
  go_wp2_with (go_at_call 40; refine (refquot5_any _ _ _ ha hb).mono ?_; rintro e w' ⟨rfl, rfl⟩)
  go_ret
  exact ⟨rfl, rfl⟩
set_option maxHeartbeats 1000000 in
theorem refdo6 (a b : Int) (w : World) (ha : InR a) (hb : InR b) :
    Calls Tryz.prog 27 #[.int .u8 6, .int .i64 a, .int .i64 b] w fun e w' => e = .returned (.int .i64 (opI 6 a b)) ∧ w = w' := by
  have hf := and63 b
  have HF := Lib.hid (far_lt b)
  have hi := IntWalk.i64_in (far b : Int) ⟨by omega, by have := far_lt b; omega⟩
  go_enter Tryz.func27, Tryz.ntmps27
  go_wp2_with (go_at_call 40; refine (refquot6_any _ _ _ ha hb).mono ?_; rintro e w' ⟨rfl, rfl⟩)
  go_ret
  exact ⟨rfl, rfl⟩
set_option maxHeartbeats 1000000 in
theorem refdo7 (a b : Int) (w : World) (ha : InR a) (hb : InR b) :
    Calls Tryz.prog 27 #[.int .u8 7, .int .i64 a, .int .i64 b] w fun e w' => e = .returned (.int .i64 (opI 7 a b)) ∧ w = w' := by
  have hf := and63 b
  have HF := Lib.hid (far_lt b)
  have hi := IntWalk.i64_in (far b : Int) ⟨by omega, by have := far_lt b; omega⟩
  go_enter Tryz.func27, Tryz.ntmps27
  go_wp2_with (go_at_call 40; refine (refquot7_any _ _ _ ha hb).mono ?_; rintro e w' ⟨rfl, rfl⟩)
  go_ret
  exact ⟨rfl, rfl⟩
set_option maxHeartbeats 1000000 in
theorem refdo8 (a b : Int) (w : World) :
    Calls Tryz.prog 27 #[.int .u8 8, .int .i64 a, .int .i64 b] w fun e w' => e = .returned (.int .i64 (opI 8 a b)) ∧ w = w' := by
  have hf := and63 b
  have HF := Lib.hid (far_lt b)
  have hi := IntWalk.i64_in (far b : Int) ⟨by omega, by have := far_lt b; omega⟩
  go_enter Tryz.func27, Tryz.ntmps27
  go_wp2_with fail
  go_ret
  exact ⟨ret_i64 (and_i64 a b), rfl⟩
set_option maxHeartbeats 1000000 in
theorem refdo9 (a b : Int) (w : World) :
    Calls Tryz.prog 27 #[.int .u8 9, .int .i64 a, .int .i64 b] w fun e w' => e = .returned (.int .i64 (opI 9 a b)) ∧ w = w' := by
  have hf := and63 b
  have HF := Lib.hid (far_lt b)
  have hi := IntWalk.i64_in (far b : Int) ⟨by omega, by have := far_lt b; omega⟩
  go_enter Tryz.func27, Tryz.ntmps27
  go_wp2_with fail
  go_ret
  exact ⟨ret_i64 (or_i64 a b), rfl⟩
set_option maxHeartbeats 1000000 in
theorem refdo10 (a b : Int) (w : World) :
    Calls Tryz.prog 27 #[.int .u8 10, .int .i64 a, .int .i64 b] w fun e w' => e = .returned (.int .i64 (opI 10 a b)) ∧ w = w' := by
  have hf := and63 b
  have HF := Lib.hid (far_lt b)
  have hi := IntWalk.i64_in (far b : Int) ⟨by omega, by have := far_lt b; omega⟩
  go_enter Tryz.func27, Tryz.ntmps27
  go_wp2_with fail
  go_ret
  exact ⟨ret_i64 (xor_i64 a b), rfl⟩
set_option maxHeartbeats 1000000 in
theorem refdo11 (a b : Int) (w : World) :
    Calls Tryz.prog 27 #[.int .u8 11, .int .i64 a, .int .i64 b] w fun e w' => e = .returned (.int .i64 (opI 11 a b)) ∧ w = w' := by
  have E := Lib.hid (Sg.low 11 (by decide) a b)
  have hf := and63 b
  have HF := Lib.hid (far_lt b)
  have hi := IntWalk.i64_in (far b : Int) ⟨by omega, by have := far_lt b; omega⟩
  go_enter Tryz.func27, Tryz.ntmps27
  go_wp2_with (go_at_call 41; refine (moved_up _ _ _ HF.out).mono ?_; rintro e w' ⟨rfl, rfl⟩)
  go_ret
  exact ⟨ret_i64 E.out, rfl⟩
set_option maxHeartbeats 1000000 in
theorem refdo12 (a b : Int) (w : World) :
    Calls Tryz.prog 27 #[.int .u8 12, .int .i64 a, .int .i64 b] w fun e w' => e = .returned (.int .i64 (opI 12 a b)) ∧ w = w' := by
  have E := Lib.hid (Sg.low 12 (by decide) a b)
  have hf := and63 b
  have HF := Lib.hid (far_lt b)
  have hi := IntWalk.i64_in (far b : Int) ⟨by omega, by have := far_lt b; omega⟩
  go_enter Tryz.func27, Tryz.ntmps27
  go_wp2_with (go_at_call 41; refine (moved_shr _ _ _ HF.out).mono ?_; rintro e w' ⟨rfl, rfl⟩)
  go_ret
  exact ⟨ret_i64 E.out, rfl⟩
set_option maxHeartbeats 1000000 in
theorem refdo13 (a b : Int) (w : World) :
    Calls Tryz.prog 27 #[.int .u8 13, .int .i64 a, .int .i64 b] w fun e w' => e = .returned (.int .i64 (opI 13 a b)) ∧ w = w' := by
  have E := Lib.hid (Sg.low 13 (by decide) a b)
  have hf := and63 b
  have HF := Lib.hid (far_lt b)
  have hi := IntWalk.i64_in (far b : Int) ⟨by omega, by have := far_lt b; omega⟩
  go_enter Tryz.func27, Tryz.ntmps27
  go_wp2_with (first | (go_at_call 42; refine (bit_any _ _ _ (by omega) (by omega)).mono ?_; rintro e w' ⟨rfl, rfl⟩) | (go_at_call 41; refine (moved_sar _ _ _ HF.out).mono ?_; rintro e w' ⟨rfl, rfl⟩))
  go_ret
  exact ⟨ret_i64 E.out, rfl⟩
set_option maxHeartbeats 1000000 in
theorem refdo14 (a b : Int) (w : World) :
    Calls Tryz.prog 27 #[.int .u8 14, .int .i64 a, .int .i64 b] w fun e w' => e = .returned (.int .i64 (opI 14 a b)) ∧ w = w' := by
  have E : Hid ((if ultI (bits .xor .i64 a (-9223372036854775808)) (bits .xor .i64 b (-9223372036854775808)) then (1 : Int) else 0) = opI 14 a b) := by
    rw [opI_14, slt_low]
    unfold ultI
    rw [xor_i64, xor_i64, bv_toInt, bv_toInt]; rfl
  have hf := and63 b
  have HF := Lib.hid (far_lt b)
  have hi := IntWalk.i64_in (far b : Int) ⟨by omega, by have := far_lt b; omega⟩
  go_enter Tryz.func27, Tryz.ntmps27
  go_wp2_with (first | (go_at_call 44; refine (refbelow_any _ _ _).mono ?_; rintro e w' ⟨rfl, rfl⟩) | (go_at_call 43; refine (refone_any _ _).mono ?_; rintro e w' ⟨rfl, rfl⟩))
  all_goals go_ret
  all_goals first | exact ⟨ret_i64 ((if_pos ‹_›).symm.trans E.out), rfl⟩ | exact ⟨ret_i64 ((if_neg ‹_›).symm.trans E.out), rfl⟩
set_option maxHeartbeats 1000000 in
theorem refdo15 (a b : Int) (w : World) :
    Calls Tryz.prog 27 #[.int .u8 15, .int .i64 a, .int .i64 b] w fun e w' => e = .returned (.int .i64 (opI 15 a b)) ∧ w = w' := by
  have E : Hid ((if ultI a b then (1 : Int) else 0) = opI 15 a b) := by
    rw [opI_15]; rfl
  have hf := and63 b
  have HF := Lib.hid (far_lt b)
  have hi := IntWalk.i64_in (far b : Int) ⟨by omega, by have := far_lt b; omega⟩
  go_enter Tryz.func27, Tryz.ntmps27
  go_wp2_with (first | (go_at_call 44; refine (refbelow_any _ _ _).mono ?_; rintro e w' ⟨rfl, rfl⟩) | (go_at_call 43; refine (refone_any _ _).mono ?_; rintro e w' ⟨rfl, rfl⟩))
  all_goals go_ret
  all_goals first | exact ⟨ret_i64 ((if_pos ‹_›).symm.trans E.out), rfl⟩ | exact ⟨ret_i64 ((if_neg ‹_›).symm.trans E.out), rfl⟩
set_option maxHeartbeats 1000000 in
theorem refdo16 (a b : Int) (w : World) (ha : InR a) (hb : InR b) :
    Calls Tryz.prog 27 #[.int .u8 16, .int .i64 a, .int .i64 b] w fun e w' => e = .returned (.int .i64 (opI 16 a b)) ∧ w = w' := by
  have E : Hid ((a = b → opI 16 a b = 1) ∧ (¬ a = b → opI 16 a b = 0)) := by
    rw [opI_16]
    exact ⟨fun h => if_pos (by rw [h]), fun h => if_neg (fun e => h (bv_inj ha hb e))⟩
  have hf := and63 b
  have HF := Lib.hid (far_lt b)
  have hi := IntWalk.i64_in (far b : Int) ⟨by omega, by have := far_lt b; omega⟩
  go_enter Tryz.func27, Tryz.ntmps27
  go_wp2_with (first | (go_at_call 44; refine (refbelow_any _ _ _).mono ?_; rintro e w' ⟨rfl, rfl⟩) | (go_at_call 43; refine (refone_any _ _).mono ?_; rintro e w' ⟨rfl, rfl⟩))
  all_goals go_ret
  all_goals by_cases h' : a = b
  all_goals first
    | exact absurd ‹a = b› ‹¬ a = b›
    | exact ⟨ret_i64 ((E.out.1 h').symm.trans (by first | rfl | rw [h'])), rfl⟩
    | exact ⟨ret_i64 (E.out.2 h').symm, rfl⟩
set_option maxHeartbeats 1000000 in
theorem refdo_none (op a b : Int) (w : World) (hk : knownB op = false) :
    Calls Tryz.prog 27 #[.int .u8 op, .int .i64 a, .int .i64 b] w fun e w' => e = .returned (.int .i64 0) ∧ w = w' := by
  have e1 : (op == 1) = false := by simp only [beq_eq_false_iff_ne]; intro h; subst h; exact absurd hk (by decide)
  have e2 : (op == 2) = false := by simp only [beq_eq_false_iff_ne]; intro h; subst h; exact absurd hk (by decide)
  have e3 : (op == 3) = false := by simp only [beq_eq_false_iff_ne]; intro h; subst h; exact absurd hk (by decide)
  have e4 : (op == 4) = false := by simp only [beq_eq_false_iff_ne]; intro h; subst h; exact absurd hk (by decide)
  have e5 : (op == 5) = false := by simp only [beq_eq_false_iff_ne]; intro h; subst h; exact absurd hk (by decide)
  have e6 : (op == 6) = false := by simp only [beq_eq_false_iff_ne]; intro h; subst h; exact absurd hk (by decide)
  have e7 : (op == 7) = false := by simp only [beq_eq_false_iff_ne]; intro h; subst h; exact absurd hk (by decide)
  have e8 : (op == 8) = false := by simp only [beq_eq_false_iff_ne]; intro h; subst h; exact absurd hk (by decide)
  have e9 : (op == 9) = false := by simp only [beq_eq_false_iff_ne]; intro h; subst h; exact absurd hk (by decide)
  have e10 : (op == 10) = false := by simp only [beq_eq_false_iff_ne]; intro h; subst h; exact absurd hk (by decide)
  have e11 : (op == 11) = false := by simp only [beq_eq_false_iff_ne]; intro h; subst h; exact absurd hk (by decide)
  have e12 : (op == 12) = false := by simp only [beq_eq_false_iff_ne]; intro h; subst h; exact absurd hk (by decide)
  have e13 : (op == 13) = false := by simp only [beq_eq_false_iff_ne]; intro h; subst h; exact absurd hk (by decide)
  have e14 : (op == 14) = false := by simp only [beq_eq_false_iff_ne]; intro h; subst h; exact absurd hk (by decide)
  have e15 : (op == 15) = false := by simp only [beq_eq_false_iff_ne]; intro h; subst h; exact absurd hk (by decide)
  have e16 : (op == 16) = false := by simp only [beq_eq_false_iff_ne]; intro h; subst h; exact absurd hk (by decide)
  have HK := Lib.hid hk; clear hk
  have hf := and63 b
  have hi := IntWalk.i64_in (far b : Int) ⟨by omega, by have := far_lt b; omega⟩
  go_enter Tryz.func27, Tryz.ntmps27
  go_wp2
  go_ret
  exact ⟨rfl, rfl⟩
/-- The document's own Do, of any operation and any two numbers. -/
theorem refdo_any (op a b : Int) (w : World) (ha : InR a) (hb : InR b) :
    Calls Tryz.prog 27 #[.int .u8 op, .int .i64 a, .int .i64 b] w fun e w' => e = .returned (.int .i64 (opI op a b)) ∧ w = w' := by
  rcases op_cases op with rfl | rfl | rfl | rfl | rfl | rfl | rfl | rfl | rfl | rfl | rfl | rfl | rfl | rfl | rfl | rfl | hk
  · exact refdo1 a b w
  · exact refdo2 a b w
  · exact refdo3 a b w
  · exact refdo4 a b w ha hb
  · exact refdo5 a b w ha hb
  · exact refdo6 a b w ha hb
  · exact refdo7 a b w ha hb
  · exact refdo8 a b w
  · exact refdo9 a b w
  · exact refdo10 a b w
  · exact refdo11 a b w
  · exact refdo12 a b w
  · exact refdo13 a b w
  · exact refdo14 a b w
  · exact refdo15 a b w
  · exact refdo16 a b w ha hb
  · rw [opI_none op a b hk]
    exact refdo_none op a b w hk
end Go.Proofs.YtjhmbbioplhcgaaGreatDoor
