/-
  Layer 1, the document's own answers: sums, bit by bit: add and neg.
-/
import Derived.Test.YtfibonciioipnaaDoorBit
namespace Go.Proofs.YtfibonciioipnaaDoor
open Go.RowKit

/-- What of a sum stands after k bits, and what is carried. -/
def sumTo (x y : BitVec 64) (k : Nat) : Nat := (x.toNat + y.toNat) % 2 ^ k
def carTo (x y : BitVec 64) (k : Nat) : Nat := (x.toNat % 2 ^ k + y.toNat % 2 ^ k) / 2 ^ k
def nTo (x y : BitVec 64) (k : Nat) : Nat := bt x k + bt y k + carTo x y k
namespace Ad
theorem split (x k : Nat) : x % 2 ^ (k + 1) = x % 2 ^ k + x / 2 ^ k % 2 * 2 ^ k := by
  rw [Nat.pow_succ, Nat.mod_mul, Nat.mul_comm (2 ^ k)]
theorem div_sum (x y k : Nat) : (x + y) / 2 ^ k = x / 2 ^ k + y / 2 ^ k + (x % 2 ^ k + y % 2 ^ k) / 2 ^ k := by
  have hp := Nat.two_pow_pos k
  have h1 := Nat.div_add_mod x (2 ^ k)
  have h2 := Nat.div_add_mod y (2 ^ k)
  have e : x + y = 2 ^ k * (x / 2 ^ k + y / 2 ^ k) + (x % 2 ^ k + y % 2 ^ k) := by rw [Nat.mul_add]; omega
  calc (x + y) / 2 ^ k = (2 ^ k * (x / 2 ^ k + y / 2 ^ k) + (x % 2 ^ k + y % 2 ^ k)) / 2 ^ k := by rw [← e]
    _ = _ := by rw [Nat.mul_add_div hp]
theorem car_le (x y : BitVec 64) (k : Nat) : carTo x y k ≤ 1 := by
  have hp := Nat.two_pow_pos k
  unfold carTo
  have h1 := Nat.mod_lt x.toNat hp
  have h2 := Nat.mod_lt y.toNat hp
  exact Nat.le_of_lt_succ (Nat.div_lt_of_lt_mul (by omega))
theorem n_mod (x y : BitVec 64) (k : Nat) : (x.toNat + y.toNat) / 2 ^ k % 2 = nTo x y k % 2 := by
  rw [div_sum]; unfold nTo bt carTo; omega
theorem sum_succ (x y : BitVec 64) (k : Nat) : sumTo x y (k + 1) = sumTo x y k + nTo x y k % 2 * 2 ^ k := by
  unfold sumTo
  rw [split, n_mod]
theorem car_succ (x y : BitVec 64) (k : Nat) : carTo x y (k + 1) = nTo x y k / 2 := by
  unfold carTo nTo bt carTo
  rw [split, split, Nat.pow_succ, ← Nat.div_div_eq_div_mul]
  have hp := Nat.two_pow_pos k
  have e : x.toNat % 2 ^ k + x.toNat / 2 ^ k % 2 * 2 ^ k + (y.toNat % 2 ^ k + y.toNat / 2 ^ k % 2 * 2 ^ k) = 2 ^ k * (x.toNat / 2 ^ k % 2 + y.toNat / 2 ^ k % 2) + (x.toNat % 2 ^ k + y.toNat % 2 ^ k) := by
    rw [Nat.mul_add, Nat.mul_comm _ (2 ^ k), Nat.mul_comm _ (2 ^ k)]; omega
  rw [e, Nat.mul_add_div hp]
theorem sum_lt (x y : BitVec 64) (k : Nat) : sumTo x y k < 2 ^ k := Nat.mod_lt _ (Nat.two_pow_pos k)
theorem pow_le {k : Nat} (h : k < 64) : 2 ^ k ≤ 9223372036854775808 := Nat.pow_le_pow_right (n := 2) (by decide) (show k ≤ 63 by omega)
theorem sum_le (x y : BitVec 64) {k : Nat} (h : k ≤ 64) : sumTo x y k < 18446744073709551616 :=
  Nat.lt_of_lt_of_le (sum_lt x y k) (Nat.pow_le_pow_right (n := 2) (by decide) h)
theorem n_le (x y : BitVec 64) (k : Nat) : nTo x y k ≤ 3 := by
  have h1 := bt_le x k
  have h2 := bt_le y k
  have h3 := car_le x y k
  unfold nTo; omega
theorem or_u64 (a b : Nat) (ha : a < 18446744073709551616) (hb : b < 18446744073709551616) : bits .or .u64 (a : Int) (b : Int) = ((a ||| b : Nat) : Int) := by
  rw [Go.Proofs.YtfibonciioipnaaDoor.or_u64]
  rw [BitVec.toNat_or, Pw.toNat_bv a ha, Pw.toNat_bv b hb]
/-- The step of the sum, as the walk spells it. -/
theorem step (x y : BitVec 64) (k : Nat) (h : k < 64) : bits .or .u64 (sumTo x y k : Int) (IntKind.u64.wrap (((nTo x y k % 2 : Nat) : Int) * 2 ^ k)) = (sumTo x y (k + 1) : Int) := by
  have hp := pow_le h
  have hs := sum_lt x y k
  have hb : nTo x y k % 2 * 2 ^ k ≤ 2 ^ k := by
    have : nTo x y k % 2 < 2 := Nat.mod_lt _ (by decide)
    calc nTo x y k % 2 * 2 ^ k ≤ 1 * 2 ^ k := Nat.mul_le_mul_right _ (by omega)
      _ = 2 ^ k := Nat.one_mul _
  have e : ((nTo x y k % 2 : Nat) : Int) * 2 ^ k = ((nTo x y k % 2 * 2 ^ k : Nat) : Int) := by rw [Int.natCast_mul, Int.natCast_pow]; rfl
  rw [e, Pw.wrapN _ (by omega), or_u64 _ _ (by omega) (by omega), or_bit _ _ _ hs, ← sum_succ]
end Ad

set_option maxHeartbeats 1000000 in
theorem refadd_any (a b : Int) (w : World) :
    Calls Tryd.prog 28 #[.int .i64 a, .int .i64 b] w fun e w' => e = .returned (.int .i64 (opI 1 a b)) ∧ w = w' := by
  go_enter Tryd.func28, Tryd.ntmps28
  go_wp2
  go_loop [5, 6, 7] (fun s c i => ∃ k : Nat, k ≤ 64 ∧ i = .int .i64 k ∧ s = .int .u64 (sumTo (bv a) (bv b) k : Nat) ∧ c = .int .u64 (carTo (bv a) (bv b) k : Nat)) (fun _ _ i => 64 - (intOf i).toNat)
  case atStart => exact ⟨0, Nat.zero_le _, rfl, by simp [sumTo, Nat.mod_one], by simp [carTo, Nat.mod_one]⟩
  case round =>
    obtain ⟨k, hk, rfl, rfl, rfl⟩ := hrel
    by_cases hlt : k < 64
    · have hs := Ad.step (bv a) (bv b) k hlt
      have hn := Ad.n_le (bv a) (bv b) k
      have h1 := bt_le (bv a) k
      have h2 := bt_le (bv b) k
      have h3 := Ad.car_le (bv a) (bv b) k
      have e1 : IntKind.u64.wrap ((bt (bv a) k : Int) + (bt (bv b) k : Int)) = ((bt (bv a) k + bt (bv b) k : Nat) : Int) := by rw [← Int.natCast_add, Pw.wrapN _ (by omega)]
      have e2 : IntKind.u64.wrap (((bt (bv a) k + bt (bv b) k : Nat) : Int) + (carTo (bv a) (bv b) k : Int)) = (nTo (bv a) (bv b) k : Int) := by rw [← Int.natCast_add, Pw.wrapN _ (by omega)]; rfl
      have e3 := and_one (nTo (bv a) (bv b) k) (by omega)
      have e4 : (nTo (bv a) (bv b) k : Int) / 2 = (carTo (bv a) (bv b) (k + 1) : Int) := by rw [Ad.car_succ]; omega
      clear hn h1 h2 h3
      generalize bt (bv a) k + bt (bv b) k = t at *
      generalize nTo (bv a) (bv b) k % 2 = n2 at *
      generalize nTo (bv a) (bv b) k = n at *
      generalize hC : carTo (bv a) (bv b) (k + 1) = c1 at *
      generalize hS : sumTo (bv a) (bv b) (k + 1) = s1 at *
      have HC := Lib.hid hC; clear hC
      have HS := Lib.hid hS; clear hS
      go_wp2_with (go_at_call 33; refine (bit_nat _ _ _ hlt).mono ?_; rintro e w' ⟨rfl, rfl⟩)
      go_round
      case rel => exact ⟨k + 1, by omega, by go_num, by rw [HS.out], by rw [HC.out]⟩
      case measure => simp [intOf]; omega
    · have hk' : k = 64 := by omega
      have he : wrap64 (sumTo (bv a) (bv b) k : Int) = opI 1 a b := by
        rw [wrap64_bv]
        show _ = (bv a + bv b).toInt
        refine congrArg BitVec.toInt ?_
        apply BitVec.eq_of_toNat_eq
        rw [Pw.toNat_bv _ (Ad.sum_le _ _ hk), BitVec.toNat_add, hk']; rfl
      have HE := Lib.hid he; clear he hk'
      go_wp2
      go_ret
      exact ⟨ret_i64 HE.out, rfl⟩
/-- neg: 0 less that. -/
theorem bv_not (a : Int) : bv (bits .xor .i64 (-1) a) = ~~~ bv a := by
  rw [xor_i64, bv_toInt]
  exact BitVec.allOnes_xor
theorem neg_eq (a : Int) : opI 1 (bits .xor .i64 (-1) a) 1 = opI 2 0 a := by
  show (bv (bits .xor .i64 (-1) a) + bv 1).toInt = (bv 0 - bv a).toInt
  rw [bv_not]
  refine congrArg BitVec.toInt ?_
  show ~~~ bv a + 1#64 = 0#64 - bv a
  rw [BitVec.zero_sub, BitVec.neg_eq_not_add]
set_option maxHeartbeats 1000000 in
theorem refneg_any (a : Int) (w : World) :
    Calls Tryd.prog 29 #[.int .i64 a] w fun e w' => e = .returned (.int .i64 (opI 2 0 a)) ∧ w = w' := by
  have he := Lib.hid (neg_eq a)
  have hs : IntKind.i64.signed = true := rfl
  go_enter Tryd.func29, Tryd.ntmps29
  go_wp2_with (go_at_call 28; refine (refadd_any _ _ _).mono ?_; rintro e w' ⟨rfl, rfl⟩)
  go_ret
  exact ⟨ret_i64 he.out, rfl⟩
end Go.Proofs.YtfibonciioipnaaDoor
