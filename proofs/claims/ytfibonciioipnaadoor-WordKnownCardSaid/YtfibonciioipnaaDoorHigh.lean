/-
  Layer 1: contracts of math/bits.Mul64 and word.High.
-/
import Derived.Test.YtfibonciioipnaaDoorPower
namespace Go.Proofs.YtfibonciioipnaaDoor
open Go.RowKit

/-- The body of Mul64, step by step: each step's number is given, whatever it is. -/
theorem mul64_steps (x y x0 x1 y0 y1 p00 p10 p01 p11 c t t0 t1 v v1 h hi lo : Int) (w : World)
    (f1 : bits .and .u64 x 4294967295 = x0) (f2 : x / 4294967296 = x1) (f3 : bits .and .u64 y 4294967295 = y0) (f4 : y / 4294967296 = y1)
    (f5 : IntKind.u64.wrap (x0 * y0) = p00) (f6 : IntKind.u64.wrap (x1 * y0) = p10) (f7 : p00 / 4294967296 = c) (f8 : IntKind.u64.wrap (p10 + c) = t)
    (f9 : bits .and .u64 t 4294967295 = t0) (f10 : t / 4294967296 = t1) (f11 : IntKind.u64.wrap (x0 * y1) = p01) (f12 : IntKind.u64.wrap (t0 + p01) = v)
    (f13 : IntKind.u64.wrap (x1 * y1) = p11) (f14 : IntKind.u64.wrap (p11 + t1) = h) (f15 : v / 4294967296 = v1) (f16 : IntKind.u64.wrap (h + v1) = hi) (f17 : IntKind.u64.wrap (x * y) = lo) :
    Calls Tryd.prog 38 #[.int .u64 x, .int .u64 y] w fun e w' => e = .returned (.tuple #[.int .u64 hi, .int .u64 lo]) ∧ w = w' := by
  go_enter Tryd.func38, Tryd.ntmps38
  go_wp2
  go_ret2
  exact ⟨rfl, rfl⟩

namespace Mu
theorem low32 (a : Nat) (ha : a < 18446744073709551616) : bits .and .u64 (a : Int) 4294967295 = ((a % 4294967296 : Nat) : Int) := by
  rw [show (4294967295 : Int) = ((4294967295 : Nat) : Int) from rfl, bits_and_u64_nat a 4294967295 ha (by decide)]
  exact congrArg Nat.cast (Nat.and_two_pow_sub_one_eq_mod a 32)
theorem prod_le {a b : Nat} (ha : a < 4294967296) (hb : b < 4294967296) : a * b ≤ 18446744065119617025 :=
  Nat.mul_le_mul (Nat.le_of_lt_succ ha : a ≤ 4294967295) (Nat.le_of_lt_succ hb : b ≤ 4294967295)
theorem fit {a : Int} {n : Nat} (e : a = (n : Int)) (h : n < 18446744073709551616) : IntKind.u64.wrap a = (n : Int) := by rw [e, Pw.wrapN n h]
/-- A product of two words out of its four parts. -/
theorem foil (x1 x0 y1 y0 : Nat) : (4294967296 * x1 + x0) * (4294967296 * y1 + y0) = 18446744073709551616 * (x1 * y1) + 4294967296 * (x1 * y0) + 4294967296 * (x0 * y1) + x0 * y0 := by
  rw [Nat.add_mul, Nat.mul_add, Nat.mul_add, Nat.mul_mul_mul_comm, show 4294967296 * 4294967296 = 18446744073709551616 from rfl, Nat.mul_assoc, Nat.mul_left_comm x0]
  omega
end Mu

theorem mul64_any (x y : Nat) (hx : x < 18446744073709551616) (hy : y < 18446744073709551616) (w : World) :
    ∃ lo : Int, Calls Tryd.prog 38 #[.int .u64 x, .int .u64 y] w fun e w' => e = .returned (.tuple #[.int .u64 ((x * y / 18446744073709551616 : Nat) : Int), .int .u64 lo]) ∧ w = w' := by
  have ex : x = 4294967296 * (x / 4294967296) + x % 4294967296 := by omega
  have ey : y = 4294967296 * (y / 4294967296) + y % 4294967296 := by omega
  have d1 := Mu.low32 x hx
  have d3 := Mu.low32 y hy
  have d2 : (x : Int) / 4294967296 = ((x / 4294967296 : Nat) : Int) := by omega
  have d4 : (y : Int) / 4294967296 = ((y / 4294967296 : Nat) : Int) := by omega
  have b1 : x / 4294967296 < 4294967296 := by omega
  have b0 : x % 4294967296 < 4294967296 := by omega
  have b3 : y / 4294967296 < 4294967296 := by omega
  have b2 : y % 4294967296 < 4294967296 := by omega
  have hp : x * y = 18446744073709551616 * (x / 4294967296 * (y / 4294967296)) + 4294967296 * (x / 4294967296 * (y % 4294967296)) + 4294967296 * (x % 4294967296 * (y / 4294967296)) + x % 4294967296 * (y % 4294967296) := by
    rw [← Mu.foil, ← ex, ← ey]
  have q11 := Mu.prod_le b1 b3
  have q10 := Mu.prod_le b1 b2
  have q01 := Mu.prod_le b0 b3
  have q00 := Mu.prod_le b0 b2
  have m11 := Int.natCast_mul (x / 4294967296) (y / 4294967296)
  have m10 := Int.natCast_mul (x / 4294967296) (y % 4294967296)
  have m01 := Int.natCast_mul (x % 4294967296) (y / 4294967296)
  have m00 := Int.natCast_mul (x % 4294967296) (y % 4294967296)
  rw [hp]
  generalize x / 4294967296 = x1 at *
  generalize x % 4294967296 = x0 at *
  generalize y / 4294967296 = y1 at *
  generalize y % 4294967296 = y0 at *
  generalize x1 * y1 = p11 at *
  generalize x1 * y0 = p10 at *
  generalize x0 * y1 = p01 at *
  generalize x0 * y0 = p00 at *
  clear hp ex ey
  have hr : (18446744073709551616 * p11 + 4294967296 * p10 + 4294967296 * p01 + p00) / 18446744073709551616 = p11 + (p10 + p00 / 4294967296) / 4294967296 + ((p10 + p00 / 4294967296) % 4294967296 + p01) / 4294967296 := by omega
  rw [hr]
  have ht : p10 + p00 / 4294967296 < 18446744073709551616 := by omega
  exact ⟨_, mul64_steps x y x0 x1 y0 y1 p00 p10 p01 p11 ((p00 / 4294967296 : Nat) : Int) ((p10 + p00 / 4294967296 : Nat) : Int) (((p10 + p00 / 4294967296) % 4294967296 : Nat) : Int) (((p10 + p00 / 4294967296) / 4294967296 : Nat) : Int)
    (((p10 + p00 / 4294967296) % 4294967296 + p01 : Nat) : Int) ((((p10 + p00 / 4294967296) % 4294967296 + p01) / 4294967296 : Nat) : Int) ((p11 + (p10 + p00 / 4294967296) / 4294967296 : Nat) : Int) _ _ w
    d1 d2 d3 d4 (Mu.fit m00.symm (by omega)) (Mu.fit m10.symm (by omega)) (by omega) (Mu.fit (by omega) ht)
    (Mu.low32 _ ht) (by omega) (Mu.fit m01.symm (by omega)) (Mu.fit (by omega) (by omega))
    (Mu.fit m11.symm (by omega)) (Mu.fit (by omega) (by omega)) (by omega) (Mu.fit (by omega) (by omega)) rfl⟩

/-- The upper 64 bits of two words' product, as counts. -/
def upB (x y : BitVec 64) : BitVec 64 := BitVec.ofNat 64 (x.toNat * y.toNat / 18446744073709551616)
/-- The upper 64 bits, each as a count unless told. -/
def highB (x y : BitVec 64) (first second : Bool) : BitVec 64 :=
  let h := if first && x.slt 0 then upB x y - y else upB x y
  if second && y.slt 0 then h - x else h
def highI (a b : Int) (first second : Bool) : Int := (highB (bv a) (bv b) first second).toInt
theorem upB_toNat (x y : BitVec 64) : (upB x y).toNat = x.toNat * y.toNat / 18446744073709551616 := by
  unfold upB
  rw [BitVec.toNat_ofNat, Nat.mod_eq_of_lt]
  have h : x.toNat * y.toNat < 2 ^ 64 * 18446744073709551616 := Nat.mul_lt_mul'' x.isLt y.isLt
  exact Nat.div_lt_of_lt_mul (by rw [Nat.mul_comm 18446744073709551616]; exact h)
theorem slt0 {a : Int} (h : InR a) : (bv a).slt 0 = decide (a < 0) := by
  rw [show (0 : BitVec 64) = bv 0 from rfl, slt_bv h ⟨by decide, by decide⟩]

set_option maxHeartbeats 1000000 in
theorem high_core (a b : Int) (first second : Bool) (x y u : Nat) (w : World) (ex : IntKind.u64.wrap a = (x : Int)) (ey : IntKind.u64.wrap b = (y : Int))
    (HM : Hid (∀ w, ∃ v : Int, Calls Tryd.prog 38 #[.int .u64 x, .int .u64 y] w fun e w' => e = .returned (.tuple #[.int .u64 (u : Int), .int .u64 v]) ∧ w = w')) :
    Calls Tryd.prog 25 #[.int .i64 a, .int .i64 b, .bool first, .bool second] w fun e w' =>
      e = .returned (.int .i64 (if second = true ∧ b < 0 then wrap64 ((if first = true ∧ a < 0 then wrap64 (wrap64 (u : Int) - b) else wrap64 (u : Int)) - a) else if first = true ∧ a < 0 then wrap64 (wrap64 (u : Int) - b) else wrap64 (u : Int))) ∧ w = w' := by
  obtain ⟨v, hv⟩ := HM.out w
  have HV := Lib.hid hv; clear hv HM
  by_cases c1 : a < 0
  all_goals by_cases c2 : b < 0
  all_goals cases first
  all_goals cases second
  all_goals
    simp only [c1, c2, Bool.false_eq_true, and_false, and_true, if_true, if_false]
    go_enter Tryd.func25, Tryd.ntmps25
    go_wp2_with (go_at_call 38; refine (HV.out).mono ?_; rintro e w' ⟨rfl, rfl⟩)
    go_ret
    exact ⟨rfl, rfl⟩
/-- word.High, of any numbers. -/
theorem high_any (a b : Int) (first second : Bool) (w : World) (ha : InR a) (hb : InR b) :
    Calls Tryd.prog 25 #[.int .i64 a, .int .i64 b, .bool first, .bool second] w fun e w' => e = .returned (.int .i64 (highI a b first second)) ∧ w = w' := by
  have hm := fun w => mul64_any (bv a).toNat (bv b).toNat (bv a).isLt (bv b).isLt w
  rw [← upB_toNat] at hm
  refine (high_core a b first second _ _ _ w (u64_bv a) (u64_bv b) hm).mono ?_
  rintro e w' ⟨rfl, rfl⟩
  refine ⟨ret_i64 ?_, rfl⟩
  have hs := wrap64_bv ((upB (bv a) (bv b)).toNat : Int)
  rw [bv_toNat] at hs
  rw [hs]
  have r1 : wrap64 ((upB (bv a) (bv b)).toInt - b) = (upB (bv a) (bv b) - bv b).toInt := by rw [wrap64_bv, bv_sub, bv_toInt]
  have r2 : wrap64 ((upB (bv a) (bv b)).toInt - a) = (upB (bv a) (bv b) - bv a).toInt := by rw [wrap64_bv, bv_sub, bv_toInt]
  have r3 : wrap64 ((upB (bv a) (bv b) - bv b).toInt - a) = (upB (bv a) (bv b) - bv b - bv a).toInt := by rw [wrap64_bv, bv_sub, bv_toInt]
  unfold highI highB
  rw [slt0 ha, slt0 hb, r1]
  by_cases c1 : a < 0 <;> by_cases c2 : b < 0 <;> cases first <;> cases second <;> simp only [c1, c2, r2, r3, Bool.false_eq_true, and_false, and_true, and_self, if_true, if_false, decide_true, decide_false, Bool.and_true, Bool.and_false, Bool.and_self]
end Go.Proofs.YtfibonciioipnaaDoor
