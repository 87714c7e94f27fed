/-
  Layer 1, the document's own answers: products by sums (mul), counts held against each other (below), moves bit by bit (moved), 1 of what is so (one).
-/
import Derived.Test.YtfibonciioipnaaDoorAdd
import Derived.Test.YtfibonciioipnaaDoorOrderM
namespace Go.Proofs.YtfibonciioipnaaDoor
open Go.RowKit

theorem bt_lsb (x : BitVec 64) (k : Nat) : bt x k = (x.getLsbD k).toNat := by
  rw [BitVec.getLsbD, Nat.testBit_eq_decide_div_mod_eq]
  unfold bt
  have h : x.toNat / 2 ^ k % 2 = 0 ∨ x.toNat / 2 ^ k % 2 = 1 := by omega
  rcases h with h | h <;> simp [h]

/-- The product with the lowest k bits. -/
def mulTo (x y : BitVec 64) (k : Nat) : Int := (x * BitVec.ofNat 64 (y.toNat % 2 ^ k)).toInt
namespace Mr
theorem zero (x y : BitVec 64) : mulTo x y 0 = 0 := by
  unfold mulTo; rw [Nat.pow_zero, Nat.mod_one]
  show (x * 0#64).toInt = 0
  rw [BitVec.mul_zero]; rfl
theorem full (a b : Int) : mulTo (bv a) (bv b) 64 = opI 3 a b := by
  unfold mulTo
  rw [Nat.mod_eq_of_lt (bv b).isLt, BitVec.ofNat_toNat, BitVec.setWidth_eq]; rfl
theorem none (x y : BitVec 64) (k : Nat) (h : bt y k = 0) : mulTo x y (k + 1) = mulTo x y k := by
  unfold mulTo
  rw [Ad.split]
  unfold bt at h
  rw [h, Nat.zero_mul, Nat.add_zero]
theorem some (a : Int) (y : BitVec 64) (k : Nat) (h : bt y k = 1) : opI 1 (mulTo (bv a) y k) (wrap64 (IntKind.u64.wrap (IntKind.u64.wrap a * 2 ^ k))) = mulTo (bv a) y (k + 1) := by
  show (bv (mulTo (bv a) y k) + bv (wrap64 (IntKind.u64.wrap (IntKind.u64.wrap a * 2 ^ k)))).toInt = _
  rw [wrap64_bv, bv_toInt, u64_bv, bv_toNat, shl_bv, u64_bv, bv_toNat]
  unfold mulTo
  rw [bv_toInt, Ad.split]
  unfold bt at h
  rw [h, Nat.one_mul]
  refine congrArg BitVec.toInt ?_
  have e : bv a <<< k = bv a * BitVec.ofNat 64 (2 ^ k) := by
    apply BitVec.eq_of_toNat_eq
    rw [BitVec.toNat_shiftLeft, BitVec.toNat_mul, BitVec.toNat_ofNat, Nat.shiftLeft_eq, Nat.mul_mod_mod]
  rw [e, ← BitVec.mul_add, BitVec.ofNat_add]
end Mr
theorem eq_nat {n : Nat} (h : n = 1) : ((n : Int) == 1) = true := by rw [h]; rfl
theorem ne_nat {n : Nat} (h : ¬ n = 1) : ((n : Int) == 1) = false := beq_eq_false_iff_ne.2 (by omega)

set_option maxHeartbeats 1000000 in
theorem refmul_any (a b : Int) (w : World) :
    Calls Tryd.prog 30 #[.int .i64 a, .int .i64 b] w fun e w' => e = .returned (.int .i64 (opI 3 a b)) ∧ w = w' := by
  go_enter Tryd.func30, Tryd.ntmps30
  go_wp2
  go_loop [5, 6] (fun s i => ∃ k : Nat, k ≤ 64 ∧ i = .int .i64 k ∧ s = .int .i64 (mulTo (bv a) (bv b) k)) (fun _ i => 64 - (intOf i).toNat)
  case atStart => exact ⟨0, Nat.zero_le _, rfl, by rw [Mr.zero]⟩
  case round =>
    obtain ⟨k, hk, rfl, rfl⟩ := hrel
    by_cases hlt : k < 64
    · by_cases h1 : bt (bv b) k = 1
      · have t1 := eq_nat h1
        have HE := Lib.hid (Mr.some a (bv b) k h1)
        clear h1
        go_wp2_with (first | (go_at_call 33; refine (bit_nat _ _ _ hlt).mono ?_; rintro e w' ⟨rfl, rfl⟩) | (go_at_call 28; refine (refadd_any _ _ _).mono ?_; rintro e w' ⟨rfl, rfl⟩))
        go_round
        case rel => exact ⟨k + 1, by omega, by go_num, by rw [HE.out]⟩
        case measure => simp [intOf]; omega
      · have t1 := ne_nat h1
        have HE := Lib.hid (Mr.none (bv a) (bv b) k (by have := bt_le (bv b) k; omega))
        clear h1
        go_wp2_with (go_at_call 33; refine (bit_nat _ _ _ hlt).mono ?_; rintro e w' ⟨rfl, rfl⟩)
        go_round
        case rel => exact ⟨k + 1, by omega, by go_num, by rw [HE.out]⟩
        case measure => simp [intOf]; omega
    · have hk' : k = 64 := by omega
      have HE := Lib.hid (Mr.full a b)
      rw [← hk'] at HE
      clear hk'
      go_wp2
      go_ret
      exact ⟨ret_i64 HE.out, rfl⟩

/-- As counts: is the first one below? -/
def ultI (a b : Int) : Bool := (bv a).ult (bv b)
namespace Bl
theorem split (x k : Nat) : x / 2 ^ k = 2 * (x / 2 ^ (k + 1)) + x / 2 ^ k % 2 := by
  rw [Nat.pow_succ, ← Nat.div_div_eq_div_mul]; omega
theorem same {x y : BitVec 64} {k : Nat} (h : x.toNat / 2 ^ (k + 1) = y.toNat / 2 ^ (k + 1)) (e : bt x k = bt y k) : x.toNat / 2 ^ k = y.toNat / 2 ^ k := by
  rw [split, split y.toNat, h]; unfold bt at e; rw [e]
theorem parts {a b : Int} {k : Nat} (h : (bv a).toNat / 2 ^ (k + 1) = (bv b).toNat / 2 ^ (k + 1)) (e : ¬ bt (bv a) k = bt (bv b) k) : ((bt (bv b) k : Int) == 1) = ultI a b := by
  have h1 := split (bv a).toNat k
  have h2 := split (bv b).toNat k
  have b1 := bt_le (bv a) k
  have b2 := bt_le (bv b) k
  unfold ultI
  rw [BitVec.ult]
  change (bv a).toNat / 2 ^ k = 2 * ((bv a).toNat / 2 ^ (k + 1)) + bt (bv a) k at h1
  change (bv b).toNat / 2 ^ k = 2 * ((bv b).toNat / 2 ^ (k + 1)) + bt (bv b) k at h2
  by_cases c : bt (bv b) k = 1
  · rw [eq_nat c]
    have hl : (bv a).toNat < (bv b).toNat := by
      have : (bv a).toNat / 2 ^ k < (bv b).toNat / 2 ^ k := by omega
      exact Nat.lt_of_div_lt_div this
    simpa using hl
  · rw [ne_nat c]
    have hl : (bv b).toNat < (bv a).toNat := by
      have : (bv b).toNat / 2 ^ k < (bv a).toNat / 2 ^ k := by omega
      exact Nat.lt_of_div_lt_div this
    symm
    rw [decide_eq_false_iff_not]
    omega
theorem ends {a b : Int} (h : (bv a).toNat / 2 ^ 0 = (bv b).toNat / 2 ^ 0) : ultI a b = false := by
  unfold ultI
  rw [BitVec.ult, decide_eq_false_iff_not]
  simp only [Nat.pow_zero, Nat.div_one] at h
  omega
theorem bne_nat {m n : Nat} (h : ¬ m = n) : ((m : Int) != (n : Int)) = true := by
  rw [bne_iff_ne]; omega
theorem beq_nat {m n : Nat} (h : m = n) : ((m : Int) != (n : Int)) = false := by
  rw [h]; simp
end Bl
theorem ret_bool {a b : Bool} (h : a = b) : Ending.returned (.bool a) = .returned (.bool b) := by rw [h]

set_option maxHeartbeats 1000000 in
theorem refbelow_any (a b : Int) (w : World) :
    Calls Tryd.prog 35 #[.int .i64 a, .int .i64 b] w fun e w' => e = .returned (.bool (ultI a b)) ∧ w = w' := by
  go_enter Tryd.func35, Tryd.ntmps35
  go_wp2
  go_loop [5] (fun i => ∃ j : Nat, j ≤ 64 ∧ i = .int .i64 ((j : Int) - 1) ∧ Hid ((bv a).toNat / 2 ^ j = (bv b).toNat / 2 ^ j)) (fun i => (intOf i + 1).toNat)
  case atStart => exact ⟨64, Nat.le_refl _, rfl, by show _ = _; rw [Nat.div_eq_of_lt (bv a).isLt, Nat.div_eq_of_lt (bv b).isLt]⟩
  case round =>
    obtain ⟨j, hj, rfl, he⟩ := hrel
    cases j with
    | zero =>
      have HE := Lib.hid (Bl.ends he.out)
      clear he
      rw [show ((0 : Nat) : Int) - 1 = -1 from rfl]
      go_wp2
      go_ret
      exact ⟨ret_bool HE.out.symm, rfl⟩
    | succ k =>
      rw [show ((k + 1 : Nat) : Int) - 1 = (k : Int) from by omega]
      have hk : k < 64 := by omega
      by_cases hb : bt (bv a) k = bt (bv b) k
      · have hs := Bl.same he.out hb
        have HS := Lib.hid hs
        clear hs he
        have t := Bl.beq_nat hb
        clear hb
        go_wp2_with (go_at_call 33; refine (bit_nat _ _ _ hk).mono ?_; rintro e w' ⟨rfl, rfl⟩)
        go_round
        case rel => exact ⟨k, by omega, rfl, HS.out⟩
        case measure => simp [intOf]
      · have HS := Lib.hid (Bl.parts he.out hb)
        clear he
        have t := Bl.bne_nat hb
        clear hb
        go_wp2_with (go_at_call 33; refine (bit_nat _ _ _ hk).mono ?_; rintro e w' ⟨rfl, rfl⟩)
        go_ret
        exact ⟨ret_bool HS.out, rfl⟩
set_option maxHeartbeats 400000 in
theorem refone_any (b : Bool) (w : World) : Calls Tryd.prog 34 #[.bool b] w fun e w' => e = .returned (.int .i64 (if b then 1 else 0)) ∧ w = w' := by
  cases b
  all_goals
    go_enter Tryd.func34, Tryd.ntmps34
    go_wp2
    go_ret
    exact ⟨rfl, rfl⟩
end Go.Proofs.YtfibonciioipnaaDoor
