/-
  Layer 1, the document's own answers: the upper bits of a product, by sums (High).
-/
import Derived.Test.YtfibonciioipnaaDoorRefTold
namespace Go.Proofs.YtfibonciioipnaaDoor
open Go.RowKit

/-- The product with the lowest k bits of the second word: the whole, its lower and its upper half. -/
def prodTo (x y : BitVec 64) (k : Nat) : Nat := x.toNat * (y.toNat % 2 ^ k)
def lowHalf (x y : BitVec 64) (k : Nat) : Int := (BitVec.ofNat 64 (prodTo x y k)).toInt
def upHalf (x y : BitVec 64) (k : Nat) : Int := (BitVec.ofNat 64 (prodTo x y k / 18446744073709551616)).toInt
namespace Rh
theorem none {x y : BitVec 64} {k : Nat} (h : bt y k = 0) : prodTo x y (k + 1) = prodTo x y k := by
  unfold bt at h
  unfold prodTo
  rw [Ad.split, h, Nat.zero_mul, Nat.add_zero]
theorem some {x y : BitVec 64} {k : Nat} (h : bt y k = 1) : prodTo x y (k + 1) = prodTo x y k + x.toNat * 2 ^ k := by
  unfold bt at h
  unfold prodTo
  rw [Ad.split, h, Nat.one_mul, Nat.mul_add]
theorem low_none {x y : BitVec 64} {k : Nat} (h : bt y k = 0) : lowHalf x y (k + 1) = lowHalf x y k ∧ upHalf x y (k + 1) = upHalf x y k := by
  unfold lowHalf upHalf; rw [none h]; exact ⟨rfl, rfl⟩
theorem low_some (a : Int) {y : BitVec 64} {k : Nat} (h : bt y k = 1) : opI 1 (lowHalf (bv a) y k) (wrap64 (IntKind.u64.wrap (IntKind.u64.wrap a * 2 ^ k))) = lowHalf (bv a) y (k + 1) := by
  show (bv (lowHalf (bv a) y k) + bv (wrap64 (IntKind.u64.wrap (IntKind.u64.wrap a * 2 ^ k)))).toInt = _
  rw [wrap64_bv, bv_toInt, u64_bv, bv_toNat, shl_bv, u64_bv, bv_toNat]
  unfold lowHalf
  rw [bv_toInt, some h]
  refine congrArg BitVec.toInt ?_
  apply BitVec.eq_of_toNat_eq
  rw [BitVec.toNat_add, BitVec.toNat_shiftLeft, BitVec.toNat_ofNat, BitVec.toNat_ofNat, Nat.shiftLeft_eq, ← Nat.add_mod]
/-- Is there a 1 to be carried into the upper half? -/
def carries (x y : BitVec 64) (k : Nat) : Bool := decide (18446744073709551616 ≤ prodTo x y k % 18446744073709551616 + x.toNat * 2 ^ k % 18446744073709551616)
theorem carry_ult {a b : Int} {k : Nat} (h : bt (bv b) k = 1) : ultI (lowHalf (bv a) (bv b) (k + 1)) (lowHalf (bv a) (bv b) k) = carries (bv a) (bv b) k := by
  unfold ultI lowHalf carries
  rw [bv_toInt, bv_toInt, BitVec.ult, BitVec.toNat_ofNat, BitVec.toNat_ofNat, some h, decide_eq_decide]
  generalize prodTo (bv a) (bv b) k = p
  generalize (bv a).toNat * 2 ^ k = q
  omega
theorem part_up (x k : Nat) (hk : k ≤ 64) : x * 2 ^ k / 18446744073709551616 = x / 2 ^ (64 - k) := by
  have e : (18446744073709551616 : Nat) = 2 ^ (64 - k) * 2 ^ k := by rw [← Nat.pow_add, Nat.sub_add_cancel hk]
  rw [e, Nat.mul_div_mul_right _ _ (Nat.two_pow_pos k)]
theorem up_yes {x y : BitVec 64} {k : Nat} (h : bt y k = 1) (hk : k ≤ 64) (hc : carries x y k = true) : prodTo x y (k + 1) / 18446744073709551616 = prodTo x y k / 18446744073709551616 + (x.toNat / 2 ^ (64 - k) + 1) := by
  unfold carries at hc
  have hc' := of_decide_eq_true hc
  rw [some h, ← part_up _ _ hk]
  generalize prodTo x y k = p at *
  generalize x.toNat * 2 ^ k = q at *
  omega
theorem up_no {x y : BitVec 64} {k : Nat} (h : bt y k = 1) (hk : k ≤ 64) (hc : carries x y k = false) : prodTo x y (k + 1) / 18446744073709551616 = prodTo x y k / 18446744073709551616 + x.toNat / 2 ^ (64 - k) := by
  unfold carries at hc
  have hc' := of_decide_eq_false hc
  rw [some h, ← part_up _ _ hk]
  generalize prodTo x y k = p at *
  generalize x.toNat * 2 ^ k = q at *
  omega
theorem high_yes {x y : BitVec 64} {k : Nat} {u : Int} (h : bt y k = 1) (hk : k ≤ 64) (hc : carries x y k = true) (hu : bv u = BitVec.ofNat 64 (x.toNat / 2 ^ (64 - k))) : opI 1 (upHalf x y k) (opI 1 u 1) = upHalf x y (k + 1) := by
  show (bv (upHalf x y k) + bv (opI 1 u 1)).toInt = _
  rw [bv_opI]
  show (bv (upHalf x y k) + (bv u + 1#64)).toInt = _
  unfold upHalf
  rw [bv_toInt, hu, up_yes h hk hc]
  refine congrArg BitVec.toInt ?_
  rw [show (1#64) = BitVec.ofNat 64 1 from rfl, ← BitVec.ofNat_add, ← BitVec.ofNat_add]
theorem high_no {x y : BitVec 64} {k : Nat} {u : Int} (h : bt y k = 1) (hk : k ≤ 64) (hc : carries x y k = false) (hu : bv u = BitVec.ofNat 64 (x.toNat / 2 ^ (64 - k))) : opI 1 (upHalf x y k) u = upHalf x y (k + 1) := by
  show (bv (upHalf x y k) + bv u).toInt = _
  unfold upHalf
  rw [bv_toInt, hu, up_no h hk hc]
  refine congrArg BitVec.toInt ?_
  rw [← BitVec.ofNat_add]
theorem up_zero (x : BitVec 64) : bv 0 = BitVec.ofNat 64 (x.toNat / 2 ^ (64 - 0)) := by
  rw [Nat.sub_zero, Nat.div_eq_of_lt x.isLt]; rfl
theorem up_word (a : Int) (j : Nat) : bv (wrap64 (IntKind.u64.wrap a / 2 ^ j)) = BitVec.ofNat 64 ((bv a).toNat / 2 ^ j) := by
  rw [wrap64_bv, bv_toInt, u64_bv, shrU_bv, bv_toNat]
  apply BitVec.eq_of_toNat_eq
  rw [BitVec.toNat_ushiftRight, BitVec.toNat_ofNat, Nat.shiftRight_eq_div_pow]
  have h : (bv a).toNat / 2 ^ j ≤ (bv a).toNat := Nat.div_le_self _ _
  have hl := (bv a).isLt
  exact (Nat.mod_eq_of_lt (by omega)).symm
theorem starts (x y : BitVec 64) : lowHalf x y 0 = 0 ∧ upHalf x y 0 = 0 := by
  unfold lowHalf upHalf prodTo
  rw [Nat.pow_zero, Nat.mod_one, Nat.mul_zero]
  exact ⟨rfl, rfl⟩
theorem full (x y : BitVec 64) : upHalf x y 64 = (upB x y).toInt := by
  unfold upHalf prodTo upB
  rw [Nat.mod_eq_of_lt y.isLt]
theorem sub1 (x y : BitVec 64) (b : Int) : opI 1 (upHalf x y 64) (opI 2 0 b) = (upB x y - bv b).toInt := by
  show (bv (upHalf x y 64) + bv (opI 2 0 b)).toInt = _
  rw [Sg.bv_neg0, full, bv_toInt, BitVec.sub_eq_add_neg]
theorem sub2 (x y : BitVec 64) (a b : Int) : opI 1 (opI 1 (upHalf x y 64) (opI 2 0 b)) (opI 2 0 a) = (upB x y - bv b - bv a).toInt := by
  show (bv (opI 1 (upHalf x y 64) (opI 2 0 b)) + bv (opI 2 0 a)).toInt = _
  rw [sub1, Sg.bv_neg0, bv_toInt, ← BitVec.sub_eq_add_neg]
theorem fin_yy {a b : Int} {first second : Bool} (ha : InR a) (hb : InR b) (h1 : (first && decide (a < 0)) = true) (h2 : (second && decide (b < 0)) = true) : highI a b first second = opI 1 (opI 1 (upHalf (bv a) (bv b) 64) (opI 2 0 b)) (opI 2 0 a) := by
  rw [sub2]; unfold highI highB; rw [slt0 ha, slt0 hb, h1, h2]; rfl
theorem fin_yn {a b : Int} {first second : Bool} (ha : InR a) (hb : InR b) (h1 : (first && decide (a < 0)) = true) (h2 : (second && decide (b < 0)) = false) : highI a b first second = opI 1 (upHalf (bv a) (bv b) 64) (opI 2 0 b) := by
  rw [sub1]; unfold highI highB; rw [slt0 ha, slt0 hb, h1, h2]; rfl
theorem fin_ny {a b : Int} {first second : Bool} (ha : InR a) (hb : InR b) (h1 : (first && decide (a < 0)) = false) (h2 : (second && decide (b < 0)) = true) : highI a b first second = opI 1 (upHalf (bv a) (bv b) 64) (opI 2 0 a) := by
  rw [sub1]; unfold highI highB; rw [slt0 ha, slt0 hb, h1, h2]; rfl
theorem fin_nn {a b : Int} {first second : Bool} (ha : InR a) (hb : InR b) (h1 : (first && decide (a < 0)) = false) (h2 : (second && decide (b < 0)) = false) : highI a b first second = upHalf (bv a) (bv b) 64 := by
  rw [full]; unfold highI highB; rw [slt0 ha, slt0 hb, h1, h2]; rfl
end Rh

set_option maxHeartbeats 4000000 in
theorem refhigh_any (a b : Int) (first second : Bool) (w : World) (ha : InR a) (hb : InR b) :
    Calls Tryd.prog 26 #[.int .i64 a, .int .i64 b, .bool first, .bool second] w fun e w' => e = .returned (.int .i64 (highI a b first second)) ∧ w = w' := by
  obtain ⟨s1, s2⟩ := Rh.starts (bv a) (bv b)
  have S1 := Lib.hid s1
  have S2 := Lib.hid s2
  have HA := Lib.hid ha
  have HB := Lib.hid hb
  clear s1 s2 ha hb
  go_enter Tryd.func26, Tryd.ntmps26
  go_wp2
  go_loop [9, 10, 11] (fun h l i => ∃ k : Nat, k ≤ 64 ∧ i = .int .i64 k ∧ h = .int .i64 (upHalf (bv a) (bv b) k) ∧ l = .int .i64 (lowHalf (bv a) (bv b) k)) (fun _ _ i => 64 - (intOf i).toNat)
  case atStart => exact ⟨0, Nat.zero_le _, rfl, by rw [S2.out], by rw [S1.out]⟩
  case round =>
    obtain ⟨k, hk, rfl, rfl, rfl⟩ := hrel
    clear S1 S2
    by_cases hlt : k < 64
    · by_cases hbit : bt (bv b) k = 1
      · have t0 : ((bt (bv b) k : Int) == 0) = false := by rw [hbit]; rfl
        have LS := Rh.low_some a hbit
        cases hc : Rh.carries (bv a) (bv b) k
        all_goals
          have CU := Rh.carry_ult (a := a) hbit
          rw [hc] at CU
          by_cases h0 : k = 0
        · have E := Lib.hid (Rh.high_no hbit hk hc (by rw [h0]; exact Rh.up_zero (bv a)))
          clear hbit hc
          have g0 : (k : Int) ≤ 0 := by omega
          clear h0
          go_wp2_with (first | (go_at_call 33; refine (bit_nat _ _ _ hlt).mono ?_; rintro e w' ⟨rfl, rfl⟩) | (go_at_call 28; refine (refadd_any _ _ _).mono ?_; rintro e w' ⟨rfl, rfl⟩) | (go_at_call 35; refine (refbelow_any _ _ _).mono ?_; rintro e w' ⟨rfl, rfl⟩))
          rw [E.out]
          go_round
          case rel => exact ⟨k + 1, by omega, by go_num, rfl, rfl⟩
          case measure => simp [intOf]; omega
        · have E := Lib.hid (Rh.high_no hbit hk hc (Rh.up_word a (64 - k)))
          clear hbit hc
          have g0 : 0 < (k : Int) := by omega
          have g1 : (0 : Int) ≤ 64 - (k : Int) := by omega
          have g2 : 64 - (k : Int) ≤ 64 := by omega
          have g3 : (64 - (k : Int)).toNat = 64 - k := by omega
          clear h0
          go_wp2_with (first | (go_at_call 33; refine (bit_nat _ _ _ hlt).mono ?_; rintro e w' ⟨rfl, rfl⟩) | (go_at_call 28; refine (refadd_any _ _ _).mono ?_; rintro e w' ⟨rfl, rfl⟩) | (go_at_call 35; refine (refbelow_any _ _ _).mono ?_; rintro e w' ⟨rfl, rfl⟩))
          rw [E.out]
          go_round
          case rel => exact ⟨k + 1, by omega, by go_num, rfl, rfl⟩
          case measure => simp [intOf]; omega
        · have E := Lib.hid (Rh.high_yes hbit hk hc (by rw [h0]; exact Rh.up_zero (bv a)))
          clear hbit hc
          have g0 : (k : Int) ≤ 0 := by omega
          clear h0
          go_wp2_with (first | (go_at_call 33; refine (bit_nat _ _ _ hlt).mono ?_; rintro e w' ⟨rfl, rfl⟩) | (go_at_call 28; refine (refadd_any _ _ _).mono ?_; rintro e w' ⟨rfl, rfl⟩) | (go_at_call 35; refine (refbelow_any _ _ _).mono ?_; rintro e w' ⟨rfl, rfl⟩))
          rw [E.out]
          go_round
          case rel => exact ⟨k + 1, by omega, by go_num, rfl, rfl⟩
          case measure => simp [intOf]; omega
        · have E := Lib.hid (Rh.high_yes hbit hk hc (Rh.up_word a (64 - k)))
          clear hbit hc
          have g0 : 0 < (k : Int) := by omega
          have g1 : (0 : Int) ≤ 64 - (k : Int) := by omega
          have g2 : 64 - (k : Int) ≤ 64 := by omega
          have g3 : (64 - (k : Int)).toNat = 64 - k := by omega
          clear h0
          go_wp2_with (first | (go_at_call 33; refine (bit_nat _ _ _ hlt).mono ?_; rintro e w' ⟨rfl, rfl⟩) | (go_at_call 28; refine (refadd_any _ _ _).mono ?_; rintro e w' ⟨rfl, rfl⟩) | (go_at_call 35; refine (refbelow_any _ _ _).mono ?_; rintro e w' ⟨rfl, rfl⟩))
          rw [E.out]
          go_round
          case rel => exact ⟨k + 1, by omega, by go_num, rfl, rfl⟩
          case measure => simp [intOf]; omega
      · have h0 : bt (bv b) k = 0 := by have := bt_le (bv b) k; omega
        have t0 : ((bt (bv b) k : Int) == 0) = true := by rw [h0]; rfl
        have E := Lib.hid (Rh.low_none (x := bv a) h0)
        clear hbit h0
        go_wp2_with (go_at_call 33; refine (bit_nat _ _ _ hlt).mono ?_; rintro e w' ⟨rfl, rfl⟩)
        go_round
        case rel => exact ⟨k + 1, by omega, by go_num, by rw [E.out.2], by rw [E.out.1]⟩
        case measure => simp [intOf]; omega
    · have HK : Hid (k = 64) := by show k = 64; omega
      have ge : (64 : Int) ≤ (k : Int) := by omega
      clear hlt hk
      by_cases c1 : a < 0
      all_goals by_cases c2 : b < 0
      all_goals cases first
      all_goals cases second
      · have HF := Lib.hid (Rh.fin_nn (first := false) (second := false) HA.out HB.out rfl rfl)
        go_wp2_with (first | (go_at_call 28; refine (refadd_any _ _ _).mono ?_; rintro e w' ⟨rfl, rfl⟩) | (go_at_call 29; refine (refneg_any _ _).mono ?_; rintro e w' ⟨rfl, rfl⟩))
        go_ret
        exact ⟨ret_i64 (by rw [HK.out]; exact HF.out.symm), rfl⟩
      · have HF := Lib.hid (Rh.fin_ny (first := false) (second := true) HA.out HB.out rfl (by rw [decide_eq_true c2]; rfl))
        go_wp2_with (first | (go_at_call 28; refine (refadd_any _ _ _).mono ?_; rintro e w' ⟨rfl, rfl⟩) | (go_at_call 29; refine (refneg_any _ _).mono ?_; rintro e w' ⟨rfl, rfl⟩))
        go_ret
        exact ⟨ret_i64 (by rw [HK.out]; exact HF.out.symm), rfl⟩
      · have HF := Lib.hid (Rh.fin_yn (first := true) (second := false) HA.out HB.out (by rw [decide_eq_true c1]; rfl) rfl)
        go_wp2_with (first | (go_at_call 28; refine (refadd_any _ _ _).mono ?_; rintro e w' ⟨rfl, rfl⟩) | (go_at_call 29; refine (refneg_any _ _).mono ?_; rintro e w' ⟨rfl, rfl⟩))
        go_ret
        exact ⟨ret_i64 (by rw [HK.out]; exact HF.out.symm), rfl⟩
      · have HF := Lib.hid (Rh.fin_yy (first := true) (second := true) HA.out HB.out (by rw [decide_eq_true c1]; rfl) (by rw [decide_eq_true c2]; rfl))
        go_wp2_with (first | (go_at_call 28; refine (refadd_any _ _ _).mono ?_; rintro e w' ⟨rfl, rfl⟩) | (go_at_call 29; refine (refneg_any _ _).mono ?_; rintro e w' ⟨rfl, rfl⟩))
        go_ret
        exact ⟨ret_i64 (by rw [HK.out]; exact HF.out.symm), rfl⟩
      · have HF := Lib.hid (Rh.fin_nn (first := false) (second := false) HA.out HB.out rfl rfl)
        have db : decide (b < 0) = false := decide_eq_false c2
        go_wp2_with (first | (go_at_call 28; refine (refadd_any _ _ _).mono ?_; rintro e w' ⟨rfl, rfl⟩) | (go_at_call 29; refine (refneg_any _ _).mono ?_; rintro e w' ⟨rfl, rfl⟩))
        go_ret
        exact ⟨ret_i64 (by rw [HK.out]; exact HF.out.symm), rfl⟩
      · have HF := Lib.hid (Rh.fin_nn (first := false) (second := true) HA.out HB.out rfl (by rw [decide_eq_false c2]; rfl))
        have db : decide (b < 0) = false := decide_eq_false c2
        go_wp2_with (first | (go_at_call 28; refine (refadd_any _ _ _).mono ?_; rintro e w' ⟨rfl, rfl⟩) | (go_at_call 29; refine (refneg_any _ _).mono ?_; rintro e w' ⟨rfl, rfl⟩))
        go_ret
        exact ⟨ret_i64 (by rw [HK.out]; exact HF.out.symm), rfl⟩
      · have HF := Lib.hid (Rh.fin_yn (first := true) (second := false) HA.out HB.out (by rw [decide_eq_true c1]; rfl) rfl)
        have db : decide (b < 0) = false := decide_eq_false c2
        go_wp2_with (first | (go_at_call 28; refine (refadd_any _ _ _).mono ?_; rintro e w' ⟨rfl, rfl⟩) | (go_at_call 29; refine (refneg_any _ _).mono ?_; rintro e w' ⟨rfl, rfl⟩))
        go_ret
        exact ⟨ret_i64 (by rw [HK.out]; exact HF.out.symm), rfl⟩
      · have HF := Lib.hid (Rh.fin_yn (first := true) (second := true) HA.out HB.out (by rw [decide_eq_true c1]; rfl) (by rw [decide_eq_false c2]; rfl))
        have db : decide (b < 0) = false := decide_eq_false c2
        go_wp2_with (first | (go_at_call 28; refine (refadd_any _ _ _).mono ?_; rintro e w' ⟨rfl, rfl⟩) | (go_at_call 29; refine (refneg_any _ _).mono ?_; rintro e w' ⟨rfl, rfl⟩))
        go_ret
        exact ⟨ret_i64 (by rw [HK.out]; exact HF.out.symm), rfl⟩
      · have HF := Lib.hid (Rh.fin_nn (first := false) (second := false) HA.out HB.out rfl rfl)
        have da : decide (a < 0) = false := decide_eq_false c1
        go_wp2_with (first | (go_at_call 28; refine (refadd_any _ _ _).mono ?_; rintro e w' ⟨rfl, rfl⟩) | (go_at_call 29; refine (refneg_any _ _).mono ?_; rintro e w' ⟨rfl, rfl⟩))
        go_ret
        exact ⟨ret_i64 (by rw [HK.out]; exact HF.out.symm), rfl⟩
      · have HF := Lib.hid (Rh.fin_ny (first := false) (second := true) HA.out HB.out rfl (by rw [decide_eq_true c2]; rfl))
        have da : decide (a < 0) = false := decide_eq_false c1
        go_wp2_with (first | (go_at_call 28; refine (refadd_any _ _ _).mono ?_; rintro e w' ⟨rfl, rfl⟩) | (go_at_call 29; refine (refneg_any _ _).mono ?_; rintro e w' ⟨rfl, rfl⟩))
        go_ret
        exact ⟨ret_i64 (by rw [HK.out]; exact HF.out.symm), rfl⟩
      · have HF := Lib.hid (Rh.fin_nn (first := true) (second := false) HA.out HB.out (by rw [decide_eq_false c1]; rfl) rfl)
        have da : decide (a < 0) = false := decide_eq_false c1
        go_wp2_with (first | (go_at_call 28; refine (refadd_any _ _ _).mono ?_; rintro e w' ⟨rfl, rfl⟩) | (go_at_call 29; refine (refneg_any _ _).mono ?_; rintro e w' ⟨rfl, rfl⟩))
        go_ret
        exact ⟨ret_i64 (by rw [HK.out]; exact HF.out.symm), rfl⟩
      · have HF := Lib.hid (Rh.fin_ny (first := true) (second := true) HA.out HB.out (by rw [decide_eq_false c1]; rfl) (by rw [decide_eq_true c2]; rfl))
        have da : decide (a < 0) = false := decide_eq_false c1
        go_wp2_with (first | (go_at_call 28; refine (refadd_any _ _ _).mono ?_; rintro e w' ⟨rfl, rfl⟩) | (go_at_call 29; refine (refneg_any _ _).mono ?_; rintro e w' ⟨rfl, rfl⟩))
        go_ret
        exact ⟨ret_i64 (by rw [HK.out]; exact HF.out.symm), rfl⟩
      · have HF := Lib.hid (Rh.fin_nn (first := false) (second := false) HA.out HB.out rfl rfl)
        have da : decide (a < 0) = false := decide_eq_false c1
        have db : decide (b < 0) = false := decide_eq_false c2
        go_wp2_with (first | (go_at_call 28; refine (refadd_any _ _ _).mono ?_; rintro e w' ⟨rfl, rfl⟩) | (go_at_call 29; refine (refneg_any _ _).mono ?_; rintro e w' ⟨rfl, rfl⟩))
        go_ret
        exact ⟨ret_i64 (by rw [HK.out]; exact HF.out.symm), rfl⟩
      · have HF := Lib.hid (Rh.fin_nn (first := false) (second := true) HA.out HB.out rfl (by rw [decide_eq_false c2]; rfl))
        have da : decide (a < 0) = false := decide_eq_false c1
        have db : decide (b < 0) = false := decide_eq_false c2
        go_wp2_with (first | (go_at_call 28; refine (refadd_any _ _ _).mono ?_; rintro e w' ⟨rfl, rfl⟩) | (go_at_call 29; refine (refneg_any _ _).mono ?_; rintro e w' ⟨rfl, rfl⟩))
        go_ret
        exact ⟨ret_i64 (by rw [HK.out]; exact HF.out.symm), rfl⟩
      · have HF := Lib.hid (Rh.fin_nn (first := true) (second := false) HA.out HB.out (by rw [decide_eq_false c1]; rfl) rfl)
        have da : decide (a < 0) = false := decide_eq_false c1
        have db : decide (b < 0) = false := decide_eq_false c2
        go_wp2_with (first | (go_at_call 28; refine (refadd_any _ _ _).mono ?_; rintro e w' ⟨rfl, rfl⟩) | (go_at_call 29; refine (refneg_any _ _).mono ?_; rintro e w' ⟨rfl, rfl⟩))
        go_ret
        exact ⟨ret_i64 (by rw [HK.out]; exact HF.out.symm), rfl⟩
      · have HF := Lib.hid (Rh.fin_nn (first := true) (second := true) HA.out HB.out (by rw [decide_eq_false c1]; rfl) (by rw [decide_eq_false c2]; rfl))
        have da : decide (a < 0) = false := decide_eq_false c1
        have db : decide (b < 0) = false := decide_eq_false c2
        go_wp2_with (first | (go_at_call 28; refine (refadd_any _ _ _).mono ?_; rintro e w' ⟨rfl, rfl⟩) | (go_at_call 29; refine (refneg_any _ _).mono ?_; rintro e w' ⟨rfl, rfl⟩))
        go_ret
        exact ⟨ret_i64 (by rw [HK.out]; exact HF.out.symm), rfl⟩
end Go.Proofs.YtfibonciioipnaaDoor
