/-
  Layer 1, the document's own answers: quotients of counts, bit by bit (divide), of numbers (signed), and quotients.
-/
import Derived.Test.YtfibonciioipnaaDoorMoved
namespace Go.Proofs.YtfibonciioipnaaDoor
open Go.RowKit

/-- What is left, and the quotient, of the upper bits from the j-th on. -/
def remTo (x y : BitVec 64) (j : Nat) : Nat := x.toNat / 2 ^ j % y.toNat
def quoTo (x y : BitVec 64) (j : Nat) : Nat := x.toNat / 2 ^ j / y.toNat * 2 ^ j
/-- What is left, moved up by one, with the next bit. -/
def midTo (x y : BitVec 64) (m : Nat) : Nat := 2 * remTo x y (m + 1) + bt x m
def remI (x y : BitVec 64) (j : Nat) : Int := (BitVec.ofNat 64 (remTo x y j)).toInt
def midI (x y : BitVec 64) (m : Nat) : Int := (BitVec.ofNat 64 (midTo x y m)).toInt
namespace Dv
theorem half (x : BitVec 64) (m : Nat) : x.toNat / 2 ^ m = 2 * (x.toNat / 2 ^ (m + 1)) + bt x m := Bl.split ..
theorem rem_lt {x y : BitVec 64} (h : 0 < y.toNat) (j : Nat) : remTo x y j < y.toNat := Nat.mod_lt _ h
theorem mid_lt {x y : BitVec 64} (h : 0 < y.toNat) (m : Nat) : midTo x y m < 2 * y.toNat := by
  have h1 := rem_lt (x := x) h (m + 1)
  have h2 := bt_le x m
  unfold midTo; omega
theorem eucl (x y : BitVec 64) (m : Nat) : x.toNat / 2 ^ m = y.toNat * (2 * (x.toNat / 2 ^ (m + 1) / y.toNat)) + midTo x y m := by
  have h1 := Nat.div_add_mod (x.toNat / 2 ^ (m + 1)) y.toNat
  have h2 := half x m
  unfold midTo remTo
  rw [Nat.mul_left_comm]
  generalize x.toNat / 2 ^ (m + 1) = A at *
  generalize y.toNat * (A / y.toNat) = t at *
  omega
theorem over {x y : BitVec 64} (h : 0 < y.toNat) {m : Nat} (g : y.toNat ≤ midTo x y m) : remTo x y m = midTo x y m - y.toNat ∧ quoTo x y m = quoTo x y (m + 1) + 2 ^ m := by
  have hl := mid_lt (x := x) h m
  have e : x.toNat / 2 ^ m = (midTo x y m - y.toNat) + y.toNat * (2 * (x.toNat / 2 ^ (m + 1) / y.toNat) + 1) := by
    have := eucl x y m
    rw [Nat.mul_add, Nat.mul_one]; omega
  constructor
  · unfold remTo
    rw [e, Nat.add_mul_mod_self_left, Nat.mod_eq_of_lt (by omega)]
  · unfold quoTo
    rw [e, Nat.add_mul_div_left _ _ h, Nat.div_eq_of_lt (by omega), Nat.zero_add, Nat.add_mul, Nat.one_mul, Nat.pow_succ, Nat.mul_comm 2, Nat.mul_assoc, Nat.mul_comm 2]
theorem under {x y : BitVec 64} (h : 0 < y.toNat) {m : Nat} (g : midTo x y m < y.toNat) : remTo x y m = midTo x y m ∧ quoTo x y m = quoTo x y (m + 1) := by
  have e : x.toNat / 2 ^ m = midTo x y m + y.toNat * (2 * (x.toNat / 2 ^ (m + 1) / y.toNat)) := by
    have := eucl x y m
    omega
  constructor
  · unfold remTo
    rw [e, Nat.add_mul_mod_self_left, Nat.mod_eq_of_lt g]
  · unfold quoTo
    rw [e, Nat.add_mul_div_left _ _ h, Nat.div_eq_of_lt g, Nat.zero_add, Nat.pow_succ, Nat.mul_comm 2, Nat.mul_assoc, Nat.mul_comm 2]
theorem quo_le (x y : BitVec 64) (j : Nat) : quoTo x y j < 18446744073709551616 := by
  have h1 : x.toNat / 2 ^ j / y.toNat * 2 ^ j ≤ x.toNat / 2 ^ j * 2 ^ j := Nat.mul_le_mul_right _ (Nat.div_le_self _ _)
  have h2 : x.toNat / 2 ^ j * 2 ^ j ≤ x.toNat := Nat.div_mul_le_self _ _
  have h3 := x.isLt
  unfold quoTo; omega
/-- The top bit of what is left, asked. -/
theorem top {x y : BitVec 64} (h : 0 < y.toNat) (j : Nat) : bt (bv (remI x y j)) 63 = remTo x y j / 9223372036854775808 % 2 := by
  have h1 := rem_lt (x := x) h j
  have h2 := y.isLt
  have e : remTo x y j % 2 ^ 64 = remTo x y j := Nat.mod_eq_of_lt (by omega)
  unfold bt remI
  rw [bv_toInt, BitVec.toNat_ofNat, e]
theorem mid_word (x y : BitVec 64) (m : Nat) (h : 0 < y.toNat) : wrap64 (bits .or .u64 (IntKind.u64.wrap (IntKind.u64.wrap (remI x y (m + 1)) * 2)) (bt x m : Int)) = midI x y m := by
  have h1 := rem_lt (x := x) h (m + 1)
  have h2 := y.isLt
  have h3 := bt_le x m
  have er : IntKind.u64.wrap (remI x y (m + 1)) = (remTo x y (m + 1) : Int) := by
    unfold remI
    rw [u64_bv, bv_toInt, BitVec.toNat_ofNat, Nat.mod_eq_of_lt (by omega)]
  rw [er]
  unfold midI
  have e : IntKind.u64.wrap ((remTo x y (m + 1) : Int) * 2) = ((2 * remTo x y (m + 1) % 18446744073709551616 : Nat) : Int) := by
    rw [IntKind.wrap_u64]; omega
  have ev : 2 * remTo x y (m + 1) % 18446744073709551616 = 2 * (remTo x y (m + 1) % 9223372036854775808) := by omega
  rw [e, ev, Ad.or_u64 _ _ (by omega) (by omega), wrap64_bv]
  refine congrArg BitVec.toInt ?_
  apply BitVec.eq_of_toNat_eq
  have o : (2 * (remTo x y (m + 1) % 9223372036854775808)) ||| bt x m = 2 * (remTo x y (m + 1) % 9223372036854775808) + bt x m := by
    have := Nat.two_pow_add_eq_or_of_lt (i := 1) (show bt x m < 2 ^ 1 by omega) (remTo x y (m + 1) % 9223372036854775808)
    rw [Nat.pow_one] at this
    exact this.symm
  rw [o, Pw.toNat_bv _ (by omega), BitVec.toNat_ofNat]
  unfold midTo
  omega
theorem sub_word {x : BitVec 64} {b : Int} {m : Nat} (h : 0 < (bv b).toNat) (g : (bv b).toNat ≤ midTo x (bv b) m) : opI 1 (midI x (bv b) m) (opI 2 0 b) = remI x (bv b) m := by
  show (bv (midI x (bv b) m) + bv (opI 2 0 b)).toInt = _
  rw [bv_opI]
  unfold midI remI
  rw [bv_toInt, (over h g).1]
  refine congrArg BitVec.toInt ?_
  show _ + (0#64 - bv b) = _
  apply BitVec.eq_of_toNat_eq
  have h2 := (bv b).isLt
  have h3 := mid_lt (x := x) h m
  rw [BitVec.zero_sub, BitVec.toNat_add, BitVec.toNat_neg, BitVec.toNat_ofNat, BitVec.toNat_ofNat]
  omega
theorem or_word {x y : BitVec 64} {m : Nat} (hm : m < 64) (h : 0 < y.toNat) (g : y.toNat ≤ midTo x y m) : bits .or .u64 (quoTo x y (m + 1) : Int) (IntKind.u64.wrap (2 ^ m)) = (quoTo x y m : Int) := by
  have hp := Ad.pow_le hm
  rw [two_pow_bv, Pw.wrapN _ (by omega), Ad.or_u64 _ _ (quo_le ..) (by omega), (over h g).2]
  congr 1
  unfold quoTo
  have ho := Nat.two_pow_add_eq_or_of_lt (i := m + 1) (show 2 ^ m < 2 ^ (m + 1) by rw [Nat.pow_succ]; have := Nat.two_pow_pos m; omega) (x.toNat / 2 ^ (m + 1) / y.toNat)
  rw [Nat.mul_comm]
  exact ho.symm
theorem ult_mid {x : BitVec 64} {b : Int} {m : Nat} (g : midTo x (bv b) m < 18446744073709551616) : ultI (midI x (bv b) m) b = decide (midTo x (bv b) m < (bv b).toNat) := by
  unfold ultI midI
  rw [bv_toInt, BitVec.ult, BitVec.toNat_ofNat, Nat.mod_eq_of_lt g]
theorem starts (x y : BitVec 64) : remI x y 64 = 0 ∧ quoTo x y 64 = 0 := by
  have e : x.toNat / 2 ^ 64 = 0 := Nat.div_eq_of_lt x.isLt
  unfold remI remTo quoTo
  rw [e]
  constructor
  · rw [Nat.zero_mod]; rfl
  · rw [Nat.zero_div, Nat.zero_mul]
theorem pos {b : Int} (h : ¬ bv b = 0) : 0 < (bv b).toNat := Nat.pos_of_ne_zero fun e => h (BitVec.eq_of_toNat_eq e)
theorem quo_end {a b : Int} (h : ¬ bv b = 0) : wrap64 (quoTo (bv a) (bv b) 0 : Int) = opI 6 a b := by
  have e6 : opB 6 (bv a) (bv b) = bv a / bv b := if_neg h
  show _ = (opB 6 (bv a) (bv b)).toInt
  rw [e6, wrap64_bv]
  refine congrArg BitVec.toInt (BitVec.eq_of_toNat_eq ?_)
  rw [Pw.toNat_bv _ (quo_le ..), BitVec.toNat_udiv]
  unfold quoTo
  rw [Nat.pow_zero, Nat.div_one, Nat.mul_one]
theorem rem_end {a b : Int} (h : ¬ bv b = 0) : remI (bv a) (bv b) 0 = opI 7 a b := by
  have e7 : opB 7 (bv a) (bv b) = bv a % bv b := if_neg h
  show _ = (opB 7 (bv a) (bv b)).toInt
  rw [e7]
  refine congrArg BitVec.toInt (BitVec.eq_of_toNat_eq ?_)
  have hl := rem_lt (x := bv a) (pos h) 0
  have h2 := (bv b).isLt
  rw [BitVec.toNat_ofNat, Nat.mod_eq_of_lt (by omega), BitVec.toNat_umod]
  unfold remTo
  rw [Nat.pow_zero, Nat.div_one]
end Dv
theorem ret_two {a b c d : Int} (h : a = b) (g : c = d) : Ending.returned (.tuple #[.int .i64 a, .int .i64 c]) = .returned (.tuple #[.int .i64 b, .int .i64 d]) := by rw [h, g]

set_option maxHeartbeats 2000000 in
theorem refdivide_any (a b : Int) (w : World) (h0 : ¬ bv b = 0) :
    Calls Tryd.prog 56 #[.int .i64 a, .int .i64 b] w fun e w' => e = .returned (.tuple #[.int .i64 (opI 6 a b), .int .i64 (opI 7 a b)]) ∧ w = w' := by
  have hp := Dv.pos h0
  have HQ := Lib.hid (Dv.quo_end (a := a) h0)
  have HR := Lib.hid (Dv.rem_end (a := a) h0)
  have HP := Lib.hid hp
  clear hp h0
  obtain ⟨g1, g2⟩ := Dv.starts (bv a) (bv b)
  have G1 := Lib.hid g1; clear g1
  have G2 := Lib.hid g2; clear g2
  go_enter Tryd.func56, Tryd.ntmps56
  go_wp2
  go_loop [6, 7, 8] (fun q r i => ∃ j : Nat, j ≤ 64 ∧ i = .int .i64 ((j : Int) - 1) ∧ q = .int .u64 (quoTo (bv a) (bv b) j : Nat) ∧ r = .int .i64 (remI (bv a) (bv b) j)) (fun _ _ i => (intOf i + 1).toNat)
  case atStart => exact ⟨64, Nat.le_refl _, rfl, by rw [G2.out]; rfl, by rw [G1.out]⟩
  case round =>
    obtain ⟨j, hj, rfl, rfl, rfl⟩ := hrel
    cases j with
    | zero =>
      rw [show ((0 : Nat) : Int) - 1 = -1 from rfl]
      go_wp2
      go_ret2
      exact ⟨ret_two HQ.out HR.out, rfl⟩
    | succ m =>
      rw [show ((m + 1 : Nat) : Int) - 1 = (m : Int) from by omega]
      have hm : m < 64 := by omega
      clear HQ HR G1 G2
      have M := Dv.mid_word (bv a) (bv b) m HP.out
      have ht := Dv.top (x := bv a) HP.out (m + 1)
      have hrl := Dv.rem_lt (x := bv a) HP.out (m + 1)
      have hml := Dv.mid_lt (x := bv a) HP.out m
      have hbl := (bv b).isLt
      have hmd : midTo (bv a) (bv b) m = 2 * remTo (bv a) (bv b) (m + 1) + bt (bv a) m := rfl
      have hb1 := bt_le (bv a) m
      by_cases hc : (bv b).toNat ≤ midTo (bv a) (bv b) m
      · have S := Lib.hid (Dv.sub_word HP.out hc)
        have O := Lib.hid (Dv.or_word hm HP.out hc)
        by_cases t : bt (bv (remI (bv a) (bv b) (m + 1))) 63 = 1
        · have t1 := eq_nat t
          clear t ht hrl hml hbl hmd hb1 hc HP
          go_wp2_with (first | (go_at_call 33; refine (bit_any _ _ _ (by omega) (by omega)).mono ?_; rintro e w' ⟨rfl, rfl⟩) | (go_at_call 28; refine (refadd_any _ _ _).mono ?_; rintro e w' ⟨rfl, rfl⟩) | (go_at_call 29; refine (refneg_any _ _).mono ?_; rintro e w' ⟨rfl, rfl⟩) | (go_at_call 35; refine (refbelow_any _ _ _).mono ?_; rintro e w' ⟨rfl, rfl⟩))
          rw [O.out, S.out]
          go_round
          case rel => exact ⟨m, by omega, rfl, rfl, rfl⟩
          case measure => simp [intOf]
        · have u := Dv.ult_mid (x := bv a) (b := b) (m := m) (by omega)
          rw [decide_eq_false (by omega)] at u
          have t1 := ne_nat t
          clear t ht hrl hml hbl hmd hb1 hc HP
          go_wp2_with (first | (go_at_call 33; refine (bit_any _ _ _ (by omega) (by omega)).mono ?_; rintro e w' ⟨rfl, rfl⟩) | (go_at_call 28; refine (refadd_any _ _ _).mono ?_; rintro e w' ⟨rfl, rfl⟩) | (go_at_call 29; refine (refneg_any _ _).mono ?_; rintro e w' ⟨rfl, rfl⟩) | (go_at_call 35; refine (refbelow_any _ _ _).mono ?_; rintro e w' ⟨rfl, rfl⟩))
          rw [O.out, S.out]
          go_round
          case rel => exact ⟨m, by omega, rfl, rfl, rfl⟩
          case measure => simp [intOf]
      · obtain ⟨n1, n2⟩ := Dv.under (x := bv a) HP.out (Nat.lt_of_not_le hc)
        have u := Dv.ult_mid (x := bv a) (b := b) (m := m) (by omega)
        rw [decide_eq_true (by omega)] at u
        have t : ¬ bt (bv (remI (bv a) (bv b) (m + 1))) 63 = 1 := by omega
        have t1 := ne_nat t
        have N1 : Hid (midI (bv a) (bv b) m = remI (bv a) (bv b) m) := by unfold midI remI; rw [n1]; rfl
        have N2 := Lib.hid n2
        clear n1 n2 t ht hrl hml hbl hmd hb1 hc HP
        go_wp2_with (first | (go_at_call 33; refine (bit_any _ _ _ (by omega) (by omega)).mono ?_; rintro e w' ⟨rfl, rfl⟩) | (go_at_call 28; refine (refadd_any _ _ _).mono ?_; rintro e w' ⟨rfl, rfl⟩) | (go_at_call 29; refine (refneg_any _ _).mono ?_; rintro e w' ⟨rfl, rfl⟩) | (go_at_call 35; refine (refbelow_any _ _ _).mono ?_; rintro e w' ⟨rfl, rfl⟩))
        rw [N1.out, ← N2.out]
        go_round
        case rel => exact ⟨m, by omega, rfl, rfl, rfl⟩
        case measure => simp [intOf]
end Go.Proofs.YtfibonciioipnaaDoor
