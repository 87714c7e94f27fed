/-
  Layer 1: contracts of math/bits.OnesCount64, math/bits.TrailingZeros64 (at a power of 2, its table laid), word.Power.
-/
import Derived.Test.YtfibonciioipnaaDoorTold
import Derived.Test.YtfibonciioipnaaDoorPop
import Derived.Laws.Bits64b
import Derived.Lib.TrailingZeros
namespace Go.Proofs.YtfibonciioipnaaDoor
open Go.RowKit

namespace Pw
theorem wrapN (a : Nat) (ha : a < 18446744073709551616) : IntKind.u64.wrap (a : Int) = (a : Int) := by rw [IntKind.wrap_u64]; omega
theorem f1 (x : Nat) (hx : x < 18446744073709551616) : IntKind.u64.wrap (bits .and .u64 ((x : Int) / 2) 6148914691236517205 + bits .and .u64 (x : Int) 6148914691236517205) = ((Pop.s1 8 x : Nat) : Int) ∧ Pop.s1 8 x ≤ 12297829382473034410 := by
  have h1 := bits_and_u64_nat (x / 2) 6148914691236517205 (by omega) (by omega)
  have h2 := bits_and_u64_nat x 6148914691236517205 (by omega) (by omega)
  have e : ((x : Int) / 2) = ((x / 2 : Nat) : Int) := by omega
  have b1 : x / 2 &&& 6148914691236517205 ≤ 6148914691236517205 := Nat.and_le_right
  have b2 : x &&& 6148914691236517205 ≤ 6148914691236517205 := Nat.and_le_right
  have hs : Pop.s1 8 x = (x / 2 &&& 6148914691236517205) + (x &&& 6148914691236517205) := rfl
  rw [e]
  refine ⟨?_, by omega⟩
  rw [show (6148914691236517205 : Int) = ((6148914691236517205 : Nat) : Int) from rfl, h1, h2, ← Int.natCast_add, wrapN _ (by omega), hs]
theorem f2 (x : Nat) (hx : x ≤ 12297829382473034410) : IntKind.u64.wrap (bits .and .u64 ((x : Int) / 4) 3689348814741910323 + bits .and .u64 (x : Int) 3689348814741910323) = ((Pop.s2 8 x : Nat) : Int) ∧ Pop.s2 8 x ≤ 7378697629483820646 := by
  have h1 := bits_and_u64_nat (x / 4) 3689348814741910323 (by omega) (by omega)
  have h2 := bits_and_u64_nat x 3689348814741910323 (by omega) (by omega)
  have e : ((x : Int) / 4) = ((x / 4 : Nat) : Int) := by omega
  have b1 : x / 4 &&& 3689348814741910323 ≤ 3689348814741910323 := Nat.and_le_right
  have b2 : x &&& 3689348814741910323 ≤ 3689348814741910323 := Nat.and_le_right
  have hs : Pop.s2 8 x = (x / 4 &&& 3689348814741910323) + (x &&& 3689348814741910323) := rfl
  rw [e]
  refine ⟨?_, by omega⟩
  rw [show (3689348814741910323 : Int) = ((3689348814741910323 : Nat) : Int) from rfl, h1, h2, ← Int.natCast_add, wrapN _ (by omega), hs]
theorem f3 (x : Nat) (hx : x ≤ 7378697629483820646) : bits .and .u64 (IntKind.u64.wrap ((x : Int) / 16 + (x : Int))) 1085102592571150095 = ((Pop.s3 8 x : Nat) : Int) ∧ Pop.s3 8 x ≤ 1085102592571150095 := by
  have e : ((x : Int) / 16 + (x : Int)) = ((x / 16 + x : Nat) : Int) := by omega
  have h1 := bits_and_u64_nat (x / 16 + x) 1085102592571150095 (by omega) (by omega)
  have b1 : x / 16 + x &&& 1085102592571150095 ≤ 1085102592571150095 := Nat.and_le_right
  have hs : Pop.s3 8 x = (x / 16 + x) &&& 1085102592571150095 := rfl
  refine ⟨?_, by omega⟩
  rw [e, wrapN _ (by omega), show (1085102592571150095 : Int) = ((1085102592571150095 : Nat) : Int) from rfl, h1, hs]
theorem toNat_bv (m : Nat) (h : m < 18446744073709551616) : (bv (m : Int)).toNat = m := by
  show (BitVec.ofInt 64 (m : Int)).toNat = m
  rw [BitVec.ofInt_natCast, BitVec.toNat_ofNat]; exact Nat.mod_eq_of_lt (by omega)
theorem f4 (N : Nat) (h : N < 9223372036854775808) : bits .and .i64 (N : Int) 127 = ((N % 128 : Nat) : Int) := by
  have e : (bv (N : Int) &&& bv 127) = bv ((N % 128 : Nat) : Int) := by
    apply BitVec.eq_of_toNat_eq
    rw [BitVec.toNat_and, toNat_bv N (by omega), toNat_bv (N % 128) (by omega)]
    exact Nat.and_two_pow_sub_one_eq_mod N 7
  rw [and_i64, e, toInt_bv ⟨by omega, by omega⟩]
theorem f5 (a : Nat) (b3 : a ≤ 1085102592571150095) : bits BinOp.and IntKind.i64
      (wrap64 (IntKind.u64.wrap (IntKind.u64.wrap (IntKind.u64.wrap ((a : Int) + (a : Int) / 256) + IntKind.u64.wrap ((a : Int) + (a : Int) / 256) / 65536) +
            IntKind.u64.wrap (IntKind.u64.wrap ((a : Int) + (a : Int) / 256) + IntKind.u64.wrap ((a : Int) + (a : Int) / 256) / 65536) / 4294967296))) 127 =
    (((a + a / 256 + (a + a / 256) / 65536 + (a + a / 256 + (a + a / 256) / 65536) / 4294967296) % 128 : Nat) : Int) := by
  have s1 : (a : Int) + (a : Int) / 256 = ((a + a / 256 : Nat) : Int) := by omega
  rw [s1]
  have g1 : a + a / 256 ≤ 1089341274573381150 := by omega
  generalize a + a / 256 = b at *
  rw [wrapN b (by omega)]
  have s2 : (b : Int) + (b : Int) / 65536 = ((b + b / 65536 : Nat) : Int) := by omega
  rw [s2]
  have g2 : b + b / 65536 ≤ 1089357896645246000 := by omega
  generalize b + b / 65536 = c at *
  rw [wrapN c (by omega)]
  have s3 : (c : Int) + (c : Int) / 4294967296 = ((c + c / 4294967296 : Nat) : Int) := by omega
  rw [s3]
  have g3 : c + c / 4294967296 < 9223372036854775808 := by omega
  generalize c + c / 4294967296 = d at *
  rw [wrapN d (by omega), IntWalk.wrap64_in _ ⟨by omega, by omega⟩]
  exact f4 d g3
end Pw

set_option maxHeartbeats 1000000 in
theorem ones_any (x : Nat) (hx : x < 18446744073709551616) (w : World) :
    Calls Tryd.prog 36 #[.int .u64 x] w fun e w' => e = .returned (.int .i64 (Pop.pop x : Nat)) ∧ w = w' := by
  obtain ⟨e1, b1⟩ := Pw.f1 x hx
  obtain ⟨e2, b2⟩ := Pw.f2 _ b1
  obtain ⟨e3, b3⟩ := Pw.f3 _ b2
  have hp : Pop.pop x = (Pop.s3 8 (Pop.s2 8 (Pop.s1 8 x)) + Pop.s3 8 (Pop.s2 8 (Pop.s1 8 x)) / 256 + (Pop.s3 8 (Pop.s2 8 (Pop.s1 8 x)) + Pop.s3 8 (Pop.s2 8 (Pop.s1 8 x)) / 256) / 65536 + (Pop.s3 8 (Pop.s2 8 (Pop.s1 8 x)) + Pop.s3 8 (Pop.s2 8 (Pop.s1 8 x)) / 256 + (Pop.s3 8 (Pop.s2 8 (Pop.s1 8 x)) + Pop.s3 8 (Pop.s2 8 (Pop.s1 8 x)) / 256) / 65536) / 4294967296) % 128 := rfl
  have E1 := Lib.hid e1; clear e1
  have E2 := Lib.hid e2; clear e2
  have E3 := Lib.hid e3; clear e3
  have HP := Lib.hid hp; clear hp
  have B1 := Lib.hid b1; clear b1
  have B2 := Lib.hid b2; clear b2
  have B3 := Lib.hid b3; clear b3
  go_enter Tryd.func36, Tryd.ntmps36
  go_wp2
  rw [E1.out, E2.out, E3.out]
  go_ret
  refine ⟨ret_i64 ?_, rfl⟩
  rw [HP.out]
  have b3 := B3.out
  clear E1 E2 E3 HP B1 B2 B3
  exact Pw.f5 _ b3

/-- The table of math/bits, laid. -/
def Tab (w : World) : Prop := ∀ j, j < 64 → w.cell? ⟨0, j, none⟩ = some (.int .u8 ((Lib.deBruijn64tab.getD j 0 : Nat) : Int))
theorem Tab.below {w w' : World} (h : Tab w) (hb : Below w.heap.size w w') : Tab w' := by
  intro j hj
  have hc := h j hj
  have hs : 0 < w.heap.size := by
    rcases Nat.lt_or_ge 0 w.heap.size with h1 | h1
    · exact h1
    · simp [World.cell?, Array.getElem?_eq_none h1] at hc
  rw [hb.cell (p := ⟨0, j, none⟩) hs]; exact hc

/-- Where the table of math/bits is asked, at a power of 2. -/
def tzAt (k : Nat) : Nat := 2 ^ k * 285870213051353865 % 18446744073709551616 / 288230376151711744
theorem tz_at : ∀ k, k < 64 → tzAt k < 64 ∧ Lib.deBruijn64tab.getD (tzAt k) 0 = k ∧
    IntKind.u64.wrap (bits BinOp.and IntKind.u64 ((2 ^ k : Nat) : Int) (IntKind.u64.wrap (-((2 ^ k : Nat) : Int))) * 285870213051353865) / 288230376151711744 = (tzAt k : Int) := by decide +kernel
set_option maxHeartbeats 1000000 in
theorem tz_of (x i : Nat) (n : Int) (w : World) (h0 : ((x : Int) == 0) = false) (hi : i < 64)
    (ask : IntKind.u64.wrap (bits BinOp.and IntKind.u64 (x : Int) (IntKind.u64.wrap (-(x : Int))) * 285870213051353865) / 288230376151711744 = (i : Int))
    (told : w.cell? ⟨0, i, none⟩ = some (.int .u8 n)) (hn : IntKind.i64.wrap n = n) :
    Calls Tryd.prog 37 #[.int .u64 x] w fun e w' => e = .returned (.int .i64 n) ∧ w = w' := by
  have l0 : (0 : Int) ≤ (i : Int) := by omega
  have l1 : (i : Int) < 64 := by omega
  go_enter Tryd.func37, Tryd.ntmps37
  go_wp2
  go_ret
  exact ⟨rfl, rfl⟩
/-- At a power of 2: its number. -/
theorem tz_pow (k : Nat) (hk : k < 64) (w : World) (hT : Tab w) :
    Calls Tryd.prog 37 #[.int .u64 ((2 ^ k : Nat) : Int)] w fun e w' => e = .returned (.int .i64 k) ∧ w = w' := by
  obtain ⟨hi, htab, ask⟩ := tz_at k hk
  have told := hT _ hi
  rw [htab] at told
  exact tz_of (2 ^ k) (tzAt k) k w (beq_eq_false_iff_ne.2 (by exact_mod_cast Nat.ne_of_gt (Nat.two_pow_pos k))) hi ask told (IntWalk.i64_in _ ⟨by omega, by omega⟩)

/-- Is it a power of 2, as a count? -/
def powB (n : Int) : Bool := decide (Pop.pop (bv n).toNat = 1)
/-- Which one. -/
def powN (n : Int) : Int := if powB n then ((bv n).toNat.log2 : Int) else 0
theorem powB_iff (n : Int) : powB n = true ↔ ∃ k, k < 64 ∧ (bv n).toNat = 2 ^ k := by
  unfold powB
  rw [decide_eq_true_iff]
  exact Pop.pop_one _ (bv n).isLt
set_option maxHeartbeats 1000000 in
theorem power_no (n : Int) (w : World) (h : powB n = false) :
    Calls Tryd.prog 19 #[.int .i64 n] w fun e w' => e = .returned (.tuple #[.int .i64 0, .bool false]) ∧ w = w' := by
  have hc : ((Pop.pop (bv n).toNat : Int) == 1) = false := by
    unfold powB at h
    have := of_decide_eq_false h
    rw [beq_eq_false_iff_ne]; omega
  have hn : ((Pop.pop (bv n).toNat : Int) != 1) = true := by rw [bne, hc]; rfl
  have hl := (bv n).isLt
  have hu := u64_bv n
  generalize (bv n).toNat = x at *
  have H := Lib.hid h; clear h
  go_enter Tryd.func19, Tryd.ntmps19
  go_wp2_with (go_at_call 36; refine (ones_any _ hl _).mono ?_; rintro e w' ⟨rfl, rfl⟩)
  go_ret2
  exact ⟨rfl, rfl⟩
set_option maxHeartbeats 1000000 in
theorem power_yes (n : Int) (k : Nat) (w : World) (hT : Tab w) (hk : k < 64) (h : (bv n).toNat = 2 ^ k) :
    Calls Tryd.prog 19 #[.int .i64 n] w fun e w' => e = .returned (.tuple #[.int .i64 k, .bool true]) ∧ w = w' := by
  have hl := (bv n).isLt
  have hu := u64_bv n
  have hp : Pop.pop (bv n).toNat = 1 := (Pop.pop_one _ hl).2 ⟨k, hk, h⟩
  rw [h] at hu hl hp
  have HP := Lib.hid hp; clear hp
  have HT := Lib.hid hT; clear hT
  clear h
  have hz := fun w hT => tz_pow k hk w hT
  generalize 2 ^ k = x at *
  have hc : ((Pop.pop x : Int) == 1) = true := by rw [HP.out]; rfl
  have hn : ((Pop.pop x : Int) != 1) = false := by rw [bne, hc]; rfl
  have HZ := Lib.hid hz; clear hz
  go_enter Tryd.func19, Tryd.ntmps19
  go_wp2_with (first | (go_at_call 36; refine (ones_any _ hl _).mono ?_; rintro e w' ⟨rfl, rfl⟩) | (go_at_call 37; refine (HZ.out _ HT.out).mono ?_; rintro e w' ⟨rfl, rfl⟩))
  go_ret2
  exact ⟨rfl, rfl⟩
/-- word.Power, of any number. -/
theorem power_any (n : Int) (w : World) (hT : Tab w) :
    Calls Tryd.prog 19 #[.int .i64 n] w fun e w' => e = .returned (.tuple #[.int .i64 (powN n), .bool (powB n)]) ∧ w = w' := by
  unfold powN
  by_cases h : powB n = true
  · obtain ⟨k, hk, e⟩ := (powB_iff n).1 h
    rw [h, e, Nat.log2_two_pow]
    exact power_yes n k w hT hk e
  · have h' : powB n = false := by simpa using h
    rw [h']
    exact power_no n w h'
end Go.Proofs.YtfibonciioipnaaDoor
