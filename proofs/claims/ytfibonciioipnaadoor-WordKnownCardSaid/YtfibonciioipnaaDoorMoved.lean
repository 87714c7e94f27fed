/-
  Layer 1, the document's own answers: moved, bit by bit: up, down with a given bit.
-/
import Derived.Test.YtfibonciioipnaaDoorMul
namespace Go.Proofs.YtfibonciioipnaaDoor
open Go.RowKit

/-- The lowest k bits of a word, as a count. -/
def lowTo (r : BitVec 64) (k : Nat) : Nat := r.toNat % 2 ^ k
namespace Mv
theorem succ (r : BitVec 64) (k : Nat) : lowTo r (k + 1) = lowTo r k + bt r k * 2 ^ k := Ad.split ..
theorem lt (r : BitVec 64) (k : Nat) : lowTo r k < 2 ^ k := Nat.mod_lt _ (Nat.two_pow_pos k)
theorem step (r : BitVec 64) (k n : Nat) (h : k < 64) (hn : bt r k = n) : bits .or .u64 (lowTo r k : Int) (IntKind.u64.wrap ((n : Int) * 2 ^ k)) = (lowTo r (k + 1) : Int) := by
  have hp := Ad.pow_le h
  have hs := lt r k
  have h1 := bt_le r k
  have hb : bt r k * 2 ^ k ≤ 2 ^ k := by
    calc bt r k * 2 ^ k ≤ 1 * 2 ^ k := Nat.mul_le_mul_right _ h1
      _ = 2 ^ k := Nat.one_mul _
  have e : (n : Int) * 2 ^ k = ((bt r k * 2 ^ k : Nat) : Int) := by rw [Int.natCast_mul, Int.natCast_pow, hn]; rfl
  rw [e, Pw.wrapN _ (by omega), Ad.or_u64 _ _ (by omega) (by omega), or_bit _ _ _ hs, ← succ]
theorem zero (r : BitVec 64) (k : Nat) (h : k < 64) (hn : bt r k = 0) : bits .or .u64 (lowTo r k : Int) 0 = (lowTo r (k + 1) : Int) := by
  have e := step r k 0 h hn
  rw [show IntKind.u64.wrap (((0 : Nat) : Int) * 2 ^ k) = 0 from by rw [show ((0 : Nat) : Int) = 0 from rfl, Int.zero_mul]; rfl] at e
  exact e
theorem full (r : BitVec 64) : wrap64 (lowTo r 64 : Int) = r.toInt := by
  unfold lowTo
  rw [Nat.mod_eq_of_lt r.isLt, wrap64_bv, bv_toNat]
theorem up_bit (x : BitVec 64) (m k : Nat) (hk : k < 64) : bt (x <<< m) k = if m ≤ k then bt x (k - m) else 0 := by
  rw [bt_lsb, BitVec.getLsbD_shiftLeft]
  by_cases h : m ≤ k
  · rw [if_pos h, bt_lsb]; simp [hk, Nat.not_lt.2 h]
  · rw [if_neg h]; simp [Nat.lt_of_not_le h]
theorem down_bit (x : BitVec 64) (m k : Nat) (_hk : k < 64) : bt (x >>> m) k = if k + m < 64 then bt x (k + m) else 0 := by
  rw [bt_lsb, BitVec.getLsbD_ushiftRight]
  by_cases h : k + m < 64
  · rw [if_pos h, bt_lsb, Nat.add_comm]
  · rw [if_neg h, BitVec.getLsbD_of_ge _ _ (by omega)]; rfl
theorem sown_bit (x : BitVec 64) (m k : Nat) (hk : k < 64) : bt (x.sshiftRight m) k = if k + m < 64 then bt x (k + m) else bt x 63 := by
  rw [bt_lsb, BitVec.getLsbD_sshiftRight]
  by_cases h : k + m < 64
  · rw [if_pos h, bt_lsb, Nat.add_comm k m]; simp [Nat.not_le.2 hk, show m + k < 64 by omega]
  · rw [if_neg h, bt_lsb]; simp [Nat.not_le.2 hk, show ¬ m + k < 64 by omega, BitVec.msb_eq_getLsbD_last]
end Mv

set_option maxHeartbeats 2000000 in
theorem moved_up (a : Int) (m : Nat) (w : World) (hm : m < 64) :
    Calls Tryd.prog 32 #[.int .i64 a, .bool true, .int .u64 0, .int .i64 m] w fun e w' => e = .returned (.int .i64 (opI 11 a m)) ∧ w = w' := by
  have hr : opI 11 a m = (bv a <<< m).toInt := by
    show (bv a <<< ((bv (m : Int)).toNat % 64)).toInt = _
    rw [Pw.toNat_bv m (by omega), Nat.mod_eq_of_lt hm]
  rw [hr, ← Mv.full]
  have bits1 := fun k hk => Mv.up_bit (bv a) m k hk
  generalize bv a <<< m = r at *
  have BT := Lib.hid bits1; clear bits1 hr
  go_enter Tryd.func32, Tryd.ntmps32
  go_wp2
  go_loop [9, 10] (fun s i => ∃ k : Nat, k ≤ 64 ∧ i = .int .i64 k ∧ s = .int .u64 (lowTo r k : Nat)) (fun _ i => 64 - (intOf i).toNat)
  case atStart => exact ⟨0, Nat.zero_le _, rfl, by simp [lowTo, Nat.mod_one]⟩
  case round =>
    obtain ⟨k, hk, rfl, rfl⟩ := hrel
    by_cases hlt : k < 64
    · by_cases hc : m ≤ k
      · have hb := BT.out k hlt
        rw [if_pos hc] at hb
        have HS := Lib.hid (Mv.step r k _ hlt hb)
        clear hb BT
        have f1 : (0 : Int) ≤ (k : Int) - (m : Int) := by omega
        have f2 : (k : Int) - (m : Int) < 64 := by omega
        have f3 : ((k : Int) - (m : Int)).toNat = k - m := by omega
        have F3 := Lib.hid f3; clear f3
        go_wp2_with (go_at_call 33; refine (bit_any _ _ _ f1 f2).mono ?_; rw [F3.out]; rintro e w' ⟨rfl, rfl⟩)
        rw [HS.out]
        go_round
        case rel => exact ⟨k + 1, by omega, by go_num, rfl⟩
        case measure => simp [intOf]; omega
      · have hb := BT.out k hlt
        rw [if_neg hc] at hb
        have HS := Lib.hid (Mv.zero r k hlt hb)
        clear hb BT
        have f1 : (k : Int) - (m : Int) < 0 := by omega
        go_wp2
        rw [HS.out]
        go_round
        case rel => exact ⟨k + 1, by omega, by go_num, rfl⟩
        case measure => simp [intOf]; omega
    · have hk' : k = 64 := by omega
      subst hk'
      go_wp2
      go_ret
      exact ⟨rfl, rfl⟩

set_option maxHeartbeats 400000 in
theorem moved_down (a : Int) (r : BitVec 64) (m f : Nat) (w : World) (hm : m < 64) (bits1 : ∀ k, k < 64 → bt r k = if k + m < 64 then bt (bv a) (k + m) else f) :
    Calls Tryd.prog 32 #[.int .i64 a, .bool false, .int .u64 f, .int .i64 m] w fun e w' => e = .returned (.int .i64 (wrap64 (lowTo r 64 : Int))) ∧ w = w' := by
  have BT := Lib.hid bits1; clear bits1
  go_enter Tryd.func32, Tryd.ntmps32
  go_wp2
  go_loop [9, 10] (fun s i => ∃ k : Nat, k ≤ 64 ∧ i = .int .i64 k ∧ s = .int .u64 (lowTo r k : Nat)) (fun _ i => 64 - (intOf i).toNat)
  case atStart => exact ⟨0, Nat.zero_le _, rfl, by simp [lowTo, Nat.mod_one]⟩
  case round =>
    obtain ⟨k, hk, rfl, rfl⟩ := hrel
    by_cases hlt : k < 64
    · by_cases hc : k + m < 64
      · have hb := BT.out k hlt
        rw [if_pos hc] at hb
        have HS := Lib.hid (Mv.step r k _ hlt hb)
        clear hb BT
        have f1 : (0 : Int) ≤ (k : Int) + (m : Int) := by omega
        have f2 : (k : Int) + (m : Int) < 64 := by omega
        have f3 : ((k : Int) + (m : Int)).toNat = k + m := by omega
        have F3 := Lib.hid f3; clear f3
        go_wp2_with (go_at_call 33; refine (bit_any _ _ _ f1 f2).mono ?_; rw [F3.out]; rintro e w' ⟨rfl, rfl⟩)
        rw [HS.out]
        go_round
        case rel => exact ⟨k + 1, by omega, by go_num, rfl⟩
        case measure => simp [intOf]; omega
      · have hb := BT.out k hlt
        rw [if_neg hc] at hb
        have HS := Lib.hid (Mv.step r k _ hlt hb)
        clear hb BT
        have f1 : 64 ≤ (k : Int) + (m : Int) := by omega
        have f0 : (0 : Int) ≤ (k : Int) + (m : Int) := by omega
        clear hc
        go_wp2
        rw [HS.out]
        go_round
        case rel => exact ⟨k + 1, by omega, by go_num, rfl⟩
        case measure => simp [intOf]; omega
    · have hk' : k = 64 := by omega
      subst hk'
      go_wp2
      go_ret
      exact ⟨rfl, rfl⟩
theorem moved_shr (a : Int) (m : Nat) (w : World) (hm : m < 64) :
    Calls Tryd.prog 32 #[.int .i64 a, .bool false, .int .u64 0, .int .i64 m] w fun e w' => e = .returned (.int .i64 (opI 12 a m)) ∧ w = w' := by
  have hr : opI 12 a m = (bv a >>> m).toInt := by
    show (bv a >>> ((bv (m : Int)).toNat % 64)).toInt = _
    rw [Pw.toNat_bv m (by omega), Nat.mod_eq_of_lt hm]
  rw [hr, ← Mv.full]
  exact moved_down a _ m 0 w hm (fun k hk => Mv.down_bit (bv a) m k hk)
theorem moved_sar (a : Int) (m : Nat) (w : World) (hm : m < 64) :
    Calls Tryd.prog 32 #[.int .i64 a, .bool false, .int .u64 (bt (bv a) 63 : Nat), .int .i64 m] w fun e w' => e = .returned (.int .i64 (opI 13 a m)) ∧ w = w' := by
  have hr : opI 13 a m = ((bv a).sshiftRight m).toInt := by
    show ((bv a).sshiftRight ((bv (m : Int)).toNat % 64)).toInt = _
    rw [Pw.toNat_bv m (by omega), Nat.mod_eq_of_lt hm]
  rw [hr, ← Mv.full]
  exact moved_down a _ m _ w hm (fun k hk => Mv.sown_bit (bv a) m k hk)
end Go.Proofs.YtfibonciioipnaaDoor
