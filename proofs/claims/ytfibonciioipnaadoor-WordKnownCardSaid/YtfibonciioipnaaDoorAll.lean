/-
  Layer 1, WordAll: its walk: of many numbers, from the left on.
-/
import Derived.Test.YtfibonciioipnaaDoorRefDo
namespace Go.Proofs.YtfibonciioipnaaDoor
open Go.RowKit

/-- From the left on: the first one, and so many more. -/
def accTo (op : Int) (z : Nat → Int) : Nat → Int
  | 0 => z 0
  | k + 1 => opI op (accTo op z k) (z (k + 1))
theorem acc_in {op : Int} {z : Nat → Int} (h : InR (z 0)) (k : Nat) : InR (accTo op z k) := by
  cases k with
  | zero => exact h
  | succ k => exact opI_in ..

set_option maxHeartbeats 1000000 in
theorem all_none (op : Int) (a : Option Addr) (cap : Nat) (w : World) :
    Calls Tryd.prog 15 #[.int .u8 op, .slice a 0 cap] w fun e w' => e = .returned (.int .i64 0) ∧ w = w' := by
  go_enter Tryd.func15, Tryd.ntmps15
  go_wp2
  go_ret
  exact ⟨rfl, rfl⟩
set_option maxHeartbeats 1000000 in
theorem refall_none (op : Int) (a : Option Addr) (cap : Nat) (w : World) :
    Calls Tryd.prog 16 #[.int .u8 op, .slice a 0 cap] w fun e w' => e = .returned (.int .i64 0) ∧ w = w' := by
  go_enter Tryd.func16, Tryd.ntmps16
  go_wp2
  go_ret
  exact ⟨rfl, rfl⟩


set_option maxHeartbeats 2000000 in
theorem all_some (op : Int) (b off n m : Nat) (z : Nat → Int) (w : World) (h2 : n ≤ m + 1) (hm : m + 2 ≤ 9223372036854775807) (hb : b < w.heap.size)
    (hz : ∀ i, i ≤ n → InR (z i)) (hc : ∀ i, i ≤ n → w.cell? ⟨b, off + i, none⟩ = some (.int .i64 (z i))) :
    Calls Tryd.prog 15 #[.int .u8 op, .slice (some ⟨b, off, none⟩) (n + 1) (m + 2)] w fun e w' => e = .returned (.int .i64 (accTo op z n)) ∧ Kept w w' := by
  have c0 : w.cell? ⟨b, off, none⟩ = some (.int .i64 (z 0)) := hc 0 (by omega)
  have HZ := Lib.hid hz; clear hz
  have HC := Lib.hid hc; clear hc
  have HB := Lib.hid hb; clear hb
  have z0 : ((n : Int) + 1 == 0) = false := beq_eq_false_iff_ne.2 (by omega)
  have ez : z 0 = accTo op z 0 := rfl
  rw [ez] at c0
  clear ez
  go_enter Tryd.func15, Tryd.ntmps15
  go_wp2
  go_loopw [5, 17] (fun s i wr => ∃ k : Nat, k ≤ n ∧ i = .int .i64 k ∧ s = .int .i64 (accTo op z k) ∧ Kept w wr) (fun _ i _ => n - (intOf i).toNat)
  case atStart => exact ⟨0, Nat.zero_le _, rfl, rfl, Kept.refl w⟩
  case round =>
    obtain ⟨k, hk, rfl, rfl, hQ⟩ := hrel
    by_cases hlt : k < n
    · have HI := Lib.hid (acc_in (op := op) (z := z) (HZ.out 0 (by omega)) k)
      have HZk := Lib.hid (HZ.out (k + 1) (by omega))
      have ck := (Below.cell hQ (p := ⟨b, off + (k + 1), none⟩) HB.out).trans (HC.out (k + 1) (by omega))
      rw [show off + (k + 1) = off + 1 + k from by omega] at ck
      have HE : Hid (opI op (accTo op z k) (z (k + 1)) = accTo op z (k + 1)) := rfl
      clear c0 HZ HC
      go_wp2_with (go_at_call 10; refine (do_any _ _ _ _ HI.out HZk.out).mono ?_; rintro e w' ⟨rfl, hk'⟩; replace hQ := Kept.trans hQ hk'; clear hk')
      rw [HE.out]
      go_roundw
      case rel => exact ⟨k + 1, by omega, by go_num, rfl, hQ⟩
      case measure => simp [intOf]; omega
    · have hk' : k = n := by omega
      subst hk'
      clear c0
      go_wp2
      go_ret
      exact ⟨rfl, hQ⟩
set_option maxHeartbeats 2000000 in
theorem all_lone (op : Int) (b off : Nat) (z : Int) (w : World) (hc : w.cell? ⟨b, off, none⟩ = some (.int .i64 z)) :
    Calls Tryd.prog 15 #[.int .u8 op, .slice (some ⟨b, off, none⟩) 1 1] w fun e w' => e = .returned (.int .i64 z) ∧ Kept w w' := by
  go_enter Tryd.func15, Tryd.ntmps15
  go_wp2
  refine wp_loop_rounds 1 ?_
  rw [rounds_succ]
  go_wp2
  go_ret
  exact ⟨rfl, Kept.refl _⟩
set_option maxHeartbeats 2000000 in
theorem refall_some (op : Int) (b off n cap : Nat) (z : Nat → Int) (w : World) (hm : n + 1 ≤ 9223372036854775807)
    (hz : ∀ i, i ≤ n → InR (z i)) (hc : ∀ i, i ≤ n → w.cell? ⟨b, off + i, none⟩ = some (.int .i64 (z i))) :
    Calls Tryd.prog 16 #[.int .u8 op, .slice (some ⟨b, off, none⟩) (n + 1) cap] w fun e w' => e = .returned (.int .i64 (accTo op z n)) ∧ w = w' := by
  have c0 : w.cell? ⟨b, off, none⟩ = some (.int .i64 (z 0)) := hc 0 (by omega)
  have HZ := Lib.hid hz; clear hz
  have HC := Lib.hid hc; clear hc
  have z0 : ((n : Int) + 1 == 0) = false := beq_eq_false_iff_ne.2 (by omega)
  have ez : z 0 = accTo op z 0 := rfl
  rw [ez] at c0
  clear ez
  go_enter Tryd.func16, Tryd.ntmps16
  go_wp2
  go_loop [5, 6] (fun s i => ∃ k : Nat, k ≤ n ∧ i = .int .i64 ((k : Int) + 1) ∧ s = .int .i64 (accTo op z k)) (fun _ i => n + 1 - (intOf i).toNat)
  case atStart => exact ⟨0, Nat.zero_le _, rfl, rfl⟩
  case round =>
    obtain ⟨k, hk, rfl, rfl⟩ := hrel
    by_cases hlt : k < n
    · have HI := Lib.hid (acc_in (op := op) (z := z) (HZ.out 0 (by omega)) k)
      have HZk := Lib.hid (HZ.out (k + 1) (by omega))
      have ck := HC.out (k + 1) (by omega)
      have HE : Hid (opI op (accTo op z k) (z (k + 1)) = accTo op z (k + 1)) := rfl
      clear c0 HZ HC
      go_wp2_with (go_at_call 11; refine (refdo_any _ _ _ _ HI.out HZk.out).mono ?_; rintro e w' ⟨rfl, rfl⟩)
      rw [HE.out]
      go_round
      case rel => exact ⟨k + 1, by omega, by go_num, rfl⟩
      case measure => simp [intOf]; omega
    · have hk' : k = n := by omega
      subst hk'
      clear c0
      go_wp2
      go_ret
      exact ⟨rfl, rfl⟩

set_option maxHeartbeats 2000000 in
theorem wordall_big (op : Int) (a : Option Addr) (len cap : Nat) (w : World) (hT : Tab w) (h : 60 < (len : Int)) :
    Calls Tryd.prog 4 #[.int .u8 op, .slice a len cap] w fun e w' => e = .returned (.bool true) ∧ Kept w w' := by
  have HT := Lib.hid hT; clear hT
  go_enter Tryd.func4, Tryd.ntmps4
  go_wp2_with (go_at_call 14; refine (works_any _ HT.out).mono ?_; rintro e w' ⟨rfl, hk⟩)
  go_ret
  exact ⟨rfl, hk⟩
set_option maxHeartbeats 2000000 in
theorem wordall_core (op r : Int) (a : Option Addr) (len cap : Nat) (w : World) (hT : Tab w) (h : (len : Int) ≤ 60)
    (H15 : Hid (Calls Tryd.prog 15 #[.int .u8 op, .slice a len cap] w fun e w' => e = .returned (.int .i64 r) ∧ Kept w w'))
    (H16 : Hid (∀ w1, Kept w w1 → Calls Tryd.prog 16 #[.int .u8 op, .slice a len cap] w1 fun e w' => e = .returned (.int .i64 r) ∧ w1 = w')) :
    Calls Tryd.prog 4 #[.int .u8 op, .slice a len cap] w fun e w' => e = .returned (.bool true) ∧ Kept w w' := by
  have HT := Lib.hid hT; clear hT
  have hQ := Kept.refl w
  have t1 : (r == r) = true := beq_self_eq_true _
  go_enter Tryd.func4, Tryd.ntmps4
  go_wp2_with (first
    | (go_at_call 14; refine (works_any _ (hQ.tab HT.out)).mono ?_; rintro e w' ⟨rfl, hk⟩; replace hQ := Kept.trans hQ hk; clear hk)
    | (go_at_call 15; refine (H15.out).mono ?_; rintro e w' ⟨rfl, hk⟩; replace hQ := Kept.trans hQ hk; clear hk)
    | (go_at_call 16; refine (H16.out _ hQ).mono ?_; rintro e w' ⟨rfl, rfl⟩))
  go_ret
  exact ⟨rfl, hQ⟩
theorem wordall_empty (op : Int) (a : Option Addr) (cap : Nat) (w : World) (hT : Tab w) :
    Calls Tryd.prog 4 #[.int .u8 op, .slice a 0 cap] w fun e w' => e = .returned (.bool true) ∧ Kept w w' :=
  wordall_core op 0 a 0 cap w hT (by decide) ((all_none op a cap w).mono fun _ _ h => ⟨h.1, h.2 ▸ Kept.refl _⟩) (fun w1 _ => refall_none op a cap w1)
/-- WordAll, of any numbers that lie in memory. -/
theorem wordall_some (op : Int) (b off len cap : Nat) (z : Nat → Int) (w : World) (hT : Tab w) (h0 : 1 ≤ len) (h2 : len ≤ cap) (hm : cap ≤ 9223372036854775807)
    (hz : ∀ i, i < len → InR (z i)) (hc : ∀ i, i < len → w.cell? ⟨b, off + i, none⟩ = some (.int .i64 (z i))) :
    Calls Tryd.prog 4 #[.int .u8 op, .slice (some ⟨b, off, none⟩) len cap] w fun e w' => e = .returned (.bool true) ∧ Kept w w' := by
  by_cases hl : 60 < (len : Int)
  · exact wordall_big op _ len cap w hT hl
  · have hl' : (len : Int) ≤ 60 := by omega
    obtain ⟨n, rfl⟩ : ∃ n, len = n + 1 := ⟨len - 1, by omega⟩
    have hb : b < w.heap.size := by
      rcases Nat.lt_or_ge b w.heap.size with h1 | h1
      · exact h1
      · have := hc 0 (by omega)
        simp [World.cell?, Array.getElem?_eq_none h1] at this
    have H16 : Hid (∀ w1, Kept w w1 → Calls Tryd.prog 16 #[.int .u8 op, .slice (some ⟨b, off, none⟩) (n + 1) cap] w1 fun e w' => e = .returned (.int .i64 (accTo op z n)) ∧ w1 = w') := fun w1 hk =>
      refall_some op b off n cap z w1 (by omega) (fun i hi => hz i (by omega)) (fun i hi => (Below.cell hk (p := ⟨b, off + i, none⟩) hb).trans (hc i (by omega)))
    by_cases h3 : cap = 1
    · subst h3
      obtain rfl : n = 0 := by omega
      exact wordall_core op (accTo op z 0) _ _ _ w hT hl' (all_lone op b off (z 0) w (hc 0 (by omega))) H16
    · obtain ⟨m, rfl⟩ : ∃ m, cap = m + 2 := ⟨cap - 2, by omega⟩
      exact wordall_core op (accTo op z n) _ _ _ w hT hl' (all_some op b off n m z w (by omega) hm hb (fun i hi => hz i (by omega)) (fun i hi => hc i (by omega))) H16
end Go.Proofs.YtfibonciioipnaaDoor
