/-
  Layer 5: contracts of the reference's lit, has, before, Right; of SameInts and Pick.
-/
import Derived.Test.YtlikokeknfhejaaGreatDoorCRightL
namespace Go.Proofs.YtlikokeknfhejaaGreatDoor
open Go Go.RowKit

set_option maxHeartbeats 1000000 in
theorem lit_any (x V : Int) (w : World) (hV0 : 0 ≤ V) (hV1 : V ≤ 16777216) : Calls Tryz.prog 88 #[.int .i64 x, .int .i64 V] w fun e w' => e = .returned (.bool (litB V x)) ∧ w = w' := by
  by_cases c1 : x = 0
  · have d1 : (x != 0) = false := by simpa using c1
    have hno : litB V x = false := by unfold litB; simp [c1]
    have HNO := Lib.hid hno; clear hno c1
    go_enter Tryz.func88, Tryz.ntmps88
    go_wp2
    go_ret
    exact ⟨ret_bool HNO.out.symm, rfl⟩
  · have d1 : (x != 0) = true := by simpa using c1
    by_cases c2 : -V ≤ x
    · have d2 : decide (-V ≤ x) = true := by simpa using c2
      by_cases c3 : x ≤ V
      · have d3 : decide (x ≤ V) = true := by simpa using c3
        have HNO := Lib.hid ((litB_iff V x).2 ⟨c1, c3, c2⟩)
        clear c1
        go_enter Tryz.func88, Tryz.ntmps88
        go_wp2
        go_ret
        exact ⟨ret_bool HNO.out.symm, rfl⟩
      · have d3 : decide (x ≤ V) = false := by simpa using c3
        have hno : litB V x = false := by unfold litB; simp [d3]
        have HNO := Lib.hid hno; clear hno c1
        go_enter Tryz.func88, Tryz.ntmps88
        go_wp2
        go_ret
        exact ⟨ret_bool HNO.out.symm, rfl⟩
    · have d2 : decide (-V ≤ x) = false := by simpa using c2
      have hno : litB V x = false := by unfold litB; simp [d2]
      have HNO := Lib.hid hno; clear hno c1
      go_enter Tryz.func88, Tryz.ntmps88
      go_wp2
      go_ret
      exact ⟨ret_bool HNO.out.symm, rfl⟩

/-- Is a number in a row? -/
def hasI (L : List Int) (x : Int) : Bool := L.contains x
theorem hasI_iff (L : List Int) (x : Int) : hasI L x = true ↔ x ∈ L := by unfold hasI; exact List.contains_iff_mem
theorem hasI_no (L : List Int) (x : Int) : hasI L x = false ↔ x ∉ L := by
  rw [← hasI_iff]; simp
set_option maxHeartbeats 2000000 in
theorem rhas_any (x : Int) (la : Option Addr) (n c : Nat) (L : List Int) (w : World) (hL : IntsAt w la n L) (hn : n ≤ 4611686018427387904) :
    Calls Tryz.prog 84 #[.slice la n c, .int .i64 x] w fun e w' => e = .returned (.bool (hasI L x)) ∧ w = w' := by
  have HL := Lib.hid hL; clear hL
  go_enter Tryz.func84, Tryz.ntmps84
  go_wp2
  go_loop [5] (fun i => ∃ j : Nat, j ≤ n ∧ i = .int .i64 j ∧ x ∉ L.take j) (fun i => n - (intOf i).toNat)
  case atStart => exact ⟨0, Nat.zero_le _, rfl, by simp⟩
  case round =>
    obtain ⟨j, hj, rfl, hno⟩ := hrel
    have HN := Lib.hid hno; clear hno
    have j0 : (0 : Int) ≤ (j : Int) := Int.natCast_nonneg _
    by_cases hjn : j < n
    · have j1 : (j : Int) < (n : Int) := by omega
      obtain ⟨b, off, rfl, hc⟩ := HL.out.at_ (by omega)
      have hjl : j < L.length := by rw [HL.out.len]; exact hjn
      obtain ⟨y, hy⟩ : ∃ y, L[j]? = some y := ⟨_, List.getElem?_eq_getElem hjl⟩
      have x0 := hc j y hy
      have HY := Lib.hid hy
      have HTK : Hid (L.take (j + 1) = L.take j ++ [y]) := by
        show _ = _
        rw [List.take_succ_eq_append_getElem hjl, (List.getElem?_eq_some_iff.1 hy).2]
      clear hc hy hjl
      by_cases hl : y = x
      · have d1 : (y == x) = true := by simpa using hl
        have HC := Lib.hid hl; clear hl
        go_wp2
        go_ret
        exact ⟨ret_bool ((hasI_iff L x).2 (HC.out ▸ List.mem_of_getElem? HY.out)).symm, rfl⟩
      · have d1 : (y == x) = false := by simpa using hl
        have HC := Lib.hid hl; clear hl
        go_wp2
        go_round
        case rel =>
          refine ⟨j + 1, by omega, by go_num, ?_⟩
          rw [HTK.out, List.mem_append, List.mem_singleton]
          rintro (h | h)
          · exact HN.out h
          · exact HC.out h.symm
        case measure => simp [intOf]; omega
    · obtain rfl : j = n := by omega
      go_wp2
      go_ret
      refine ⟨ret_bool ?_, rfl⟩
      have := HN.out
      rw [← HL.out.len, List.take_length] at this
      exact ((hasI_no L x).2 this).symm

set_option maxHeartbeats 2000000 in
theorem before_any (x y : Int) (w : World) (hx : -9223372036854775807 ≤ x) (hx1 : x ≤ 9223372036854775807) (hy : -9223372036854775807 ≤ y) (hy1 : y ≤ 9223372036854775807) :
    Calls Tryz.prog 85 #[.int .i64 x, .int .i64 y] w fun e w' => e = .returned (.bool (decide (vr x < vr y))) ∧ w = w' := by
  have HV : Hid (vr x = if -x ≤ x then x else -x) := by show _ = _; unfold vr; split <;> omega
  have HW : Hid (vr y = if -y ≤ y then y else -y) := by show _ = _; unfold vr; split <;> omega
  generalize vr x = vx at *
  generalize vr y = vy at *
  go_enter Tryz.func85, Tryz.ntmps85
  go_wp2
  all_goals go_ret
  all_goals
    refine ⟨ret_bool ?_, rfl⟩
    have h1 := HV.out
    have h2 := HW.out
    first
      | (apply decide_eq_decide.2; split at h1 <;> split at h2 <;> omega)
      | (symm; apply decide_eq_true; split at h1 <;> split at h2 <;> omega)
      | (symm; apply decide_eq_false; split at h1 <;> split at h2 <;> omega)

set_option maxHeartbeats 2000000 in
theorem same_true (la lb : Option Addr) (n c m k : Nat) (L M : List Int) (w : World) (hL : IntsAt w la n L) (hM : IntsAt w lb m M) (he : L = M) (hn : n ≤ 4611686018427387904) :
    Calls Tryz.prog 47 #[.slice la n c, .slice lb m k] w fun e w' => e = .returned (.bool true) ∧ Kept w w' := by
  subst he
  obtain rfl : m = n := hM.len.symm.trans hL.len
  have HL := Lib.hid hL; have HM := Lib.hid hM; clear hL hM
  have d0 : ((m : Int) != (m : Int)) = false := by simp
  go_enter Tryz.func47, Tryz.ntmps47
  go_wp2
  go_loopw [5] (fun i wr => ∃ j : Nat, j ≤ m ∧ i = .int .i64 j ∧ Kept w wr) (fun i _ => m - (intOf i).toNat)
  case atStart => exact ⟨0, Nat.zero_le _, rfl, Kept.refl _⟩
  case round =>
    obtain ⟨j, hj, rfl, hK⟩ := hrel
    have HK := Lib.hid hK; clear hK
    have j0 : (0 : Int) ≤ (j : Int) := Int.natCast_nonneg _
    by_cases hjn : j < m
    · have j1 : (j : Int) < (m : Int) := by omega
      obtain ⟨b, off, rfl, hc⟩ := HL.out.at_ (by omega)
      obtain ⟨b2, off2, rfl, hc2⟩ := HM.out.at_ (by omega)
      have hjl : j < L.length := by rw [HL.out.len]; exact hjn
      obtain ⟨y, hy⟩ : ∃ y, L[j]? = some y := ⟨_, List.getElem?_eq_getElem hjl⟩
      have x0 := HK.out.cell (hc j y hy)
      have x1 := HK.out.cell (hc2 j y hy)
      have dy : (y != y) = false := by simp
      clear hc hc2 hy hjl
      go_wp2_with fail
      go_quiet (fail)
      go_wp2
      go_roundw
      case rel => exact ⟨j + 1, by omega, by go_num, HK.out.trans (Kept.drewN (Kept.refl _) _)⟩
      case measure => simp [intOf]; omega
    · obtain rfl : j = m := by omega
      go_wp2
      go_ret
      exact ⟨rfl, HK.out⟩

def pickI (i : Int) (n : Nat) : Int := if n = 0 then 0 else i % n
theorem pick_arith (i : Int) (n : Nat) (h : n ≠ 0) (hn : n ≤ 1000000000) : (i.tmod n + n).tmod n = i % n ∧ -1000000000 < i.tmod n ∧ i.tmod n < 1000000000 := by
  have h1 := Int.tmod_add_mul_tdiv i n
  have h2 := Int.lt_tmod_of_pos i (show (0 : Int) < n by omega)
  have h3 := Int.tmod_lt_of_pos i (show (0 : Int) < n by omega)
  refine ⟨?_, by omega, by omega⟩
  have h4 : (0 : Int) ≤ i.tmod n + n := by omega
  rw [Int.tmod_eq_emod_of_nonneg h4, Int.add_emod_right]
  have h5 : i % n = (i.tmod n) % n := by
    conv => lhs; rw [← h1]
    rw [Int.add_mul_emod_self_left]
  exact h5.symm
set_option maxHeartbeats 1000000 in
theorem pick_any (i : Int) (n : Nat) (w : World) (hn0 : n ≠ 0) (hn : n ≤ 1000000000) :
    Calls Tryz.prog 20 #[.int .i64 i, .int .i64 n] w fun e w' => (∃ k : Nat, k < n ∧ e = .returned (.int .i64 k)) ∧ w = w' := by
  have h0 := hn0
  obtain ⟨p1, p2, p3⟩ := pick_arith i n h0 hn
  have HP := Lib.hid p1
  have d0 : decide ((n : Int) ≤ 0) = false := decide_eq_false (by omega)
  have n0 : ((n : Int) == 0) = false := beq_eq_false_iff_ne.2 (by omega)
  have n1 : (n : Int) ≤ 1000000000 := by omega
  have n2 : 0 < (n : Int) := by omega
  have q1 := Int.emod_nonneg i (show (n : Int) ≠ 0 by omega)
  have q2 := Int.emod_lt_of_pos i (show (0 : Int) < n by omega)
  obtain ⟨k, hk⟩ : ∃ k : Nat, (k : Int) = i % n := ⟨(i % n).toNat, by omega⟩
  have HKK := Lib.hid hk
  have hkn : k < n := by omega
  obtain ⟨t, ht⟩ : ∃ t : Int, t = i.tmod n := ⟨_, rfl⟩
  rw [← ht] at p2 p3
  have HT := Lib.hid ht
  clear p1 h0 hn hn0 q1 q2 hk ht
  go_enter Tryz.func20, Tryz.ntmps20
  go_wp2
  go_ret
  refine ⟨⟨k, hkn, ?_⟩, rfl⟩
  rw [HKK.out, ← HP.out, ← HT.out]
  have e : wrap64 (t + n) = t + n := IntWalk.wrap64_in _ (by omega)
  simp only [e]; rfl
end Go.Proofs.YtlikokeknfhejaaGreatDoor
