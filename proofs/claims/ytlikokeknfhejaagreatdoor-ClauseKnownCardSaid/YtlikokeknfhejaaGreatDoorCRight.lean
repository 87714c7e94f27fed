/-
  Layer 5: contracts of the program's variable, has, Right.
-/
import Derived.Test.YtlikokeknfhejaaGreatDoorCBase
namespace Go.Proofs.YtlikokeknfhejaaGreatDoor
open Go Go.RowKit

/-- Is a number a literal of so many variables? -/
def litB (V l : Int) : Bool := decide (l ≠ 0) && (decide (l ≤ V) && decide (-V ≤ l))
def allB (V : Int) (L : List Int) : Bool := L.all (litB V)
def rightB (V : Int) (C : List (List Int)) : Bool := decide (0 ≤ V) && (decide (V ≤ 16777216) && (decide (C.length ≤ 1048576) && C.all (allB V)))
theorem litB_iff (V l : Int) : litB V l = true ↔ l ≠ 0 ∧ l ≤ V ∧ -V ≤ l := by unfold litB; simp
theorem allB_iff (V : Int) (L : List Int) : allB V L = true ↔ ∀ x ∈ L, x ≠ 0 ∧ x ≤ V ∧ -V ≤ x := by
  unfold allB; rw [List.all_eq_true]
  exact ⟨fun h x hx => (litB_iff V x).1 (h x hx), fun h x hx => (litB_iff V x).2 (h x hx)⟩
theorem rightB_iff (V : Int) (C : List (List Int)) : rightB V C = true ↔ 0 ≤ V ∧ V ≤ 16777216 ∧ C.length ≤ 1048576 ∧ ∀ c ∈ C, ∀ x ∈ c, x ≠ 0 ∧ x ≤ V ∧ -V ≤ x := by
  unfold rightB
  simp only [Bool.and_eq_true, decide_eq_true_eq, List.all_eq_true, allB_iff]
theorem allB_no {V : Int} {L : List Int} {j : Nat} {x : Int} (hj : L[j]? = some x) (h : litB V x = false) : allB V L = false := by
  cases hh : allB V L with
  | false => rfl
  | true =>
    unfold allB at hh
    have := List.all_eq_true.1 hh x (List.mem_of_getElem? hj)
    rw [h] at this; cases this
theorem right_no {V : Int} {C : List (List Int)} {j : Nat} {c : List Int} (hj : C[j]? = some c) (h : allB V c = false) : rightB V C = false := by
  cases hh : rightB V C with
  | false => rfl
  | true =>
    unfold rightB at hh
    simp only [Bool.and_eq_true, List.all_eq_true] at hh
    have := hh.2.2.2 c (List.mem_of_getElem? hj)
    rw [h] at this; cases this

set_option maxHeartbeats 1000000 in
theorem variable_any (x : Int) (w : World) (h : InR x) (hm : x ≠ -9223372036854775808) : Calls Tryz.prog 69 #[.int .i64 x] w fun e w' => e = .returned (.int .i64 (vr x)) ∧ w = w' := by
  have h1 : -9223372036854775807 ≤ x := by unfold InR at h; omega
  have h2 : x ≤ 9223372036854775807 := h.2
  clear h hm
  go_enter Tryz.func69, Tryz.ntmps69
  go_wp2
  all_goals go_ret
  all_goals exact ⟨ret_int (by unfold vr; omega), rfl⟩

set_option maxHeartbeats 2000000 in
theorem has_any (V : Int) (ca la : Option Addr) (cn cc n c : Nat) (L : List Int) (w : World) (hV0 : 0 ≤ V) (hV1 : V ≤ 16777216) (hL : IntsAt w la n L) (hn : n ≤ 4611686018427387904) :
    Calls Tryz.prog 54 #[.agg #[.int .i64 V, .slice ca cn cc], .slice la n c] w fun e w' => e = .returned (.bool (allB V L)) ∧ Kept w w' := by
  have HL := Lib.hid hL; clear hL
  have HB := Lib.hid (MapKept.heap_alloc w (.cells #[.int .i64 V, .slice ca cn cc] 25)).1
  have HK0 := Lib.hid ((Kept.refl w).alloc (.cells #[.int .i64 V, .slice ca cn cc] 25))
  go_enter Tryz.func54, Tryz.ntmps54
  go_wp2
  obtain ⟨w1, hw1⟩ : ∃ w1 : World, w1 = w.alloc (.cells #[.int .i64 V, .slice ca cn cc] 25) := ⟨_, rfl⟩
  rw [← hw1] at HB HK0 ⊢
  clear hw1
  go_loopw [9] (fun i wr => ∃ j : Nat, j ≤ n ∧ i = .int .i64 j ∧ allB V (L.take j) = true ∧ Kept w1 wr) (fun i _ => n - (intOf i).toNat)
  case atStart => exact ⟨0, Nat.zero_le _, rfl, rfl, Kept.refl _⟩
  case round =>
    obtain ⟨j, hj, rfl, hall, hK⟩ := hrel
    have HA := Lib.hid hall; have HK := Lib.hid hK
    clear hall hK
    have j0 : (0 : Int) ≤ (j : Int) := Int.natCast_nonneg _
    by_cases hjn : j < n
    · have j1 : (j : Int) < (n : Int) := by omega
      obtain ⟨b, off, rfl, hc⟩ := HL.out.at_ (by omega)
      have hjl : j < L.length := by rw [HL.out.len]; exact hjn
      obtain ⟨x, hx⟩ : ∃ x, L[j]? = some x := ⟨_, List.getElem?_eq_getElem hjl⟩
      have x0 := (HK0.out.trans HK.out).cell (hc j x hx)
      have HX := Lib.hid hx
      have HTK : Hid (L.take (j + 1) = L.take j ++ [x]) := by
        show _ = _
        rw [List.take_succ_eq_append_getElem hjl, (List.getElem?_eq_some_iff.1 hx).2]
      have y0 : wr.cell? ⟨w.heap.size, 0, none⟩ = some (.int .i64 V) := by
        rw [cell_of_row _ _ _ _ _ _ (HK.out.row HB.out)]; rfl
      clear hc hx hjl
      by_cases hl : litB V x = true
      · have hl' := (litB_iff V x).1 hl
        have d1 : (x == 0) = false := by simpa using hl'.1
        have d2 : decide (V < x) = false := by simpa using hl'.2.1
        have d3 : decide (x < -V) = false := by simpa using hl'.2.2
        clear hl'
        have HLT := Lib.hid hl; clear hl
        go_wp2
        go_roundw
        case rel =>
          refine ⟨j + 1, by omega, by go_num, ?_, HK.out⟩
          rw [HTK.out]
          unfold allB
          rw [List.all_append]
          have := HA.out
          unfold allB at this
          simp [this, HLT.out]
        case measure => simp [intOf]; omega
      · have hlf : litB V x = false := by simpa using hl
        have hno := allB_no HX.out hlf
        have HNO := Lib.hid hno; clear hno
        clear hl
        by_cases c1 : x = 0
        · have d1 : (x == 0) = true := by simpa using c1
          clear hlf
          have HC := Lib.hid c1; clear c1
          go_wp2
          go_ret
          exact ⟨ret_bool HNO.out.symm, HK0.out.trans HK.out⟩
        · have d1 : (x == 0) = false := by simpa using c1
          by_cases c2 : V < x
          · have d2 : decide (V < x) = true := by simpa using c2
            clear hlf
            go_wp2
            go_ret
            exact ⟨ret_bool HNO.out.symm, HK0.out.trans HK.out⟩
          · have d2 : decide (V < x) = false := by simpa using c2
            have d3 : decide (x < -V) = true := by
              unfold litB at hlf; simp at hlf; simp; exact hlf c1 (by omega)
            clear hlf
            go_wp2
            go_ret
            exact ⟨ret_bool HNO.out.symm, HK0.out.trans HK.out⟩
    · obtain rfl : j = n := by omega
      go_wp2
      go_ret
      refine ⟨ret_bool ?_, HK0.out.trans HK.out⟩
      have := HA.out
      rw [← HL.out.len, List.take_length] at this
      rw [this]
end Go.Proofs.YtlikokeknfhejaaGreatDoor
