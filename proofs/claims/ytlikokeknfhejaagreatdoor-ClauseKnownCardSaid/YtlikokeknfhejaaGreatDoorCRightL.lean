/-
  Layer 5: the contract of the program's Right.
-/
import Derived.Test.YtlikokeknfhejaaGreatDoorCRight
namespace Go.Proofs.YtlikokeknfhejaaGreatDoor
open Go Go.RowKit

abbrev fV (V : Int) (ca : Option Addr) (cn cc : Nat) : Value := .agg #[.int .i64 V, .slice ca cn cc]
abbrev fObj (V : Int) (ca : Option Addr) (cn cc : Nat) : Obj := .cells #[.int .i64 V, .slice ca cn cc] 25
theorem box_facts {W w : World} {b : Nat} {V : Int} {ca : Option Addr} {cn cc : Nat} (h : W.heap[b]? = some (fObj V ca cn cc)) (hk : Kept W w) :
    w.cell? ⟨b, 0, none⟩ = some (.int .i64 V) ∧ w.cell? ⟨b, 1, none⟩ = some (.slice ca cn cc) := by
  have h1 := hk.row h
  refine ⟨?_, ?_⟩ <;> (rw [cell_of_row _ _ _ _ _ _ h1]; rfl)

/-- The lengths of clauses are no more than a slice's. -/
def Short (C : List (List Int)) : Prop := ∀ c ∈ C, c.length ≤ 4611686018427387904

set_option maxHeartbeats 2000000 in
theorem right_any (V : Int) (ca : Option Addr) (cn cc : Nat) (C : List (List Int)) (w : World) (hV : InR V) (hC : ClsAt w ca cn C) (hn : cn ≤ 4611686018427387904) (hS : Short C) :
    Calls Tryz.prog 11 #[.agg #[.int .i64 V, .slice ca cn cc]] w fun e w' => e = .returned (.bool (rightB V C)) ∧ Kept w w' := by
  have HC := Lib.hid hC; have HS := Lib.hid hS; clear hC hS
  have HB := Lib.hid (MapKept.heap_alloc w (fObj V ca cn cc)).1
  have HK0 := Lib.hid ((Kept.refl w).alloc (fObj V ca cn cc))
  have HLN := Lib.hid HC.out.len
  obtain ⟨v0, v1⟩ : -9223372036854775808 ≤ V ∧ V ≤ 9223372036854775807 := hV
  by_cases c1 : V < 0
  · have hno : rightB V C = false := by unfold rightB; simp; omega
    have HNO := Lib.hid hno; clear hno
    have d1 : decide (V < 0) = true := by simpa using c1
    go_enter Tryz.func11, Tryz.ntmps11
    go_wp2
    go_ret
    exact ⟨ret_bool HNO.out.symm, HK0.out⟩
  · have d1 : decide (V < 0) = false := by simpa using c1
    by_cases c2 : 16777216 < V
    · have hno : rightB V C = false := by unfold rightB; simp; intros; omega
      have HNO := Lib.hid hno; clear hno
      have d2 : decide (16777216 < V) = true := by simpa using c2
      go_enter Tryz.func11, Tryz.ntmps11
      go_wp2
      go_ret
      exact ⟨ret_bool HNO.out.symm, HK0.out⟩
    · have d2 : decide (16777216 < V) = false := by simpa using c2
      by_cases c3 : 1048576 < cn
      · have hno : rightB V C = false := by unfold rightB; rw [HLN.out]; simp; intros; omega
        have HNO := Lib.hid hno; clear hno
        have d3 : decide ((1048576 : Int) < (cn : Int)) = true := by simp; omega
        go_enter Tryz.func11, Tryz.ntmps11
        go_wp2
        go_ret
        exact ⟨ret_bool HNO.out.symm, HK0.out⟩
      · have d3 : decide ((1048576 : Int) < (cn : Int)) = false := by simp; omega
        go_enter Tryz.func11, Tryz.ntmps11
        go_wp2
        obtain ⟨w1, hw1⟩ : ∃ w1 : World, w1 = w.alloc (fObj V ca cn cc) := ⟨_, rfl⟩
        change Code.wp _ _ _ _ (w.alloc (fObj V ca cn cc))
        rw [← hw1] at HB HK0 ⊢
        clear hw1
        go_loopw [22] (fun i wr => ∃ j : Nat, j ≤ cn ∧ i = .int .i64 j ∧ (C.take j).all (allB V) = true ∧ Kept w1 wr) (fun i _ => cn - (intOf i).toNat)
        case atStart => exact ⟨0, Nat.zero_le _, rfl, rfl, Kept.refl _⟩
        case round =>
          obtain ⟨j, hj, rfl, hall, hK⟩ := hrel
          have HA := Lib.hid hall; have HK := Lib.hid hK
          clear hall hK
          have j0 : (0 : Int) ≤ (j : Int) := Int.natCast_nonneg _
          by_cases hjn : j < cn
          · have j1 : (j : Int) < (cn : Int) := by omega
            obtain ⟨b, off, rfl, hc⟩ := HC.out.at_ (by omega)
            have hjl : j < C.length := by rw [HLN.out]; exact hjn
            obtain ⟨c, hcj⟩ : ∃ c, C[j]? = some c := ⟨_, List.getElem?_eq_getElem hjl⟩
            obtain ⟨a, k, cap, x0, hI, _, hkc⟩ := hc j c hcj
            have x0 := (HK0.out.trans HK.out).cell x0
            have HI := Lib.hid (hI.kept (HK0.out.trans HK.out))
            have hk : k ≤ 4611686018427387904 := by have := HS.out c (List.mem_of_getElem? hcj); rw [hI.len] at this; exact this
            have HX := Lib.hid hcj
            have HTK : Hid (C.take (j + 1) = C.take j ++ [c]) := by
              show _ = _
              rw [List.take_succ_eq_append_getElem hjl, (List.getElem?_eq_some_iff.1 hcj).2]
            obtain ⟨y0, y1⟩ := box_facts HB.out HK.out
            clear hc hcj hjl hI
            cases hl : allB V c with
            | true =>
              have HL := Lib.hid hl; clear hl
              go_wp2_with fail
              refine (has_any V (some ⟨b, off, none⟩) a cn cc k cap c wr (by omega) (by omega) HI.out hk).mono ?_
              rw [HL.out]
              rintro e w2 ⟨rfl, hk2⟩
              have HK2 := Lib.hid hk2; clear hk2
              go_wp2
              go_roundw
              case rel =>
                refine ⟨j + 1, by omega, by go_num, ?_, HK.out.trans HK2.out⟩
                rw [HTK.out, List.all_append, HA.out]
                simp [HL.out]
              case measure => simp [intOf]; omega
            | false =>
              have HL := Lib.hid hl; clear hl
              have HNO := Lib.hid (right_no HX.out HL.out)
              go_wp2_with fail
              refine (has_any V (some ⟨b, off, none⟩) a cn cc k cap c wr (by omega) (by omega) HI.out hk).mono ?_
              rw [HL.out]
              rintro e w2 ⟨rfl, hk2⟩
              have HK2 := Lib.hid hk2; clear hk2
              go_wp2
              go_ret
              exact ⟨ret_bool HNO.out.symm, HK0.out.trans (HK.out.trans HK2.out)⟩
          · obtain rfl : j = cn := by omega
            have HY : Hid (rightB V C = true) := by
              have h2 := HA.out
              rw [← HLN.out, List.take_length] at h2
              show rightB V C = true
              unfold rightB
              rw [h2, HLN.out]
              simp; omega
            go_wp2
            go_ret
            exact ⟨ret_bool HY.out.symm, HK0.out.trans HK.out⟩
end Go.Proofs.YtlikokeknfhejaaGreatDoor
