/-
  Layer 5: the contract of the reference's Right.
-/
import Derived.Test.YtlikokeknfhejaaGreatDoorCRef
namespace Go.Proofs.YtlikokeknfhejaaGreatDoor
open Go Go.RowKit

abbrev rObj (V : Int) (ca : Option Addr) (cn cc : Nat) : Obj := .cells #[.int .i64 V, .slice ca cn cc] 83
theorem rbox_facts {W w : World} {b : Nat} {V : Int} {ca : Option Addr} {cn cc : Nat} (h : W.heap[b]? = some (rObj V ca cn cc)) (hk : Kept W w) :
    w.cell? ⟨b, 0, none⟩ = some (.int .i64 V) ∧ w.cell? ⟨b, 1, none⟩ = some (.slice ca cn cc) := by
  have h1 := hk.row h
  refine ⟨?_, ?_⟩ <;> (rw [cell_of_row _ _ _ _ _ _ h1]; rfl)
set_option maxRecDepth 100000 in
set_option maxHeartbeats 4000000 in
theorem rright_any (V : Int) (ca : Option Addr) (cn cc : Nat) (C : List (List Int)) (w : World) (hV : InR V) (hC : ClsAt w ca cn C) (hn : cn ≤ 1000000) (hS : ∀ c ∈ C, c.length ≤ 1000000) :
    Calls Tryz.prog 45 #[.agg #[.int .i64 V, .slice ca cn cc]] w fun e w' => e = .returned (.bool (rightB V C)) ∧ Kept w w' := by
  have HC := Lib.hid hC; have HS := Lib.hid hS; clear hC hS
  have HB := Lib.hid (MapKept.heap_alloc w (rObj V ca cn cc)).1
  have HK0 := Lib.hid ((Kept.refl w).alloc (rObj V ca cn cc))
  have HLN := Lib.hid HC.out.len
  obtain ⟨v0, v1⟩ : -9223372036854775808 ≤ V ∧ V ≤ 9223372036854775807 := hV
  have d3 : decide ((1048576 : Int) < (cn : Int)) = false := by simp; omega
  by_cases c1 : V < 0
  · have hno : rightB V C = false := by unfold rightB; simp; omega
    have HNO := Lib.hid hno; clear hno
    have d1 : decide (V < 0) = true := by simpa using c1
    go_enter Tryz.func45, Tryz.ntmps45
    go_wp2
    go_ret
    exact ⟨ret_bool HNO.out.symm, HK0.out⟩
  · have d1 : decide (V < 0) = false := by simpa using c1
    by_cases c2 : 16777216 < V
    · have hno : rightB V C = false := by unfold rightB; simp; intros; omega
      have HNO := Lib.hid hno; clear hno
      have d2 : decide (16777216 < V) = true := by simpa using c2
      go_enter Tryz.func45, Tryz.ntmps45
      go_wp2
      go_ret
      exact ⟨ret_bool HNO.out.symm, HK0.out⟩
    · have d2 : decide (16777216 < V) = false := by simpa using c2
      go_enter Tryz.func45, Tryz.ntmps45
      go_wp2
      obtain ⟨w1, hw1⟩ : ∃ w1 : World, w1 = w.alloc (rObj V ca cn cc) := ⟨_, rfl⟩
      obtain ⟨B, hBe⟩ : ∃ B : Nat, B = w.heap.size := ⟨_, rfl⟩
      change Code.wp _ _ _ _ (w.alloc (rObj V ca cn cc))
      rw [← hBe] at HB ⊢
      rw [← hw1] at HB HK0 ⊢
      clear hw1 hBe
      go_loopw [3] (fun i wr => ∃ j : Nat, j ≤ cn ∧ i = .int .i64 j ∧ (C.take j).all (allB V) = true ∧ Kept w1 wr) (fun i _ => cn - (intOf i).toNat)
      case atStart => exact ⟨0, Nat.zero_le _, rfl, rfl, Kept.refl _⟩
      case round =>
        obtain ⟨j, hj, rfl, hall, hK⟩ := hrel
        have HA := Lib.hid hall; have HK := Lib.hid hK
        clear hall hK
        have j0 : (0 : Int) ≤ (j : Int) := Int.natCast_nonneg _
        obtain ⟨y0, y1⟩ := rbox_facts HB.out HK.out
        by_cases hjn : j < cn
        · have j1 : (j : Int) < (cn : Int) := by omega
          obtain ⟨b, off, rfl, hc⟩ := HC.out.at_ (by omega)
          have hjl : j < C.length := by rw [HLN.out]; exact hjn
          obtain ⟨c, hcj⟩ : ∃ c, C[j]? = some c := ⟨_, List.getElem?_eq_getElem hjl⟩
          obtain ⟨a, k, cap, x0, hI, _, hkc⟩ := hc j c hcj
          have HX0 := Lib.hid x0
          have HI := Lib.hid hI
          have hk : k ≤ 1000000 := by have := HS.out c (List.mem_of_getElem? hcj); rw [hI.len] at this; exact this
          have HX := Lib.hid hcj
          have HTK : Hid (C.take (j + 1) = C.take j ++ [c]) := by
            show _ = _
            rw [List.take_succ_eq_append_getElem hjl, (List.getElem?_eq_some_iff.1 hcj).2]
          clear hc hcj hjl hI x0 hkc
          obtain ⟨wo, rfl⟩ : ∃ wo : World, wo = wr := ⟨_, rfl⟩
          go_wp2
          clear y0 y1
          go_loopw [4] (fun i wr => ∃ t : Nat, t ≤ k ∧ i = .int .i64 t ∧ allB V (c.take t) = true ∧ Kept w1 wr) (fun i _ => k - (intOf i).toNat)
          case atStart => exact ⟨0, Nat.zero_le _, rfl, rfl, HK.out⟩
          case round =>
            obtain ⟨t, ht, rfl, hall, hK⟩ := hrel
            have HA2 := Lib.hid hall; have HK2 := Lib.hid hK
            clear hall hK
            have t0 : (0 : Int) ≤ (t : Int) := Int.natCast_nonneg _
            obtain ⟨y0, y1⟩ := rbox_facts HB.out HK2.out
            have x0 := (HK0.out.trans HK2.out).cell HX0.out
            have HKT : Hid ((c.take k) = c) := by show _ = _; rw [← HI.out.len, List.take_length]
            by_cases htk : t < k
            · have t1 : (t : Int) < (k : Int) := by omega
              obtain ⟨b2, o2, rfl, hcc⟩ := HI.out.at_ (by omega)
              have htl : t < c.length := by rw [HI.out.len]; exact htk
              obtain ⟨x, hx⟩ : ∃ x, c[t]? = some x := ⟨_, List.getElem?_eq_getElem htl⟩
              have x1 := (HK0.out.trans HK2.out).cell (hcc t x hx)
              have HXX := Lib.hid hx
              have HTT : Hid (c.take (t + 1) = c.take t ++ [x]) := by
                show _ = _
                rw [List.take_succ_eq_append_getElem htl, (List.getElem?_eq_some_iff.1 hx).2]
              clear hcc hx htl
              have HLC : Hid (∀ w, Calls Tryz.prog 88 #[.int .i64 x, .int .i64 V] w fun e w' => e = .returned (.bool (litB V x)) ∧ w' = w) := fun w => (lit_any x V w (by omega) (by omega)).mono fun _ _ h => ⟨h.1, h.2.symm⟩
              cases hl : litB V x with
              | true =>
                rw [hl] at HLC
                have HL := Lib.hid hl; clear hl
                go_wp2_with fail
                go_quiet ((go_at_call 88; exact Calls.quiet_of_same (HLC.out _)))
                go_wp2
                go_roundw
                case rel =>
                  refine ⟨t + 1, by omega, by go_num, ?_, HK2.out.trans (Kept.drewN (Kept.refl _) _)⟩
                  rw [HTT.out]
                  unfold allB
                  rw [List.all_append]
                  have := HA2.out
                  unfold allB at this
                  simp [this, HL.out]
                case measure => simp [intOf]; omega
              | false =>
                rw [hl] at HLC
                have HNO := Lib.hid (right_no HX.out (allB_no HXX.out hl))
                clear hl
                go_wp2_with fail
                go_quiet ((go_at_call 88; exact Calls.quiet_of_same (HLC.out _)))
                go_wp2
                go_ret
                exact ⟨ret_bool HNO.out.symm, HK0.out.trans (HK2.out.trans (Kept.drewN (Kept.refl _) _))⟩
            · obtain rfl : t = k := by omega
              go_wp2
              go_roundw
              case rel =>
                refine ⟨j + 1, by omega, by go_num, ?_, HK2.out⟩
                have h2 := HA2.out
                rw [HKT.out] at h2
                rw [HTK.out, List.all_append, HA.out]
                simp [h2]
              case measure => simp [intOf]; omega
        · obtain rfl : j = cn := by omega
          have HY : Hid (rightB V C = true) := by
            have h2 := HA.out
            rw [← HLN.out, List.take_length] at h2
            show rightB V C = true
            unfold rightB
            rw [h2, HLN.out]
            simp; omega
          go_wp2
          go_ret
          exact ⟨ret_bool HY.out.symm, HK0.out.trans HK.out⟩
end Go.Proofs.YtlikokeknfhejaaGreatDoor
