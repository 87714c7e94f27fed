/-
  Layer 5: the contract of the program's Holds.
-/
import Derived.Test.YtlikokeknfhejaaGreatDoorCHolds
namespace Go.Proofs.YtlikokeknfhejaaGreatDoor
open Go Go.RowKit Go.Sort Go.Lib

/-- What Holds answers. -/
def holdsB (V : Int) (C : List (List Int)) (M : List Bool) : Bool := rightB V C && (decide ((M.length : Int) = V) && hf M C)
theorem Short.le {C : List (List Int)} (h : ∀ c ∈ C, c.length ≤ 1000000) : Short C := fun c hc => Nat.le_trans (h c hc) (by decide)
set_option maxHeartbeats 4000000 in
theorem holds_any (V : Int) (ca ma : Option Addr) (cn cc n c : Nat) (C : List (List Int)) (M : List Bool) (w : World) (hV : InR V) (hC : ClsAt w ca cn C) (hcn : cn ≤ 1000000) (hS : ∀ c ∈ C, c.length ≤ 1000000) (hM : BoolsAt w ma n M) (_hn : n ≤ 1000000000) :
    Calls Tryz.prog 25 #[.agg #[.int .i64 V, .slice ca cn cc], .slice ma n c] w (BoolPost (holdsB V C M) w) := by
  have HC := Lib.hid hC; have HM := Lib.hid hM; have HS := Lib.hid hS; clear hC hM hS
  have HLM := Lib.hid HM.out.len
  have HLN := Lib.hid HC.out.len
  have HVR := Lib.hid hV; clear hV
  have HB := Lib.hid (MapKept.heap_alloc w (fObj V ca cn cc)).1
  have HB2 := Lib.hid (MapKept.heap_alloc (w.alloc (fObj V ca cn cc)) (.cells #[.slice ma n c] 32)).1
  have HK0 := Lib.hid (((Kept.refl w).alloc (fObj V ca cn cc)).alloc (.cells #[.slice ma n c] 32))
  have HK01 := Lib.hid ((Kept.refl (w.alloc (fObj V ca cn cc))).alloc (.cells #[.slice ma n c] 32))
  have eg : ∀ args w, (callFunc 68 args).run Tryz.prog w = .ok (.enter 68 args) w := enters_of Tryz.func68 (by kernel_rfl) rfl
  have HEG := Lib.hid eg; clear eg
  obtain ⟨B, hBe⟩ : ∃ B : Nat, B = w.heap.size := ⟨_, rfl⟩
  obtain ⟨B2, hB2e⟩ : ∃ B2 : Nat, B2 = w.heap.size + 1 := ⟨_, rfl⟩
  have e2 : (w.alloc (fObj V ca cn cc)).heap.size = w.heap.size + 1 := by simp
  rw [e2, ← hB2e] at HB2
  rw [← hBe] at HB
  have HB1 : Hid (((w.alloc (fObj V ca cn cc)).alloc (.cells #[.slice ma n c] 32)).heap[B]? = some (fObj V ca cn cc)) := HK01.out.row HB.out
  clear e2
  go_enter Tryz.func25, Tryz.ntmps25
  go_upto_region 1 with (fail)
  rw [← hB2e, ← hBe]
  obtain ⟨w1, hw1⟩ : ∃ w1 : World, w1 = (w.alloc (fObj V ca cn cc)).alloc (.cells #[.slice ma n c] 32) := ⟨_, rfl⟩
  change Code.wp _ _ _ _ ((w.alloc (fObj V ca cn cc)).alloc (.cells #[.slice ma n c] 32))
  rw [← hw1] at HB1 HB2 HK0 ⊢
  clear hw1 hBe hB2e HB HK01
  obtain ⟨y0, y1⟩ := box_facts HB1.out (Kept.refl w1)
  have z0 : w1.cell? ⟨B2, 0, none⟩ = some (.slice ma n c) := by rw [cell_of_row _ _ _ _ _ _ HB2.out]; rfl
  cases hr : rightB V C with
  | false =>
    have HNO : Hid (holdsB V C M = false) := by show _ = _; unfold holdsB; rw [hr]; rfl
    have HR := Lib.hid hr; clear hr
    go_wp2_with fail
    refine (right_any V ca cn cc C w1 HVR.out (HC.out.kept HK0.out) (by omega) (Short.le HS.out)).mono ?_
    rw [HR.out]
    rintro e w2 ⟨rfl, hk2⟩
    have HK2 := Lib.hid hk2; clear hk2
    go_wp2
    go_ret
    exact ⟨ret_bool HNO.out.symm, HK0.out.trans HK2.out⟩
  | true =>
    have HR := Lib.hid hr; clear hr
    have HRI := Lib.hid ((rightB_iff V C).1 HR.out)
    have v0 := HRI.out.1
    have v1 := HRI.out.2.1
    go_wp2_with fail
    refine (right_any V ca cn cc C w1 HVR.out (HC.out.kept HK0.out) (by omega) (Short.le HS.out)).mono ?_
    rw [HR.out]
    rintro e w2 ⟨rfl, hk2⟩
    have HK2 := Lib.hid hk2; clear hk2
    clear y0 y1 z0
    obtain ⟨y0, y1⟩ := box_facts HB1.out HK2.out
    have z0 : w2.cell? ⟨B2, 0, none⟩ = some (.slice ma n c) := by rw [cell_of_row _ _ _ _ _ _ (HK2.out.row HB2.out)]; rfl
    by_cases hnV : (n : Int) = V
    · have d1 : ((n : Int) != V) = false := by simpa using hnV
      have HNV := Lib.hid hnV; clear hnV
      go_wp2
      go_loopw [22] (fun i wr => ∃ j : Nat, j ≤ cn ∧ i = .int .i64 j ∧ hf M (C.take j) = true ∧ Kept w2 wr) (fun i _ => cn - (intOf i).toNat)
      case atStart => exact ⟨0, Nat.zero_le _, rfl, rfl, Kept.refl _⟩
      case round =>
        obtain ⟨j, hj, rfl, hall, hK⟩ := hrel
        have HA := Lib.hid hall; have HK := Lib.hid hK
        clear hall hK
        have j0 : (0 : Int) ≤ (j : Int) := Int.natCast_nonneg _
        by_cases hjn : j < cn
        · have j1 : (j : Int) < (cn : Int) := by omega
          obtain ⟨b, off, rfl, hc⟩ := HC.out.at_ (by omega)
          have hjl : j < C.length := by rw [HLN.out]; exact hjn
          obtain ⟨cl, hcj⟩ : ∃ c, C[j]? = some c := ⟨_, List.getElem?_eq_getElem hjl⟩
          obtain ⟨a, k, cap, x0, hI, _, hkc⟩ := hc j cl hcj
          have HKW := Lib.hid (HK0.out.trans (HK2.out.trans HK.out))
          have x0 := HKW.out.cell x0
          have HI := Lib.hid (hI.kept HKW.out)
          have hk : k ≤ 1000000 := by have := HS.out cl (List.mem_of_getElem? hcj); rw [hI.len] at this; exact this
          have HX := Lib.hid hcj
          have HTK : Hid (C.take (j + 1) = C.take j ++ [cl]) := by
            show _ = _
            rw [List.take_succ_eq_append_getElem hjl, (List.getElem?_eq_some_iff.1 hcj).2]
          have HPR : Hid (Pred_c 68 (.pointer (some ⟨B2, 0, none⟩)) (hl M) cl wr) := fun y hy W hkW =>
            holds1_any V y ma n c B2 M W (HM.out.kept (HKW.out.trans hkW)) HNV.out v1 (HRI.out.2.2.2 cl (List.mem_of_getElem? hcj) y hy) (by rw [cell_of_row _ _ _ _ _ _ ((HK2.out.trans (HK.out.trans hkW)).row HB2.out)]; rfl)
          have HCON := Lib.hid (contains_c 68 (.pointer (some ⟨B2, 0, none⟩)) (hl M) a k cap cl wr HEG.out HI.out hk HPR.out)
          clear hc hcj hjl hI
          cases hh : hc M cl with
          | true =>
            have HHH := Lib.hid hh; clear hh
            unfold hc at HHH
            go_wp2_with fail
            refine HCON.out.mono ?_
            rw [HHH.out]
            rintro e w3 ⟨rfl, hk3⟩
            have HK3 := Lib.hid hk3; clear hk3
            go_wp2
            go_roundw
            case rel =>
              refine ⟨j + 1, by omega, by go_num, ?_, HK.out.trans HK3.out⟩
              rw [HTK.out]
              unfold hf hc
              have h5 := HA.out
              unfold hf hc at h5
              rw [List.all_append, h5]
              simp [HHH.out]
            case measure => simp [intOf]; omega
          | false =>
            have HHH := Lib.hid hh; clear hh
            have HNO : Hid (holdsB V C M = false) := by
              show _ = _
              cases hb : holdsB V C M with
              | false => rfl
              | true =>
                unfold holdsB hf at hb
                simp only [Bool.and_eq_true, List.all_eq_true] at hb
                have := hb.2.2 cl (List.mem_of_getElem? HX.out)
                rw [HHH.out] at this; cases this
            unfold hc at HHH
            go_wp2_with fail
            refine HCON.out.mono ?_
            rw [HHH.out]
            rintro e w3 ⟨rfl, hk3⟩
            have HK3 := Lib.hid hk3; clear hk3
            go_wp2
            go_ret
            exact ⟨ret_bool HNO.out.symm, HKW.out.trans HK3.out⟩
        · obtain rfl : j = cn := by omega
          have HY : Hid (holdsB V C M = true) := by
            show _ = _
            have h2 := HA.out
            rw [← HLN.out, List.take_length] at h2
            unfold holdsB
            rw [HR.out, h2, HLM.out, decide_eq_true HNV.out]; rfl
          go_wp2
          go_ret
          exact ⟨ret_bool HY.out.symm, HK0.out.trans (HK2.out.trans HK.out)⟩
    · have d1 : ((n : Int) != V) = true := by simpa using hnV
      have HNO : Hid (holdsB V C M = false) := by
        show _ = _; unfold holdsB; rw [HLM.out, decide_eq_false hnV]; simp
      clear hnV
      go_wp2
      go_ret
      exact ⟨ret_bool HNO.out.symm, HK0.out.trans HK2.out⟩
end Go.Proofs.YtlikokeknfhejaaGreatDoor
