/-
  Layer 5: the contract of the program's Holds; of the reference's Clause.
-/
import Derived.Test.YtlikokeknfhejaaGreatDoorCFun
import Derived.Test.YtlikokeknfhejaaGreatDoorCRightL
namespace Go.Proofs.YtlikokeknfhejaaGreatDoor
open Go Go.RowKit Go.Sort Go.Lib

/-- A slice of truths, in memory. -/
structure BoolsAt (w : World) (ma : Option Addr) (n : Nat) (M : List Bool) : Prop where
  len : M.length = n
  at_ : 0 < n → ∃ b off, ma = some ⟨b, off, none⟩ ∧ ∀ j x, M[j]? = some x → w.cell? ⟨b, off + j, none⟩ = some (.bool x)
theorem BoolsAt.kept {w w' : World} {ma : Option Addr} {n : Nat} {M : List Bool} (h : BoolsAt w ma n M) (k : Kept w w') : BoolsAt w' ma n M :=
  ⟨h.len, fun hn => by
    obtain ⟨b, off, hl, hc⟩ := h.at_ hn
    exact ⟨b, off, hl, fun j x hx => k.cell (hc j x hx)⟩⟩
theorem hl_at {M : List Bool} {y : Int} {b : Bool} (_h0 : y ≠ 0) (hb : M[(vr y - 1).toNat]? = some b) : hl M y = if 0 < y then b else !b := by
  unfold hl vr at *
  by_cases h : 0 < y
  · rw [if_pos h, if_pos h]
    have e : y.toNat - 1 = (max y (-y) - 1).toNat := by omega
    rw [List.getD_eq_getElem?_getD, e, hb]; rfl
  · rw [if_neg h, if_neg h]
    have e : (-y).toNat - 1 = (max y (-y) - 1).toNat := by omega
    rw [List.getD_eq_getElem?_getD, e, hb]; rfl

set_option maxHeartbeats 2000000 in
theorem holds1_any (V y : Int) (ma : Option Addr) (n c B : Nat) (M : List Bool) (W : World) (hM : BoolsAt W ma n M) (hn : (n : Int) = V) (hV : V ≤ 16777216) (hy : y ≠ 0 ∧ y ≤ V ∧ -V ≤ y) (hB : W.cell? ⟨B, 0, none⟩ = some (.slice ma n c)) :
    Calls Tryz.prog 68 #[.int .i64 y, .pointer (some ⟨B, 0, none⟩)] W (BoolPost (hl M y) W) := by
  have y1 : -16777216 ≤ y := by omega
  have y2 : y ≤ 16777216 := by omega
  have v1 : 1 ≤ vr y ∧ vr y ≤ (n : Int) := by unfold vr; omega
  obtain ⟨v1, v2⟩ := v1
  obtain ⟨b0, off, rfl, hc⟩ := hM.at_ (by omega)
  obtain ⟨k, hk⟩ : ∃ k : Nat, (k : Int) = vr y - 1 := ⟨(vr y - 1).toNat, by omega⟩
  have hkn : (vr y - 1).toNat = k := by omega
  obtain ⟨b, hb⟩ : ∃ b, M[k]? = some b := ⟨_, List.getElem?_eq_getElem (by rw [hM.len]; omega)⟩
  have HH := Lib.hid (hl_at hy.1 (hkn.symm ▸ hb))
  have x0 := hc _ _ hb
  have hvk : vr y = (k : Int) + 1 := by omega
  have HV : Hid (∀ W, Calls Tryz.prog 69 #[.int .i64 y] W fun e w' => e = .returned (.int .i64 ((k : Int) + 1)) ∧ w' = W) := fun W => hvk ▸ (variable_any y W ⟨by omega, by omega⟩ (by omega)).mono fun _ _ h => ⟨h.1, h.2.symm⟩
  have k0 : (0 : Int) ≤ (k : Int) := Int.natCast_nonneg _
  have k1 : (k : Int) < (n : Int) := by omega
  have e1 : IntKind.i64.wrap ((k : Int) + 1 - 1) = (k : Int) := by rw [show (k : Int) + 1 - 1 = k by omega]; exact IntWalk.i64_in _ (by omega)
  have e2 : IntKind.i64.wrap (k : Int) = (k : Int) := IntWalk.i64_in _ (by omega)
  have h0 := hy.1
  have H0 := Lib.hid h0
  have HM := Lib.hid hM
  clear hc hb hM hy h0 hk hkn hvk v1 v2
  by_cases c1 : 0 < y
  · have d1 : decide (0 < y) = true := decide_eq_true c1
    rw [if_pos c1] at HH
    clear c1
    cases b with
    | true =>
      go_enter Tryz.func68, Tryz.ntmps68
      go_wp2_with fail
      go_quiet ((go_at_call 69; exact Calls.quiet_of_same (HV.out _)))
      go_wp2
      go_ret
      exact ⟨ret_bool HH.out.symm, Kept.drewN (Kept.refl _) _⟩
    | false =>
      go_enter Tryz.func68, Tryz.ntmps68
      go_wp2_with fail
      go_quiet ((go_at_call 69; exact Calls.quiet_of_same (HV.out _)))
      go_wp2
      go_ret
      exact ⟨ret_bool HH.out.symm, Kept.drewN (Kept.refl _) _⟩
  · have d1 : decide (0 < y) = false := decide_eq_false c1
    rw [if_neg c1] at HH
    clear c1
    cases b with
    | true =>
      go_enter Tryz.func68, Tryz.ntmps68
      go_wp2_with fail
      go_quiet ((go_at_call 69; exact Calls.quiet_of_same (HV.out _)))
      go_wp2
      go_ret
      exact ⟨ret_bool HH.out.symm, Kept.drewN (Kept.refl _) _⟩
    | false =>
      go_enter Tryz.func68, Tryz.ntmps68
      go_wp2_with fail
      go_quiet ((go_at_call 69; exact Calls.quiet_of_same (HV.out _)))
      go_wp2
      go_ret
      exact ⟨ret_bool HH.out.symm, Kept.drewN (Kept.refl _) _⟩
end Go.Proofs.YtlikokeknfhejaaGreatDoor
