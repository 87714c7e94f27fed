/-
  Layer 2: is a number among numbers.
-/
import Derived.Test.YtjhmbbioplhcgaaDoorTUses
namespace Go.Proofs.YtjhmbbioplhcgaaDoor
open Go

set_option maxRecDepth 100000 in
theorem in_any (la : Option Addr) (n lc : Nat) (us : List Int) (x : Int) (w : World) (hz : RootsAt w la n us) (hn : n ≤ 100000) (hx : x ∈ us) :
    Calls Tryd.prog 25 #[.slice la n lc, .int .i64 x] w fun e w' => e = .returned (.bool true) ∧ w' = w := by
  have HZ := Lib.hid hz
  have HX := Lib.hid hx
  clear hz hx
  go_enter Tryd.func25, Tryd.ntmps25
  go_wp2_with fail
  go_loopw [5] (fun i wr => ∃ j : Nat, j ≤ n ∧ i = .int .i64 j ∧ (∀ k y, k < j → us[k]? = some y → y ≠ x) ∧ wr = w) (fun i _ => n - (intOf i).toNat)
  case atStart => exact ⟨0, Nat.zero_le _, rfl, fun k y hk => absurd hk (Nat.not_lt_zero _), rfl⟩
  case round =>
    obtain ⟨j, hj, rfl, hne, rfl⟩ := hrel
    have HNE := Lib.hid hne; clear hne
    by_cases hlt : j < n
    · obtain ⟨b, off, rfl, hc⟩ := HZ.out.at_ (by omega)
      have hjl : j < us.length := by rw [HZ.out.len]; exact hlt
      obtain ⟨y, hy⟩ : ∃ y, us[j]? = some y := ⟨_, List.getElem?_eq_getElem hjl⟩
      have x0 := hc j y hy
      have HY := Lib.hid hy
      clear hc hjl hy
      have j0 : (0 : Int) ≤ (j : Int) := Int.natCast_nonneg _
      have j1 : (j : Int) < (n : Int) := by omega
      by_cases hyx : y = x
      · subst hyx
        go_wp2
        go_ret
        exact ⟨rfl, rfl⟩
      · go_wp2
        go_roundw
        case rel =>
          refine ⟨j + 1, by omega, by go_num, fun k z hk hz => ?_, by trivial⟩
          by_cases hkj : k = j
          · subst hkj
            rw [HY.out] at hz
            cases hz
            exact hyx
          · exact HNE.out k z (by omega) hz
        case measure => simp [intOf]; omega
    · exfalso
      obtain ⟨k, hk, hkx⟩ := List.getElem_of_mem HX.out
      exact HNE.out k x (by have := HZ.out.len; omega) (by rw [List.getElem?_eq_getElem hk, hkx]) rfl
end Go.Proofs.YtjhmbbioplhcgaaDoor
