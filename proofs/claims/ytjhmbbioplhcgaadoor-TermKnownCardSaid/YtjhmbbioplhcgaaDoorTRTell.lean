/-
  Layer 2: contracts of the reference's Deep and Sign.
-/
import Derived.Test.YtjhmbbioplhcgaaDoorTRAdd
import Derived.Test.YtjhmbbioplhcgaaDoorTTellM
import Derived.IntWalk
namespace Go.Proofs.YtjhmbbioplhcgaaDoor
open Go Go.RowKit

theorem deep_low {L : List Nd} (i : Int) (hL : L.length ≤ 900) : 0 ≤ deepI L i ∧ deepI L i ≤ 1000 := by
  refine ⟨deepI_nonneg L i, ?_⟩
  have h0 : ∀ (M : List Nd), ∀ q ∈ kps M, q.deep ≤ M.length := kps_deep_le
  unfold deepI
  split
  · rename_i hb
    obtain ⟨h1, h2⟩ := (hasB_iff _ _).1 hb
    obtain ⟨k, rfl⟩ : ∃ k : Nat, i = k := ⟨i.toNat, by omega⟩
    have h3 := h0 L (kAt (kps L) (k : Int)) (kAt_mem (by omega))
    omega
  · omega

set_option maxRecDepth 100000 in
set_option maxHeartbeats 4000000 in
theorem rdeep_has {N h c : Nat} {a : Option Addr} {L : List Nd} (hG : Good L) (hl : L.length ≤ 900) (n : Nat) :
    ∀ (i : Int) (w : World), i < n → hasB L.length i = true → RefAt N w h a c L →
      Calls Tryd.prog 20 #[.pointer (some ⟨h, 0, none⟩), .int .i64 i] w fun e w' => e = .returned (.int .i64 (deepI L i)) ∧ Kept w w' := by
  induction n with
  | zero =>
    intro i w hi hb _
    have := ((hasB_iff _ _).1 hb).1
    omega
  | succ n ih =>
    intro i w hi hb hR
    obtain ⟨h0, h1⟩ := (hasB_iff _ _).1 hb
    obtain ⟨k, rfl⟩ : ∃ k : Nat, i = k := ⟨i.toNat, by omega⟩
    have hk : k < L.length := by omega
    obtain ⟨r, rfl, hrl, hcap, hmx, hcell⟩ := hR.rowAt (by omega)
    obtain ⟨d, hd⟩ : ∃ d, L[k] = d := ⟨_, rfl⟩
    have hq := hcell k d (by rw [List.getElem?_eq_getElem hk, hd])
    have m0 := hq 0 _ rfl
    have m1 := hq 1 _ rfl
    have m2 := hq 2 _ rfl
    have m3 := hq 3 _ rfl
    have m4 := hq 4 _ rfl
    have m5 := hq 5 _ rfl
    simp only [Nat.add_zero] at m0
    have g0 := hR.cell0
    have HP : Hid (∀ p ∈ partsOf d, p < n ∧ hasB L.length p = true) := fun p hp => by
      have := part_lt hG hb (p := p) (by rw [ndAt_get hk, hd]; exact hp)
      exact ⟨by omega, this.2.2⟩
    have HIH := Lib.hid ih
    have HR := Lib.hid hR
    have HB := Lib.hid hb
    have HKI := Lib.hid (may_kind (hG.may k hk))
    rw [hd] at HKI
    have D3 : Hid (d.k = 3 → deepI L (k : Int) = 1 + deepI L d.y) := fun h3 => by
      have := deep_k3 hG hk (by rw [hd]; exact h3)
      rw [hd] at this; exact this
    have D4 : Hid (d.k = 4 → deepI L (k : Int) = 1 + max (deepI L d.x) (deepI L d.y)) := fun h4 => by
      have := deep_k4 hG hk (by rw [hd]; exact h4)
      rw [hd] at this; exact this
    have D0 : Hid (d.k ≠ 3 → d.k ≠ 4 → deepI L (k : Int) = 1) := fun h3 h4 => deep_k0 hG hk (by rw [hd]; exact h3) (by rw [hd]; exact h4)
    unfold maxLen at hmx
    clear ih hR hb hq hcell hd hG h0 h1
    have k0 : (0 : Int) ≤ (k : Int) := Int.natCast_nonneg _
    have k1 : (k : Int) < (L.length : Int) := by omega
    obtain ⟨dk, dn, da, dp, dx, dy⟩ := d
    simp only at *
    obtain ⟨y0, y1⟩ := deep_low (L := L) dy hl
    obtain ⟨x0, x1⟩ := deep_low (L := L) dx hl
    by_cases k3 : dk = 3
    · have E3 := Lib.hid (D3.out k3)
      clear D3 D4 D0
      subst k3
      have HY : Hid (dy < n ∧ hasB L.length dy = true) := HP.out dy (by simp [partsOf])
      go_enter Tryd.func20, Tryd.ntmps20
      go_wp2_with fail
      refine (refhas_any _ _ _).mono ?_
      rintro e w' ⟨rfl, rfl⟩
      rw [HB.out]
      go_wp2_with fail
      refine (HIH.out dy _ HY.out.1 HY.out.2 (by exact HR.out.kept ((Kept.refl _).alloc _))).mono ?_
      rintro e w' ⟨rfl, hk'⟩
      have HK := Lib.hid (((Kept.refl w).alloc _).trans hk')
      clear hk'
      go_wp2
      go_ret
      exact ⟨ret_i E3.out.symm, HK.out⟩
    · by_cases k4 : dk = 4
      · have E4 := Lib.hid (D4.out k4)
        clear D3 D4 D0
        subst k4
        have HY : Hid (dy < n ∧ hasB L.length dy = true) := HP.out dy (by simp [partsOf])
        have HX : Hid (dx < n ∧ hasB L.length dx = true) := HP.out dx (by simp [partsOf])
        clear k3
        go_enter Tryd.func20, Tryd.ntmps20
        go_wp2_with fail
        refine (refhas_any _ _ _).mono ?_
        rintro e w' ⟨rfl, rfl⟩
        rw [HB.out]
        go_wp2_with fail
        have HBX := Lib.hid ((MapKept.heap_alloc w (refObj ⟨4, dn, da, dp, dx, dy⟩)).1)
        have HKA := Lib.hid ((Kept.refl w).alloc (refObj ⟨4, dn, da, dp, dx, dy⟩))
        change Code.wp _ _ _ _ (w.alloc (refObj ⟨4, dn, da, dp, dx, dy⟩))
        generalize w.alloc (refObj ⟨4, dn, da, dp, dx, dy⟩) = W at *
        generalize w.heap.size = b at *
        have SK : Hid (∀ w', Kept W w' → Kept W w' ∧ w'.cell? ⟨b, 4, none⟩ = some (.int .i64 dx) ∧ w'.cell? ⟨b, 5, none⟩ = some (.int .i64 dy)) := fun w' hk => by
          have h1 := hk.row HBX.out
          refine ⟨hk, ?_, ?_⟩ <;> (rw [cell_of_row _ _ _ _ _ _ h1]; rfl)
        clear m0 m1 m2 m3 m4 m5 g0
        go_region_held3 (fun w' => Kept W w' ∧ w'.cell? ⟨b, 4, none⟩ = some (.int .i64 dx) ∧ w'.cell? ⟨b, 5, none⟩ = some (.int .i64 dy))
          (first | exact SK.out _ (Kept.refl _) | exact SK.out _ (Kept.drew (Kept.refl _)) | assumption | exact SK.out _ (Kept.trans (And.left ‹Kept W _ ∧ _›) (by assumption)))
          ((first
            | (go_at_call_of 20 dx; refine (HIH.out dx _ HX.out.1 HX.out.2 (by exact HR.out.kept (HKA.out.trans (And.left ‹Kept W _ ∧ _›)))).mono ?_; rintro e w7 ⟨rfl, hk7⟩)
            | (go_at_call_of 20 dy; refine (HIH.out dy _ HY.out.1 HY.out.2 (by exact HR.out.kept (HKA.out.trans (And.left ‹Kept W _ ∧ _›)))).mono ?_; rintro e w7 ⟨rfl, hk7⟩)))
        all_goals
          go_wp2
          go_ret
          exact ⟨ret_i (by rw [IntWalk.i64_in _ (by omega)]; exact E4.out.symm), HKA.out.trans (And.left ‹Kept W _ ∧ _›)⟩
      · have n3 : (dk == 3) = false := by simpa using k3
        have n4 : (dk == 4) = false := by simpa using k4
        go_enter Tryd.func20, Tryd.ntmps20
        go_wp2_with fail
        refine (refhas_any _ _ _).mono ?_
        rintro e w' ⟨rfl, rfl⟩
        rw [HB.out]
        go_wp2
        go_ret
        exact ⟨ret_i (D0.out k3 k4).symm, (Kept.refl _).alloc _⟩
set_option maxHeartbeats 1000000 in
theorem rdeep_any {N h c : Nat} {a : Option Addr} {L : List Nd} {w : World} (hR : RefAt N w h a c L) (hG : Good L) (hl : L.length ≤ 900) (i : Int) :
    Calls Tryd.prog 20 #[.pointer (some ⟨h, 0, none⟩), .int .i64 i] w fun e w' => e = .returned (.int .i64 (deepI L i)) ∧ Kept w w' := by
  by_cases hb : hasB L.length i = true
  · exact rdeep_has hG hl (i.toNat + 1) i w (by omega) hb hR
  · have hb' : hasB L.length i = false := by simpa using hb
    have HE := Lib.hid (show deepI L i = 0 by unfold deepI; rw [if_neg hb])
    have HB := Lib.hid hb'
    have g0 := hR.cell0
    clear hb hb' hR hG hl
    go_enter Tryd.func20, Tryd.ntmps20
    go_wp2_with fail
    refine (refhas_any _ _ _).mono ?_
    rintro e w' ⟨rfl, rfl⟩
    rw [HB.out]
    go_wp2
    go_ret
    exact ⟨ret_i HE.out.symm, Kept.refl _⟩

set_option maxRecDepth 100000 in
set_option maxHeartbeats 8000000 in
theorem sign_any (o : Nat) (w : World) (h0 : 1 ≤ o) (h1 : o ≤ 16) :
    Calls Tryd.prog 52 #[.int .u8 (o : Int)] w fun e w' => e = .returned (str (signN o)) ∧ Kept w w' := by
  have hc : o = 1 ∨ o = 2 ∨ o = 3 ∨ o = 4 ∨ o = 5 ∨ o = 6 ∨ o = 7 ∨ o = 8 ∨ o = 9 ∨ o = 10 ∨ o = 11 ∨ o = 12 ∨ o = 13 ∨ o = 14 ∨ o = 15 ∨ o = 16 := by omega
  clear h0 h1
  rcases hc with rfl | rfl | rfl | rfl | rfl | rfl | rfl | rfl | rfl | rfl | rfl | rfl | rfl | rfl | rfl | rfl
  all_goals
    go_enter Tryd.func52, Tryd.ntmps52
    go_wp2
    go_ret
    exact ⟨rfl, (Kept.refl _).alloc _⟩
end Go.Proofs.YtjhmbbioplhcgaaDoor
