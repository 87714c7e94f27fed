/-
  Layer 2: contracts of the reference's uses and Uses.
-/
import Derived.Test.YtjhmbbioplhcgaaDoorTRText
namespace Go.Proofs.YtjhmbbioplhcgaaDoor
open Go Go.RowKit

/-- The bool tells whether p holds. -/
def Tells (b : Bool) (p : Prop) : Prop := b = true ↔ p
theorem Tells.yes {p : Prop} (h : p) : Tells true p := ⟨fun _ => h, fun _ => rfl⟩
theorem Tells.no {p : Prop} (h : ¬ p) : Tells false p := ⟨fun e => (by cases e), fun e => absurd e h⟩
theorem Tells.trans {b : Bool} {p q : Prop} (h : Tells b p) (k : p ↔ q) : Tells b q := Iff.trans h k
theorem Tells.is {b : Bool} {p : Prop} (h : Tells b p) (hp : p) : b = true := h.2 hp
theorem Tells.isnt {b : Bool} {p : Prop} (h : Tells b p) (hp : ¬ p) : b = false := by
  cases b with
  | false => rfl
  | true => exact absurd (h.1 rfl) hp

set_option maxHeartbeats 4000000 in
theorem ruses_has {N h c : Nat} {a : Option Addr} {L : List Nd} (hG : Good L) (hl : L.length ≤ 900) (i : Int) (n : Nat) :
    ∀ (r : Int) (b : Bool) (w : World), r < n → hasB L.length r = true → RefAt N w h a c L → Tells b (Reach L r i) →
      Calls Tryd.prog 45 #[.pointer (some ⟨h, 0, none⟩), .int .i64 r, .int .i64 i] w fun e w' => e = .returned (.bool b) ∧ Kept w w' := by
  induction n with
  | zero =>
    intro r b w hi hb _
    have := ((hasB_iff _ _).1 hb).1
    omega
  | succ n ih =>
    intro r b w hi hb hR hbr
    obtain ⟨h0, h1⟩ := (hasB_iff _ _).1 hb
    obtain ⟨k, rfl⟩ : ∃ k : Nat, r = k := ⟨r.toNat, by omega⟩
    have hk : k < L.length := by omega
    by_cases hki : (k : Int) = i
    · subst hki
      have hbt : b = true := hbr.is (.refl _)
      subst hbt
      clear hbr
      go_enter Tryd.func45, Tryd.ntmps45
      go_wp2
      go_ret
      exact ⟨rfl, Kept.refl _⟩
    have hne : ((k : Int) == i) = false := by simpa using hki
    obtain ⟨q, rfl, hC⟩ := hR.nodeCells hl hk
    have hp : ∀ p ∈ partsOf L[k], p < n ∧ hasB L.length p = true := fun p hp => by
      have := part_lt hG hb (p := p) (by rw [ndAt_get hk]; exact hp)
      exact ⟨by omega, this.2.2⟩
    have r0 := fun h3 h4 => reach_k0 (i := i) hk h3 h4 hki
    have r3 := fun h3 => reach_k3 (i := i) hk h3 hki
    have r4 := fun h4 => reach_k4 (i := i) hk h4 hki
    have hkind := may_kind (hG.may k hk)
    have HIH := Lib.hid ih
    have HR := Lib.hid hR
    clear ih hR hb h0 h1 hi
    generalize L[k] = d at *
    obtain ⟨dk, dn, da, dp, dx, dy⟩ := d
    simp only at *
    obtain ⟨g0, m0, m1, m2, m3, m4, m5, hk', _⟩ := hC
    simp only at *
    have k0 : (0 : Int) ≤ (k : Int) := Int.natCast_nonneg _
    have k1 : (k : Int) < (L.length : Int) := by omega
    have hQ := fun (x : Nd) => (Kept.refl w).alloc (refObj x)
    rcases hkind with h | h | h | h <;> subst h
    · have hbt : b = false := hbr.isnt (r0 (by decide) (by decide))
      subst hbt
      clear hbr r0 r3 r4
      go_enter Tryd.func45, Tryd.ntmps45
      go_wp2
      go_ret
      exact ⟨rfl, hQ ⟨1, dn, da, dp, dx, dy⟩⟩
    · have hbt : b = false := hbr.isnt (r0 (by decide) (by decide))
      subst hbt
      clear hbr r0 r3 r4
      go_enter Tryd.func45, Tryd.ntmps45
      go_wp2
      go_ret
      exact ⟨rfl, hQ ⟨2, dn, da, dp, dx, dy⟩⟩
    · have HY : Hid (dy < n ∧ hasB L.length dy = true) := hp dy (by simp [partsOf])
      have HBR : Hid (Tells b (Reach L dy i)) := hbr.trans (r3 rfl)
      have HBX := Lib.hid ((MapKept.heap_alloc w (refObj ⟨3, dn, da, dp, dx, dy⟩)).1)
      clear hbr r0 r3 r4 hp
      cases b
      all_goals
        go_enter Tryd.func45, Tryd.ntmps45
        go_wp2_with fail
        refine (HIH.out dy _ _ HY.out.1 HY.out.2 (by exact HR.out.kept (hQ ⟨3, dn, da, dp, dx, dy⟩)) HBR.out).mono ?_
        rintro e w1 ⟨rfl, hk1⟩
        obtain ⟨b0, b1, b2, b3, b4, b5⟩ := rbox_facts HBX.out (by exact hk1)
        go_wp2
        go_ret
        exact ⟨rfl, (hQ ⟨3, dn, da, dp, dx, dy⟩).trans hk1⟩
    · have HY : Hid (dy < n ∧ hasB L.length dy = true) := hp dy (by simp [partsOf])
      have HX : Hid (dx < n ∧ hasB L.length dx = true) := hp dx (by simp [partsOf])
      have HBR : Hid (Tells b (Reach L dy i ∨ Reach L dx i)) := hbr.trans (r4 rfl)
      have HBX := Lib.hid ((MapKept.heap_alloc w (refObj ⟨4, dn, da, dp, dx, dy⟩)).1)
      clear hbr r0 r3 r4 hp
      rcases Classical.em (Reach L dy i) with hry | hry
      · have hbt : b = true := HBR.out.is (Or.inl hry)
        subst hbt
        have HRY : Hid (Tells true (Reach L dy i)) := Tells.yes hry
        clear hry
        go_enter Tryd.func45, Tryd.ntmps45
        go_wp2_with fail
        refine (HIH.out dy true _ HY.out.1 HY.out.2 (by exact HR.out.kept (hQ ⟨4, dn, da, dp, dx, dy⟩)) HRY.out).mono ?_
        rintro e w1 ⟨rfl, hk1⟩
        obtain ⟨b0, b1, b2, b3, b4, b5⟩ := rbox_facts HBX.out (by exact hk1)
        go_wp2
        go_ret
        exact ⟨rfl, (hQ ⟨4, dn, da, dp, dx, dy⟩).trans hk1⟩
      · have HRY : Hid (Tells false (Reach L dy i)) := Tells.no hry
        have HRX : Hid (Tells b (Reach L dx i)) := HBR.out.trans ⟨fun e => e.resolve_left hry, Or.inr⟩
        clear hry
        cases b
        all_goals
          go_enter Tryd.func45, Tryd.ntmps45
          go_wp2_with fail
          refine (HIH.out dy false _ HY.out.1 HY.out.2 (by exact HR.out.kept (hQ ⟨4, dn, da, dp, dx, dy⟩)) HRY.out).mono ?_
          rintro e w1 ⟨rfl, hk1⟩
          obtain ⟨b0, b1, b2, b3, b4, b5⟩ := rbox_facts HBX.out (by exact hk1)
          have HK1 := Lib.hid ((hQ ⟨4, dn, da, dp, dx, dy⟩).trans hk1)
          have HB1 := Lib.hid (hk1.row HBX.out)
          go_wp2_with fail
          refine (HIH.out dx _ _ HX.out.1 HX.out.2 (by exact HR.out.kept HK1.out) HRX.out).mono ?_
          rintro e w2 ⟨rfl, hk2⟩
          go_wp2
          go_ret
          exact ⟨rfl, HK1.out.trans hk2⟩
end Go.Proofs.YtjhmbbioplhcgaaDoor
