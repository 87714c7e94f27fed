/-
  Layer 2, plain: what the reference tells: depth, texts by kind, what is used.
-/
import Derived.Test.YtjhmbbioplhcgaaDoorTGrowM
import Derived.Test.YtjhmbbioplhcgaaDoorTUniq
namespace Go.Proofs.YtjhmbbioplhcgaaDoor
open Go

theorem deepI_nonneg (L : List Nd) (i : Int) : 0 ≤ deepI L i := by
  unfold deepI
  split
  · exact Int.natCast_nonneg _
  · exact Int.le_refl _
section
variable {L : List Nd} {k : Nat}
theorem deep_k0 (hG : Good L) (hk : k < L.length) (h3 : L[k].k ≠ 3) (h4 : L[k].k ≠ 4) : deepI L (k : Int) = 1 := by
  rw [deep_parts hG hk]
  unfold partsOf
  rw [if_neg h3, if_neg h4]; rfl
theorem deep_k3 (hG : Good L) (hk : k < L.length) (h3 : L[k].k = 3) : deepI L (k : Int) = 1 + deepI L L[k].y := by
  rw [deep_parts hG hk]
  unfold partsOf
  rw [if_pos h3]
  have := deepI_nonneg L L[k].y
  show max 0 (deepI L L[k].y) + 1 = _
  omega
theorem deep_k4 (hG : Good L) (hk : k < L.length) (h4 : L[k].k = 4) : deepI L (k : Int) = 1 + max (deepI L L[k].x) (deepI L L[k].y) := by
  rw [deep_parts hG hk]
  unfold partsOf
  rw [if_neg (by rw [h4]; decide), if_pos h4]
  have := deepI_nonneg L L[k].x
  show max (max 0 (deepI L L[k].x)) (deepI L L[k].y) + 1 = _
  omega
theorem textOf_k1 (hG : Good L) (hk : k < L.length) (h : L[k].k = 1) : textOf L (k : Int) = Lib.itoa L[k].n := by
  rw [textOf_eq L hG k hk]
  simp [text1, mark0, h]
theorem textOf_k2 (hG : Good L) (hk : k < L.length) (h : L[k].k = 2) : textOf L (k : Int) = [115] ++ Lib.itoa L[k].n := by
  rw [textOf_eq L hG k hk]
  simp [text1, mark0, h]
theorem textOf_k3 (hG : Good L) (hk : k < L.length) (h : L[k].k = 3) : textOf L (k : Int) = (((([97] ++ Lib.itoa L[k].a) ++ [118]) ++ Lib.itoa L[k].n) ++ [91]) ++ textOf L L[k].y ++ [93] := by
  rw [textOf_eq L hG k hk]
  simp [text1, mark0, mark1, h, textOf]
theorem textOf_k4 (hG : Good L) (hk : k < L.length) (h : L[k].k = 4) : textOf L (k : Int) = (((([40] ++ textOf L L[k].x) ++ [32]) ++ signOf L[k].o) ++ [32]) ++ textOf L L[k].y ++ [41] := by
  rw [textOf_eq L hG k hk]
  simp [text1, mark0, mark1, mark2, h, textOf]
theorem reach_one {r i : Int} (h : Reach L r i) (hne : r ≠ i) : ∃ p ∈ partsOf (ndAt L r), Reach L p i := by
  cases h with
  | refl => exact absurd rfl hne
  | step hp hr => exact ⟨_, hp, hr⟩
theorem reach_k0 (hk : k < L.length) (h3 : L[k].k ≠ 3) (h4 : L[k].k ≠ 4) {i : Int} (hne : (k : Int) ≠ i) : ¬ Reach L (k : Int) i := fun h => by
  obtain ⟨p, hp, _⟩ := reach_one h hne
  rw [ndAt_get hk] at hp
  unfold partsOf at hp
  rw [if_neg h3, if_neg h4] at hp
  cases hp
theorem reach_k3 (hk : k < L.length) (h3 : L[k].k = 3) {i : Int} (hne : (k : Int) ≠ i) : Reach L (k : Int) i ↔ Reach L L[k].y i := by
  constructor
  · intro h
    obtain ⟨p, hp, hr⟩ := reach_one h hne
    rw [ndAt_get hk] at hp
    unfold partsOf at hp
    rw [if_pos h3] at hp
    rw [List.mem_singleton.1 hp] at hr
    exact hr
  · intro h
    refine .step ?_ h
    rw [ndAt_get hk]
    unfold partsOf
    rw [if_pos h3]; simp
theorem reach_k4 (hk : k < L.length) (h4 : L[k].k = 4) {i : Int} (hne : (k : Int) ≠ i) : Reach L (k : Int) i ↔ Reach L L[k].y i ∨ Reach L L[k].x i := by
  have hp4 : partsOf L[k] = [L[k].x, L[k].y] := by
    unfold partsOf
    rw [if_neg (by rw [h4]; decide), if_pos h4]
  constructor
  · intro h
    obtain ⟨p, hp, hr⟩ := reach_one h hne
    rw [ndAt_get hk, hp4] at hp
    rcases List.mem_cons.1 hp with e | e
    · exact Or.inr (e ▸ hr)
    · rw [List.mem_singleton.1 e] at hr; exact Or.inl hr
  · rintro (h | h)
    · refine .step ?_ h
      rw [ndAt_get hk, hp4]; simp
    · refine .step ?_ h
      rw [ndAt_get hk, hp4]; simp
end
/-- How long a text is, as the reference counts. -/
def longR (L : List Nd) (i : Int) : Int := min 100000 ((textOf L i).length : Int)
theorem longR_nat (L : List Nd) (i : Int) : 0 ≤ longR L i ∧ longR L i ≤ 100000 := by unfold longR; omega
/-- Is one of the roots a term that uses i? -/
def Used (L : List Nd) (roots : List Int) (i : Int) : Prop := ∃ r ∈ roots, hasB L.length r = true ∧ Reach L r i
theorem uses_filter {L : List Nd} (hG : Good L) {roots U : List Int} (h : UsesSpec L roots U) {V : List Int} (hV : V.Pairwise (· < ·)) (hm : ∀ i, i ∈ V ↔ (0 ≤ i ∧ i < L.length) ∧ Used L roots i) : U = V := by
  refine rising_eq h.1 hV fun i => (h.2 i).trans ⟨fun hu => (hm i).2 ⟨?_, hu⟩, fun hu => ((hm i).1 hu).2⟩
  obtain ⟨r, _, hb, hr⟩ := hu
  exact (hasB_iff _ _).1 (hr.le hG hb).2
end Go.Proofs.YtjhmbbioplhcgaaDoor
