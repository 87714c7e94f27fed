/-
  Layer 5, plain: the counting way: what holds between two of its steps. Nothing of the program.
-/
import Derived.Test.YtlikokeknfhejaaGreatDoorCUnit
namespace Go.Proofs.YtlikokeknfhejaaGreatDoor

/-- Between two steps: G was gone on from; of the clauses S the count is one less; F was found. -/
structure UI (D : List (List Int)) (G : List Int) (S : List Nat) (O F : List Int) : Prop where
  reach : Reach D F
  len : O.length = D.length
  cnts : ∀ (i : Nat) (d : List Int), D[i]? = some d → O[i]? = some ((cnt G d : Int) - if i ∈ S then 1 else 0)
  told : ∀ (i : Nat) (d : List Int), D[i]? = some d → ∀ x : Int, O[i]? = some x → x ≤ 1 → ∃ y ∈ d, y ∈ F
theorem nodupN_len : ∀ (n : Nat) (l : List Nat), l.Nodup → (∀ x ∈ l, x < n) → l.length ≤ n
  | 0, l, _, h => by
    cases l with
    | nil => exact Nat.le_refl _
    | cons a l => exact absurd (h a (by simp)) (Nat.not_lt_zero _)
  | n + 1, l, hn, h => by
    by_cases hm : n ∈ l
    · have := nodupN_len n (l.erase n) (hn.erase n) (fun x hx => by
        have h1 := (List.Nodup.mem_erase_iff hn).1 hx
        have h2 := h x h1.2
        have h3 := h1.1
        omega)
      have h4 := List.length_erase_of_mem hm
      omega
    · have := nodupN_len n l hn (fun x hx => by
        have h1 := h x hx
        have : x ≠ n := fun e => hm (e ▸ hx)
        omega)
      omega
theorem nodupZ_len {L : List Int} (h : L.Nodup) (hb : ∀ x ∈ L, -16777216 ≤ x ∧ x ≤ 16777216) : L.length ≤ 33554433 := by
  have h1 := nodupN_len 33554433 (L.map fun x => (x + 16777216).toNat) (by
    unfold List.Nodup
    rw [List.pairwise_map]
    refine List.Pairwise.imp_of_mem (fun {a b} ha hb' hab => ?_) h
    have h2 := hb a ha
    have h3 := hb b hb'
    intro e
    apply hab
    omega) (fun x hx => by
    obtain ⟨y, hy, rfl⟩ := List.mem_map.1 hx
    have := hb y hy
    omega)
  simpa using h1
/-- The next literal is gone on from: nothing is counted yet. -/
theorem UI.begin {D : List (List Int)} {G O F : List Int} (h : UI D G [] O F) : UI D G [] O F := h
/-- One clause more is counted, and what follows found. -/
theorem UI.count {D : List (List Int)} {G O F F' : List Int} {S : List Nat} {i : Nat} {d : List Int} {x : Int} (h : UI D G S O F) (hd : D[i]? = some d) (hx : O[i]? = some x) (hi : i ∉ S) (hr : Reach D F') (hF : ∀ y ∈ F, y ∈ F') (ht : x - 1 ≤ 1 → ∃ y ∈ d, y ∈ F') : UI D G (S ++ [i]) (O.set i (x - 1)) F' := by
  have hil := (List.getElem?_eq_some_iff.1 hx).1
  refine ⟨hr, by rw [List.length_set]; exact h.len, fun j e he => ?_, fun j e he y hy hy1 => ?_⟩
  · rw [List.getElem?_set]
    by_cases hj : i = j
    · subst hj
      rw [if_pos rfl, if_pos hil]
      rw [hd] at he; cases he
      have h1 := h.cnts i d hd
      rw [hx, if_neg hi] at h1
      have h2 : x = (cnt G d : Int) - 0 := Option.some.inj h1
      rw [if_pos (by simp)]
      congr 1; omega
    · rw [if_neg hj, h.cnts j e he]
      have h1 : (j ∈ S ++ [i]) ↔ j ∈ S := by
        rw [List.mem_append, List.mem_singleton]
        exact ⟨fun h => h.elim id fun e => absurd e.symm hj, Or.inl⟩
      by_cases h2 : j ∈ S
      · rw [if_pos h2, if_pos (h1.2 h2)]
      · rw [if_neg h2, if_neg fun h3 => h2 (h1.1 h3)]
  · rw [List.getElem?_set] at hy
    by_cases hj : i = j
    · subst hj
      rw [if_pos rfl, if_pos hil] at hy
      rw [hd] at he; cases he
      cases hy
      exact ht hy1
    · rw [if_neg hj] at hy
      obtain ⟨z, hz, hzF⟩ := h.told j e he y hy hy1
      exact ⟨z, hz, hF z hzF⟩
/-- All its clauses are counted. -/
theorem UI.done {D : List (List Int)} {G O F : List Int} {l : Int} (h : UI D G (usesOf D (-l)) O F) (hn : ∀ d ∈ D, d.Nodup) (hl : l ∉ G) : UI D (G ++ [l]) [] O F := by
  refine ⟨h.reach, h.len, fun i d hd => ?_, h.told⟩
  rw [h.cnts i d hd]
  have h1 := cnt_snoc (G := G) (hn d (List.mem_of_getElem? hd)) hl
  have hil := (List.getElem?_eq_some_iff.1 hd).1
  have h2 : i ∈ usesOf D (-l) ↔ -l ∈ d := by
    rw [usesOf_mem, List.getD_eq_getElem?_getD, hd]
    exact ⟨fun h => h.2, fun h => ⟨hil, h⟩⟩
  congr 1
  by_cases h3 : -l ∈ d
  · rw [if_pos h3] at h1
    rw [if_pos (h2.2 h3)]; simp; omega
  · rw [if_neg h3] at h1
    rw [if_neg fun h4 => h3 (h2.1 h4)]; simp; omega
/-- The count of a clause that is about to be lowered. -/
theorem UI.at_ {D : List (List Int)} {G O F : List Int} {S : List Nat} {i : Nat} {d : List Int} (h : UI D G S O F) (hd : D[i]? = some d) (hi : i ∉ S) : O[i]? = some (cnt G d : Int) := by
  rw [h.cnts i d hd, if_neg hi]; simp
theorem lower_cnt {D : List (List Int)} {G d : List Int} {l : Int} {i : Nat} (hd : D[i]? = some d) (hu : i ∈ usesOf D (-l)) (hn : d.Nodup) (hl : l ∉ G) : (cnt G d : Int) - 1 = cnt (G ++ [l]) d := by
  have h1 := cnt_snoc (G := G) hn hl
  have h2 : -l ∈ d := by
    have := (usesOf_mem D (-l) i).1 hu
    rw [List.getD_eq_getElem?_getD, hd] at this
    exact this.2
  rw [if_pos h2] at h1
  omega
end Go.Proofs.YtlikokeknfhejaaGreatDoor
