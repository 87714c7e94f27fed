/-
  Layer 5, plain: what the library's sort and compaction leave of literals, by their variables. Nothing of the program.
-/
import Derived.Test.YtlikokeknfhejaaGreatDoorCMath
import Derived.Lib.SlicesCompact
import Derived.Sort.Statements
namespace Go.Proofs.YtlikokeknfhejaaGreatDoor
open Go.Lib

/-- No two neighbours are of one variable. -/
def AdjB (K : List Int) : Prop := ∀ i a b, K[i]? = some a → K[i + 1]? = some b → vr a ≤ vr b ∧ a ≠ b
theorem AdjB.snoc {K : List Int} (h : AdjB K) {z : Int} (hz : ∀ y, K.getLast? = some y → vr y ≤ vr z ∧ y ≠ z) : AdjB (K ++ [z]) := by
  intro i a b ha hb
  have hi := (List.getElem?_eq_some_iff.1 hb).1
  simp at hi
  by_cases h1 : i + 1 < K.length
  · rw [List.getElem?_append_left (by omega)] at ha hb
    exact h i a b ha hb
  · have hiK : i + 1 = K.length := by omega
    rw [List.getElem?_append_left (by omega)] at ha
    rw [List.getElem?_append_right (by omega), hiK] at hb
    simp at hb
    subst hb
    refine hz a ?_
    rw [List.getLast?_eq_getElem?, ← hiK]
    simpa using ha

theorem compact_upTo (zs : List Int) (hs : zs.Pairwise fun a b => vr a ≤ vr b) : ∀ m, m ≤ zs.length →
    (∀ x, x ∈ compactUpTo zs.toArray m ↔ x ∈ zs.take m) ∧ (compactUpTo zs.toArray m).getLast? = (zs.take m).getLast? ∧ AdjB (compactUpTo zs.toArray m)
  | 0, _ => by
    refine ⟨by simp [compactUpTo], by simp [compactUpTo], ?_⟩
    intro i a b h; simp [compactUpTo] at h
  | m + 1, hm => by
    have hml : m < zs.length := by omega
    obtain ⟨h1, h2, h3⟩ := compact_upTo zs hs m (by omega)
    have e0 : zs.toArray[m]! = zs[m] := by rw [getElem!_pos zs.toArray m (by simpa using hml)]; simp
    have e1 : zs.take (m + 1) = zs.take m ++ [zs[m]] := List.take_succ_eq_append_getElem hml
    have e2 : ∀ y, (zs.take m).getLast? = some y → 0 < m ∧ y = zs.toArray[m - 1]! ∧ vr y ≤ vr zs[m] := by
      intro y hy
      have hm0 : 0 < m := by
        rcases Nat.eq_zero_or_pos m with h | h
        · subst h; simp at hy
        · exact h
      rw [List.getLast?_eq_getElem?, List.length_take, List.getElem?_take, if_pos (by omega), Nat.min_eq_left (by omega), List.getElem?_eq_getElem (by omega)] at hy
      cases hy
      refine ⟨hm0, by rw [getElem!_pos zs.toArray (m - 1) (by simp; omega)]; simp, ?_⟩
      exact List.pairwise_iff_getElem.1 hs (m - 1) m (by omega) hml (by omega)
    rw [compactUpTo_succ, e1]
    cases hk : keeps zs.toArray m with
    | true =>
      rw [if_pos rfl, e0]
      refine ⟨fun x => by rw [List.mem_append, List.mem_append, h1 x], by rw [List.getLast?_append, List.getLast?_append]; simp, h3.snoc fun y hy => ?_⟩
      rw [h2] at hy
      obtain ⟨hm0, hy1, hy2⟩ := e2 y hy
      refine ⟨hy2, fun e => ?_⟩
      have : keeps zs.toArray m = false := keeps_neg hm0 (by rw [← hy1, e0, e])
      rw [hk] at this; cases this
    | false =>
      rw [if_neg (by simp), List.append_nil]
      have hm0 : m ≠ 0 := by rintro rfl; simp [keeps] at hk
      have hprev : zs[m - 1]? = some zs[m] := by
        have hk2 : ¬ (m = 0 ∨ zs.toArray[m]! ≠ zs.toArray[m - 1]!) := of_decide_eq_false hk
        have h6 : zs.toArray[m]! = zs.toArray[m - 1]! := Decidable.byContradiction fun h => hk2 (Or.inr h)
        rw [e0, getElem!_pos zs.toArray (m - 1) (by simp; omega)] at h6
        rw [List.getElem?_eq_getElem (by omega)]
        simpa using h6.symm
      have hin : zs[m] ∈ zs.take m := by
        refine List.mem_iff_getElem?.2 ⟨m - 1, ?_⟩
        rw [List.getElem?_take, if_pos (by omega)]
        exact hprev
      refine ⟨fun x => ?_, ?_, h3⟩
      · rw [h1 x, List.mem_append]
        constructor
        · exact Or.inl
        · rintro (h | h)
          · exact h
          · rw [List.mem_singleton.1 h]; exact hin
      · rw [h2, List.getLast?_append]
        simp
        rw [List.getLast?_eq_getElem?, List.length_take, List.getElem?_take, if_pos (by omega), Nat.min_eq_left (by omega), hprev]
theorem compact_is (zs : List Int) (hs : zs.Pairwise fun a b => vr a ≤ vr b) : (∀ x, x ∈ compact zs ↔ x ∈ zs) ∧ AdjB (compact zs) := by
  obtain ⟨h1, _, h3⟩ := compact_upTo zs hs zs.length (Nat.le_refl _)
  refine ⟨fun x => ?_, h3⟩
  have := h1 x
  rw [List.take_length] at this
  exact this

/-- No two neighbours are each other's other one. -/
def NoOpp (K : List Int) (m : Nat) : Prop := ∀ i a b, i + 1 < m → K[i]? = some a → K[i + 1]? = some b → b ≠ -a
theorem NoOpp.one (K : List Int) : NoOpp K 1 := fun i _ _ h => by omega
theorem NoOpp.zero (K : List Int) : NoOpp K 0 := fun i _ _ h => by omega
theorem NoOpp.succ {K : List Int} {m : Nat} (h : NoOpp K m) (hm : 0 < m) {a b : Int} (ha : K[m - 1]? = some a) (hb : K[m]? = some b) (hne : b ≠ -a) : NoOpp K (m + 1) := by
  intro i x y hi hx hy
  by_cases h1 : i + 1 = m
  · have : i = m - 1 := by omega
    subst this
    rw [ha] at hx; cases hx
    rw [h1, hb] at hy; cases hy
    exact hne
  · exact h i x y (by omega) hx hy
theorem chain_sorted {K : List Int} (h : ∀ i a b, K[i]? = some a → K[i + 1]? = some b → vr a < vr b) : SortedV K := by
  unfold SortedV
  rw [List.pairwise_iff_getElem]
  have H : ∀ d i (hi : i < K.length) (hj : i + d + 1 < K.length), vr K[i] < vr K[i + d + 1] := by
    intro d
    induction d with
    | zero => intro i hi hj; exact h i _ _ (List.getElem?_eq_getElem hi) (List.getElem?_eq_getElem hj)
    | succ d ih =>
      intro i hi hj
      have h1 := ih i hi (by omega)
      have h2 := h (i + d + 1) _ _ (List.getElem?_eq_getElem (by omega)) (List.getElem?_eq_getElem (by omega : i + d + 1 + 1 < K.length))
      have : i + (d + 1) + 1 = i + d + 1 + 1 := by omega
      simp only [this]
      omega
  intro i j hi hj hij
  have := H (j - i - 1) i hi (by omega)
  have e : i + (j - i - 1) + 1 = j := by omega
  simp only [e] at this
  exact this
theorem noOpp_sorted {K : List Int} (h : AdjB K) (hn : NoOpp K K.length) : SortedV K :=
  chain_sorted fun i a b ha hb => by
    have h1 := h i a b ha hb
    have h2 := hn i a b (List.getElem?_eq_some_iff.1 hb).1 ha hb
    rcases Int.lt_or_eq_of_le h1.1 with h3 | h3
    · exact h3
    · rcases vr_eq h3 with h4 | h4
      · exact absurd h4 h1.2
      · exact absurd (by omega : b = -a) h2
/-- A clause without 0 and -2^63 is clean, if no two neighbours of it sorted are each other's other one. -/
theorem clean_yes {c K : List Int} (h0 : 0 ∉ c) (hm : -9223372036854775808 ∉ c) (hK : ∀ x, x ∈ K ↔ x ∈ c) (hadj : AdjB K) (hn : NoOpp K K.length) : CleanRes c (some K) := by
  have hs := noOpp_sorted hadj hn
  refine ⟨?_, hs, hK⟩
  rintro ⟨x, hx, h | h | h⟩
  · subst h; exact h0 hx
  · subst h; exact hm hx
  · have hne : x ≠ -x := by rintro e; have : x = 0 := by omega
                            subst this; exact h0 hx
    obtain ⟨i, hi⟩ := List.mem_iff_getElem?.1 ((hK x).2 hx)
    obtain ⟨j, hj⟩ := List.mem_iff_getElem?.1 ((hK (-x)).2 h)
    have hij : i ≠ j := by rintro rfl; rw [hi] at hj; exact hne (Option.some.inj hj)
    obtain ⟨hil, hi2⟩ := List.getElem?_eq_some_iff.1 hi
    obtain ⟨hjl, hj2⟩ := List.getElem?_eq_some_iff.1 hj
    have hp := List.pairwise_iff_getElem.1 hs
    rcases Nat.lt_or_gt_of_ne hij with h5 | h5
    · have := hp i j hil hjl h5; rw [hi2, hj2, vr_neg] at this; omega
    · have := hp j i hjl hil h5; rw [hi2, hj2, vr_neg] at this; omega
theorem clean_no {c K : List Int} (hK : ∀ x, x ∈ K ↔ x ∈ c) {i : Nat} {a b : Int} (ha : K[i]? = some a) (hb : K[i + 1]? = some b) (h : b = -a) : CleanRes c none :=
  ⟨a, (hK a).1 (List.mem_of_getElem? ha), Or.inr (Or.inr (h ▸ (hK b).1 (List.mem_of_getElem? hb)))⟩
/-- Of sorted literals with no other ones and none twice: they are it. -/
theorem compact_same {zs : List Int} (h : SortedV zs) : compact zs = zs := by
  refine compact_all zs fun j hj => ?_
  by_cases h0 : j = 0
  · subst h0; rfl
  · refine keeps_pos ?_
    rw [getElem!_pos zs.toArray j (by simpa using hj), getElem!_pos zs.toArray (j - 1) (by simp; omega)]
    have := List.pairwise_iff_getElem.1 h (j - 1) j (by omega) hj (by omega)
    simp only [List.getElem_toArray]
    intro e; rw [e] at this; omega
/-- The order by a key. -/
theorem swo_key (f : Int → Int) : Go.Sort.SWO (fun x y : Int => decide (f x < f y)) :=
  ⟨fun x => by simp, fun x y z h k => by simp at *; omega, fun x y z h k => by simp at *; omega⟩
theorem sorted_pairwise {f : Int → Int} {d : Array Int} (h : Go.Sort.SortedIn (fun x y => decide (f x < f y)) 0 d.size d) : d.toList.Pairwise fun a b => f a ≤ f b := by
  rw [List.pairwise_iff_getElem]
  intro i j hi hj hij
  have h1 := h i j (Nat.zero_le _) hij (by simpa using hj)
  rw [getElem!_pos d i (by simpa using hi), getElem!_pos d j (by simpa using hj)] at h1
  simp at h1
  simpa using h1
theorem perm_mem {d d' : Array Int} (h : Go.Sort.PermIn 0 d.size d d') : d'.size = d.size ∧ d'.toList.Perm d.toList := by
  obtain ⟨h1, _, h3⟩ := h
  refine ⟨h1, ?_⟩
  have e1 : d'.extract 0 d.size = d' := by rw [← h1]; simp
  have e2 : d.extract 0 d.size = d := by simp
  rwa [e1, e2] at h3
end Go.Proofs.YtlikokeknfhejaaGreatDoor
