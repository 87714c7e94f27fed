/-
  Layer 5, plain: the two ways to find what follows by clauses of one literal: over and over; and by counting. Nothing of the program.
-/
import Derived.Test.YtlikokeknfhejaaGreatDoorCMath
namespace Go.Proofs.YtlikokeknfhejaaGreatDoor

/-! ### Over and over -/
/-- The literals of which nothing is known, each once. -/
def leftOf (F : List Int) (c : List Int) : List Int := c.foldl (fun L n => if F.contains (-n) || F.contains n || L.contains n then L else L ++ [n]) []
theorem leftOf_snoc (F c : List Int) (n : Int) : leftOf F (c ++ [n]) = if F.contains (-n) || F.contains n || (leftOf F c).contains n then leftOf F c else leftOf F c ++ [n] := by
  unfold leftOf; rw [List.foldl_append]; rfl
theorem snocInd5 {α : Type} {p : List α → Prop} (h0 : p []) (h1 : ∀ L d, p L → p (L ++ [d])) : ∀ L, p L := by
  have H : ∀ n, ∀ L : List α, L.length = n → p L := by
    intro n
    induction n with
    | zero => intro L hL; rw [List.length_eq_zero_iff.1 hL]; exact h0
    | succ n ih =>
      intro L hL
      have hne : L ≠ [] := by rintro rfl; simp at hL
      rw [← List.dropLast_concat_getLast hne]
      exact h1 _ _ (ih _ (by simp [hL]))
  exact fun L => H L.length L rfl
theorem leftOf_is (F c : List Int) : (leftOf F c).Nodup ∧ ∀ x, x ∈ leftOf F c ↔ x ∈ c ∧ x ∉ F ∧ -x ∉ F := by
  refine snocInd5 (p := fun c => (leftOf F c).Nodup ∧ ∀ x, x ∈ leftOf F c ↔ x ∈ c ∧ x ∉ F ∧ -x ∉ F) ⟨by simp [leftOf], by simp [leftOf]⟩ (fun c n ih => ?_) c
  show (leftOf F (c ++ [n])).Nodup ∧ ∀ x, x ∈ leftOf F (c ++ [n]) ↔ x ∈ c ++ [n] ∧ x ∉ F ∧ -x ∉ F
  rw [leftOf_snoc]
  by_cases h : (F.contains (-n) || F.contains n || (leftOf F c).contains n) = true
  · rw [if_pos h]
    refine ⟨ih.1, fun x => ?_⟩
    rw [ih.2 x, List.mem_append, List.mem_singleton]
    constructor
    · rintro ⟨h1, h2⟩; exact ⟨Or.inl h1, h2⟩
    · rintro ⟨h1 | h1, h2, h3⟩
      · exact ⟨h1, h2, h3⟩
      · subst h1
        simp only [Bool.or_eq_true, List.contains_iff_mem] at h
        rcases h with (h | h) | h
        · exact absurd h h3
        · exact absurd h h2
        · exact (ih.2 _).1 h
  · rw [if_neg h]
    simp only [Bool.or_eq_true, List.contains_iff_mem, not_or] at h
    refine ⟨?_, fun x => ?_⟩
    · rw [List.nodup_append]
      refine ⟨ih.1, by simp, fun a ha b hb => ?_⟩
      rw [List.mem_singleton.1 hb]; rintro rfl; exact h.2 ha
    · rw [List.mem_append, ih.2 x, List.mem_append, List.mem_singleton]
      constructor
      · rintro (⟨h1, h2⟩ | h1)
        · exact ⟨Or.inl h1, h2⟩
        · subst h1; exact ⟨Or.inr rfl, h.1.2, h.1.1⟩
      · rintro ⟨h1 | h1, h2⟩
        · exact Or.inl ⟨h1, h2⟩
        · exact Or.inr h1
theorem left_none {F c : List Int} (h1 : ∀ x ∈ c, x ∉ F) (h2 : (leftOf F c).length = 0) : ∀ x ∈ c, -x ∈ F := by
  intro x hx
  have h3 := (leftOf_is F c).2 x
  rw [List.eq_nil_of_length_eq_zero h2] at h3
  apply Decidable.byContradiction
  intro hn
  exact absurd (h3.2 ⟨hx, h1 x hx, hn⟩) (by simp)
theorem left_one {F c : List Int} {l : Int} (h1 : ∀ x ∈ c, x ∉ F) (h2 : leftOf F c = [l]) : Steps c F l := by
  have h3 := (leftOf_is F c).2
  rw [h2] at h3
  have h4 := (h3 l).1 (by simp)
  refine ⟨h4.1, h4.2.1, h4.2.2, fun x hx => ⟨h1 x hx, ?_⟩⟩
  by_cases hn : -x ∈ F
  · exact Or.inl hn
  · have := (h3 x).2 ⟨hx, h1 x hx, hn⟩
    exact Or.inr (by simpa using this)
theorem left_two {F c : List Int} (h : 2 ≤ (leftOf F c).length) : Quiet c F := by
  obtain ⟨hn, hm⟩ := leftOf_is F c
  have hp := List.pairwise_iff_getElem.1 hn 0 1 (by omega) (by omega) (by omega)
  have h0 := (hm _).1 (List.getElem_mem (by omega : 0 < (leftOf F c).length))
  have h1 := (hm _).1 (List.getElem_mem (by omega : 1 < (leftOf F c).length))
  exact Or.inr ⟨_, h0.1, _, h1.1, hp, h0.2.2, h1.2.2⟩

/-! ### By counting -/
/-- How many literals are not the other one of one of G. -/
def cnt (G d : List Int) : Nat := d.countP fun x => !G.contains (-x)
theorem cnt_nil (d : List Int) : cnt [] d = d.length := by unfold cnt; simp
theorem cnt_one {G d : List Int} (h : cnt G d ≤ 1) {x y : Int} (hx : x ∈ d) (hy : y ∈ d) (h1 : -x ∉ G) (h2 : -y ∉ G) : x = y := by
  unfold cnt at h
  rw [List.countP_eq_length_filter] at h
  have mx : x ∈ d.filter fun x => !G.contains (-x) := List.mem_filter.2 ⟨hx, by simpa using h1⟩
  have my : y ∈ d.filter fun x => !G.contains (-x) := List.mem_filter.2 ⟨hy, by simpa using h2⟩
  generalize d.filter (fun x => !G.contains (-x)) = E at *
  match E, h with
  | [], _ => cases mx
  | [e], _ => rw [List.mem_singleton.1 mx, List.mem_singleton.1 my]
theorem cnt_two {G d : List Int} (hd : d.Nodup) (h : 2 ≤ cnt G d) : ∃ x ∈ d, ∃ y ∈ d, x ≠ y ∧ -x ∉ G ∧ -y ∉ G := by
  unfold cnt at h
  rw [List.countP_eq_length_filter] at h
  have hn := hd.filter fun x => !G.contains (-x)
  have hp := List.pairwise_iff_getElem.1 hn 0 1 (by omega) (by omega) (by omega)
  have h0 := List.mem_filter.1 (List.getElem_mem (by omega : 0 < (d.filter fun x => !G.contains (-x)).length))
  have h1 := List.mem_filter.1 (List.getElem_mem (by omega : 1 < (d.filter fun x => !G.contains (-x)).length))
  exact ⟨_, h0.1, _, h1.1, hp, by simpa using h0.2, by simpa using h1.2⟩
theorem cnt_snoc {G d : List Int} {l : Int} (hd : d.Nodup) (hl : l ∉ G) : cnt (G ++ [l]) d + (if -l ∈ d then 1 else 0) = cnt G d := by
  induction d with
  | nil => rfl
  | cons x d ih =>
    have hd' := List.nodup_cons.1 hd
    have ih := ih hd'.2
    have e : ∀ G, cnt G (x :: d) = cnt G d + (if -x ∉ G then 1 else 0) := by
      intro G; unfold cnt
      rw [List.countP_cons]
      by_cases h : -x ∈ G <;> simp [h]
    rw [e, e]
    by_cases h : x = -l
    · subst h
      have h1 : ¬ -l ∈ d := hd'.1
      rw [if_neg h1] at ih
      have h2 : - -l = l := by omega
      rw [if_pos (List.mem_cons_self ..), h2, if_neg (by simp), if_pos hl]
      omega
    · have h1 : (-x ∈ G ++ [l]) ↔ -x ∈ G := by
        rw [List.mem_append, List.mem_singleton]
        constructor
        · rintro (h2 | h2)
          · exact h2
          · exact absurd (by omega : x = -l) h
        · exact Or.inl
      have h3 : (-l ∈ x :: d) ↔ -l ∈ d := by
        rw [List.mem_cons]
        constructor
        · rintro (h2 | h2)
          · exact absurd h2.symm h
          · exact h2
        · exact Or.inr
      by_cases h4 : -l ∈ d
      · rw [if_pos h4] at ih
        rw [if_pos (h3.2 h4)]
        by_cases h5 : -x ∈ G
        · rw [if_neg (fun h6 => h6 (h1.2 h5)), if_neg (fun h6 => h6 h5)]; omega
        · rw [if_pos (fun h6 => h5 (h1.1 h6)), if_pos h5]; omega
      · rw [if_neg h4] at ih
        rw [if_neg (fun h6 => h4 (h3.1 h6))]
        by_cases h5 : -x ∈ G
        · rw [if_neg (fun h6 => h6 (h1.2 h5)), if_neg (fun h6 => h6 h5)]; omega
        · rw [if_pos (fun h6 => h5 (h1.1 h6)), if_pos h5]; omega

/-- A literal that a clause tells which has but one left. -/
theorem look_step {D : List (List Int)} {F G d : List Int} {l : Int} (hF : Reach D F) (hc : Cons F) (hd : d ∈ D) (hG : ∀ x ∈ G, x ∈ F) (h1 : cnt G d ≤ 1) (hl : l ∈ d) (hn : -l ∉ F) (hne : l ∉ F) : Reach D (F ++ [l]) := by
  refine .step hF hd ⟨hl, hne, hn, fun x hx => ⟨fun hxF => ?_, ?_⟩⟩
  · have := cnt_one h1 hx hl (fun h => hc.one x hxF (hG _ h)) (fun h => hn (hG _ h))
    subst this; exact hne hxF
  · by_cases hxn : -x ∈ F
    · exact Or.inl hxn
    · exact Or.inr (cnt_one h1 hx hl (fun h => hxn (hG _ h)) (fun h => hn (hG _ h)))
/-- Where a clause's count is at most one, one of its literals is known. -/
def Told (F : List Int) (G d : List Int) : Prop := cnt G d ≤ 1 → ∃ x ∈ d, x ∈ F
theorem Told.more {F F' G d : List Int} (h : Told F G d) (hF : ∀ x ∈ F, x ∈ F') : Told F' G d := fun h1 => by
  obtain ⟨x, hx, hf⟩ := h h1; exact ⟨x, hx, hF x hf⟩
theorem Told.of {F G d : List Int} {x : Int} (hx : x ∈ d) (hf : x ∈ F) : Told F G d := fun _ => ⟨x, hx, hf⟩
theorem all_quiet {D : List (List Int)} {F : List Int} (hd : ∀ d ∈ D, d.Nodup) (h : ∀ d ∈ D, Told F F d) : ∀ d ∈ D, Quiet d F := by
  intro d hdD
  by_cases h1 : cnt F d ≤ 1
  · exact Or.inl (h d hdD h1)
  · exact Or.inr (cnt_two (hd d hdD) (by omega))
/-- The clauses that say something, clean. -/
structure Cleans (C D : List (List Int)) : Prop where
  to : ∀ d ∈ D, ∃ c ∈ C, CleanRes c (some d)
  of : ∀ c ∈ C, CleanRes c none ∨ ∃ d ∈ D, CleanRes c (some d)
theorem Cleans.nil : Cleans [] [] := ⟨by simp, by simp⟩
theorem Cleans.skip {C D : List (List Int)} (h : Cleans C D) {c : List Int} (hc : CleanRes c none) : Cleans (C ++ [c]) D := by
  refine ⟨fun d hd => ?_, fun e he => ?_⟩
  · obtain ⟨e, he, hr⟩ := h.to d hd; exact ⟨e, List.mem_append_left _ he, hr⟩
  · rcases List.mem_append.1 he with he | he
    · exact h.of e he
    · rw [List.mem_singleton.1 he]; exact Or.inl hc
theorem Cleans.snoc {C D : List (List Int)} (h : Cleans C D) {c d : List Int} (hc : CleanRes c (some d)) : Cleans (C ++ [c]) (D ++ [d]) := by
  refine ⟨fun e he => ?_, fun e he => ?_⟩
  · rcases List.mem_append.1 he with he | he
    · obtain ⟨x, hx, hr⟩ := h.to e he; exact ⟨x, List.mem_append_left _ hx, hr⟩
    · rw [List.mem_singleton.1 he]; exact ⟨c, by simp, hc⟩
  · rcases List.mem_append.1 he with he | he
    · rcases h.of e he with hr | ⟨x, hx, hr⟩
      · exact Or.inl hr
      · exact Or.inr ⟨x, List.mem_append_left _ hx, hr⟩
    · rw [List.mem_singleton.1 he]; exact Or.inr ⟨d, by simp, hc⟩
theorem Cleans.nodup {C D : List (List Int)} (h : Cleans C D) : ∀ d ∈ D, d.Nodup := fun d hd => by
  obtain ⟨c, _, hr⟩ := h.to d hd; exact hr.2.1.nodup
theorem Cleans.noZero {C D : List (List Int)} (h : Cleans C D) (hC : NoZero C) : NoZero D := fun d hd x hx => by
  obtain ⟨c, hc, hr⟩ := h.to d hd; exact hC c hc x ((hr.2.2 x).1 hx)
theorem Cleans.reach {C D : List (List Int)} (h : Cleans C D) {F : List Int} (hF : Reach D F) : Reach C F := by
  induction hF with
  | nil => exact .nil
  | step _ hd hs ih =>
    obtain ⟨c, hc, hr⟩ := h.to _ hd
    exact .step ih hc ⟨(hr.2.2 _).1 hs.1, hs.2.1, hs.2.2.1, fun x hx => hs.2.2.2 x ((hr.2.2 x).2 hx)⟩
theorem Cleans.units {C D : List (List Int)} (h : Cleans C D) (hC : NoZero C) (hm : ∀ c ∈ C, -9223372036854775808 ∉ c) {r : Option (List Int)} (k : UnitsRes D r) : UnitsRes C r := by
  cases r with
  | none =>
    obtain ⟨F, hF, d, hd, hf⟩ := k
    obtain ⟨c, hc, hr⟩ := h.to d hd
    exact ⟨F, h.reach hF, c, hc, fun x hx => hf x ((hr.2.2 x).2 hx)⟩
  | some S =>
    obtain ⟨F, hF, hq, hs, hx⟩ := k
    have hcons := hF.cons (h.noZero hC)
    refine ⟨F, h.reach hF, fun c hc => ?_, hs, hx⟩
    rcases h.of c hc with ⟨x, hxc, hb | hb | hb⟩ | ⟨d, hd, hr⟩
    · exact absurd hb (hC c hc x hxc)
    · subst hb; exact absurd hxc (hm c hc)
    · by_cases h1 : x ∈ F
      · exact Or.inl ⟨x, hxc, h1⟩
      · by_cases h2 : -x ∈ F
        · exact Or.inl ⟨-x, hb, h2⟩
        · refine Or.inr ⟨x, hxc, -x, hb, ?_, h2, by rw [Int.neg_neg]; exact h1⟩
          intro e; exact hC c hc x hxc (by omega)
    · rcases hq d hd with ⟨y, hy, hyF⟩ | ⟨y, hy, z, hz, hh⟩
      · exact Or.inl ⟨y, (hr.2.2 y).1 hy, hyF⟩
      · exact Or.inr ⟨y, (hr.2.2 y).1 hy, z, (hr.2.2 z).1 hz, hh⟩

/-- In which clauses a literal stands. -/
def usesOf (D : List (List Int)) (k : Int) : List Nat := (List.range D.length).filter fun i => (D.getD i []).contains k
theorem usesOf_mem (D : List (List Int)) (k : Int) (i : Nat) : i ∈ usesOf D k ↔ i < D.length ∧ k ∈ D.getD i [] := by
  unfold usesOf; rw [List.mem_filter, List.mem_range, List.contains_iff_mem]
theorem usesOf_nodup (D : List (List Int)) (k : Int) : (usesOf D k).Nodup := List.nodup_range.filter _
theorem usesOf_nil (k : Int) : usesOf [] k = [] := rfl
theorem usesOf_snoc (D : List (List Int)) (d : List Int) (k : Int) : usesOf (D ++ [d]) k = usesOf D k ++ if k ∈ d then [D.length] else [] := by
  unfold usesOf
  rw [List.length_append, List.length_singleton, List.range_succ, List.filter_append]
  congr 1
  · apply List.filter_congr
    intro i hi
    rw [List.getD_eq_getElem?_getD, List.getD_eq_getElem?_getD, List.getElem?_append_left (List.mem_range.1 hi)]
  · rw [List.filter_cons, List.getD_eq_getElem?_getD, List.getElem?_append_right (Nat.le_refl _)]
    by_cases h : k ∈ d <;> simp [h]
end Go.Proofs.YtlikokeknfhejaaGreatDoor
