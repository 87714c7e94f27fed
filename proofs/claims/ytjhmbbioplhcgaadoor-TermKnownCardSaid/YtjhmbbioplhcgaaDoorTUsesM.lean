/-
  Layer 2, plain: what terms use.
-/
import Derived.Test.YtjhmbbioplhcgaaDoorTTextM
namespace Go.Proofs.YtjhmbbioplhcgaaDoor
open Go

def memB (U : List Int) (x : Int) : Bool := U.any fun y => decide (y = x)
theorem memB_iff (U : List Int) (x : Int) : memB U x = true ↔ x ∈ U := by
  unfold memB
  rw [List.any_eq_true]
  constructor
  · rintro ⟨y, hy, h⟩; rw [← of_decide_eq_true h]; exact hy
  · intro h; exact ⟨x, h, decide_eq_true rfl⟩
/-- What the closure makes of the terms so far. -/
def seeL (U : List Int) (x : Int) : List Int := if memB U x then U else U ++ [x]
theorem mem_seeL (U : List Int) (x y : Int) : y ∈ seeL U x ↔ y ∈ U ∨ y = x := by
  unfold seeL
  cases h : memB U x with
  | true =>
    have := (memB_iff U x).1 h
    simp
    rintro rfl; exact this
  | false => simp
theorem seeL_prefix (U : List Int) (x : Int) : ∃ V, seeL U x = U ++ V := by
  unfold seeL
  cases memB U x
  · exact ⟨[x], rfl⟩
  · exact ⟨[], by simp⟩
theorem seeL_nodup {U : List Int} (h : U.Nodup) (x : Int) : (seeL U x).Nodup := by
  unfold seeL
  cases hm : memB U x with
  | true => exact h
  | false =>
    show (U ++ [x]).Nodup
    rw [List.nodup_append]
    refine ⟨h, by simp, ?_⟩
    intro a ha b hb
    rw [List.mem_singleton.1 hb]
    rintro rfl
    rw [(memB_iff U a).2 ha] at hm
    cases hm

def ndAt (L : List Nd) (i : Int) : Nd := L.getD i.toNat ⟨0, 0, 0, 0, 0, 0⟩

/-- A term's part's part's .. -/
inductive Reach (L : List Nd) : Int → Int → Prop
  | refl (r : Int) : Reach L r r
  | step {r p i : Int} : p ∈ partsOf (ndAt L r) → Reach L p i → Reach L r i
theorem Reach.trans {L : List Nd} {a b c : Int} (h : Reach L a b) (k : Reach L b c) : Reach L a c := by
  induction h with
  | refl => exact k
  | step hp _ ih => exact .step hp (ih k)
theorem Reach.snoc {L : List Nd} {a b c : Int} (h : Reach L a b) (hc : c ∈ partsOf (ndAt L b)) : Reach L a c := h.trans (.step hc (.refl c))

theorem ndAt_get {L : List Nd} {k : Nat} (h : k < L.length) : ndAt L (k : Int) = L[k] := by
  unfold ndAt
  rw [Int.toNat_natCast, List.getD_eq_getElem?_getD, List.getElem?_eq_getElem h]; rfl
theorem part_lt {L : List Nd} (hG : Good L) {r p : Int} (hr : hasB L.length r = true) (hp : p ∈ partsOf (ndAt L r)) : 0 ≤ p ∧ p < r ∧ hasB L.length p = true := by
  obtain ⟨h0, h1⟩ := (hasB_iff _ _).1 hr
  obtain ⟨k, rfl⟩ : ∃ k : Nat, r = k := ⟨r.toNat, by omega⟩
  rw [ndAt_get (by omega)] at hp
  obtain ⟨a, b⟩ := may_parts (hG.may k (by omega)) p hp
  exact ⟨a, b, (hasB_iff _ _).2 ⟨a, by omega⟩⟩
theorem Reach.le {L : List Nd} (hG : Good L) {a b : Int} (h : Reach L a b) (ha : hasB L.length a = true) : b ≤ a ∧ hasB L.length b = true := by
  induction h with
  | refl => exact ⟨Int.le_refl _, ha⟩
  | step hp _ ih =>
    obtain ⟨_, h1, h2⟩ := part_lt hG ha hp
    obtain ⟨h3, h4⟩ := ih h2
    exact ⟨by omega, h4⟩

/-- What Uses answers: rising, each once, the roots and all their parts' parts. -/
def UsesSpec (L : List Nd) (roots R : List Int) : Prop := R.Pairwise (· < ·) ∧ ∀ i, i ∈ R ↔ ∃ r ∈ roots, hasB L.length r = true ∧ Reach L r i
theorem rising_eq : ∀ {R S : List Int}, R.Pairwise (· < ·) → S.Pairwise (· < ·) → (∀ i, i ∈ R ↔ i ∈ S) → R = S
  | [], [], _, _, _ => rfl
  | [], s :: S, _, _, h => by have := (h s).2 (by simp); cases this
  | r :: R, [], _, _, h => by have := (h r).1 (by simp); cases this
  | r :: R, s :: S, hR, hS, h => by
    have hr := List.pairwise_cons.1 hR
    have hs := List.pairwise_cons.1 hS
    have e : r = s := by
      rcases List.mem_cons.1 ((h r).1 (by simp)) with e | e
      · exact e
      · rcases List.mem_cons.1 ((h s).2 (by simp)) with e2 | e2
        · exact e2.symm
        · have := hs.1 r e; have := hr.1 s e2; omega
    subst e
    congr 1
    refine rising_eq hr.2 hs.2 fun i => ⟨fun hi => ?_, fun hi => ?_⟩
    · rcases List.mem_cons.1 ((h i).1 (by simp [hi])) with e | e
      · have := hr.1 i hi; omega
      · exact e
    · rcases List.mem_cons.1 ((h i).2 (by simp [hi])) with e | e
      · have := hs.1 i hi; omega
      · exact e
theorem UsesSpec.eq {L : List Nd} {roots R S : List Int} (h : UsesSpec L roots R) (k : UsesSpec L roots S) : R = S :=
  rising_eq h.1 k.1 fun i => (h.2 i).trans (k.2 i).symm

/-- The terms so far: each once, each a root's part's part; those of done are among them. -/
structure UInv (L : List Nd) (roots done U : List Int) : Prop where
  nodup : U.Nodup
  has : ∀ u ∈ U, hasB L.length u = true
  reach : ∀ u ∈ U, ∃ r ∈ roots, hasB L.length r = true ∧ Reach L r u
  rts : ∀ r ∈ done, hasB L.length r = true → r ∈ U
theorem UInv.nil (L : List Nd) (roots : List Int) : UInv L roots [] [] := ⟨List.nodup_nil, by simp, by simp, by simp⟩
theorem UInv.root {L : List Nd} {roots done U : List Int} (h : UInv L roots done U) {r : Int} (hr : r ∈ roots) (hb : hasB L.length r = true) : UInv L roots (done ++ [r]) (seeL U r) := by
  refine ⟨seeL_nodup h.nodup r, fun u hu => ?_, fun u hu => ?_, fun q hq hqb => ?_⟩
  · rcases (mem_seeL U r u).1 hu with hu | rfl
    · exact h.has u hu
    · exact hb
  · rcases (mem_seeL U r u).1 hu with hu | rfl
    · exact h.reach u hu
    · exact ⟨u, hr, hb, .refl u⟩
  · rcases List.mem_append.1 hq with hq | hq
    · exact (mem_seeL U r q).2 (Or.inl (h.rts q hq hqb))
    · exact (mem_seeL U r q).2 (Or.inr (List.mem_singleton.1 hq))
theorem UInv.pass {L : List Nd} {roots done U : List Int} (h : UInv L roots done U) {r : Int} (hb : hasB L.length r = false) : UInv L roots (done ++ [r]) U := by
  refine ⟨h.nodup, h.has, h.reach, fun q hq hqb => ?_⟩
  rcases List.mem_append.1 hq with hq | hq
  · exact h.rts q hq hqb
  · rw [List.mem_singleton.1 hq, hb] at hqb; cases hqb
theorem UInv.part {L : List Nd} {roots done U : List Int} (hG : Good L) (h : UInv L roots done U) {u p : Int} (hu : u ∈ U) (hp : p ∈ partsOf (ndAt L u)) : UInv L roots done (seeL U p) := by
  have hb := (part_lt hG (h.has u hu) hp).2.2
  refine ⟨seeL_nodup h.nodup p, fun q hq => ?_, fun q hq => ?_, fun q hq hqb => (mem_seeL U p q).2 (Or.inl (h.rts q hq hqb))⟩
  · rcases (mem_seeL U p q).1 hq with hq | rfl
    · exact h.has q hq
    · exact hb
  · rcases (mem_seeL U p q).1 hq with hq | rfl
    · exact h.reach q hq
    · obtain ⟨r, h1, h2, h3⟩ := h.reach u hu
      exact ⟨r, h1, h2, h3.snoc hp⟩
/-- The parts of the first n of the terms so far are among them. -/
def Clo (L : List Nd) (U : List Int) (n : Nat) : Prop := ∀ j u, j < n → U[j]? = some u → ∀ p ∈ partsOf (ndAt L u), p ∈ U
theorem Clo.see {L : List Nd} {U : List Int} {n : Nat} (h : Clo L U n) (hn : n ≤ U.length) (x : Int) : Clo L (seeL U x) n := by
  intro j u hj hu p hp
  obtain ⟨V, hV⟩ := seeL_prefix U x
  rw [hV, List.getElem?_append_left (by omega)] at hu
  exact (mem_seeL U x p).2 (Or.inl (h j u hj hu p hp))
theorem nodup_len : ∀ (n : Nat) (l : List Nat), l.Nodup → (∀ x ∈ l, x < n) → l.length ≤ n
  | 0, l, _, h => by
    cases l with
    | nil => exact Nat.le_refl _
    | cons a l => exact absurd (h a (by simp)) (Nat.not_lt_zero _)
  | n + 1, l, hn, h => by
    by_cases hm : n ∈ l
    · have := nodup_len n (l.erase n) (hn.erase n) (fun x hx => by
        have h1 := (List.Nodup.mem_erase_iff hn).1 hx
        have h2 := h x h1.2
        have h3 := h1.1
        omega)
      have h4 := List.length_erase_of_mem hm
      omega
    · have := nodup_len n l hn (fun x hx => by
        have h1 := h x hx
        have h2 : x ≠ n := fun e => hm (e ▸ hx)
        omega)
      omega
theorem UInv.len {L : List Nd} {roots done U : List Int} (h : UInv L roots done U) : U.length ≤ L.length := by
  have hn : (U.map Int.toNat).Nodup := by
    unfold List.Nodup
    rw [List.pairwise_map]
    refine List.Pairwise.imp_of_mem (fun {a b} ha hb hab => ?_) h.nodup
    have h1 := ((hasB_iff _ _).1 (h.has a ha)).1
    have h2 := ((hasB_iff _ _).1 (h.has b hb)).1
    omega
  have := nodup_len L.length _ hn fun k hk => by
    obtain ⟨u, hu, rfl⟩ := List.mem_map.1 hk
    obtain ⟨h0, h1⟩ := (hasB_iff _ _).1 (h.has u hu)
    omega
  simpa using this
/-- At the end: sorted, they are what Uses answers. -/
theorem uses_end {L : List Nd} {roots U S : List Int} (h : UInv L roots roots U) (hc : Clo L U U.length) (hp : S.Perm U) (hs : S.Pairwise (· ≤ ·)) : UsesSpec L roots S := by
  have hclo : ∀ r i, Reach L r i → r ∈ U → i ∈ U := by
    intro r i hr
    induction hr with
    | refl => exact fun h => h
    | step hpp _ ih =>
      intro hu
      obtain ⟨j, hj, hju⟩ := List.getElem_of_mem hu
      exact ih (hc j _ hj (by rw [List.getElem?_eq_getElem hj, hju]) _ hpp)
  refine ⟨?_, fun i => ⟨fun hi => h.reach i (hp.mem_iff.1 hi), ?_⟩⟩
  · have hn : S.Nodup := hp.nodup_iff.2 h.nodup
    exact (List.pairwise_and_iff.2 ⟨hs, hn⟩).imp fun {a b} hh => by obtain ⟨h1, h2⟩ := hh; omega
  · rintro ⟨r, hr, hb, hri⟩
    exact hp.mem_iff.2 (hclo r i hri (h.rts r hr hb))
end Go.Proofs.YtjhmbbioplhcgaaDoor
