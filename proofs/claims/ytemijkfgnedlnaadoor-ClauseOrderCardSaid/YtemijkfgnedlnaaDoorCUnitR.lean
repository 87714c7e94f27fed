/-
  Layer 5, plain: the reference's way to what follows: rounds, and a sort by insertion. Nothing of the program.
-/
import Derived.Test.YtemijkfgnedlnaaDoorCUnit
namespace Go.Proofs.YtemijkfgnedlnaaDoor

/-- A round over the clauses, i of which were looked at: what was found at its start, and is by now; b: was something found? -/
structure RU (C : List (List Int)) (F0 F : List Int) (i : Nat) (b : Bool) : Prop where
  reach : Reach C F
  same : b = false → F = F0 ∧ ∀ c ∈ C.take i, Quiet c F0
  more : b = true → F0.length < F.length
theorem RU.start {C : List (List Int)} {F : List Int} (h : Reach C F) : RU C F F 0 false := ⟨h, fun _ => ⟨rfl, by simp⟩, fun h => by cases h⟩
theorem take_at {α : Type} {C : List α} {i : Nat} {c : α} (h : C[i]? = some c) : C.take (i + 1) = C.take i ++ [c] := by
  have hl := (List.getElem?_eq_some_iff.1 h).1
  rw [List.take_succ_eq_append_getElem hl, (List.getElem?_eq_some_iff.1 h).2]
theorem RU.quiet {C : List (List Int)} {F0 F : List Int} {i : Nat} {b : Bool} (h : RU C F0 F i b) {c : List Int} (hc : C[i]? = some c) (hq : Quiet c F) : RU C F0 F (i + 1) b := by
  refine ⟨h.reach, fun hb => ?_, h.more⟩
  obtain ⟨rfl, h2⟩ := h.same hb
  refine ⟨rfl, fun d hd => ?_⟩
  rw [take_at hc] at hd
  rcases List.mem_append.1 hd with hd | hd
  · exact h2 d hd
  · rw [List.mem_singleton.1 hd]; exact hq
theorem RU.step {C : List (List Int)} {F0 F : List Int} {i : Nat} {b : Bool} (h : RU C F0 F i b) {c : List Int} {l : Int} (hc : C[i]? = some c) (hs : Steps c F l) : RU C F0 (F ++ [l]) (i + 1) true := by
  refine ⟨.step h.reach (List.mem_of_getElem? hc) hs, (fun h => by cases h), fun _ => ?_⟩
  rw [List.length_append, List.length_singleton]
  cases b with
  | false => obtain ⟨rfl, _⟩ := h.same rfl; omega
  | true => have := h.more rfl; omega
theorem RU.done {C : List (List Int)} {F0 F : List Int} (h : RU C F0 F C.length false) : ∀ c ∈ C, Quiet c F := by
  obtain ⟨rfl, h2⟩ := h.same rfl
  rw [List.take_length] at h2
  exact h2

theorem insAt_perm (S : List Int) (x : Int) (k : Nat) : (insAt S x k).Perm (S ++ [x]) := by
  unfold insAt
  refine List.perm_middle.trans ?_
  rw [List.take_append_drop]
  exact (List.perm_append_singleton x S).symm
structure SortR (F L : List Int) (i : Nat) : Prop where
  perm : L.Perm F
  sorted : SortedV (L.take i)
theorem SortR.start (F : List Int) : SortR F F 0 := ⟨.refl _, SortedV.nil⟩
structure SortI (F S R : List Int) (x : Int) (k : Nat) : Prop where
  perm : (insAt S x k ++ R).Perm F
  sorted : SortedV S
  post : ∀ y ∈ S.drop k, vr x < vr y
  le : k ≤ S.length
theorem SortR.at_ {F L : List Int} {i : Nat} (h : SortR F L i) {x : Int} (hx : L[i]? = some x) : SortI F (L.take i) (L.drop (i + 1)) x i ∧ insAt (L.take i) x i ++ L.drop (i + 1) = L ∧ (L.take i).length = i := by
  have hl := (List.getElem?_eq_some_iff.1 hx).1
  have e1 : (L.take i).length = i := by rw [List.length_take]; omega
  have e2 : insAt (L.take i) x i = L.take i ++ [x] := by
    have := insAt_end (L.take i) x
    rwa [e1] at this
  have e : insAt (L.take i) x i ++ L.drop (i + 1) = L := by
    rw [e2, ← take_at hx, List.take_append_drop]
  refine ⟨⟨by rw [e]; exact h.perm, h.sorted, fun y hy => ?_, by omega⟩, e, e1⟩
  rw [List.drop_eq_nil_of_le (by omega)] at hy
  cases hy
theorem SortI.at_x {F S R : List Int} {x : Int} {k : Nat} (h : SortI F S R x k) : (insAt S x k ++ R)[k]? = some x := by
  rw [List.getElem?_append_left (by rw [insAt_len]; have := h.le; omega)]
  exact insAt_get S x k h.le
theorem SortI.at_p {F S R : List Int} {x p : Int} {k : Nat} (_h : SortI F S R x (k + 1)) (hp : S[k]? = some p) : (insAt S x (k + 1) ++ R)[k]? = some p := by
  obtain ⟨hk, hp'⟩ := List.getElem?_eq_some_iff.1 hp
  rw [List.getElem?_append_left (by rw [insAt_len]; omega), insAt_pred S x k hk, hp']
theorem SortI.swap {F S R : List Int} {x p : Int} {k : Nat} (_h : SortI F S R x (k + 1)) (hp : S[k]? = some p) : ((insAt S x (k + 1) ++ R).set (k + 1) p).set k x = insAt S x k ++ R := by
  obtain ⟨hk, hp'⟩ := List.getElem?_eq_some_iff.1 hp
  rw [List.set_append_left _ _ (by rw [insAt_len]; omega), List.set_append_left _ _ (by rw [List.length_set, insAt_len]; omega), ← hp', insAt_swap S x k hk]
theorem SortI.step {F S R : List Int} {x p : Int} {k : Nat} (h : SortI F S R x (k + 1)) (hp : S[k]? = some p) (hlt : vr x < vr p) : SortI F S R x k := by
  obtain ⟨hk, hp'⟩ := List.getElem?_eq_some_iff.1 hp
  refine ⟨((insAt_perm S x k).trans (insAt_perm S x (k + 1)).symm).append_right R |>.trans h.perm, h.sorted, ?_, by omega⟩
  exact insAt_post_step hk h.post (by rw [hp']; exact hlt)
theorem SortI.done {F S R : List Int} {x : Int} {k : Nat} (h : SortI F S R x k) (hF : Cons F) (hk : ∀ y, 0 < k → S[k - 1]? = some y → ¬ vr x < vr y) : SortR F (insAt S x k ++ R) (S.length + 1) := by
  refine ⟨h.perm, ?_⟩
  have e : (insAt S x k ++ R).take (S.length + 1) = insAt S x k := by
    rw [List.take_append_of_le_length (by rw [insAt_len]; omega), ← insAt_len S x k, List.take_length]
  rw [e]
  refine insAt_sorted h.sorted h.le h.post fun y h0 hy => ?_
  have h1 := hk y h0 hy
  have hyS : y ∈ S := List.mem_of_getElem? hy
  have hxF : x ∈ F := h.perm.mem_iff.1 (List.mem_append_left _ ((insAt_mem S x k x).2 (Or.inl rfl)))
  have hyF : y ∈ F := h.perm.mem_iff.1 (List.mem_append_left _ ((insAt_mem S x k y).2 (Or.inr hyS)))
  have hn : (insAt S x k ++ R).Nodup := h.perm.nodup_iff.2 hF.nodup
  have hn1 : (S ++ [x]).Nodup := (insAt_perm S x k).nodup_iff.1 (List.nodup_append.1 hn).1
  have hne : y ≠ x := (List.nodup_append.1 hn1).2.2 y hyS x (by simp)
  rcases Int.lt_or_eq_of_le (Int.not_lt.1 h1) with h2 | h2
  · exact h2
  · rcases vr_eq h2 with h3 | h3
    · exact absurd h3 hne
    · rw [h3] at hyF
      exact absurd hyF (hF.one x hxF)
theorem SortR.done {F L : List Int} {n : Nat} (h : SortR F L n) (hn : L.length = n) : SortedV L ∧ ∀ x, x ∈ L ↔ x ∈ F := by
  have h2 := h.sorted
  rw [← hn, List.take_length] at h2
  exact ⟨h2, fun x => h.perm.mem_iff⟩
end Go.Proofs.YtemijkfgnedlnaaDoor
