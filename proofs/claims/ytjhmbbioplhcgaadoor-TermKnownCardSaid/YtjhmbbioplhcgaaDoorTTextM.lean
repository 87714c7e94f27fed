/-
  Layer 2, plain: texts of terms, and how long they are.
-/
import Derived.Test.YtjhmbbioplhcgaaDoorTMath
namespace Go.Proofs.YtjhmbbioplhcgaaDoor
open Go

def tAt (T : List (List UInt8)) (i : Int) : List UInt8 := T.getD i.toNat []
/-- A node's text, out of its parts' texts. -/
def text1 (T : List (List UInt8)) (d : Nd) : List UInt8 :=
  if d.k = 3 then mark0 d ++ (tAt T d.y ++ mark1 d) else if d.k = 4 then mark0 d ++ (tAt T d.x ++ (mark1 d ++ (tAt T d.y ++ mark2 d))) else mark0 d
def texts (L : List Nd) : List (List UInt8) := L.foldl (fun T d => T ++ [text1 T d]) []
theorem texts_snoc (L : List Nd) (d : Nd) : texts (L ++ [d]) = texts L ++ [text1 (texts L) d] := by simp [texts]
theorem texts_length (L : List Nd) : (texts L).length = L.length := by
  refine snocInd (p := fun L => (texts L).length = L.length) rfl (fun L d ih => ?_) L
  show (texts (L ++ [d])).length = (L ++ [d]).length
  rw [texts_snoc]; simp [ih]
/-- The text of the term numbered i. -/
def textOf (L : List Nd) (i : Int) : List UInt8 := tAt (texts L) i

theorem Good.init {L : List Nd} {d : Nd} (h : Good (L ++ [d])) : Good L ∧ mayB L.length d = true ∧ d.Ok := by
  refine ⟨⟨fun e he => h.ok e (by simp [he]), fun i hi => ?_, (List.nodup_append.1 h.nodup).1⟩, ?_, h.ok d (by simp)⟩
  · have := h.may i (by simp; omega)
    rwa [List.getElem_append_left hi] at this
  · have := h.may L.length (by simp)
    simpa using this

theorem tAt_append {T : List (List UInt8)} {t : List UInt8} {i : Int} (h0 : 0 ≤ i) (h : i < T.length) : tAt (T ++ [t]) i = tAt T i := by
  unfold tAt
  rw [List.getD_eq_getElem?_getD, List.getD_eq_getElem?_getD, List.getElem?_append_left (by omega)]
theorem kAt_append {K : List Kp} {q : Kp} {i : Int} (h0 : 0 ≤ i) (h : i < K.length) : kAt (K ++ [q]) i = kAt K i := by
  unfold kAt
  rw [List.getD_eq_getElem?_getD, List.getD_eq_getElem?_getD, List.getElem?_append_left (by omega)]
theorem text1_append {T : List (List UInt8)} {t : List UInt8} {d : Nd} {s : Nat} (hm : mayB s d = true) (hs : s ≤ T.length) : text1 (T ++ [t]) d = text1 T d := by
  have hp := may_parts hm
  unfold text1
  split
  · rename_i h3
    have := hp d.y (by simp [partsOf, h3])
    rw [tAt_append this.1 (by omega)]
  · split
    · rename_i h3 h4
      have hx := hp d.x (by simp [partsOf, h4])
      have hy := hp d.y (by simp [partsOf, h4])
      rw [tAt_append hx.1 (by omega), tAt_append hy.1 (by omega)]
    · rfl
theorem kept1_append {K : List Kp} {q : Kp} {d : Nd} {s : Nat} (hm : mayB s d = true) (hs : s ≤ K.length) : kept1 (K ++ [q]) d = kept1 K d := by
  have hp := may_parts hm
  have e : ∀ p ∈ partsOf d, kAt (K ++ [q]) p = kAt K p := fun p h => kAt_append (hp p h).1 (by have := (hp p h).2; omega)
  unfold kept1 deep1 long1 longSum
  have f1 : ∀ (l : List Int) (n : Nat), (∀ p ∈ l, kAt (K ++ [q]) p = kAt K p) → l.foldl (fun m p => max m (kAt (K ++ [q]) p).deep) n = l.foldl (fun m p => max m (kAt K p).deep) n := by
    intro l
    induction l with
    | nil => intro n _; rfl
    | cons a l ih => intro n h; simp only [List.foldl_cons]; rw [h a (by simp)]; exact ih _ fun p hp => h p (by simp [hp])
  have f2 : ∀ (l : List Int) (n : Nat), (∀ p ∈ l, kAt (K ++ [q]) p = kAt K p) → l.foldl (fun m p => m + (kAt (K ++ [q]) p).long) n = l.foldl (fun m p => m + (kAt K p).long) n := by
    intro l
    induction l with
    | nil => intro n _; rfl
    | cons a l ih => intro n h; simp only [List.foldl_cons]; rw [h a (by simp)]; exact ih _ fun p hp => h p (by simp [hp])
  rw [f1 _ _ e, f2 _ _ e]

/-- Each term's text is made of its node and its parts' texts. -/
theorem textOf_eq : ∀ (L : List Nd), Good L → ∀ k (h : k < L.length), textOf L (k : Int) = text1 (texts L) L[k] := by
  refine fun L => snocInd (p := fun L => Good L → ∀ k (h : k < L.length), textOf L (k : Int) = text1 (texts L) L[k]) (fun _ k h => absurd h (Nat.not_lt_zero _)) (fun L d ih hG k hk => ?_) L
  obtain ⟨hL, hm, _⟩ := hG.init
  have hl := texts_length L
  unfold textOf
  rw [texts_snoc]
  by_cases hkl : k < L.length
  · rw [tAt_append (by omega) (by omega)]
    have := ih hL k hkl
    unfold textOf at this
    rw [this]
    have hg : (L ++ [d])[k] = L[k] := List.getElem_append_left hkl
    rw [hg, text1_append (hL.may k hkl) (by omega)]
  · have hk' : k = L.length := by simp at hk; omega
    subst hk'
    have hg : (L ++ [d])[L.length] = d := by simp
    rw [hg, text1_append hm (by omega)]
    unfold tAt
    rw [Int.toNat_natCast, List.getD_eq_getElem?_getD, List.getElem?_append_right (by omega), hl]
    simp
theorem keptOf_eq : ∀ (L : List Nd), Good L → ∀ k (h : k < L.length), kAt (kps L) (k : Int) = kept1 (kps L) L[k] := by
  refine fun L => snocInd (p := fun L => Good L → ∀ k (h : k < L.length), kAt (kps L) (k : Int) = kept1 (kps L) L[k]) (fun _ k h => absurd h (Nat.not_lt_zero _)) (fun L d ih hG k hk => ?_) L
  obtain ⟨hL, hm, _⟩ := hG.init
  have hl := kps_length L
  rw [kps_snoc]
  by_cases hkl : k < L.length
  · rw [kAt_append (by omega) (by omega), ih hL k hkl]
    have hg : (L ++ [d])[k] = L[k] := List.getElem_append_left hkl
    rw [hg, kept1_append (hL.may k hkl) (by omega)]
  · have hk' : k = L.length := by simp at hk; omega
    subst hk'
    have hg : (L ++ [d])[L.length] = d := by simp
    rw [hg, kept1_append hm (by omega)]
    unfold kAt
    rw [Int.toNat_natCast, List.getD_eq_getElem?_getD, List.getElem?_append_right (by omega), hl]
    simp

theorem long_text {L : List Nd} (hG : Good L) : ∀ k, k < L.length → (kAt (kps L) (k : Int)).long = min (textOf L (k : Int)).length 65537 := by
  intro k
  induction k using Nat.strongRecOn with
  | _ k ih =>
    intro hk
    rw [keptOf_eq L hG k hk, textOf_eq L hG k hk]
    have hm := hG.may k hk
    have hp := may_parts hm
    have key : ∀ p ∈ partsOf L[k], (kAt (kps L) p).long = min (tAt (texts L) p).length 65537 := by
      intro p h
      obtain ⟨h0, h1⟩ := hp p h
      have := ih p.toNat (by omega) (by omega)
      rwa [Int.toNat_of_nonneg h0] at this
    generalize L[k] = d at *
    show long1 (kps L) d = _
    unfold long1 longSum text1
    rcases may_kind hm with h | h | h | h
    · simp [partsOf, h, marksLen, mark1, mark2]
    · simp [partsOf, h, marksLen, mark1, mark2]
    · have ky := key d.y (by simp [partsOf, h])
      simp only [partsOf, h, if_true, List.foldl_cons, List.foldl_nil, ky, marksLen, List.length_append, mark2]
      simp
      omega
    · have kx := key d.x (by simp [partsOf, h])
      have ky := key d.y (by simp [partsOf, h])
      simp [partsOf, h, kx, ky, marksLen]
      omega
end Go.Proofs.YtjhmbbioplhcgaaDoor
