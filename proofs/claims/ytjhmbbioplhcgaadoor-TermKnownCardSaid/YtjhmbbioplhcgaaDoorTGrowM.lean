/-
  Layer 2, plain: with more terms; what terms use, and how deep they are.
-/
import Derived.Test.YtjhmbbioplhcgaaDoorTMade
import Derived.Test.YtjhmbbioplhcgaaDoorTText
namespace Go.Proofs.YtjhmbbioplhcgaaDoor
open Go

def growL (L : List Nd) (ds : List Nd) : List Nd := ds.foldl addL L
theorem growL_snoc (L ds : List Nd) (d : Nd) : growL L (ds ++ [d]) = addL (growL L ds) d := by simp [growL]
theorem addL_pre (L : List Nd) (d : Nd) : ∃ Z, addL L d = L ++ Z := by
  unfold addL
  split
  · exact ⟨[d], rfl⟩
  · exact ⟨[], by simp⟩
theorem growL_pre (L : List Nd) : ∀ ds, ∃ Z, growL L ds = L ++ Z := by
  refine snocInd ⟨[], by simp [growL]⟩ fun ds d ih => ?_
  obtain ⟨Z, hZ⟩ := ih
  obtain ⟨Y, hY⟩ := addL_pre (growL L ds) d
  exact ⟨Z ++ Y, by rw [growL_snoc, hY, hZ, List.append_assoc]⟩
theorem growL_good {L : List Nd} (hG : Good L) : ∀ ds, (∀ d ∈ ds, d.Ok) → Good (growL L ds) := by
  refine snocInd (fun _ => hG) fun ds d ih h => ?_
  rw [growL_snoc]
  exact (ih fun e he => h e (by simp [he])).add (h d (by simp))
theorem growL_len (L : List Nd) : ∀ ds, (growL L ds).length ≤ L.length + ds.length := by
  refine snocInd (Nat.le_refl _) fun ds d ih => ?_
  rw [growL_snoc, List.length_append]
  have := (addL_length (growL L ds) d).1
  simp only [List.length_cons, List.length_nil]
  omega
theorem kps_pre (L : List Nd) : ∀ Z, ∃ Y, kps (L ++ Z) = kps L ++ Y := by
  refine snocInd ⟨[], by simp⟩ fun Z d ih => ?_
  obtain ⟨Y, hY⟩ := ih
  exact ⟨Y ++ [kept1 (kps (L ++ Z)) d], by rw [← List.append_assoc, kps_snoc, ← List.append_assoc, hY]⟩
theorem texts_pre (L : List Nd) : ∀ Z, ∃ Y, texts (L ++ Z) = texts L ++ Y := by
  refine snocInd ⟨[], by simp⟩ fun Z d ih => ?_
  obtain ⟨Y, hY⟩ := ih
  exact ⟨Y ++ [text1 (texts (L ++ Z)) d], by rw [← List.append_assoc, texts_snoc, ← List.append_assoc, hY]⟩
theorem hasB_pre {L Z : List Nd} {i : Int} (h : hasB L.length i = true) : hasB (L ++ Z).length i = true := by
  obtain ⟨h0, h1⟩ := (hasB_iff _ _).1 h
  exact (hasB_iff _ _).2 ⟨h0, by rw [List.length_append]; omega⟩
theorem nodeAt_pre {L : List Nd} (Z : List Nd) {i : Int} (h : hasB L.length i = true) : nodeAt (L ++ Z) i = nodeAt L i := by
  obtain ⟨h0, h1⟩ := (hasB_iff _ _).1 h
  unfold nodeAt
  rw [h, hasB_pre h]
  simp only [if_true, List.getD_eq_getElem?_getD]
  rw [List.getElem?_append_left (by omega)]
theorem deepI_pre {L : List Nd} (Z : List Nd) {i : Int} (h : hasB L.length i = true) : deepI (L ++ Z) i = deepI L i := by
  obtain ⟨h0, h1⟩ := (hasB_iff _ _).1 h
  obtain ⟨Y, hY⟩ := kps_pre L Z
  unfold deepI kAt
  rw [h, hasB_pre h, hY]
  simp only [if_true, List.getD_eq_getElem?_getD]
  rw [List.getElem?_append_left (by rw [kps_length]; omega)]
theorem textI_pre {L : List Nd} (Z : List Nd) {i : Int} (h : hasB L.length i = true) : textI (L ++ Z) i = textI L i := by
  obtain ⟨h0, h1⟩ := (hasB_iff _ _).1 h
  obtain ⟨Y, hY⟩ := texts_pre L Z
  have e : textOf (L ++ Z) i = textOf L i := by
    unfold textOf tAt
    rw [hY, List.getD_eq_getElem?_getD, List.getD_eq_getElem?_getD, List.getElem?_append_left (by rw [texts_length]; omega)]
  unfold textI
  rw [h, hasB_pre h, e]

/-- The deepest of these. -/
def dmax (L : List Nd) (V : List Int) : Int := V.foldl (fun m u => max m (deepI L u)) 0
theorem dmax_snoc (L : List Nd) (V : List Int) (u : Int) : dmax L (V ++ [u]) = max (dmax L V) (deepI L u) := by simp [dmax]
theorem dmax_ge (L : List Nd) : ∀ V, 0 ≤ dmax L V ∧ ∀ u ∈ V, deepI L u ≤ dmax L V := by
  refine snocInd ⟨by simp [dmax], by simp⟩ fun V v ih => ?_
  rw [dmax_snoc]
  obtain ⟨h0, h1⟩ := ih
  refine ⟨by omega, fun u hu => ?_⟩
  rcases List.mem_append.1 hu with hu | hu
  · have := h1 u hu; omega
  · rw [List.mem_singleton.1 hu]; omega
theorem dmax_le (L : List Nd) (b : Int) (hb : 0 ≤ b) : ∀ V, (∀ u ∈ V, deepI L u ≤ b) → dmax L V ≤ b := by
  refine snocInd (fun _ => by simpa [dmax] using hb) fun V v ih h => ?_
  rw [dmax_snoc]
  have h1 := ih fun u hu => h u (by simp [hu])
  have h2 := h v (by simp)
  omega
theorem deep_parts {L : List Nd} (hG : Good L) {k : Nat} (hk : k < L.length) : deepI L (k : Int) = dmax L (partsOf L[k]) + 1 := by
  have hb : hasB L.length (k : Int) = true := (hasB_iff _ _).2 ⟨by omega, by omega⟩
  have h1 := keptOf_eq L hG k hk
  have e : deepI L (k : Int) = (deep1 (kps L) L[k] : Int) := by
    unfold deepI
    rw [hb, h1]
    rfl
  rw [e]
  have hp := may_parts (hG.may k hk)
  have hq : ∀ p ∈ partsOf L[k], ((kAt (kps L) p).deep : Int) = deepI L p := fun p h => by
    unfold deepI
    rw [(hasB_iff _ _).2 ⟨(hp p h).1, by have := (hp p h).2; omega⟩]
    rfl
  have hf : ∀ (V : List Int), (∀ p ∈ V, ((kAt (kps L) p).deep : Int) = deepI L p) → ((V.foldl (fun m p => max m (kAt (kps L) p).deep) 0 : Nat) : Int) = dmax L V := by
    refine snocInd (fun _ => rfl) fun V v ih h => ?_
    rw [dmax_snoc, List.foldl_append, ← ih fun p hp => h p (by simp [hp]), ← h v (by simp)]
    simp only [List.foldl_cons, List.foldl_nil]
    omega
  unfold deep1
  rw [← hf _ hq]
  omega
theorem reach_deep {L : List Nd} (hG : Good L) {r i : Int} (h : Reach L r i) (hr : hasB L.length r = true) : deepI L i ≤ deepI L r := by
  induction h with
  | refl => exact Int.le_refl _
  | @step r p i hp _ ih =>
    obtain ⟨h0, h1, h2⟩ := part_lt hG hr hp
    have h3 := ih h2
    obtain ⟨k0, k1⟩ := (hasB_iff _ _).1 hr
    obtain ⟨k, rfl⟩ : ∃ k : Nat, r = k := ⟨r.toNat, by omega⟩
    have hk : k < L.length := by omega
    rw [ndAt_get hk] at hp
    have h4 := (dmax_ge L (partsOf L[k])).2 p hp
    rw [deep_parts hG hk]
    omega
/-- What one term uses ends with it; all others are less. -/
theorem uses_last {L : List Nd} (hG : Good L) {k : Nat} (hk : k < L.length) {U : List Int} (h : UsesSpec L [(k : Int)] U) : ∃ V, U = V ++ [(k : Int)] ∧ ∀ v ∈ V, v < k ∧ hasB L.length v = true ∧ Reach L k v := by
  have hb : hasB L.length (k : Int) = true := (hasB_iff _ _).2 ⟨by omega, by omega⟩
  have hm : (k : Int) ∈ U := (h.2 _).2 ⟨k, by simp, hb, .refl _⟩
  have hall : ∀ u ∈ U, u ≤ k ∧ hasB L.length u = true ∧ Reach L k u := fun u hu => by
    obtain ⟨r, hr, _, hru⟩ := (h.2 u).1 hu
    rw [List.mem_singleton.1 hr] at hru
    obtain ⟨h1, h2⟩ := hru.le hG hb
    exact ⟨h1, h2, hru⟩
  have hne : U ≠ [] := fun e => by rw [e] at hm; cases hm
  have hU := List.dropLast_concat_getLast hne
  have hlast : U.getLast hne = k := by
    have h1 := (hall _ (List.getLast_mem hne)).1
    rw [← hU] at hm
    rcases List.mem_append.1 hm with hd | hd
    · have h2 := h.1
      rw [← hU, List.pairwise_append] at h2
      have := h2.2.2 _ hd _ (List.mem_singleton.2 rfl)
      omega
    · exact (List.mem_singleton.1 hd).symm
  refine ⟨U.dropLast, by rw [← hlast]; exact hU.symm, fun v hv => ?_⟩
  have h2 := h.1
  rw [← hU, List.pairwise_append] at h2
  have h3 := h2.2.2 v hv _ (List.mem_singleton.2 rfl)
  have h4 := hall v (List.dropLast_subset _ hv)
  exact ⟨by omega, h4.2⟩
theorem uses_sub {L : List Nd} {k u : Int} {U V : List Int} (hk : hasB L.length k = true) (h : UsesSpec L [k] U) (hu : Reach L k u) (hV : UsesSpec L [u] V) : ∀ v ∈ V, v ∈ U := by
  intro v hv
  obtain ⟨r, hr, _, hrv⟩ := (hV.2 v).1 hv
  rw [List.mem_singleton.1 hr] at hrv
  exact (h.2 v).2 ⟨k, by simp, hk, hu.trans hrv⟩
/-- A term is one deeper than the deepest of what it uses. -/
theorem uses_deep {L : List Nd} (hG : Good L) {k : Nat} (hk : k < L.length) {V : List Int} (h : UsesSpec L [(k : Int)] (V ++ [(k : Int)])) (hV : ∀ v ∈ V, v < k ∧ hasB L.length v = true ∧ Reach L k v) : deepI L (k : Int) = dmax L V + 1 := by
  have hb : hasB L.length (k : Int) = true := (hasB_iff _ _).2 ⟨by omega, by omega⟩
  rw [deep_parts hG hk]
  have h1 : dmax L (partsOf L[k]) ≤ dmax L V := by
    refine dmax_le L _ (dmax_ge L V).1 _ fun p hp => (dmax_ge L V).2 p ?_
    have hp' : p ∈ partsOf (ndAt L k) := by rw [ndAt_get hk]; exact hp
    have hpk := (part_lt hG hb hp').2.1
    have hm := (h.2 p).2 ⟨k, by simp, hb, .step hp' (.refl p)⟩
    rcases List.mem_append.1 hm with hm | hm
    · exact hm
    · have := List.mem_singleton.1 hm; omega
  have h2 : dmax L V ≤ dmax L (partsOf L[k]) := by
    refine dmax_le L _ (dmax_ge L _).1 _ fun v hv => ?_
    obtain ⟨h3, h4, h5⟩ := hV v hv
    cases h5 with
    | refl => omega
    | @step _ p _ hp hr =>
      have h6 := (part_lt hG hb hp).2.2
      have h7 := reach_deep hG hr h6
      rw [ndAt_get hk] at hp
      have h8 := (dmax_ge L (partsOf L[k])).2 p hp
      omega
  omega
end Go.Proofs.YtjhmbbioplhcgaaDoor
