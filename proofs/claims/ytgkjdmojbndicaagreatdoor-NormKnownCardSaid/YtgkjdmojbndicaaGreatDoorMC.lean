/-
  Several texts in one: TGrowM: Layer 2, plain: with more terms; what terms use, and how deep they are.; TTellM: Layer 2, plain: what the reference tells: depth, texts by kind, what is used.; VMath: Layer 3, plain: what an environment tells; values of terms; what terms need..
-/
import Derived.Test.YtgkjdmojbndicaaGreatDoorMB
import Derived.Test.YtgkjdmojbndicaaGreatDoorMA
namespace Go.Proofs.YtgkjdmojbndicaaGreatDoor
open Go

def growL (L : List Nd) (ds : List Nd) : List Nd := ds.foldl addL L
theorem growL_snoc (L ds : List Nd) (d : Nd) : growL L (ds ++ [d]) = addL (growL L ds) d := by simp [growL]
theorem addL_pre (L : List Nd) (d : Nd) : ∃ Z, addL L d = L ++ Z := by
  unfold addL
  split
  · exact ⟨[d], rfl⟩
  · exact ⟨[], by simp⟩
theorem growL_pre (L : List Nd) : ∀ ds, ∃ Z, growL L ds = L ++ Z := by
  refine snocInd ⟨[], by simp [growL]⟩ fun ds d ih => ?_
  obtain ⟨Z, hZ⟩ := ih
  obtain ⟨Y, hY⟩ := addL_pre (growL L ds) d
  exact ⟨Z ++ Y, by rw [growL_snoc, hY, hZ, List.append_assoc]⟩
theorem growL_good {L : List Nd} (hG : Good L) : ∀ ds, (∀ d ∈ ds, d.Ok) → Good (growL L ds) := by
  refine snocInd (fun _ => hG) fun ds d ih h => ?_
  rw [growL_snoc]
  exact (ih fun e he => h e (by simp [he])).add (h d (by simp))
theorem growL_len (L : List Nd) : ∀ ds, (growL L ds).length ≤ L.length + ds.length := by
  refine snocInd (Nat.le_refl _) fun ds d ih => ?_
  rw [growL_snoc, List.length_append]
  have := (addL_length (growL L ds) d).1
  simp only [List.length_cons, List.length_nil]
  omega
theorem kps_pre (L : List Nd) : ∀ Z, ∃ Y, kps (L ++ Z) = kps L ++ Y := by
  refine snocInd ⟨[], by simp⟩ fun Z d ih => ?_
  obtain ⟨Y, hY⟩ := ih
  exact ⟨Y ++ [kept1 (kps (L ++ Z)) d], by rw [← List.append_assoc, kps_snoc, ← List.append_assoc, hY]⟩
theorem texts_pre (L : List Nd) : ∀ Z, ∃ Y, texts (L ++ Z) = texts L ++ Y := by
  refine snocInd ⟨[], by simp⟩ fun Z d ih => ?_
  obtain ⟨Y, hY⟩ := ih
  exact ⟨Y ++ [text1 (texts (L ++ Z)) d], by rw [← List.append_assoc, texts_snoc, ← List.append_assoc, hY]⟩
theorem hasB_pre {L Z : List Nd} {i : Int} (h : hasB L.length i = true) : hasB (L ++ Z).length i = true := by
  obtain ⟨h0, h1⟩ := (hasB_iff _ _).1 h
  exact (hasB_iff _ _).2 ⟨h0, by rw [List.length_append]; omega⟩
theorem nodeAt_pre {L : List Nd} (Z : List Nd) {i : Int} (h : hasB L.length i = true) : nodeAt (L ++ Z) i = nodeAt L i := by
  obtain ⟨h0, h1⟩ := (hasB_iff _ _).1 h
  unfold nodeAt
  rw [h, hasB_pre h]
  simp only [if_true, List.getD_eq_getElem?_getD]
  rw [List.getElem?_append_left (by omega)]
theorem deepI_pre {L : List Nd} (Z : List Nd) {i : Int} (h : hasB L.length i = true) : deepI (L ++ Z) i = deepI L i := by
  obtain ⟨h0, h1⟩ := (hasB_iff _ _).1 h
  obtain ⟨Y, hY⟩ := kps_pre L Z
  unfold deepI kAt
  rw [h, hasB_pre h, hY]
  simp only [if_true, List.getD_eq_getElem?_getD]
  rw [List.getElem?_append_left (by rw [kps_length]; omega)]
/-- The deepest of these. -/
def dmax (L : List Nd) (V : List Int) : Int := V.foldl (fun m u => max m (deepI L u)) 0
theorem dmax_snoc (L : List Nd) (V : List Int) (u : Int) : dmax L (V ++ [u]) = max (dmax L V) (deepI L u) := by simp [dmax]
theorem dmax_ge (L : List Nd) : ∀ V, 0 ≤ dmax L V ∧ ∀ u ∈ V, deepI L u ≤ dmax L V := by
  refine snocInd ⟨by simp [dmax], by simp⟩ fun V v ih => ?_
  rw [dmax_snoc]
  obtain ⟨h0, h1⟩ := ih
  refine ⟨by omega, fun u hu => ?_⟩
  rcases List.mem_append.1 hu with hu | hu
  · have := h1 u hu; omega
  · rw [List.mem_singleton.1 hu]; omega
theorem dmax_le (L : List Nd) (b : Int) (hb : 0 ≤ b) : ∀ V, (∀ u ∈ V, deepI L u ≤ b) → dmax L V ≤ b := by
  refine snocInd (fun _ => by simpa [dmax] using hb) fun V v ih h => ?_
  rw [dmax_snoc]
  have h1 := ih fun u hu => h u (by simp [hu])
  have h2 := h v (by simp)
  omega
theorem deep_parts {L : List Nd} (hG : Good L) {k : Nat} (hk : k < L.length) : deepI L (k : Int) = dmax L (partsOf L[k]) + 1 := by
  have hb : hasB L.length (k : Int) = true := (hasB_iff _ _).2 ⟨by omega, by omega⟩
  have h1 := keptOf_eq L hG k hk
  have e : deepI L (k : Int) = (deep1 (kps L) L[k] : Int) := by
    unfold deepI
    rw [hb, h1]
    rfl
  rw [e]
  have hp := may_parts (hG.may k hk)
  have hq : ∀ p ∈ partsOf L[k], ((kAt (kps L) p).deep : Int) = deepI L p := fun p h => by
    unfold deepI
    rw [(hasB_iff _ _).2 ⟨(hp p h).1, by have := (hp p h).2; omega⟩]
    rfl
  have hf : ∀ (V : List Int), (∀ p ∈ V, ((kAt (kps L) p).deep : Int) = deepI L p) → ((V.foldl (fun m p => max m (kAt (kps L) p).deep) 0 : Nat) : Int) = dmax L V := by
    refine snocInd (fun _ => rfl) fun V v ih h => ?_
    rw [dmax_snoc, List.foldl_append, ← ih fun p hp => h p (by simp [hp]), ← h v (by simp)]
    simp only [List.foldl_cons, List.foldl_nil]
    omega
  unfold deep1
  rw [← hf _ hq]
  omega
theorem reach_deep {L : List Nd} (hG : Good L) {r i : Int} (h : Reach L r i) (hr : hasB L.length r = true) : deepI L i ≤ deepI L r := by
  induction h with
  | refl => exact Int.le_refl _
  | @step r p i hp _ ih =>
    obtain ⟨h0, h1, h2⟩ := part_lt hG hr hp
    have h3 := ih h2
    obtain ⟨k0, k1⟩ := (hasB_iff _ _).1 hr
    obtain ⟨k, rfl⟩ : ∃ k : Nat, r = k := ⟨r.toNat, by omega⟩
    have hk : k < L.length := by omega
    rw [ndAt_get hk] at hp
    have h4 := (dmax_ge L (partsOf L[k])).2 p hp
    rw [deep_parts hG hk]
    omega
/-- What one term uses ends with it; all others are less. -/
theorem uses_last {L : List Nd} (hG : Good L) {k : Nat} (hk : k < L.length) {U : List Int} (h : UsesSpec L [(k : Int)] U) : ∃ V, U = V ++ [(k : Int)] ∧ ∀ v ∈ V, v < k ∧ hasB L.length v = true ∧ Reach L k v := by
  have hb : hasB L.length (k : Int) = true := (hasB_iff _ _).2 ⟨by omega, by omega⟩
  have hm : (k : Int) ∈ U := (h.2 _).2 ⟨k, by simp, hb, .refl _⟩
  have hall : ∀ u ∈ U, u ≤ k ∧ hasB L.length u = true ∧ Reach L k u := fun u hu => by
    obtain ⟨r, hr, _, hru⟩ := (h.2 u).1 hu
    rw [List.mem_singleton.1 hr] at hru
    obtain ⟨h1, h2⟩ := hru.le hG hb
    exact ⟨h1, h2, hru⟩
  have hne : U ≠ [] := fun e => by rw [e] at hm; cases hm
  have hU := List.dropLast_concat_getLast hne
  have hlast : U.getLast hne = k := by
    have h1 := (hall _ (List.getLast_mem hne)).1
    rw [← hU] at hm
    rcases List.mem_append.1 hm with hd | hd
    · have h2 := h.1
      rw [← hU, List.pairwise_append] at h2
      have := h2.2.2 _ hd _ (List.mem_singleton.2 rfl)
      omega
    · exact (List.mem_singleton.1 hd).symm
  refine ⟨U.dropLast, by rw [← hlast]; exact hU.symm, fun v hv => ?_⟩
  have h2 := h.1
  rw [← hU, List.pairwise_append] at h2
  have h3 := h2.2.2 v hv _ (List.mem_singleton.2 rfl)
  have h4 := hall v (List.dropLast_subset _ hv)
  exact ⟨by omega, h4.2⟩
theorem uses_sub {L : List Nd} {k u : Int} {U V : List Int} (hk : hasB L.length k = true) (h : UsesSpec L [k] U) (hu : Reach L k u) (hV : UsesSpec L [u] V) : ∀ v ∈ V, v ∈ U := by
  intro v hv
  obtain ⟨r, hr, _, hrv⟩ := (hV.2 v).1 hv
  rw [List.mem_singleton.1 hr] at hrv
  exact (h.2 v).2 ⟨k, by simp, hk, hu.trans hrv⟩
/-- A term is one deeper than the deepest of what it uses. -/
theorem uses_deep {L : List Nd} (hG : Good L) {k : Nat} (hk : k < L.length) {V : List Int} (h : UsesSpec L [(k : Int)] (V ++ [(k : Int)])) (hV : ∀ v ∈ V, v < k ∧ hasB L.length v = true ∧ Reach L k v) : deepI L (k : Int) = dmax L V + 1 := by
  have hb : hasB L.length (k : Int) = true := (hasB_iff _ _).2 ⟨by omega, by omega⟩
  rw [deep_parts hG hk]
  have h1 : dmax L (partsOf L[k]) ≤ dmax L V := by
    refine dmax_le L _ (dmax_ge L V).1 _ fun p hp => (dmax_ge L V).2 p ?_
    have hp' : p ∈ partsOf (ndAt L k) := by rw [ndAt_get hk]; exact hp
    have hpk := (part_lt hG hb hp').2.1
    have hm := (h.2 p).2 ⟨k, by simp, hb, .step hp' (.refl p)⟩
    rcases List.mem_append.1 hm with hm | hm
    · exact hm
    · have := List.mem_singleton.1 hm; omega
  have h2 : dmax L V ≤ dmax L (partsOf L[k]) := by
    refine dmax_le L _ (dmax_ge L _).1 _ fun v hv => ?_
    obtain ⟨h3, h4, h5⟩ := hV v hv
    cases h5 with
    | refl => omega
    | @step _ p _ hp hr =>
      have h6 := (part_lt hG hb hp).2.2
      have h7 := reach_deep hG hr h6
      rw [ndAt_get hk] at hp
      have h8 := (dmax_ge L (partsOf L[k])).2 p hp
      omega
  omega
end Go.Proofs.YtgkjdmojbndicaaGreatDoor

namespace Go.Proofs.YtgkjdmojbndicaaGreatDoor
open Go

theorem deepI_nonneg (L : List Nd) (i : Int) : 0 ≤ deepI L i := by
  unfold deepI
  split
  · exact Int.natCast_nonneg _
  · exact Int.le_refl _
section
variable {L : List Nd} {k : Nat}
theorem deep_k0 (hG : Good L) (hk : k < L.length) (h3 : L[k].k ≠ 3) (h4 : L[k].k ≠ 4) : deepI L (k : Int) = 1 := by
  rw [deep_parts hG hk]
  unfold partsOf
  rw [if_neg h3, if_neg h4]; rfl
theorem deep_k3 (hG : Good L) (hk : k < L.length) (h3 : L[k].k = 3) : deepI L (k : Int) = 1 + deepI L L[k].y := by
  rw [deep_parts hG hk]
  unfold partsOf
  rw [if_pos h3]
  have := deepI_nonneg L L[k].y
  show max 0 (deepI L L[k].y) + 1 = _
  omega
theorem deep_k4 (hG : Good L) (hk : k < L.length) (h4 : L[k].k = 4) : deepI L (k : Int) = 1 + max (deepI L L[k].x) (deepI L L[k].y) := by
  rw [deep_parts hG hk]
  unfold partsOf
  rw [if_neg (by rw [h4]; decide), if_pos h4]
  have := deepI_nonneg L L[k].x
  show max (max 0 (deepI L L[k].x)) (deepI L L[k].y) + 1 = _
  omega
theorem textOf_k1 (hG : Good L) (hk : k < L.length) (h : L[k].k = 1) : textOf L (k : Int) = Lib.itoa L[k].n := by
  rw [textOf_eq L hG k hk]
  simp [text1, mark0, h]
theorem textOf_k2 (hG : Good L) (hk : k < L.length) (h : L[k].k = 2) : textOf L (k : Int) = [115] ++ Lib.itoa L[k].n := by
  rw [textOf_eq L hG k hk]
  simp [text1, mark0, h]
theorem textOf_k3 (hG : Good L) (hk : k < L.length) (h : L[k].k = 3) : textOf L (k : Int) = (((([97] ++ Lib.itoa L[k].a) ++ [118]) ++ Lib.itoa L[k].n) ++ [91]) ++ textOf L L[k].y ++ [93] := by
  rw [textOf_eq L hG k hk]
  simp [text1, mark0, mark1, h, textOf]
theorem textOf_k4 (hG : Good L) (hk : k < L.length) (h : L[k].k = 4) : textOf L (k : Int) = (((([40] ++ textOf L L[k].x) ++ [32]) ++ signOf L[k].o) ++ [32]) ++ textOf L L[k].y ++ [41] := by
  rw [textOf_eq L hG k hk]
  simp [text1, mark0, mark1, mark2, h, textOf]
theorem reach_one {r i : Int} (h : Reach L r i) (hne : r ≠ i) : ∃ p ∈ partsOf (ndAt L r), Reach L p i := by
  cases h with
  | refl => exact absurd rfl hne
  | step hp hr => exact ⟨_, hp, hr⟩
theorem reach_k0 (hk : k < L.length) (h3 : L[k].k ≠ 3) (h4 : L[k].k ≠ 4) {i : Int} (hne : (k : Int) ≠ i) : ¬ Reach L (k : Int) i := fun h => by
  obtain ⟨p, hp, _⟩ := reach_one h hne
  rw [ndAt_get hk] at hp
  unfold partsOf at hp
  rw [if_neg h3, if_neg h4] at hp
  cases hp
theorem reach_k3 (hk : k < L.length) (h3 : L[k].k = 3) {i : Int} (hne : (k : Int) ≠ i) : Reach L (k : Int) i ↔ Reach L L[k].y i := by
  constructor
  · intro h
    obtain ⟨p, hp, hr⟩ := reach_one h hne
    rw [ndAt_get hk] at hp
    unfold partsOf at hp
    rw [if_pos h3] at hp
    rw [List.mem_singleton.1 hp] at hr
    exact hr
  · intro h
    refine .step ?_ h
    rw [ndAt_get hk]
    unfold partsOf
    rw [if_pos h3]; simp
theorem reach_k4 (hk : k < L.length) (h4 : L[k].k = 4) {i : Int} (hne : (k : Int) ≠ i) : Reach L (k : Int) i ↔ Reach L L[k].y i ∨ Reach L L[k].x i := by
  have hp4 : partsOf L[k] = [L[k].x, L[k].y] := by
    unfold partsOf
    rw [if_neg (by rw [h4]; decide), if_pos h4]
  constructor
  · intro h
    obtain ⟨p, hp, hr⟩ := reach_one h hne
    rw [ndAt_get hk, hp4] at hp
    rcases List.mem_cons.1 hp with e | e
    · exact Or.inr (e ▸ hr)
    · rw [List.mem_singleton.1 e] at hr; exact Or.inl hr
  · rintro (h | h)
    · refine .step ?_ h
      rw [ndAt_get hk, hp4]; simp
    · refine .step ?_ h
      rw [ndAt_get hk, hp4]; simp
end
/-- How long a text is, as the reference counts. -/
def longR (L : List Nd) (i : Int) : Int := min 100000 ((textOf L i).length : Int)
theorem longR_nat (L : List Nd) (i : Int) : 0 ≤ longR L i ∧ longR L i ≤ 100000 := by unfold longR; omega
/-- Is one of the roots a term that uses i? -/
def Used (L : List Nd) (roots : List Int) (i : Int) : Prop := ∃ r ∈ roots, hasB L.length r = true ∧ Reach L r i
theorem uses_filter {L : List Nd} (hG : Good L) {roots U : List Int} (h : UsesSpec L roots U) {V : List Int} (hV : V.Pairwise (· < ·)) (hm : ∀ i, i ∈ V ↔ (0 ≤ i ∧ i < L.length) ∧ Used L roots i) : U = V := by
  refine rising_eq h.1 hV fun i => (h.2 i).trans ⟨fun hu => (hm i).2 ⟨?_, hu⟩, fun hu => ((hm i).1 hu).2⟩
  obtain ⟨r, _, hb, hr⟩ := hu
  exact (hasB_iff _ _).1 (hr.le hG hb).2
end Go.Proofs.YtgkjdmojbndicaaGreatDoor

namespace Go.Proofs.YtgkjdmojbndicaaGreatDoor
open Go

/-- A cell of an environment: its array, version, place, number. -/
structure Cl where
  a : Int
  v : Int
  t : Int
  n : Int
def Cl.Ok (c : Cl) : Prop := InR c.a ∧ InR c.v ∧ InR c.t ∧ InR c.n
def Cl.is (c : Cl) (a v t : Int) : Bool := decide (c.a = a) && decide (c.v = v) && decide (c.t = t)
theorem Cl.is_iff (c : Cl) (a v t : Int) : c.is a v t = true ↔ c.a = a ∧ c.v = v ∧ c.t = t := by unfold Cl.is; simp [and_assoc]
def symI (S : List Int) (k : Int) : Int := if decide (0 ≤ k) && decide (k < S.length) then S.getD k.toNat 0 else 0
def hasC (C : List Cl) (a v t : Int) : Bool := C.any fun c => c.is a v t
def cellI : List Cl → Int → Int → Int → Int
  | [], _, _, _ => 0
  | c :: C, a, v, t => if c.is a v t then c.n else cellI C a v t
theorem cellI_append (C E : List Cl) (a v t : Int) : cellI (C ++ E) a v t = if hasC C a v t then cellI C a v t else cellI E a v t := by
  induction C with
  | nil => rfl
  | cons c C ih =>
    unfold hasC at ih ⊢
    show (if c.is a v t then c.n else cellI (C ++ E) a v t) = _
    rw [List.any_cons]
    cases h : c.is a v t with
    | true => simp [cellI, h]
    | false => simp [cellI, h, ih]
theorem cellI_none {C : List Cl} {a v t : Int} (h : hasC C a v t = false) : cellI C a v t = 0 := by
  induction C with
  | nil => rfl
  | cons c C ih =>
    unfold hasC at ih h
    rw [List.any_cons, Bool.or_eq_false_iff] at h
    show (if c.is a v t then c.n else cellI C a v t) = 0
    rw [h.1]
    exact ih h.2
theorem hasC_append (C E : List Cl) (a v t : Int) : hasC (C ++ E) a v t = (hasC C a v t || hasC E a v t) := by simp [hasC]
theorem cellI_in {C : List Cl} (h : ∀ c ∈ C, c.Ok) (a v t : Int) : InR (cellI C a v t) := by
  induction C with
  | nil => exact (show InR 0 from ⟨by decide, by decide⟩)
  | cons c C ih =>
    show InR (if c.is a v t then c.n else cellI C a v t)
    split
    · exact (h c (by simp)).2.2.2
    · exact ih fun e he => h e (by simp [he])
theorem symI_in {S : List Int} (h : ∀ x ∈ S, InR x) (k : Int) : InR (symI S k) := by
  unfold symI
  split
  · rename_i hb
    simp at hb
    rw [List.getD_eq_getElem?_getD, List.getElem?_eq_getElem (by omega)]
    exact h _ (List.getElem_mem _)
  · exact ⟨by decide, by decide⟩
theorem symI_some {S : List Int} {j : Nat} {x : Int} (h : S[j]? = some x) : symI S (j : Int) = x := by
  have := (List.getElem?_eq_some_iff.1 h).1
  unfold symI
  rw [if_pos (by simp; omega), Int.toNat_natCast, List.getD_eq_getElem?_getD, h]; rfl
theorem symI_none {S : List Int} {k : Int} (h : k < 0 ∨ (S.length : Int) ≤ k) : symI S k = 0 := by
  unfold symI
  rw [if_neg (by simp; omega)]

def vAt (V : List Int) (i : Int) : Int := V.getD i.toNat 0
/-- A node's value, out of its parts' values. -/
def val1 (S : List Int) (C : List Cl) (V : List Int) (d : Nd) : Int :=
  if d.k = 1 then d.n else if d.k = 2 then symI S d.n else if d.k = 3 then cellI C d.a d.n (vAt V d.y) else opI d.o (vAt V d.x) (vAt V d.y)
def vals (S : List Int) (C : List Cl) (L : List Nd) : List Int := L.foldl (fun V d => V ++ [val1 S C V d]) []
def valI (S : List Int) (C : List Cl) (L : List Nd) (i : Int) : Int := vAt (vals S C L) i
section
variable {S : List Int} {C : List Cl}
theorem vals_snoc (L : List Nd) (d : Nd) : vals S C (L ++ [d]) = vals S C L ++ [val1 S C (vals S C L) d] := by simp [vals]
theorem vals_length (L : List Nd) : (vals S C L).length = L.length := by
  refine snocInd (p := fun L => (vals S C L).length = L.length) rfl (fun L d ih => ?_) L
  show (vals S C (L ++ [d])).length = (L ++ [d]).length
  rw [vals_snoc]; simp [ih]
theorem vAt_append {V : List Int} {x : Int} {i : Int} (h0 : 0 ≤ i) (h : i < V.length) : vAt (V ++ [x]) i = vAt V i := by
  unfold vAt
  rw [List.getD_eq_getElem?_getD, List.getD_eq_getElem?_getD, List.getElem?_append_left (by omega)]
theorem val1_append {V : List Int} {x : Int} {d : Nd} {s : Nat} (hm : mayB s d = true) (hs : s ≤ V.length) : val1 S C (V ++ [x]) d = val1 S C V d := by
  have hp := may_parts hm
  have hk := may_kind hm
  unfold partsOf at hp
  unfold val1
  rcases hk with h | h | h | h
  · rw [if_pos h, if_pos h]
  · rw [if_neg (by omega), if_pos h, if_neg (by omega), if_pos h]
  · rw [if_pos h] at hp
    have := hp d.y (by simp)
    rw [if_neg (by omega), if_neg (by omega), if_pos h, if_neg (by omega), if_neg (by omega), if_pos h, vAt_append this.1 (by omega)]
  · rw [if_neg (by omega), if_pos h] at hp
    have h1 := hp d.x (by simp)
    have h2 := hp d.y (by simp)
    rw [if_neg (by omega), if_neg (by omega), if_neg (by omega), if_neg (by omega), if_neg (by omega), if_neg (by omega), vAt_append h1.1 (by omega), vAt_append h2.1 (by omega)]
theorem vals_at : ∀ (L : List Nd), Good L → ∀ k (h : k < L.length), valI S C L (k : Int) = val1 S C (vals S C L) L[k] := by
  refine fun L => snocInd (p := fun L => Good L → ∀ k (h : k < L.length), valI S C L (k : Int) = val1 S C (vals S C L) L[k]) (fun _ k h => absurd h (Nat.not_lt_zero _)) (fun L d ih hG k h => ?_) L
  obtain ⟨hG', hm, _⟩ := hG.init
  unfold valI
  rw [vals_snoc]
  by_cases hk : k < L.length
  · rw [vAt_append (by omega) (by rw [vals_length]; omega), List.getElem_append_left hk]
    rw [val1_append (hG'.may k hk) (by rw [vals_length]; omega)]
    exact ih hG' k hk
  · have hkl : k = L.length := by
      rw [List.length_append, List.length_singleton] at h; omega
    subst hkl
    have e1 : (L ++ [d])[L.length] = d := by simp
    rw [e1, val1_append hm (by rw [vals_length]; omega)]
    unfold vAt
    rw [Int.toNat_natCast, List.getD_eq_getElem?_getD, List.getElem?_append_right (by rw [vals_length]; omega), vals_length]
    simp
theorem vals_in (hS : ∀ x ∈ S, InR x) (hC : ∀ c ∈ C, c.Ok) : ∀ L : List Nd, (∀ d ∈ L, d.Ok) → ∀ x ∈ vals S C L, InR x := by
  refine snocInd (fun _ => by simp [vals]) fun L d ih h x hx => ?_
  rw [vals_snoc] at hx
  rcases List.mem_append.1 hx with hx | hx
  · exact ih (fun e he => h e (by simp [he])) x hx
  · rw [List.mem_singleton.1 hx]
    unfold val1
    split
    · exact (h d (by simp)).2.1
    · split
      · exact symI_in hS _
      · split
        · exact cellI_in hC _ _ _
        · exact opI_in _ _ _
theorem valI_in (hS : ∀ x ∈ S, InR x) (hC : ∀ c ∈ C, c.Ok) {L : List Nd} (hG : Good L) (i : Int) : InR (valI S C L i) := by
  unfold valI vAt
  rw [List.getD_eq_getElem?_getD]
  cases h : (vals S C L)[i.toNat]? with
  | none => exact ⟨by decide, by decide⟩
  | some x => exact vals_in hS hC L hG.ok x (List.mem_of_getElem? h)
theorem valI_1 {L : List Nd} (hG : Good L) {k : Nat} (hk : k < L.length) (h : L[k].k = 1) : valI S C L (k : Int) = L[k].n := by
  rw [vals_at L hG k hk]; unfold val1; rw [if_pos h]
theorem valI_2 {L : List Nd} (hG : Good L) {k : Nat} (hk : k < L.length) (h : L[k].k = 2) : valI S C L (k : Int) = symI S L[k].n := by
  rw [vals_at L hG k hk]; unfold val1; rw [if_neg (by omega), if_pos h]
theorem valI_3 {L : List Nd} (hG : Good L) {k : Nat} (hk : k < L.length) (h : L[k].k = 3) : valI S C L (k : Int) = cellI C L[k].a L[k].n (valI S C L L[k].y) := by
  rw [vals_at L hG k hk]; unfold val1; rw [if_neg (by omega), if_neg (by omega), if_pos h]; rfl
theorem valI_4 {L : List Nd} (hG : Good L) {k : Nat} (hk : k < L.length) (h : L[k].k = 4) : valI S C L (k : Int) = opI L[k].o (valI S C L L[k].x) (valI S C L L[k].y) := by
  rw [vals_at L hG k hk]; unfold val1; rw [if_neg (by omega), if_neg (by omega), if_neg (by omega)]; rfl
end
/-- A value hangs on what the environment tells of the symbols and cells that are used, on nothing else. -/
theorem valI_same {S S' : List Int} {C C' : List Cl} {L : List Nd} (hG : Good L) (n : Nat) : ∀ r : Int, r < n → hasB L.length r = true →
    (∀ i, Reach L r i → hasB L.length i = true → (ndAt L i).k = 2 → symI S (ndAt L i).n = symI S' (ndAt L i).n) →
    (∀ i, Reach L r i → hasB L.length i = true → (ndAt L i).k = 3 → ∀ t, cellI C (ndAt L i).a (ndAt L i).n t = cellI C' (ndAt L i).a (ndAt L i).n t) →
    valI S C L r = valI S' C' L r := by
  induction n with
  | zero => intro r hr hb; have := ((hasB_iff _ _).1 hb).1; omega
  | succ n ih =>
    intro r hr hb hs hc
    obtain ⟨h0, h1⟩ := (hasB_iff _ _).1 hb
    obtain ⟨k, rfl⟩ : ∃ k : Nat, r = k := ⟨r.toNat, by omega⟩
    have hk : k < L.length := by omega
    have hnd := ndAt_get hk
    have part : ∀ p ∈ partsOf (ndAt L (k : Int)), valI S C L p = valI S' C' L p := fun p hp => by
      obtain ⟨p0, p1, p2⟩ := part_lt hG hb hp
      exact ih p (by omega) p2 (fun i hi => hs i (.step hp hi)) (fun i hi => hc i (.step hp hi))
    have hs0 := hs k (.refl _) hb
    have hc0 := hc k (.refl _) hb
    rw [hnd] at part hs0 hc0
    unfold partsOf at part
    rcases may_kind (hG.may k hk) with h | h | h | h
    · rw [valI_1 hG hk h, valI_1 hG hk h]
    · rw [valI_2 hG hk h, valI_2 hG hk h, hs0 h]
    · rw [if_pos h] at part
      rw [valI_3 hG hk h, valI_3 hG hk h, part _ (by simp), hc0 h]
    · rw [if_neg (by omega), if_pos h] at part
      rw [valI_4 hG hk h, valI_4 hG hk h, part _ (by simp), part _ (by simp)]

/-- What the terms U need. -/
def symsOf (L : List Nd) (U : List Int) : List Int := (U.filter fun i => decide ((ndAt L i).k = 2)).map fun i => (ndAt L i).n
def cellsOf (L : List Nd) (U : List Int) : List Int := U.filter fun i => decide ((ndAt L i).k = 3)
theorem symsOf_snoc (L : List Nd) (U : List Int) (i : Int) : symsOf L (U ++ [i]) = if (ndAt L i).k = 2 then symsOf L U ++ [(ndAt L i).n] else symsOf L U := by
  unfold symsOf
  rw [List.filter_append, List.filter_cons]
  split <;> rename_i h <;> simp_all
theorem cellsOf_snoc (L : List Nd) (U : List Int) (i : Int) : cellsOf L (U ++ [i]) = if (ndAt L i).k = 3 then cellsOf L U ++ [i] else cellsOf L U := by
  unfold cellsOf
  rw [List.filter_append, List.filter_cons]
  split <;> rename_i h <;> simp_all
theorem mem_symsOf {L : List Nd} {U : List Int} {s : Int} : s ∈ symsOf L U ↔ ∃ i ∈ U, (ndAt L i).k = 2 ∧ (ndAt L i).n = s := by
  simp [symsOf, and_assoc]
theorem mem_cellsOf {L : List Nd} {U : List Int} {i : Int} : i ∈ cellsOf L U ↔ i ∈ U ∧ (ndAt L i).k = 3 := by simp [cellsOf]
theorem symsOf_len (L : List Nd) (U : List Int) : (symsOf L U).length ≤ U.length := by
  unfold symsOf; rw [List.length_map]; exact List.length_filter_le _ _
theorem cellsOf_len (L : List Nd) (U : List Int) : (cellsOf L U).length ≤ U.length := by
  unfold cellsOf; exact List.length_filter_le _ _
end Go.Proofs.YtgkjdmojbndicaaGreatDoor
