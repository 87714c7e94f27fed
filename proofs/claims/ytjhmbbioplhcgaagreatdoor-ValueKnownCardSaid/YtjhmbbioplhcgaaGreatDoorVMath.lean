/-
  Layer 3, plain: what an environment tells; values of terms; what terms need.
-/
import Derived.Test.YtjhmbbioplhcgaaGreatDoorMath
import Derived.Test.YtjhmbbioplhcgaaGreatDoorTTellM
namespace Go.Proofs.YtjhmbbioplhcgaaGreatDoor
open Go

/-- A cell of an environment: its array, version, place, number. -/
structure Cl where
  a : Int
  v : Int
  t : Int
  n : Int
def Cl.Ok (c : Cl) : Prop := InR c.a ∧ InR c.v ∧ InR c.t ∧ InR c.n
def Cl.is (c : Cl) (a v t : Int) : Bool := decide (c.a = a) && decide (c.v = v) && decide (c.t = t)
theorem Cl.is_iff (c : Cl) (a v t : Int) : c.is a v t = true ↔ c.a = a ∧ c.v = v ∧ c.t = t := by unfold Cl.is; simp [and_assoc]
def symI (S : List Int) (k : Int) : Int := if decide (0 ≤ k) && decide (k < S.length) then S.getD k.toNat 0 else 0
def hasC (C : List Cl) (a v t : Int) : Bool := C.any fun c => c.is a v t
def cellI : List Cl → Int → Int → Int → Int
  | [], _, _, _ => 0
  | c :: C, a, v, t => if c.is a v t then c.n else cellI C a v t
theorem cellI_append (C E : List Cl) (a v t : Int) : cellI (C ++ E) a v t = if hasC C a v t then cellI C a v t else cellI E a v t := by
  induction C with
  | nil => rfl
  | cons c C ih =>
    unfold hasC at ih ⊢
    show (if c.is a v t then c.n else cellI (C ++ E) a v t) = _
    rw [List.any_cons]
    cases h : c.is a v t with
    | true => simp [cellI, h]
    | false => simp [cellI, h, ih]
theorem cellI_none {C : List Cl} {a v t : Int} (h : hasC C a v t = false) : cellI C a v t = 0 := by
  induction C with
  | nil => rfl
  | cons c C ih =>
    unfold hasC at ih h
    rw [List.any_cons, Bool.or_eq_false_iff] at h
    show (if c.is a v t then c.n else cellI C a v t) = 0
    rw [h.1]
    exact ih h.2
theorem hasC_append (C E : List Cl) (a v t : Int) : hasC (C ++ E) a v t = (hasC C a v t || hasC E a v t) := by simp [hasC]
theorem cellI_in {C : List Cl} (h : ∀ c ∈ C, c.Ok) (a v t : Int) : InR (cellI C a v t) := by
  induction C with
  | nil => exact (show InR 0 from ⟨by decide, by decide⟩)
  | cons c C ih =>
    show InR (if c.is a v t then c.n else cellI C a v t)
    split
    · exact (h c (by simp)).2.2.2
    · exact ih fun e he => h e (by simp [he])
theorem symI_in {S : List Int} (h : ∀ x ∈ S, InR x) (k : Int) : InR (symI S k) := by
  unfold symI
  split
  · rename_i hb
    simp at hb
    rw [List.getD_eq_getElem?_getD, List.getElem?_eq_getElem (by omega)]
    exact h _ (List.getElem_mem _)
  · exact ⟨by decide, by decide⟩
theorem symI_some {S : List Int} {j : Nat} {x : Int} (h : S[j]? = some x) : symI S (j : Int) = x := by
  have := (List.getElem?_eq_some_iff.1 h).1
  unfold symI
  rw [if_pos (by simp; omega), Int.toNat_natCast, List.getD_eq_getElem?_getD, h]; rfl
theorem symI_none {S : List Int} {k : Int} (h : k < 0 ∨ (S.length : Int) ≤ k) : symI S k = 0 := by
  unfold symI
  rw [if_neg (by simp; omega)]

def vAt (V : List Int) (i : Int) : Int := V.getD i.toNat 0
/-- A node's value, out of its parts' values. -/
def val1 (S : List Int) (C : List Cl) (V : List Int) (d : Nd) : Int :=
  if d.k = 1 then d.n else if d.k = 2 then symI S d.n else if d.k = 3 then cellI C d.a d.n (vAt V d.y) else opI d.o (vAt V d.x) (vAt V d.y)
def vals (S : List Int) (C : List Cl) (L : List Nd) : List Int := L.foldl (fun V d => V ++ [val1 S C V d]) []
def valI (S : List Int) (C : List Cl) (L : List Nd) (i : Int) : Int := vAt (vals S C L) i
section
variable {S : List Int} {C : List Cl}
theorem vals_snoc (L : List Nd) (d : Nd) : vals S C (L ++ [d]) = vals S C L ++ [val1 S C (vals S C L) d] := by simp [vals]
theorem vals_length (L : List Nd) : (vals S C L).length = L.length := by
  refine snocInd (p := fun L => (vals S C L).length = L.length) rfl (fun L d ih => ?_) L
  show (vals S C (L ++ [d])).length = (L ++ [d]).length
  rw [vals_snoc]; simp [ih]
theorem vAt_append {V : List Int} {x : Int} {i : Int} (h0 : 0 ≤ i) (h : i < V.length) : vAt (V ++ [x]) i = vAt V i := by
  unfold vAt
  rw [List.getD_eq_getElem?_getD, List.getD_eq_getElem?_getD, List.getElem?_append_left (by omega)]
theorem val1_append {V : List Int} {x : Int} {d : Nd} {s : Nat} (hm : mayB s d = true) (hs : s ≤ V.length) : val1 S C (V ++ [x]) d = val1 S C V d := by
  have hp := may_parts hm
  have hk := may_kind hm
  unfold partsOf at hp
  unfold val1
  rcases hk with h | h | h | h
  · rw [if_pos h, if_pos h]
  · rw [if_neg (by omega), if_pos h, if_neg (by omega), if_pos h]
  · rw [if_pos h] at hp
    have := hp d.y (by simp)
    rw [if_neg (by omega), if_neg (by omega), if_pos h, if_neg (by omega), if_neg (by omega), if_pos h, vAt_append this.1 (by omega)]
  · rw [if_neg (by omega), if_pos h] at hp
    have h1 := hp d.x (by simp)
    have h2 := hp d.y (by simp)
    rw [if_neg (by omega), if_neg (by omega), if_neg (by omega), if_neg (by omega), if_neg (by omega), if_neg (by omega), vAt_append h1.1 (by omega), vAt_append h2.1 (by omega)]
theorem vals_at : ∀ (L : List Nd), Good L → ∀ k (h : k < L.length), valI S C L (k : Int) = val1 S C (vals S C L) L[k] := by
  refine fun L => snocInd (p := fun L => Good L → ∀ k (h : k < L.length), valI S C L (k : Int) = val1 S C (vals S C L) L[k]) (fun _ k h => absurd h (Nat.not_lt_zero _)) (fun L d ih hG k h => ?_) L
  obtain ⟨hG', hm, _⟩ := hG.init
  unfold valI
  rw [vals_snoc]
  by_cases hk : k < L.length
  · rw [vAt_append (by omega) (by rw [vals_length]; omega), List.getElem_append_left hk]
    rw [val1_append (hG'.may k hk) (by rw [vals_length]; omega)]
    exact ih hG' k hk
  · have hkl : k = L.length := by
      rw [List.length_append, List.length_singleton] at h; omega
    subst hkl
    have e1 : (L ++ [d])[L.length] = d := by simp
    rw [e1, val1_append hm (by rw [vals_length]; omega)]
    unfold vAt
    rw [Int.toNat_natCast, List.getD_eq_getElem?_getD, List.getElem?_append_right (by rw [vals_length]; omega), vals_length]
    simp
theorem vals_in (hS : ∀ x ∈ S, InR x) (hC : ∀ c ∈ C, c.Ok) : ∀ L : List Nd, (∀ d ∈ L, d.Ok) → ∀ x ∈ vals S C L, InR x := by
  refine snocInd (fun _ => by simp [vals]) fun L d ih h x hx => ?_
  rw [vals_snoc] at hx
  rcases List.mem_append.1 hx with hx | hx
  · exact ih (fun e he => h e (by simp [he])) x hx
  · rw [List.mem_singleton.1 hx]
    unfold val1
    split
    · exact (h d (by simp)).2.1
    · split
      · exact symI_in hS _
      · split
        · exact cellI_in hC _ _ _
        · exact opI_in _ _ _
theorem valI_in (hS : ∀ x ∈ S, InR x) (hC : ∀ c ∈ C, c.Ok) {L : List Nd} (hG : Good L) (i : Int) : InR (valI S C L i) := by
  unfold valI vAt
  rw [List.getD_eq_getElem?_getD]
  cases h : (vals S C L)[i.toNat]? with
  | none => exact ⟨by decide, by decide⟩
  | some x => exact vals_in hS hC L hG.ok x (List.mem_of_getElem? h)
theorem valI_1 {L : List Nd} (hG : Good L) {k : Nat} (hk : k < L.length) (h : L[k].k = 1) : valI S C L (k : Int) = L[k].n := by
  rw [vals_at L hG k hk]; unfold val1; rw [if_pos h]
theorem valI_2 {L : List Nd} (hG : Good L) {k : Nat} (hk : k < L.length) (h : L[k].k = 2) : valI S C L (k : Int) = symI S L[k].n := by
  rw [vals_at L hG k hk]; unfold val1; rw [if_neg (by omega), if_pos h]
theorem valI_3 {L : List Nd} (hG : Good L) {k : Nat} (hk : k < L.length) (h : L[k].k = 3) : valI S C L (k : Int) = cellI C L[k].a L[k].n (valI S C L L[k].y) := by
  rw [vals_at L hG k hk]; unfold val1; rw [if_neg (by omega), if_neg (by omega), if_pos h]; rfl
theorem valI_4 {L : List Nd} (hG : Good L) {k : Nat} (hk : k < L.length) (h : L[k].k = 4) : valI S C L (k : Int) = opI L[k].o (valI S C L L[k].x) (valI S C L L[k].y) := by
  rw [vals_at L hG k hk]; unfold val1; rw [if_neg (by omega), if_neg (by omega), if_neg (by omega)]; rfl
end
/-- A value hangs on what the environment tells of the symbols and cells that are used, on nothing else. -/
theorem valI_same {S S' : List Int} {C C' : List Cl} {L : List Nd} (hG : Good L) (n : Nat) : ∀ r : Int, r < n → hasB L.length r = true →
    (∀ i, Reach L r i → hasB L.length i = true → (ndAt L i).k = 2 → symI S (ndAt L i).n = symI S' (ndAt L i).n) →
    (∀ i, Reach L r i → hasB L.length i = true → (ndAt L i).k = 3 → ∀ t, cellI C (ndAt L i).a (ndAt L i).n t = cellI C' (ndAt L i).a (ndAt L i).n t) →
    valI S C L r = valI S' C' L r := by
  induction n with
  | zero => intro r hr hb; have := ((hasB_iff _ _).1 hb).1; omega
  | succ n ih =>
    intro r hr hb hs hc
    obtain ⟨h0, h1⟩ := (hasB_iff _ _).1 hb
    obtain ⟨k, rfl⟩ : ∃ k : Nat, r = k := ⟨r.toNat, by omega⟩
    have hk : k < L.length := by omega
    have hnd := ndAt_get hk
    have part : ∀ p ∈ partsOf (ndAt L (k : Int)), valI S C L p = valI S' C' L p := fun p hp => by
      obtain ⟨p0, p1, p2⟩ := part_lt hG hb hp
      exact ih p (by omega) p2 (fun i hi => hs i (.step hp hi)) (fun i hi => hc i (.step hp hi))
    have hs0 := hs k (.refl _) hb
    have hc0 := hc k (.refl _) hb
    rw [hnd] at part hs0 hc0
    unfold partsOf at part
    rcases may_kind (hG.may k hk) with h | h | h | h
    · rw [valI_1 hG hk h, valI_1 hG hk h]
    · rw [valI_2 hG hk h, valI_2 hG hk h, hs0 h]
    · rw [if_pos h] at part
      rw [valI_3 hG hk h, valI_3 hG hk h, part _ (by simp), hc0 h]
    · rw [if_neg (by omega), if_pos h] at part
      rw [valI_4 hG hk h, valI_4 hG hk h, part _ (by simp), part _ (by simp)]

/-- What the terms U need. -/
def symsOf (L : List Nd) (U : List Int) : List Int := (U.filter fun i => decide ((ndAt L i).k = 2)).map fun i => (ndAt L i).n
def cellsOf (L : List Nd) (U : List Int) : List Int := U.filter fun i => decide ((ndAt L i).k = 3)
theorem symsOf_snoc (L : List Nd) (U : List Int) (i : Int) : symsOf L (U ++ [i]) = if (ndAt L i).k = 2 then symsOf L U ++ [(ndAt L i).n] else symsOf L U := by
  unfold symsOf
  rw [List.filter_append, List.filter_cons]
  split <;> rename_i h <;> simp_all
theorem cellsOf_snoc (L : List Nd) (U : List Int) (i : Int) : cellsOf L (U ++ [i]) = if (ndAt L i).k = 3 then cellsOf L U ++ [i] else cellsOf L U := by
  unfold cellsOf
  rw [List.filter_append, List.filter_cons]
  split <;> rename_i h <;> simp_all
theorem mem_symsOf {L : List Nd} {U : List Int} {s : Int} : s ∈ symsOf L U ↔ ∃ i ∈ U, (ndAt L i).k = 2 ∧ (ndAt L i).n = s := by
  simp [symsOf, and_assoc]
theorem mem_cellsOf {L : List Nd} {U : List Int} {i : Int} : i ∈ cellsOf L U ↔ i ∈ U ∧ (ndAt L i).k = 3 := by simp [cellsOf]
theorem symsOf_len (L : List Nd) (U : List Int) : (symsOf L U).length ≤ U.length := by
  unfold symsOf; rw [List.length_map]; exact List.length_filter_le _ _
theorem cellsOf_len (L : List Nd) (U : List Int) : (cellsOf L U).length ≤ U.length := by
  unfold cellsOf; exact List.length_filter_le _ _
end Go.Proofs.YtjhmbbioplhcgaaGreatDoor
