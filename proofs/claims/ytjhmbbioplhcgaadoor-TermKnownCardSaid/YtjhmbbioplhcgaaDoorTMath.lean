/-
  Layer 2, plain: nodes, which node may be, graphs as lists of nodes, what is told of their terms (how deep, how long, the text). Nothing of the program.
-/
import Derived.Lib.ItoaNum
import Derived.Lib.ItoaLen
import Derived.Test.YtjhmbbioplhcgaaDoorRange
namespace Go.Proofs.YtjhmbbioplhcgaaDoor
open Go

def InB (n : Int) : Prop := 0 ≤ n ∧ n ≤ 255

/-- A node: its kind, number, array, operation, parts. -/
structure Nd where
  k : Int
  n : Int
  a : Int
  o : Int
  x : Int
  y : Int

theorem Nd.ext' {d e : Nd} (h1 : d.k = e.k) (h2 : d.n = e.n) (h3 : d.a = e.a) (h4 : d.o = e.o) (h5 : d.x = e.x) (h6 : d.y = e.y) : d = e := by
  cases d; cases e; simp at h1 h2 h3 h4 h5 h6; subst h1; subst h2; subst h3; subst h4; subst h5; subst h6; rfl

def Nd.Ok (d : Nd) : Prop := InB d.k ∧ InR d.n ∧ InR d.a ∧ InB d.o ∧ InR d.x ∧ InR d.y

def Nd.eqb (d e : Nd) : Bool := decide (d.k = e.k) && decide (d.n = e.n) && decide (d.a = e.a) && decide (d.o = e.o) && decide (d.x = e.x) && decide (d.y = e.y)
theorem Nd.eqb_iff (d e : Nd) : d.eqb e = true ↔ d = e := by
  unfold Nd.eqb
  simp only [Bool.and_eq_true, decide_eq_true_eq]
  constructor
  · rintro ⟨⟨⟨⟨⟨h1, h2⟩, h3⟩, h4⟩, h5⟩, h6⟩; exact Nd.ext' h1 h2 h3 h4 h5 h6
  · rintro rfl; exact ⟨⟨⟨⟨⟨rfl, rfl⟩, rfl⟩, rfl⟩, rfl⟩, rfl⟩
theorem Nd.eqb_self (d : Nd) : d.eqb d = true := (Nd.eqb_iff d d).2 rfl

/-- Is a number one of a term, of so many? -/
def hasB (s : Nat) (i : Int) : Bool := decide (0 ≤ i) && decide (i < s)
theorem hasB_iff (s : Nat) (i : Int) : hasB s i = true ↔ 0 ≤ i ∧ i < s := by unfold hasB; simp

/-- May a node be, in a graph of s terms? -/
def mayB (s : Nat) (d : Nd) : Bool :=
  if d.k = 1 then decide (d.a = 0) && decide (d.o = 0) && decide (d.x = 0) && decide (d.y = 0)
  else if d.k = 2 then decide (d.a = 0) && decide (d.o = 0) && decide (d.x = 0) && decide (d.y = 0) && decide (0 ≤ d.n)
  else if d.k = 3 then decide (d.o = 0) && decide (d.x = 0) && decide (0 ≤ d.n) && decide (0 ≤ d.a) && hasB s d.y
  else if d.k = 4 then decide (d.n = 0) && decide (d.a = 0) && decide (1 ≤ d.o) && decide (d.o ≤ 16) && hasB s d.x && hasB s d.y
  else false

/-- The terms that a node has. -/
def partsOf (d : Nd) : List Int := if d.k = 3 then [d.y] else if d.k = 4 then [d.x, d.y] else []

theorem may_kind {s : Nat} {d : Nd} (h : mayB s d = true) : d.k = 1 ∨ d.k = 2 ∨ d.k = 3 ∨ d.k = 4 := by
  unfold mayB at h
  by_cases h1 : d.k = 1
  · exact Or.inl h1
  · by_cases h2 : d.k = 2
    · exact Or.inr (Or.inl h2)
    · by_cases h3 : d.k = 3
      · exact Or.inr (Or.inr (Or.inl h3))
      · by_cases h4 : d.k = 4
        · exact Or.inr (Or.inr (Or.inr h4))
        · simp [h1, h2, h3, h4] at h

theorem may_parts {s : Nat} {d : Nd} (h : mayB s d = true) : ∀ p ∈ partsOf d, 0 ≤ p ∧ p < s := by
  intro p hp
  unfold partsOf at hp
  rcases may_kind h with hk | hk | hk | hk
  · simp [hk] at hp
  · simp [hk] at hp
  · simp [hk] at hp
    subst hp
    simp [mayB, hk, hasB] at h
    exact h.2
  · simp [hk] at hp
    simp [mayB, hk, hasB] at h
    rcases hp with rfl | rfl
    · exact h.1.2
    · exact h.2

theorem may_op {s : Nat} {d : Nd} (h : mayB s d = true) (hk : d.k = 4) : 1 ≤ d.o ∧ d.o ≤ 16 := by
  simp [mayB, hk] at h
  omega

theorem may_mono {s t : Nat} {d : Nd} (hst : s ≤ t) (h : mayB s d = true) : mayB t d = true := by
  rcases may_kind h with hk | hk | hk | hk <;> simp [mayB, hk, hasB] at h ⊢ <;> omega

/-- The signs of the operations. -/
def signOf (o : Int) : List UInt8 :=
  match o.toNat with
  | 1 => [43] | 2 => [45] | 3 => [42] | 4 => [47] | 5 => [37] | 6 => [47, 117] | 7 => [37, 117] | 8 => [38] | 9 => [124] | 10 => [94]
  | 11 => [60, 60] | 12 => [62, 62, 117] | 13 => [62, 62] | 14 => [60] | 15 => [60, 117] | 16 => [61, 61] | _ => []

/-- What stands in a node's text ahead of its parts, and behind each of them. -/
def mark0 (d : Nd) : List UInt8 :=
  if d.k = 1 then Lib.itoa d.n else if d.k = 2 then 115 :: Lib.itoa d.n
  else if d.k = 3 then 97 :: (Lib.itoa d.a ++ 118 :: (Lib.itoa d.n ++ [91])) else [40]
def mark1 (d : Nd) : List UInt8 := if d.k = 1 then [] else if d.k = 2 then [] else if d.k = 3 then [93] else 32 :: (signOf d.o ++ [32])
def mark2 (d : Nd) : List UInt8 := if d.k = 1 then [] else if d.k = 2 then [] else if d.k = 3 then [] else [41]
def marksLen (d : Nd) : Nat := (mark0 d).length + (mark1 d).length + (mark2 d).length

/-- A term with what is told of it: the node, how deep, how long. -/
structure Kp where
  d : Nd
  deep : Nat
  long : Nat

def kp0 : Kp := ⟨⟨0, 0, 0, 0, 0, 0⟩, 0, 0⟩
def kAt (K : List Kp) (i : Int) : Kp := K.getD i.toNat kp0

def deep1 (K : List Kp) (d : Nd) : Nat := (partsOf d).foldl (fun m p => max m (kAt K p).deep) 0 + 1
def longSum (K : List Kp) (d : Nd) : Nat := (partsOf d).foldl (fun m p => m + (kAt K p).long) (marksLen d)
def long1 (K : List Kp) (d : Nd) : Nat := min (longSum K d) 65537
def kept1 (K : List Kp) (d : Nd) : Kp := ⟨d, deep1 K d, long1 K d⟩

/-- What is kept of a graph's nodes. -/
def kps (L : List Nd) : List Kp := L.foldl (fun K d => K ++ [kept1 K d]) []
theorem kps_nil : kps [] = [] := rfl
theorem kps_snoc (L : List Nd) (d : Nd) : kps (L ++ [d]) = kps L ++ [kept1 (kps L) d] := by simp [kps]
theorem snocInd {α : Type} {p : List α → Prop} (h0 : p []) (h1 : ∀ L d, p L → p (L ++ [d])) : ∀ L, p L := by
  have H : ∀ n, ∀ L : List α, L.length = n → p L := by
    intro n
    induction n with
    | zero => intro L hL; rw [List.length_eq_zero_iff.1 hL]; exact h0
    | succ n ih =>
      intro L hL
      have hne : L ≠ [] := by rintro rfl; simp at hL
      rw [← List.dropLast_concat_getLast hne]
      exact h1 _ _ (ih _ (by simp [hL]))
  exact fun L => H L.length L rfl
theorem kps_length (L : List Nd) : (kps L).length = L.length := by
  refine snocInd (p := fun L => (kps L).length = L.length) rfl (fun L d ih => ?_) L
  show (kps (L ++ [d])).length = (L ++ [d]).length
  rw [kps_snoc]; simp [ih]

/-- The place of a node in a graph: their number, if it is none of them. -/
def idx (L : List Nd) (d : Nd) : Nat := L.findIdx (d.eqb ·)
def inL (L : List Nd) (d : Nd) : Bool := L.any (d.eqb ·)
theorem inL_iff (L : List Nd) (d : Nd) : inL L d = true ↔ d ∈ L := by
  unfold inL
  rw [List.any_eq_true]
  constructor
  · rintro ⟨e, he, h⟩; rw [(Nd.eqb_iff d e).1 h]; exact he
  · intro h; exact ⟨d, h, Nd.eqb_self d⟩
theorem idx_none {L : List Nd} {d : Nd} (h : inL L d = false) : idx L d = L.length := by
  unfold idx
  refine List.findIdx_eq_length.2 fun e he => ?_
  cases hb : d.eqb e with
  | false => rfl
  | true => rw [(Nd.eqb_iff d e).1 hb] at h; rw [(inL_iff L e).2 he] at h; cases h
theorem idx_lt {L : List Nd} {d : Nd} (h : inL L d = true) : idx L d < L.length := by
  unfold idx
  exact List.findIdx_lt_length_of_exists (List.any_eq_true.1 h)
theorem idx_le (L : List Nd) (d : Nd) : idx L d ≤ L.length := by unfold idx; exact List.findIdx_le_length
theorem idx_get {L : List Nd} {d : Nd} (h : idx L d < L.length) : L[idx L d] = d := by
  have := List.findIdx_getElem (xs := L) (p := (d.eqb ·)) (w := h)
  exact ((Nd.eqb_iff d _).1 this).symm
theorem idx_append_in {L : List Nd} {d e : Nd} (h : inL L d = true) : idx (L ++ [e]) d = idx L d := by
  have hl := idx_lt h
  unfold idx at hl ⊢
  rw [List.findIdx_append, if_pos hl]
theorem idx_append_new {L : List Nd} {d : Nd} (h : inL L d = false) : idx (L ++ [d]) d = L.length := by
  unfold idx
  have := idx_none h
  unfold idx at this
  rw [List.findIdx_append, if_neg (by omega)]
  simp [List.findIdx_cons, Nd.eqb_self]

/-- What Add makes of a graph, and what it answers. -/
def addL (L : List Nd) (d : Nd) : List Nd := if mayB L.length d && !inL L d then L ++ [d] else L
def addR (L : List Nd) (d : Nd) : Int := if mayB L.length d then idx L d else -1

/-- A graph's nodes: each may be, with lesser parts; no two are the same. -/
structure Good (L : List Nd) : Prop where
  ok : ∀ d ∈ L, d.Ok
  may : ∀ i (h : i < L.length), mayB i L[i] = true
  nodup : L.Nodup

theorem good_nil : Good [] := ⟨by simp, by simp, List.nodup_nil⟩
theorem Good.snoc {L : List Nd} (h : Good L) {d : Nd} (ho : d.Ok) (hm : mayB L.length d = true) (hn : inL L d = false) : Good (L ++ [d]) := by
  refine ⟨?_, ?_, ?_⟩
  · intro e he
    rcases List.mem_append.1 he with he | he
    · exact h.ok e he
    · rw [List.mem_singleton.1 he]; exact ho
  · intro i hi
    by_cases hl : i < L.length
    · rw [List.getElem_append_left hl]; exact h.may i hl
    · have : i = L.length := by simp at hi; omega
      subst this
      simpa using hm
  · rw [List.nodup_append]
    refine ⟨h.nodup, by simp, ?_⟩
    intro a ha b hb
    rw [List.mem_singleton.1 hb]
    rintro rfl
    rw [(inL_iff L a).2 ha] at hn
    cases hn
theorem Good.add {L : List Nd} (h : Good L) {d : Nd} (ho : d.Ok) : Good (addL L d) := by
  unfold addL
  by_cases hm : mayB L.length d = true
  · cases hi : inL L d with
    | true => simpa [hm] using h
    | false => simpa [hm] using h.snoc ho hm hi
  · simpa [hm] using h
theorem addL_length (L : List Nd) (d : Nd) : (addL L d).length ≤ L.length + 1 ∧ L.length ≤ (addL L d).length := by
  unfold addL; split <;> simp

end Go.Proofs.YtjhmbbioplhcgaaDoor
