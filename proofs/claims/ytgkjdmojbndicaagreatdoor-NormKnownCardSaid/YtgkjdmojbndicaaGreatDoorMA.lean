/-
  Several texts in one: Range: Numbers that an int64 holds. It speaks of no program.; Math: Numbers of 64 bits: how the model's integers, their wraps, bits, shifts and quotients read as words of 64 bits (BitVec 64); and what an operation of layer 1 makes of two such words. It speaks of no program.; TMath: Layer 2, plain: nodes, which node may be, graphs as lists of nodes, what is told of their terms (how deep, how long, the text). Nothing of the program.; TTextM: Layer 2, plain: texts of terms, and how long they are.; TUsesM: Layer 2, plain: what terms use.; TUniq: Layer 2, plain: texts of different terms differ..
-/
import Derived.WalkKit
import Derived.Lib.ItoaNum
import Derived.Lib.ItoaLen
namespace Go.Proofs.YtgkjdmojbndicaaGreatDoor
/-- A number that an int64 holds. -/
def InR (n : Int) : Prop := -9223372036854775808 ≤ n ∧ n ≤ 9223372036854775807
end Go.Proofs.YtgkjdmojbndicaaGreatDoor

namespace Go.Proofs.YtgkjdmojbndicaaGreatDoor
open Go.RowKit

/-- A number as a word. -/
abbrev bv (a : Int) : BitVec 64 := BitVec.ofInt 64 a

theorem InR.toInt (x : BitVec 64) : InR x.toInt := by
  have h1 := @BitVec.le_toInt 64 x
  have h2 := @BitVec.toInt_lt 64 x
  constructor <;> omega
theorem bv_toInt (x : BitVec 64) : bv x.toInt = x := BitVec.ofInt_toInt
theorem bv_toNat (x : BitVec 64) : bv (x.toNat : Int) = x := by
  rw [bv, BitVec.ofInt_natCast]; simp
theorem toInt_bv {a : Int} (h : InR a) : (bv a).toInt = a := by
  obtain ⟨h1, h2⟩ := h
  rw [BitVec.toInt_ofInt]
  exact Int.bmod_eq_of_le (by omega) (by omega)
theorem wrap64_bv (n : Int) : wrap64 n = (bv n).toInt := by
  rw [BitVec.toInt_ofInt]; unfold wrap64 Int.bmod; simp; split <;> omega
theorem u64_bv (n : Int) : IntKind.u64.wrap n = ((bv n).toNat : Int) := by
  rw [BitVec.toNat_ofInt, IntKind.wrap_u64]; omega
theorem bv_add (a b : Int) : bv (a + b) = bv a + bv b := BitVec.ofInt_add ..
theorem bv_mul (a b : Int) : bv (a * b) = bv a * bv b := BitVec.ofInt_mul ..
theorem bv_neg (a : Int) : bv (-a) = - bv a := by
  rw [bv, BitVec.ofInt_neg]
theorem bv_sub (a b : Int) : bv (a - b) = bv a - bv b := by
  rw [Int.sub_eq_add_neg, bv_add, bv_neg, BitVec.sub_eq_add_neg]
theorem bv_inj {a b : Int} (ha : InR a) (hb : InR b) (h : bv a = bv b) : a = b := by
  rw [← toInt_bv ha, ← toInt_bv hb, h]

theorem wrap_i64_bv (n : Int) : IntKind.i64.wrap n = (bv n).toInt := (IntWalk.i64_left n).trans (wrap64_bv n)
theorem wrap_nat (x : BitVec 64) : (bv (x.toNat : Int)).toInt = x.toInt := by rw [bv_toNat]

theorem and_i64 (a b : Int) : bits .and .i64 a b = (bv a &&& bv b).toInt := by
  show IntKind.i64.wrap ((bv a &&& bv b).toNat : Int) = _
  rw [wrap_i64_bv, wrap_nat]
theorem or_i64 (a b : Int) : bits .or .i64 a b = (bv a ||| bv b).toInt := by
  show IntKind.i64.wrap ((bv a ||| bv b).toNat : Int) = _
  rw [wrap_i64_bv, wrap_nat]
theorem xor_i64 (a b : Int) : bits .xor .i64 a b = (bv a ^^^ bv b).toInt := by
  show IntKind.i64.wrap ((bv a ^^^ bv b).toNat : Int) = _
  rw [wrap_i64_bv, wrap_nat]
theorem and_u64 (a b : Int) : bits .and .u64 a b = ((bv a &&& bv b).toNat : Int) := by
  show IntKind.u64.wrap ((bv a &&& bv b).toNat : Int) = _
  rw [u64_bv, bv_toNat]
theorem or_u64 (a b : Int) : bits .or .u64 a b = ((bv a ||| bv b).toNat : Int) := by
  show IntKind.u64.wrap ((bv a ||| bv b).toNat : Int) = _
  rw [u64_bv, bv_toNat]

/-- How far a move goes: the lowest six bits. -/
def far (b : Int) : Nat := (bv b).toNat % 64
theorem far_lt (b : Int) : far b < 64 := Nat.mod_lt _ (by decide)
theorem and63 (b : Int) : bits .and .u64 (IntKind.u64.wrap b) 63 = (far b : Int) := by
  rw [and_u64, u64_bv, bv_toNat]
  have h : (bv b &&& bv 63).toNat = far b := by
    rw [BitVec.toNat_and]
    show (bv b).toNat &&& 63 = _
    rw [show (63 : Nat) = 2 ^ 6 - 1 from rfl, Nat.and_two_pow_sub_one_eq_mod]; rfl
  rw [h]

theorem two_pow_bv (k : Nat) : ((2 : Int) ^ k) = ((2 ^ k : Nat) : Int) := by simp
theorem shl_bv (a : Int) (k : Nat) : bv (a * 2 ^ k) = bv a <<< k := by
  apply BitVec.eq_of_toInt_eq
  rw [BitVec.toInt_shiftLeft, BitVec.toInt_ofInt, BitVec.toNat_ofInt]
  rw [Nat.shiftLeft_eq]
  have h : (((a % ((2 : Nat) ^ 64 : Nat)).toNat * 2 ^ k : Nat) : Int) = (a % ((2 : Nat) ^ 64 : Nat)) * 2 ^ k := by
    rw [Int.natCast_mul, two_pow_bv, Int.toNat_of_nonneg (Int.emod_nonneg _ (by decide))]
  rw [h]
  exact (Int.emod_mul_bmod ..).symm
theorem shrU_bv (x : BitVec 64) (k : Nat) : (x.toNat : Int) / 2 ^ k = ((x >>> k).toNat : Int) := by
  rw [BitVec.toNat_ushiftRight, Nat.shiftRight_eq_div_pow]; simp
theorem shrS_bv (x : BitVec 64) (k : Nat) : x.toInt / 2 ^ k = (x.sshiftRight k).toInt := by
  rw [BitVec.toInt_sshiftRight, Int.shiftRight_eq_div_pow]; simp

theorem sdiv_bv {a b : Int} (ha : InR a) (hb : InR b) : wrap64 (a.tdiv b) = ((bv a).sdiv (bv b)).toInt := by
  rw [BitVec.toInt_sdiv, toInt_bv ha, toInt_bv hb, wrap64_bv, BitVec.toInt_ofInt]
theorem srem_bv {a b : Int} (ha : InR a) (hb : InR b) : a.tmod b = ((bv a).srem (bv b)).toInt := by
  rw [BitVec.toInt_srem, toInt_bv ha, toInt_bv hb]
theorem udiv_bv (x y : BitVec 64) : IntKind.u64.wrap ((x.toNat : Int).tdiv (y.toNat : Int)) = ((x / y).toNat : Int) := by
  have h : (x.toNat : Int).tdiv (y.toNat : Int) = ((x / y).toNat : Int) := by rw [BitVec.toNat_udiv]; rfl
  rw [h, u64_bv, bv_toNat]
theorem umod_bv (x y : BitVec 64) : (x.toNat : Int).tmod (y.toNat : Int) = ((x % y).toNat : Int) := by
  rw [BitVec.toNat_umod]; rfl

/-- What an operation makes of two words. -/
def opB (op : Nat) (x y : BitVec 64) : BitVec 64 :=
  match op with
  | 1 => x + y
  | 2 => x - y
  | 3 => x * y
  | 4 => if y = 0 then -1 else x.sdiv y
  | 5 => if y = 0 then x else x.srem y
  | 6 => if y = 0 then -1 else x / y
  | 7 => if y = 0 then x else x % y
  | 8 => x &&& y
  | 9 => x ||| y
  | 10 => x ^^^ y
  | 11 => x <<< (y.toNat % 64)
  | 12 => x >>> (y.toNat % 64)
  | 13 => x.sshiftRight (y.toNat % 64)
  | 14 => if x.slt y then 1 else 0
  | 15 => if x.ult y then 1 else 0
  | 16 => if x = y then 1 else 0
  | _ => 0
/-- The same of numbers. -/
def opI (op a b : Int) : Int := (opB op.toNat (bv a) (bv b)).toInt
theorem opI_in (op a b : Int) : InR (opI op a b) := InR.toInt _
theorem bv_opI (op a b : Int) : bv (opI op a b) = opB op.toNat (bv a) (bv b) := bv_toInt _

theorem slt_bv {a b : Int} (ha : InR a) (hb : InR b) : (bv a).slt (bv b) = decide (a < b) := by
  rw [BitVec.slt, toInt_bv ha, toInt_bv hb]
theorem ult_bv (x y : BitVec 64) : x.ult y = decide ((x.toNat : Int) < (y.toNat : Int)) := by
  rw [BitVec.ult]; simp
theorem bv_zero_iff {b : Int} (hb : InR b) : bv b = 0 ↔ b = 0 :=
  ⟨fun h => bv_inj hb ⟨by decide, by decide⟩ h, fun h => by rw [h]; rfl⟩
theorem bv_eq_iff {a b : Int} (ha : InR a) (hb : InR b) : bv a = bv b ↔ a = b := ⟨bv_inj ha hb, fun h => by rw [h]⟩
end Go.Proofs.YtgkjdmojbndicaaGreatDoor

namespace Go.Proofs.YtgkjdmojbndicaaGreatDoor
open Go

def InB (n : Int) : Prop := 0 ≤ n ∧ n ≤ 255

/-- A node: its kind, number, array, operation, parts. -/
structure Nd where
  k : Int
  n : Int
  a : Int
  o : Int
  x : Int
  y : Int

theorem Nd.ext' {d e : Nd} (h1 : d.k = e.k) (h2 : d.n = e.n) (h3 : d.a = e.a) (h4 : d.o = e.o) (h5 : d.x = e.x) (h6 : d.y = e.y) : d = e := by
  cases d; cases e; simp at h1 h2 h3 h4 h5 h6; subst h1; subst h2; subst h3; subst h4; subst h5; subst h6; rfl

def Nd.Ok (d : Nd) : Prop := InB d.k ∧ InR d.n ∧ InR d.a ∧ InB d.o ∧ InR d.x ∧ InR d.y

def Nd.eqb (d e : Nd) : Bool := decide (d.k = e.k) && decide (d.n = e.n) && decide (d.a = e.a) && decide (d.o = e.o) && decide (d.x = e.x) && decide (d.y = e.y)
theorem Nd.eqb_iff (d e : Nd) : d.eqb e = true ↔ d = e := by
  unfold Nd.eqb
  simp only [Bool.and_eq_true, decide_eq_true_eq]
  constructor
  · rintro ⟨⟨⟨⟨⟨h1, h2⟩, h3⟩, h4⟩, h5⟩, h6⟩; exact Nd.ext' h1 h2 h3 h4 h5 h6
  · rintro rfl; exact ⟨⟨⟨⟨⟨rfl, rfl⟩, rfl⟩, rfl⟩, rfl⟩, rfl⟩
theorem Nd.eqb_self (d : Nd) : d.eqb d = true := (Nd.eqb_iff d d).2 rfl

/-- Is a number one of a term, of so many? -/
def hasB (s : Nat) (i : Int) : Bool := decide (0 ≤ i) && decide (i < s)
theorem hasB_iff (s : Nat) (i : Int) : hasB s i = true ↔ 0 ≤ i ∧ i < s := by unfold hasB; simp

/-- May a node be, in a graph of s terms? -/
def mayB (s : Nat) (d : Nd) : Bool :=
  if d.k = 1 then decide (d.a = 0) && decide (d.o = 0) && decide (d.x = 0) && decide (d.y = 0)
  else if d.k = 2 then decide (d.a = 0) && decide (d.o = 0) && decide (d.x = 0) && decide (d.y = 0) && decide (0 ≤ d.n)
  else if d.k = 3 then decide (d.o = 0) && decide (d.x = 0) && decide (0 ≤ d.n) && decide (0 ≤ d.a) && hasB s d.y
  else if d.k = 4 then decide (d.n = 0) && decide (d.a = 0) && decide (1 ≤ d.o) && decide (d.o ≤ 16) && hasB s d.x && hasB s d.y
  else false

/-- The terms that a node has. -/
def partsOf (d : Nd) : List Int := if d.k = 3 then [d.y] else if d.k = 4 then [d.x, d.y] else []

theorem may_kind {s : Nat} {d : Nd} (h : mayB s d = true) : d.k = 1 ∨ d.k = 2 ∨ d.k = 3 ∨ d.k = 4 := by
  unfold mayB at h
  by_cases h1 : d.k = 1
  · exact Or.inl h1
  · by_cases h2 : d.k = 2
    · exact Or.inr (Or.inl h2)
    · by_cases h3 : d.k = 3
      · exact Or.inr (Or.inr (Or.inl h3))
      · by_cases h4 : d.k = 4
        · exact Or.inr (Or.inr (Or.inr h4))
        · simp [h1, h2, h3, h4] at h

theorem may_parts {s : Nat} {d : Nd} (h : mayB s d = true) : ∀ p ∈ partsOf d, 0 ≤ p ∧ p < s := by
  intro p hp
  unfold partsOf at hp
  rcases may_kind h with hk | hk | hk | hk
  · simp [hk] at hp
  · simp [hk] at hp
  · simp [hk] at hp
    subst hp
    simp [mayB, hk, hasB] at h
    exact h.2
  · simp [hk] at hp
    simp [mayB, hk, hasB] at h
    rcases hp with rfl | rfl
    · exact h.1.2
    · exact h.2

theorem may_op {s : Nat} {d : Nd} (h : mayB s d = true) (hk : d.k = 4) : 1 ≤ d.o ∧ d.o ≤ 16 := by
  simp [mayB, hk] at h
  omega

theorem may_mono {s t : Nat} {d : Nd} (hst : s ≤ t) (h : mayB s d = true) : mayB t d = true := by
  rcases may_kind h with hk | hk | hk | hk <;> simp [mayB, hk, hasB] at h ⊢ <;> omega

/-- The signs of the operations. -/
def signOf (o : Int) : List UInt8 :=
  match o.toNat with
  | 1 => [43] | 2 => [45] | 3 => [42] | 4 => [47] | 5 => [37] | 6 => [47, 117] | 7 => [37, 117] | 8 => [38] | 9 => [124] | 10 => [94]
  | 11 => [60, 60] | 12 => [62, 62, 117] | 13 => [62, 62] | 14 => [60] | 15 => [60, 117] | 16 => [61, 61] | _ => []

/-- What stands in a node's text ahead of its parts, and behind each of them. -/
def mark0 (d : Nd) : List UInt8 :=
  if d.k = 1 then Lib.itoa d.n else if d.k = 2 then 115 :: Lib.itoa d.n
  else if d.k = 3 then 97 :: (Lib.itoa d.a ++ 118 :: (Lib.itoa d.n ++ [91])) else [40]
def mark1 (d : Nd) : List UInt8 := if d.k = 1 then [] else if d.k = 2 then [] else if d.k = 3 then [93] else 32 :: (signOf d.o ++ [32])
def mark2 (d : Nd) : List UInt8 := if d.k = 1 then [] else if d.k = 2 then [] else if d.k = 3 then [] else [41]
def marksLen (d : Nd) : Nat := (mark0 d).length + (mark1 d).length + (mark2 d).length

/-- A term with what is told of it: the node, how deep, how long. -/
structure Kp where
  d : Nd
  deep : Nat
  long : Nat

def kp0 : Kp := ⟨⟨0, 0, 0, 0, 0, 0⟩, 0, 0⟩
def kAt (K : List Kp) (i : Int) : Kp := K.getD i.toNat kp0

def deep1 (K : List Kp) (d : Nd) : Nat := (partsOf d).foldl (fun m p => max m (kAt K p).deep) 0 + 1
def longSum (K : List Kp) (d : Nd) : Nat := (partsOf d).foldl (fun m p => m + (kAt K p).long) (marksLen d)
def long1 (K : List Kp) (d : Nd) : Nat := min (longSum K d) 65537
def kept1 (K : List Kp) (d : Nd) : Kp := ⟨d, deep1 K d, long1 K d⟩

/-- What is kept of a graph's nodes. -/
def kps (L : List Nd) : List Kp := L.foldl (fun K d => K ++ [kept1 K d]) []
theorem kps_nil : kps [] = [] := rfl
theorem kps_snoc (L : List Nd) (d : Nd) : kps (L ++ [d]) = kps L ++ [kept1 (kps L) d] := by simp [kps]
theorem snocInd {α : Type} {p : List α → Prop} (h0 : p []) (h1 : ∀ L d, p L → p (L ++ [d])) : ∀ L, p L := by
  have H : ∀ n, ∀ L : List α, L.length = n → p L := by
    intro n
    induction n with
    | zero => intro L hL; rw [List.length_eq_zero_iff.1 hL]; exact h0
    | succ n ih =>
      intro L hL
      have hne : L ≠ [] := by rintro rfl; simp at hL
      rw [← List.dropLast_concat_getLast hne]
      exact h1 _ _ (ih _ (by simp [hL]))
  exact fun L => H L.length L rfl
theorem kps_length (L : List Nd) : (kps L).length = L.length := by
  refine snocInd (p := fun L => (kps L).length = L.length) rfl (fun L d ih => ?_) L
  show (kps (L ++ [d])).length = (L ++ [d]).length
  rw [kps_snoc]; simp [ih]

/-- The place of a node in a graph: their number, if it is none of them. -/
def idx (L : List Nd) (d : Nd) : Nat := L.findIdx (d.eqb ·)
def inL (L : List Nd) (d : Nd) : Bool := L.any (d.eqb ·)
theorem inL_iff (L : List Nd) (d : Nd) : inL L d = true ↔ d ∈ L := by
  unfold inL
  rw [List.any_eq_true]
  constructor
  · rintro ⟨e, he, h⟩; rw [(Nd.eqb_iff d e).1 h]; exact he
  · intro h; exact ⟨d, h, Nd.eqb_self d⟩
theorem idx_none {L : List Nd} {d : Nd} (h : inL L d = false) : idx L d = L.length := by
  unfold idx
  refine List.findIdx_eq_length.2 fun e he => ?_
  cases hb : d.eqb e with
  | false => rfl
  | true => rw [(Nd.eqb_iff d e).1 hb] at h; rw [(inL_iff L e).2 he] at h; cases h
theorem idx_lt {L : List Nd} {d : Nd} (h : inL L d = true) : idx L d < L.length := by
  unfold idx
  exact List.findIdx_lt_length_of_exists (List.any_eq_true.1 h)
theorem idx_le (L : List Nd) (d : Nd) : idx L d ≤ L.length := by unfold idx; exact List.findIdx_le_length
theorem idx_get {L : List Nd} {d : Nd} (h : idx L d < L.length) : L[idx L d] = d := by
  have := List.findIdx_getElem (xs := L) (p := (d.eqb ·)) (w := h)
  exact ((Nd.eqb_iff d _).1 this).symm
theorem idx_append_in {L : List Nd} {d e : Nd} (h : inL L d = true) : idx (L ++ [e]) d = idx L d := by
  have hl := idx_lt h
  unfold idx at hl ⊢
  rw [List.findIdx_append, if_pos hl]
theorem idx_append_new {L : List Nd} {d : Nd} (h : inL L d = false) : idx (L ++ [d]) d = L.length := by
  unfold idx
  have := idx_none h
  unfold idx at this
  rw [List.findIdx_append, if_neg (by omega)]
  simp [List.findIdx_cons, Nd.eqb_self]

/-- What Add makes of a graph, and what it answers. -/
def addL (L : List Nd) (d : Nd) : List Nd := if mayB L.length d && !inL L d then L ++ [d] else L
def addR (L : List Nd) (d : Nd) : Int := if mayB L.length d then idx L d else -1

/-- A graph's nodes: each may be, with lesser parts; no two are the same. -/
structure Good (L : List Nd) : Prop where
  ok : ∀ d ∈ L, d.Ok
  may : ∀ i (h : i < L.length), mayB i L[i] = true
  nodup : L.Nodup

theorem good_nil : Good [] := ⟨by simp, by simp, List.nodup_nil⟩
theorem Good.snoc {L : List Nd} (h : Good L) {d : Nd} (ho : d.Ok) (hm : mayB L.length d = true) (hn : inL L d = false) : Good (L ++ [d]) := by
  refine ⟨?_, ?_, ?_⟩
  · intro e he
    rcases List.mem_append.1 he with he | he
    · exact h.ok e he
    · rw [List.mem_singleton.1 he]; exact ho
  · intro i hi
    by_cases hl : i < L.length
    · rw [List.getElem_append_left hl]; exact h.may i hl
    · have : i = L.length := by simp at hi; omega
      subst this
      simpa using hm
  · rw [List.nodup_append]
    refine ⟨h.nodup, by simp, ?_⟩
    intro a ha b hb
    rw [List.mem_singleton.1 hb]
    rintro rfl
    rw [(inL_iff L a).2 ha] at hn
    cases hn
theorem Good.add {L : List Nd} (h : Good L) {d : Nd} (ho : d.Ok) : Good (addL L d) := by
  unfold addL
  by_cases hm : mayB L.length d = true
  · cases hi : inL L d with
    | true => simpa [hm] using h
    | false => simpa [hm] using h.snoc ho hm hi
  · simpa [hm] using h
theorem addL_length (L : List Nd) (d : Nd) : (addL L d).length ≤ L.length + 1 ∧ L.length ≤ (addL L d).length := by
  unfold addL; split <;> simp

end Go.Proofs.YtgkjdmojbndicaaGreatDoor

namespace Go.Proofs.YtgkjdmojbndicaaGreatDoor
open Go

def tAt (T : List (List UInt8)) (i : Int) : List UInt8 := T.getD i.toNat []
/-- A node's text, out of its parts' texts. -/
def text1 (T : List (List UInt8)) (d : Nd) : List UInt8 :=
  if d.k = 3 then mark0 d ++ (tAt T d.y ++ mark1 d) else if d.k = 4 then mark0 d ++ (tAt T d.x ++ (mark1 d ++ (tAt T d.y ++ mark2 d))) else mark0 d
def texts (L : List Nd) : List (List UInt8) := L.foldl (fun T d => T ++ [text1 T d]) []
theorem texts_snoc (L : List Nd) (d : Nd) : texts (L ++ [d]) = texts L ++ [text1 (texts L) d] := by simp [texts]
theorem texts_length (L : List Nd) : (texts L).length = L.length := by
  refine snocInd (p := fun L => (texts L).length = L.length) rfl (fun L d ih => ?_) L
  show (texts (L ++ [d])).length = (L ++ [d]).length
  rw [texts_snoc]; simp [ih]
/-- The text of the term numbered i. -/
def textOf (L : List Nd) (i : Int) : List UInt8 := tAt (texts L) i

theorem Good.init {L : List Nd} {d : Nd} (h : Good (L ++ [d])) : Good L ∧ mayB L.length d = true ∧ d.Ok := by
  refine ⟨⟨fun e he => h.ok e (by simp [he]), fun i hi => ?_, (List.nodup_append.1 h.nodup).1⟩, ?_, h.ok d (by simp)⟩
  · have := h.may i (by simp; omega)
    rwa [List.getElem_append_left hi] at this
  · have := h.may L.length (by simp)
    simpa using this

theorem tAt_append {T : List (List UInt8)} {t : List UInt8} {i : Int} (h0 : 0 ≤ i) (h : i < T.length) : tAt (T ++ [t]) i = tAt T i := by
  unfold tAt
  rw [List.getD_eq_getElem?_getD, List.getD_eq_getElem?_getD, List.getElem?_append_left (by omega)]
theorem kAt_append {K : List Kp} {q : Kp} {i : Int} (h0 : 0 ≤ i) (h : i < K.length) : kAt (K ++ [q]) i = kAt K i := by
  unfold kAt
  rw [List.getD_eq_getElem?_getD, List.getD_eq_getElem?_getD, List.getElem?_append_left (by omega)]
theorem text1_append {T : List (List UInt8)} {t : List UInt8} {d : Nd} {s : Nat} (hm : mayB s d = true) (hs : s ≤ T.length) : text1 (T ++ [t]) d = text1 T d := by
  have hp := may_parts hm
  unfold text1
  split
  · rename_i h3
    have := hp d.y (by simp [partsOf, h3])
    rw [tAt_append this.1 (by omega)]
  · split
    · rename_i h3 h4
      have hx := hp d.x (by simp [partsOf, h4])
      have hy := hp d.y (by simp [partsOf, h4])
      rw [tAt_append hx.1 (by omega), tAt_append hy.1 (by omega)]
    · rfl
theorem kept1_append {K : List Kp} {q : Kp} {d : Nd} {s : Nat} (hm : mayB s d = true) (hs : s ≤ K.length) : kept1 (K ++ [q]) d = kept1 K d := by
  have hp := may_parts hm
  have e : ∀ p ∈ partsOf d, kAt (K ++ [q]) p = kAt K p := fun p h => kAt_append (hp p h).1 (by have := (hp p h).2; omega)
  unfold kept1 deep1 long1 longSum
  have f1 : ∀ (l : List Int) (n : Nat), (∀ p ∈ l, kAt (K ++ [q]) p = kAt K p) → l.foldl (fun m p => max m (kAt (K ++ [q]) p).deep) n = l.foldl (fun m p => max m (kAt K p).deep) n := by
    intro l
    induction l with
    | nil => intro n _; rfl
    | cons a l ih => intro n h; simp only [List.foldl_cons]; rw [h a (by simp)]; exact ih _ fun p hp => h p (by simp [hp])
  have f2 : ∀ (l : List Int) (n : Nat), (∀ p ∈ l, kAt (K ++ [q]) p = kAt K p) → l.foldl (fun m p => m + (kAt (K ++ [q]) p).long) n = l.foldl (fun m p => m + (kAt K p).long) n := by
    intro l
    induction l with
    | nil => intro n _; rfl
    | cons a l ih => intro n h; simp only [List.foldl_cons]; rw [h a (by simp)]; exact ih _ fun p hp => h p (by simp [hp])
  rw [f1 _ _ e, f2 _ _ e]

/-- Each term's text is made of its node and its parts' texts. -/
theorem textOf_eq : ∀ (L : List Nd), Good L → ∀ k (h : k < L.length), textOf L (k : Int) = text1 (texts L) L[k] := by
  refine fun L => snocInd (p := fun L => Good L → ∀ k (h : k < L.length), textOf L (k : Int) = text1 (texts L) L[k]) (fun _ k h => absurd h (Nat.not_lt_zero _)) (fun L d ih hG k hk => ?_) L
  obtain ⟨hL, hm, _⟩ := hG.init
  have hl := texts_length L
  unfold textOf
  rw [texts_snoc]
  by_cases hkl : k < L.length
  · rw [tAt_append (by omega) (by omega)]
    have := ih hL k hkl
    unfold textOf at this
    rw [this]
    have hg : (L ++ [d])[k] = L[k] := List.getElem_append_left hkl
    rw [hg, text1_append (hL.may k hkl) (by omega)]
  · have hk' : k = L.length := by simp at hk; omega
    subst hk'
    have hg : (L ++ [d])[L.length] = d := by simp
    rw [hg, text1_append hm (by omega)]
    unfold tAt
    rw [Int.toNat_natCast, List.getD_eq_getElem?_getD, List.getElem?_append_right (by omega), hl]
    simp
theorem keptOf_eq : ∀ (L : List Nd), Good L → ∀ k (h : k < L.length), kAt (kps L) (k : Int) = kept1 (kps L) L[k] := by
  refine fun L => snocInd (p := fun L => Good L → ∀ k (h : k < L.length), kAt (kps L) (k : Int) = kept1 (kps L) L[k]) (fun _ k h => absurd h (Nat.not_lt_zero _)) (fun L d ih hG k hk => ?_) L
  obtain ⟨hL, hm, _⟩ := hG.init
  have hl := kps_length L
  rw [kps_snoc]
  by_cases hkl : k < L.length
  · rw [kAt_append (by omega) (by omega), ih hL k hkl]
    have hg : (L ++ [d])[k] = L[k] := List.getElem_append_left hkl
    rw [hg, kept1_append (hL.may k hkl) (by omega)]
  · have hk' : k = L.length := by simp at hk; omega
    subst hk'
    have hg : (L ++ [d])[L.length] = d := by simp
    rw [hg, kept1_append hm (by omega)]
    unfold kAt
    rw [Int.toNat_natCast, List.getD_eq_getElem?_getD, List.getElem?_append_right (by omega), hl]
    simp

theorem long_text {L : List Nd} (hG : Good L) : ∀ k, k < L.length → (kAt (kps L) (k : Int)).long = min (textOf L (k : Int)).length 65537 := by
  intro k
  induction k using Nat.strongRecOn with
  | _ k ih =>
    intro hk
    rw [keptOf_eq L hG k hk, textOf_eq L hG k hk]
    have hm := hG.may k hk
    have hp := may_parts hm
    have key : ∀ p ∈ partsOf L[k], (kAt (kps L) p).long = min (tAt (texts L) p).length 65537 := by
      intro p h
      obtain ⟨h0, h1⟩ := hp p h
      have := ih p.toNat (by omega) (by omega)
      rwa [Int.toNat_of_nonneg h0] at this
    generalize L[k] = d at *
    show long1 (kps L) d = _
    unfold long1 longSum text1
    rcases may_kind hm with h | h | h | h
    · simp [partsOf, h, marksLen, mark1, mark2]
    · simp [partsOf, h, marksLen, mark1, mark2]
    · have ky := key d.y (by simp [partsOf, h])
      simp only [partsOf, h, if_true, List.foldl_cons, List.foldl_nil, ky, marksLen, List.length_append, mark2]
      simp
      omega
    · have kx := key d.x (by simp [partsOf, h])
      have ky := key d.y (by simp [partsOf, h])
      simp [partsOf, h, kx, ky, marksLen]
      omega
end Go.Proofs.YtgkjdmojbndicaaGreatDoor

namespace Go.Proofs.YtgkjdmojbndicaaGreatDoor
open Go

def memB (U : List Int) (x : Int) : Bool := U.any fun y => decide (y = x)
theorem memB_iff (U : List Int) (x : Int) : memB U x = true ↔ x ∈ U := by
  unfold memB
  rw [List.any_eq_true]
  constructor
  · rintro ⟨y, hy, h⟩; rw [← of_decide_eq_true h]; exact hy
  · intro h; exact ⟨x, h, decide_eq_true rfl⟩
/-- What the closure makes of the terms so far. -/
def seeL (U : List Int) (x : Int) : List Int := if memB U x then U else U ++ [x]
theorem mem_seeL (U : List Int) (x y : Int) : y ∈ seeL U x ↔ y ∈ U ∨ y = x := by
  unfold seeL
  cases h : memB U x with
  | true =>
    have := (memB_iff U x).1 h
    simp
    rintro rfl; exact this
  | false => simp
theorem seeL_prefix (U : List Int) (x : Int) : ∃ V, seeL U x = U ++ V := by
  unfold seeL
  cases memB U x
  · exact ⟨[x], rfl⟩
  · exact ⟨[], by simp⟩
theorem seeL_nodup {U : List Int} (h : U.Nodup) (x : Int) : (seeL U x).Nodup := by
  unfold seeL
  cases hm : memB U x with
  | true => exact h
  | false =>
    show (U ++ [x]).Nodup
    rw [List.nodup_append]
    refine ⟨h, by simp, ?_⟩
    intro a ha b hb
    rw [List.mem_singleton.1 hb]
    rintro rfl
    rw [(memB_iff U a).2 ha] at hm
    cases hm

def ndAt (L : List Nd) (i : Int) : Nd := L.getD i.toNat ⟨0, 0, 0, 0, 0, 0⟩

/-- A term's part's part's .. -/
inductive Reach (L : List Nd) : Int → Int → Prop
  | refl (r : Int) : Reach L r r
  | step {r p i : Int} : p ∈ partsOf (ndAt L r) → Reach L p i → Reach L r i
theorem Reach.trans {L : List Nd} {a b c : Int} (h : Reach L a b) (k : Reach L b c) : Reach L a c := by
  induction h with
  | refl => exact k
  | step hp _ ih => exact .step hp (ih k)
theorem Reach.snoc {L : List Nd} {a b c : Int} (h : Reach L a b) (hc : c ∈ partsOf (ndAt L b)) : Reach L a c := h.trans (.step hc (.refl c))

theorem ndAt_get {L : List Nd} {k : Nat} (h : k < L.length) : ndAt L (k : Int) = L[k] := by
  unfold ndAt
  rw [Int.toNat_natCast, List.getD_eq_getElem?_getD, List.getElem?_eq_getElem h]; rfl
theorem part_lt {L : List Nd} (hG : Good L) {r p : Int} (hr : hasB L.length r = true) (hp : p ∈ partsOf (ndAt L r)) : 0 ≤ p ∧ p < r ∧ hasB L.length p = true := by
  obtain ⟨h0, h1⟩ := (hasB_iff _ _).1 hr
  obtain ⟨k, rfl⟩ : ∃ k : Nat, r = k := ⟨r.toNat, by omega⟩
  rw [ndAt_get (by omega)] at hp
  obtain ⟨a, b⟩ := may_parts (hG.may k (by omega)) p hp
  exact ⟨a, b, (hasB_iff _ _).2 ⟨a, by omega⟩⟩
theorem Reach.le {L : List Nd} (hG : Good L) {a b : Int} (h : Reach L a b) (ha : hasB L.length a = true) : b ≤ a ∧ hasB L.length b = true := by
  induction h with
  | refl => exact ⟨Int.le_refl _, ha⟩
  | step hp _ ih =>
    obtain ⟨_, h1, h2⟩ := part_lt hG ha hp
    obtain ⟨h3, h4⟩ := ih h2
    exact ⟨by omega, h4⟩

/-- What Uses answers: rising, each once, the roots and all their parts' parts. -/
def UsesSpec (L : List Nd) (roots R : List Int) : Prop := R.Pairwise (· < ·) ∧ ∀ i, i ∈ R ↔ ∃ r ∈ roots, hasB L.length r = true ∧ Reach L r i
theorem rising_eq : ∀ {R S : List Int}, R.Pairwise (· < ·) → S.Pairwise (· < ·) → (∀ i, i ∈ R ↔ i ∈ S) → R = S
  | [], [], _, _, _ => rfl
  | [], s :: S, _, _, h => by have := (h s).2 (by simp); cases this
  | r :: R, [], _, _, h => by have := (h r).1 (by simp); cases this
  | r :: R, s :: S, hR, hS, h => by
    have hr := List.pairwise_cons.1 hR
    have hs := List.pairwise_cons.1 hS
    have e : r = s := by
      rcases List.mem_cons.1 ((h r).1 (by simp)) with e | e
      · exact e
      · rcases List.mem_cons.1 ((h s).2 (by simp)) with e2 | e2
        · exact e2.symm
        · have := hs.1 r e; have := hr.1 s e2; omega
    subst e
    congr 1
    refine rising_eq hr.2 hs.2 fun i => ⟨fun hi => ?_, fun hi => ?_⟩
    · rcases List.mem_cons.1 ((h i).1 (by simp [hi])) with e | e
      · have := hr.1 i hi; omega
      · exact e
    · rcases List.mem_cons.1 ((h i).2 (by simp [hi])) with e | e
      · have := hs.1 i hi; omega
      · exact e
theorem UsesSpec.eq {L : List Nd} {roots R S : List Int} (h : UsesSpec L roots R) (k : UsesSpec L roots S) : R = S :=
  rising_eq h.1 k.1 fun i => (h.2 i).trans (k.2 i).symm

/-- The terms so far: each once, each a root's part's part; those of done are among them. -/
structure UInv (L : List Nd) (roots done U : List Int) : Prop where
  nodup : U.Nodup
  has : ∀ u ∈ U, hasB L.length u = true
  reach : ∀ u ∈ U, ∃ r ∈ roots, hasB L.length r = true ∧ Reach L r u
  rts : ∀ r ∈ done, hasB L.length r = true → r ∈ U
theorem UInv.nil (L : List Nd) (roots : List Int) : UInv L roots [] [] := ⟨List.nodup_nil, by simp, by simp, by simp⟩
theorem UInv.root {L : List Nd} {roots done U : List Int} (h : UInv L roots done U) {r : Int} (hr : r ∈ roots) (hb : hasB L.length r = true) : UInv L roots (done ++ [r]) (seeL U r) := by
  refine ⟨seeL_nodup h.nodup r, fun u hu => ?_, fun u hu => ?_, fun q hq hqb => ?_⟩
  · rcases (mem_seeL U r u).1 hu with hu | rfl
    · exact h.has u hu
    · exact hb
  · rcases (mem_seeL U r u).1 hu with hu | rfl
    · exact h.reach u hu
    · exact ⟨u, hr, hb, .refl u⟩
  · rcases List.mem_append.1 hq with hq | hq
    · exact (mem_seeL U r q).2 (Or.inl (h.rts q hq hqb))
    · exact (mem_seeL U r q).2 (Or.inr (List.mem_singleton.1 hq))
theorem UInv.pass {L : List Nd} {roots done U : List Int} (h : UInv L roots done U) {r : Int} (hb : hasB L.length r = false) : UInv L roots (done ++ [r]) U := by
  refine ⟨h.nodup, h.has, h.reach, fun q hq hqb => ?_⟩
  rcases List.mem_append.1 hq with hq | hq
  · exact h.rts q hq hqb
  · rw [List.mem_singleton.1 hq, hb] at hqb; cases hqb
theorem UInv.part {L : List Nd} {roots done U : List Int} (hG : Good L) (h : UInv L roots done U) {u p : Int} (hu : u ∈ U) (hp : p ∈ partsOf (ndAt L u)) : UInv L roots done (seeL U p) := by
  have hb := (part_lt hG (h.has u hu) hp).2.2
  refine ⟨seeL_nodup h.nodup p, fun q hq => ?_, fun q hq => ?_, fun q hq hqb => (mem_seeL U p q).2 (Or.inl (h.rts q hq hqb))⟩
  · rcases (mem_seeL U p q).1 hq with hq | rfl
    · exact h.has q hq
    · exact hb
  · rcases (mem_seeL U p q).1 hq with hq | rfl
    · exact h.reach q hq
    · obtain ⟨r, h1, h2, h3⟩ := h.reach u hu
      exact ⟨r, h1, h2, h3.snoc hp⟩
/-- The parts of the first n of the terms so far are among them. -/
def Clo (L : List Nd) (U : List Int) (n : Nat) : Prop := ∀ j u, j < n → U[j]? = some u → ∀ p ∈ partsOf (ndAt L u), p ∈ U
theorem Clo.see {L : List Nd} {U : List Int} {n : Nat} (h : Clo L U n) (hn : n ≤ U.length) (x : Int) : Clo L (seeL U x) n := by
  intro j u hj hu p hp
  obtain ⟨V, hV⟩ := seeL_prefix U x
  rw [hV, List.getElem?_append_left (by omega)] at hu
  exact (mem_seeL U x p).2 (Or.inl (h j u hj hu p hp))
theorem nodup_len : ∀ (n : Nat) (l : List Nat), l.Nodup → (∀ x ∈ l, x < n) → l.length ≤ n
  | 0, l, _, h => by
    cases l with
    | nil => exact Nat.le_refl _
    | cons a l => exact absurd (h a (by simp)) (Nat.not_lt_zero _)
  | n + 1, l, hn, h => by
    by_cases hm : n ∈ l
    · have := nodup_len n (l.erase n) (hn.erase n) (fun x hx => by
        have h1 := (List.Nodup.mem_erase_iff hn).1 hx
        have h2 := h x h1.2
        have h3 := h1.1
        omega)
      have h4 := List.length_erase_of_mem hm
      omega
    · have := nodup_len n l hn (fun x hx => by
        have h1 := h x hx
        have h2 : x ≠ n := fun e => hm (e ▸ hx)
        omega)
      omega
theorem UInv.len {L : List Nd} {roots done U : List Int} (h : UInv L roots done U) : U.length ≤ L.length := by
  have hn : (U.map Int.toNat).Nodup := by
    unfold List.Nodup
    rw [List.pairwise_map]
    refine List.Pairwise.imp_of_mem (fun {a b} ha hb hab => ?_) h.nodup
    have h1 := ((hasB_iff _ _).1 (h.has a ha)).1
    have h2 := ((hasB_iff _ _).1 (h.has b hb)).1
    omega
  have := nodup_len L.length _ hn fun k hk => by
    obtain ⟨u, hu, rfl⟩ := List.mem_map.1 hk
    obtain ⟨h0, h1⟩ := (hasB_iff _ _).1 (h.has u hu)
    omega
  simpa using this
/-- At the end: sorted, they are what Uses answers. -/
theorem uses_end {L : List Nd} {roots U S : List Int} (h : UInv L roots roots U) (hc : Clo L U U.length) (hp : S.Perm U) (hs : S.Pairwise (· ≤ ·)) : UsesSpec L roots S := by
  have hclo : ∀ r i, Reach L r i → r ∈ U → i ∈ U := by
    intro r i hr
    induction hr with
    | refl => exact fun h => h
    | step hpp _ ih =>
      intro hu
      obtain ⟨j, hj, hju⟩ := List.getElem_of_mem hu
      exact ih (hc j _ hj (by rw [List.getElem?_eq_getElem hj, hju]) _ hpp)
  refine ⟨?_, fun i => ⟨fun hi => h.reach i (hp.mem_iff.1 hi), ?_⟩⟩
  · have hn : S.Nodup := hp.nodup_iff.2 h.nodup
    exact (List.pairwise_and_iff.2 ⟨hs, hn⟩).imp fun {a b} hh => by obtain ⟨h1, h2⟩ := hh; omega
  · rintro ⟨r, hr, hb, hri⟩
    exact hp.mem_iff.2 (hclo r i hri (h.rts r hr hb))
end Go.Proofs.YtgkjdmojbndicaaGreatDoor

namespace Go.Proofs.YtgkjdmojbndicaaGreatDoor
open Go

/-- A digit. -/
def isDig (b : UInt8) : Bool := decide (48 ≤ b.toNat) && decide (b.toNat ≤ 57)
theorem dig_ofNat {i : Nat} (h : i < 10) : isDig (UInt8.ofNat (48 + i)) = true := by
  have : (UInt8.ofNat (48 + i)).toNat = 48 + i := by rw [UInt8.toNat_ofNat']; omega
  unfold isDig
  rw [this]
  simp; omega
theorem decDigits_dig (u : Nat) : ∀ b ∈ Lib.decDigits u, isDig b = true := by
  induction u using Nat.strongRecOn with
  | _ u ih =>
    intro b hb
    rw [Lib.decDigits] at hb
    split at hb
    · rename_i h
      rw [List.mem_singleton.1 hb]; exact dig_ofNat h
    · rcases List.mem_append.1 hb with hb | hb
      · exact ih (u / 10) (by omega) b hb
      · rw [List.mem_singleton.1 hb]; exact dig_ofNat (by omega)
/-- The number that digits stand for. -/
def valOf (l : List UInt8) : Nat := l.foldl (fun n b => n * 10 + (b.toNat - 48)) 0
theorem valOf_dec (u : Nat) : valOf (Lib.decDigits u) = u := by
  induction u using Nat.strongRecOn with
  | _ u ih =>
    rw [Lib.decDigits]
    split
    · rename_i h
      have : (UInt8.ofNat (48 + u)).toNat = 48 + u := by rw [UInt8.toNat_ofNat']; omega
      simp only [valOf, List.foldl_cons, List.foldl_nil, this]
      omega
    · have hi := ih (u / 10) (by omega)
      have : (UInt8.ofNat (48 + u % 10)).toNat = 48 + u % 10 := by rw [UInt8.toNat_ofNat']; omega
      unfold valOf at hi ⊢
      rw [List.foldl_append, hi, List.foldl_cons, List.foldl_nil, this]
      omega
/-- What may stand in a number's text: a digit, or '-'. -/
def isNum (b : UInt8) : Bool := isDig b || decide (b = 45)
theorem itoa_num (n : Int) : ∀ b ∈ Lib.itoa n, isNum b = true := by
  intro b hb
  unfold Lib.itoa at hb
  unfold isNum
  split at hb
  · rcases List.mem_cons.1 hb with hb | hb
    · rw [hb]; simp
    · rw [decDigits_dig _ b hb]; rfl
  · rw [decDigits_dig _ b hb]; rfl
theorem itoa_inj {a b : Int} (h : Lib.itoa a = Lib.itoa b) : a = b := by
  have dd : ∀ u, ∃ c l, Lib.decDigits u = c :: l ∧ isDig c = true := by
    intro u
    cases hd : Lib.decDigits u with
    | nil =>
      exfalso
      rw [Lib.decDigits] at hd
      split at hd
      · cases hd
      · simp at hd
    | cons c l => exact ⟨c, l, rfl, decDigits_dig u c (by rw [hd]; simp)⟩
  unfold Lib.itoa at h
  split at h
  · split at h
    · have := congrArg valOf (List.cons.inj h).2
      rw [valOf_dec, valOf_dec] at this
      omega
    · obtain ⟨c, l, hc, hd⟩ := dd b.toNat
      rw [hc] at h
      have := (List.cons.inj h).1
      rw [← this] at hd
      exact absurd hd (by decide)
  · split at h
    · obtain ⟨c, l, hc, hd⟩ := dd a.toNat
      rw [hc] at h
      have := (List.cons.inj h).1
      rw [this] at hd
      exact absurd hd (by decide)
    · have := congrArg valOf h
      rw [valOf_dec, valOf_dec] at this
      omega
/-- A number's text, and what stands behind it if that is no number's. -/
theorem itoa_split {a b : Int} {x y : List UInt8} (hx : ∀ c l, x = c :: l → isNum c = false) (hy : ∀ c l, y = c :: l → isNum c = false) (h : Lib.itoa a ++ x = Lib.itoa b ++ y) : a = b ∧ x = y := by
  have key : ∀ (l m x y : List UInt8), (∀ b ∈ l, isNum b = true) → (∀ b ∈ m, isNum b = true) → (∀ c r, x = c :: r → isNum c = false) → (∀ c r, y = c :: r → isNum c = false) → l ++ x = m ++ y → l = m ∧ x = y := by
    intro l
    induction l with
    | nil =>
      intro m x y _ hm hx _ h
      cases m with
      | nil => exact ⟨rfl, h⟩
      | cons c m =>
        have := hx c (m ++ y) h
        rw [hm c (by simp)] at this
        cases this
    | cons c l ih =>
      intro m x y hl hm hx hy h
      cases m with
      | nil =>
        have := hy c (l ++ x) h.symm
        rw [hl c (by simp)] at this
        cases this
      | cons d m =>
        have h1 := List.cons.inj h
        obtain ⟨h2, h3⟩ := ih m x y (fun b hb => hl b (by simp [hb])) (fun b hb => hm b (by simp [hb])) hx hy h1.2
        exact ⟨by rw [h1.1, h2], h3⟩
  obtain ⟨h1, h2⟩ := key _ _ x y (itoa_num a) (itoa_num b) hx hy h
  exact ⟨itoa_inj h1, h2⟩

theorem sign_inj {a b : Nat} {x y : List UInt8} (ha : 1 ≤ a ∧ a ≤ 16) (hb : 1 ≤ b ∧ b ≤ 16) (h : signOf (a : Int) ++ 32 :: x = signOf (b : Int) ++ 32 :: y) : a = b ∧ x = y := by
  obtain ⟨ha1, ha2⟩ := ha
  obtain ⟨hb1, hb2⟩ := hb
  unfold signOf at h
  rw [Int.toNat_natCast, Int.toNat_natCast] at h
  have A : a = 1 ∨ a = 2 ∨ a = 3 ∨ a = 4 ∨ a = 5 ∨ a = 6 ∨ a = 7 ∨ a = 8 ∨ a = 9 ∨ a = 10 ∨ a = 11 ∨ a = 12 ∨ a = 13 ∨ a = 14 ∨ a = 15 ∨ a = 16 := by omega
  have B : b = 1 ∨ b = 2 ∨ b = 3 ∨ b = 4 ∨ b = 5 ∨ b = 6 ∨ b = 7 ∨ b = 8 ∨ b = 9 ∨ b = 10 ∨ b = 11 ∨ b = 12 ∨ b = 13 ∨ b = 14 ∨ b = 15 ∨ b = 16 := by omega
  rcases A with rfl | rfl | rfl | rfl | rfl | rfl | rfl | rfl | rfl | rfl | rfl | rfl | rfl | rfl | rfl | rfl <;>
    rcases B with rfl | rfl | rfl | rfl | rfl | rfl | rfl | rfl | rfl | rfl | rfl | rfl | rfl | rfl | rfl | rfl <;>
    simp_all

theorem may_f1 {s : Nat} {d : Nd} (h : mayB s d = true) (hk : d.k = 1) : d = ⟨1, d.n, 0, 0, 0, 0⟩ := by
  simp [mayB, hk] at h
  exact Nd.ext' hk rfl h.1.1.1 h.1.1.2 h.1.2 h.2
theorem may_f2 {s : Nat} {d : Nd} (h : mayB s d = true) (hk : d.k = 2) : d = ⟨2, d.n, 0, 0, 0, 0⟩ := by
  simp [mayB, hk] at h
  exact Nd.ext' hk rfl h.1.1.1.1 h.1.1.1.2 h.1.1.2 h.1.2
theorem may_f3 {s : Nat} {d : Nd} (h : mayB s d = true) (hk : d.k = 3) : d = ⟨3, d.n, d.a, 0, 0, d.y⟩ := by
  simp [mayB, hk] at h
  exact Nd.ext' hk rfl rfl h.1.1.1.1 h.1.1.1.2 rfl
theorem may_f4 {s : Nat} {d : Nd} (h : mayB s d = true) (hk : d.k = 4) : d = ⟨4, 0, 0, d.o, d.x, d.y⟩ := by
  simp [mayB, hk] at h
  exact Nd.ext' hk h.1.1.1.1.1 h.1.1.1.1.2 rfl rfl rfl
/-- What a text begins with, by its node's kind. -/
theorem text_head {T : List (List UInt8)} {d : Nd} (hk : d.k = 1 ∨ d.k = 2 ∨ d.k = 3 ∨ d.k = 4) : ∃ c l, text1 T d = c :: l ∧ (d.k = 1 → isNum c = true) ∧ (d.k = 2 → c = 115) ∧ (d.k = 3 → c = 97) ∧ (d.k = 4 → c = 40) := by
  rcases hk with h | h | h | h
  · cases hi : Lib.itoa d.n with
    | nil =>
      exfalso
      unfold Lib.itoa at hi
      split at hi
      · cases hi
      · rw [Lib.decDigits] at hi
        split at hi
        · cases hi
        · simp at hi
    | cons c l =>
      have hc := itoa_num d.n c (by rw [hi]; simp)
      exact ⟨c, l, by simp [text1, h, mark0, hi], fun _ => hc, by omega, by omega, by omega⟩
  · exact ⟨115, Lib.itoa d.n, by simp [text1, h, mark0], by omega, fun _ => rfl, by omega, by omega⟩
  · exact ⟨97, _, by simp only [text1, h, mark0, if_true]; rfl, by omega, by omega, fun _ => rfl, by omega⟩
  · exact ⟨40, _, by simp only [text1, h, mark0]; rfl, by omega, by omega, by omega, fun _ => rfl⟩
/-- A text, and what stands behind it if that is no number's, tells its term. -/
theorem text_split {L : List Nd} (hG : Good L) : ∀ i j, i < L.length → j < L.length → ∀ x y : List UInt8, (∀ c l, x = c :: l → isNum c = false) → (∀ c l, y = c :: l → isNum c = false) → textOf L (i : Int) ++ x = textOf L (j : Int) ++ y → i = j ∧ x = y := by
  intro i
  induction i using Nat.strongRecOn with
  | _ i ih =>
    intro j hi hj x y hx hy h
    rw [textOf_eq L hG i hi, textOf_eq L hG j hj] at h
    have mi := hG.may i hi
    have mj := hG.may j hj
    have pi := may_parts mi
    have pj := may_parts mj
    have fin : L[i] = L[j] → i = j := fun e => by
      have hp := List.pairwise_iff_getElem.1 hG.nodup
      rcases Nat.lt_trichotomy i j with h | h | h
      · exact absurd e (hp i j hi hj h)
      · exact h
      · exact absurd e.symm (hp j i hj hi h)
    obtain ⟨d, hd⟩ : ∃ d, L[i] = d := ⟨_, rfl⟩
    obtain ⟨e, he⟩ : ∃ e, L[j] = e := ⟨_, rfl⟩
    rw [hd] at h mi pi fin
    rw [he] at h mj pj fin
    have kd := may_kind mi
    have ke := may_kind mj
    have hk : d.k = e.k := by
      obtain ⟨c, l, h1, a1, a2, a3, a4⟩ := text_head (T := texts L) kd
      obtain ⟨c', l', h2, b1, b2, b3, b4⟩ := text_head (T := texts L) ke
      rw [h1, h2] at h
      have hc : c = c' := (List.cons.inj h).1
      subst hc
      rcases kd with k | k | k | k <;> rcases ke with k' | k' | k' | k' <;> rw [k, k']
      all_goals first
        | (exfalso; have u := a1 k; rw [b2 k'] at u; exact absurd u (by decide))
        | (exfalso; have u := a1 k; rw [b3 k'] at u; exact absurd u (by decide))
        | (exfalso; have u := a1 k; rw [b4 k'] at u; exact absurd u (by decide))
        | (exfalso; have u := b1 k'; rw [a2 k] at u; exact absurd u (by decide))
        | (exfalso; have u := b1 k'; rw [a3 k] at u; exact absurd u (by decide))
        | (exfalso; have u := b1 k'; rw [a4 k] at u; exact absurd u (by decide))
        | (exfalso; have u := (a2 k).symm.trans (b3 k'); exact absurd u (by decide))
        | (exfalso; have u := (a2 k).symm.trans (b4 k'); exact absurd u (by decide))
        | (exfalso; have u := (a3 k).symm.trans (b2 k'); exact absurd u (by decide))
        | (exfalso; have u := (a3 k).symm.trans (b4 k'); exact absurd u (by decide))
        | (exfalso; have u := (a4 k).symm.trans (b2 k'); exact absurd u (by decide))
        | (exfalso; have u := (a4 k).symm.trans (b3 k'); exact absurd u (by decide))
    have part : ∀ p q : Int, p ∈ partsOf d → q ∈ partsOf e → ∀ u v : List UInt8, (∀ c l, u = c :: l → isNum c = false) → (∀ c l, v = c :: l → isNum c = false) → tAt (texts L) p ++ u = tAt (texts L) q ++ v → p = q ∧ u = v := by
      intro p q hp hq u v hu hv huv
      obtain ⟨p0, p1⟩ := pi p hp
      obtain ⟨q0, q1⟩ := pj q hq
      obtain ⟨p', rfl⟩ : ∃ p' : Nat, p = p' := ⟨p.toNat, by omega⟩
      obtain ⟨q', rfl⟩ : ∃ q' : Nat, q = q' := ⟨q.toNat, by omega⟩
      obtain ⟨h1, h2⟩ := ih p' (by omega) q' (by omega) (by omega) u v hu hv huv
      exact ⟨by rw [h1], h2⟩
    have lit : ∀ (a : UInt8) (r : List UInt8), isNum a = false → ∀ c l, a :: r = c :: l → isNum c = false := fun a r ha c l e => by rw [← (List.cons.inj e).1]; exact ha
    rcases kd with k | k | k | k
    · have k' := hk.symm.trans k
      simp only [text1, mark0, k, k', if_true] at h
      simp at h
      obtain ⟨h1, h2⟩ := itoa_split hx hy h
      refine ⟨fin ?_, h2⟩
      rw [may_f1 mi k, may_f1 mj k', h1]
    · have k' := hk.symm.trans k
      simp only [text1, mark0, k, k'] at h
      simp at h
      obtain ⟨h1, h2⟩ := itoa_split hx hy h
      refine ⟨fin ?_, h2⟩
      rw [may_f2 mi k, may_f2 mj k', h1]
    · have k' := hk.symm.trans k
      simp only [text1, mark0, mark1, k, k', if_true] at h
      simp at h
      obtain ⟨h1, h2⟩ := itoa_split (lit 118 _ (by decide)) (lit 118 _ (by decide)) h
      have h2 := (List.cons.inj h2).2
      obtain ⟨h3, h4⟩ := itoa_split (lit 91 _ (by decide)) (lit 91 _ (by decide)) h2
      have h4 := (List.cons.inj h4).2
      obtain ⟨h5, h6⟩ := part d.y e.y (by simp [partsOf, k]) (by simp [partsOf, k']) _ _ (lit 93 _ (by decide)) (lit 93 _ (by decide)) h4
      refine ⟨fin ?_, (List.cons.inj h6).2⟩
      rw [may_f3 mi k, may_f3 mj k', h1, h3, h5]
    · have k' := hk.symm.trans k
      simp only [text1, mark0, mark1, mark2, k, k'] at h
      simp at h
      obtain ⟨h1, h2⟩ := part d.x e.x (by simp [partsOf, k]) (by simp [partsOf, k']) _ _ (lit 32 _ (by decide)) (lit 32 _ (by decide)) h
      have h2 := (List.cons.inj h2).2
      obtain ⟨o1, o2⟩ := may_op mi k
      obtain ⟨o3, o4⟩ := may_op mj k'
      have ed : d.o = ((d.o.toNat : Nat) : Int) := by omega
      have ee : e.o = ((e.o.toNat : Nat) : Int) := by omega
      rw [ed, ee] at h2
      obtain ⟨h3, h4⟩ := sign_inj (by omega) (by omega) h2
      obtain ⟨h5, h6⟩ := part d.y e.y (by simp [partsOf, k]) (by simp [partsOf, k']) _ _ (lit 41 _ (by decide)) (lit 41 _ (by decide)) h4
      refine ⟨fin ?_, (List.cons.inj h6).2⟩
      have ho : d.o = e.o := by omega
      rw [may_f4 mi k, may_f4 mj k', ho, h1, h5]
theorem text_inj {L : List Nd} (hG : Good L) {i j : Nat} (hi : i < L.length) (hj : j < L.length) (h : textOf L (i : Int) = textOf L (j : Int)) : i = j :=
  (text_split hG i j hi hj [] [] (by simp) (by simp) (by rw [h])).1
end Go.Proofs.YtgkjdmojbndicaaGreatDoor
