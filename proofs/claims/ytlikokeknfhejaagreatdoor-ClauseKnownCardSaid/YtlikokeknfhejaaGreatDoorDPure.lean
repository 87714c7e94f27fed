/-
  Layer 5, plain: a formula's text, read again: its words, its numbers. Nothing of the program but the text's own words.
-/
import Derived.Test.YtlikokeknfhejaaGreatDoorCPut
import Derived.Lib.AtoiTie
namespace Go.Proofs.YtlikokeknfhejaaGreatDoor
open Go

/-- A digit. -/
def isDig (b : UInt8) : Bool := decide (48 ≤ b.toNat) && decide (b.toNat ≤ 57)
theorem dig_ofNat {i : Nat} (h : i < 10) : isDig (UInt8.ofNat (48 + i)) = true := by
  have : (UInt8.ofNat (48 + i)).toNat = 48 + i := by rw [UInt8.toNat_ofNat']; omega
  unfold isDig
  rw [this]
  simp; omega
theorem decDigits_dig (u : Nat) : ∀ b ∈ Lib.decDigits u, isDig b = true := by
  induction u using Nat.strongRecOn with
  | _ u ih =>
    intro b hb
    rw [Lib.decDigits] at hb
    split at hb
    · rename_i h
      rw [List.mem_singleton.1 hb]; exact dig_ofNat h
    · rcases List.mem_append.1 hb with hb | hb
      · exact ih (u / 10) (by omega) b hb
      · rw [List.mem_singleton.1 hb]; exact dig_ofNat (by omega)
/-- The number that digits stand for. -/
def valOf (l : List UInt8) : Nat := l.foldl (fun n b => n * 10 + (b.toNat - 48)) 0
theorem valOf_dec (u : Nat) : valOf (Lib.decDigits u) = u := by
  induction u using Nat.strongRecOn with
  | _ u ih =>
    rw [Lib.decDigits]
    split
    · rename_i h
      have : (UInt8.ofNat (48 + u)).toNat = 48 + u := by rw [UInt8.toNat_ofNat']; omega
      simp only [valOf, List.foldl_cons, List.foldl_nil, this]
      omega
    · have hi := ih (u / 10) (by omega)
      have : (UInt8.ofNat (48 + u % 10)).toNat = 48 + u % 10 := by rw [UInt8.toNat_ofNat']; omega
      unfold valOf at hi ⊢
      rw [List.foldl_append, hi, List.foldl_cons, List.foldl_nil, this]
      omega
/-- What may stand in a number's text: a digit, or '-'. -/
def isNum (b : UInt8) : Bool := isDig b || decide (b = 45)
theorem itoa_num (n : Int) : ∀ b ∈ Lib.itoa n, isNum b = true := by
  intro b hb
  unfold Lib.itoa at hb
  unfold isNum
  split at hb
  · rcases List.mem_cons.1 hb with hb | hb
    · rw [hb]; simp
    · rw [decDigits_dig _ b hb]; rfl
  · rw [decDigits_dig _ b hb]; rfl
theorem itoa_inj {a b : Int} (h : Lib.itoa a = Lib.itoa b) : a = b := by
  have dd : ∀ u, ∃ c l, Lib.decDigits u = c :: l ∧ isDig c = true := by
    intro u
    cases hd : Lib.decDigits u with
    | nil =>
      exfalso
      rw [Lib.decDigits] at hd
      split at hd
      · cases hd
      · simp at hd
    | cons c l => exact ⟨c, l, rfl, decDigits_dig u c (by rw [hd]; simp)⟩
  unfold Lib.itoa at h
  split at h
  · split at h
    · have := congrArg valOf (List.cons.inj h).2
      rw [valOf_dec, valOf_dec] at this
      omega
    · obtain ⟨c, l, hc, hd⟩ := dd b.toNat
      rw [hc] at h
      have := (List.cons.inj h).1
      rw [← this] at hd
      exact absurd hd (by decide)
  · split at h
    · obtain ⟨c, l, hc, hd⟩ := dd a.toNat
      rw [hc] at h
      have := (List.cons.inj h).1
      rw [this] at hd
      exact absurd hd (by decide)
    · have := congrArg valOf h
      rw [valOf_dec, valOf_dec] at this
      omega
theorem dec_ne (u : Nat) : Lib.decDigits u ≠ [] := by
  rw [Lib.decDigits]
  split <;> simp
theorem itoa_ne (n : Int) : Lib.itoa n ≠ [] := by
  unfold Lib.itoa
  split
  · simp
  · exact dec_ne _
theorem itoa_zero : Lib.itoa 0 = [48] := by
  have : Lib.itoa ((0 : Nat) : Int) = Lib.decDigits 0 := Lib.itoa_nonneg 0
  rw [Lib.decDigits_one (by omega)] at this
  exact this

/-! ### Words -/
def isSep (b : UInt8) : Bool := b == 32 || b == 10
theorem num_sep {b : UInt8} (h : isNum b = true) : isSep b = false := by
  unfold isNum isDig at h
  unfold isSep
  rw [Bool.or_eq_false_iff]
  refine ⟨beq_eq_false_iff_ne.2 ?_, beq_eq_false_iff_ne.2 ?_⟩ <;> (rintro rfl; revert h; decide)
def wordsFrom (acc : List UInt8) : List UInt8 → List (List UInt8)
  | [] => []
  | c :: r => if isSep c then acc :: wordsFrom [] r else wordsFrom (acc ++ [c]) r
def wordsOf (b : List UInt8) : List (List UInt8) := wordsFrom [] b
theorem words_go : ∀ (w acc r : List UInt8) (s : UInt8), (∀ b ∈ w, isSep b = false) → isSep s = true → wordsFrom acc (w ++ s :: r) = (acc ++ w) :: wordsOf r
  | [], acc, r, s, _, hs => by simp [wordsFrom, wordsOf, hs]
  | c :: w, acc, r, s, hw, hs => by
    have hc := hw c (by simp)
    rw [List.cons_append, wordsFrom, if_neg (by rw [hc]; simp), words_go w (acc ++ [c]) r s (fun b hb => hw b (by simp [hb])) hs]
    simp
theorem words_one (w r : List UInt8) (s : UInt8) (hw : ∀ b ∈ w, isSep b = false) (hs : isSep s = true) : wordsOf (w ++ s :: r) = w :: wordsOf r := by
  unfold wordsOf
  rw [words_go w [] r s hw hs]; rfl
theorem words_lits (c : List Int) (r : List UInt8) : wordsOf (c.flatMap litT ++ r) = c.map Lib.itoa ++ wordsOf r := by
  induction c with
  | nil => rfl
  | cons x c ih =>
    rw [List.flatMap_cons, List.append_assoc, litT, List.append_assoc, List.singleton_append, words_one _ _ 32 (fun b hb => num_sep (itoa_num x b hb)) (by decide), ih]
    rfl
/-- The numbers of the clauses, each behind with its 0. -/
def numsOf (C : List (List Int)) : List Int := C.flatMap fun c => c ++ [0]
theorem words_body (C : List (List Int)) : wordsOf (C.flatMap lineT) = (numsOf C).map Lib.itoa := by
  induction C with
  | nil => rfl
  | cons c C ih =>
    have e : ([48, 10] : List UInt8) ++ C.flatMap lineT = [48] ++ 10 :: C.flatMap lineT := rfl
    rw [List.flatMap_cons, lineT, List.append_assoc, words_lits, e, words_one [48] _ 10 (by decide) (by decide), ih]
    unfold numsOf
    rw [List.flatMap_cons, List.map_append, List.map_append, List.append_assoc]
    simp [itoa_zero]
theorem words_put (V : Int) (C : List (List Int)) : wordsOf (putT V C) = [112] :: [99, 110, 102] :: Lib.itoa V :: Lib.itoa (C.length : Int) :: (numsOf C).map Lib.itoa := by
  have e : putT V C = [112] ++ 32 :: ([99, 110, 102] ++ 32 :: (Lib.itoa V ++ 32 :: (Lib.itoa (C.length : Int) ++ 10 :: C.flatMap lineT))) := by
    unfold putT headT; simp
  rw [e, words_one _ _ 32 (by decide) (by decide), words_one _ _ 32 (by decide) (by decide), words_one _ _ 32 (fun b hb => num_sep (itoa_num V b hb)) (by decide), words_one _ _ 10 (fun b hb => num_sep (itoa_num _ b hb)) (by decide), words_body]

/-- Clauses of numbers: those that stand by now, and what is begun. -/
def clStep (st : List (List Int) × List Int) (k : Int) : List (List Int) × List Int := if k = 0 then (st.1 ++ [st.2], []) else (st.1, st.2 ++ [k])
def clOf (L : List Int) : List (List Int) × List Int := L.foldl clStep ([], [])
theorem clOf_snoc (L : List Int) (k : Int) : clOf (L ++ [k]) = clStep (clOf L) k := by unfold clOf; rw [List.foldl_append]; rfl
theorem fold_lits (c : List Int) (hc : ∀ x ∈ c, x ≠ 0) : ∀ st, (c ++ [0]).foldl clStep st = (st.1 ++ [st.2 ++ c], []) := by
  induction c with
  | nil => intro st; simp [clStep]
  | cons x c ih =>
    intro st
    rw [List.cons_append, List.foldl_cons, ih (fun y hy => hc y (by simp [hy]))]
    simp [clStep, hc x (by simp)]
theorem fold_nums (C : List (List Int)) (hC : NoZero C) : ∀ D, (numsOf C).foldl clStep (D, []) = (D ++ C, []) := by
  induction C with
  | nil => intro D; simp [numsOf]
  | cons c C ih =>
    intro D
    have e : numsOf (c :: C) = (c ++ [0]) ++ numsOf C := by unfold numsOf; rw [List.flatMap_cons]
    rw [e, List.foldl_append, fold_lits c (fun x hx => hC c (by simp) x hx), ih (fun d hd => hC d (by simp [hd]))]
    simp
theorem clOf_nums (C : List (List Int)) (hC : NoZero C) : clOf (numsOf C) = (C, []) := by
  have := fold_nums C hC []
  simpa [clOf] using this
theorem map_inj : ∀ {L M : List Int}, L.map Lib.itoa = M.map Lib.itoa → L = M
  | [], [], _ => rfl
  | [], _ :: _, h => by simp at h
  | _ :: _, [], h => by simp at h
  | x :: L, y :: M, h => by
    simp only [List.map_cons, List.cons.injEq] at h
    rw [itoa_inj h.1, map_inj h.2]
theorem put_inj {V W : Int} {C D : List (List Int)} (hC : NoZero C) (hD : NoZero D) (h : putT V C = putT W D) : V = W ∧ C = D := by
  have h1 := congrArg wordsOf h
  rw [words_put, words_put] at h1
  simp only [List.cons.injEq, true_and] at h1
  refine ⟨itoa_inj h1.1, ?_⟩
  have h2 := map_inj h1.2.2
  have h3 := clOf_nums C hC
  rw [h2, clOf_nums D hD] at h3
  exact (Prod.mk.inj h3).1.symm

/-! ### The reference's numbers -/
def numMag : List UInt8 → Nat → Option Nat
  | [], n => some n
  | c :: r, n => if isDig c = true ∧ n ≤ 1073741824 then numMag r (n * 10 + (c.toNat - 48)) else none
theorem numMag_app (l : List UInt8) (c : UInt8) (hc : isDig c = true) : ∀ n m, numMag l n = some m → m ≤ 1073741824 → numMag (l ++ [c]) n = some (m * 10 + (c.toNat - 48)) := by
  induction l with
  | nil => intro n m h hm; simp only [numMag, Option.some.injEq] at h; subst h; simp [numMag, hc, hm]
  | cons d l ih =>
    intro n m h hm
    simp only [numMag] at h
    split at h
    · rename_i hd
      rw [List.cons_append, numMag, if_pos hd]
      exact ih _ m h hm
    · cases h
theorem numMag_dec (u : Nat) (hu : u ≤ 1073741824) : numMag (Lib.decDigits u) 0 = some u := by
  induction u using Nat.strongRecOn with
  | _ u ih =>
    rw [Lib.decDigits]
    split
    · rename_i h
      have e : (UInt8.ofNat (48 + u)).toNat = 48 + u := by rw [UInt8.toNat_ofNat']; omega
      have := numMag_app [] (UInt8.ofNat (48 + u)) (dig_ofNat h) 0 0 rfl (by omega)
      rw [List.nil_append, e] at this
      rw [this]
      congr 1; omega
    · have e : (UInt8.ofNat (48 + u % 10)).toNat = 48 + u % 10 := by rw [UInt8.toNat_ofNat']; omega
      rw [numMag_app _ _ (dig_ofNat (by omega)) 0 (u / 10) (ih (u / 10) (by omega) (by omega)) (by omega), e]
      congr 1; omega
/-- Does it begin with a minus? -/
def isNeg (s : List UInt8) : Bool := s.head? == some 45
def numR (s : List UInt8) : Option Nat := if isNeg s = true then numMag (s.drop 1) 0 else numMag s 0
def numV (s : List UInt8) : Int := match numR s with
  | none => 0
  | some m => if isNeg s = true then -(m : Int) else m
def numO (s : List UInt8) : Bool := (numR s).isSome && (Lib.itoa (numV s) == s)
theorem numMag_le : ∀ (l : List UInt8) (n m : Nat), n ≤ 10737418500 → numMag l n = some m → m ≤ 10737418500
  | [], n, m, hn, h => by simp only [numMag, Option.some.injEq] at h; omega
  | c :: r, n, m, hn, h => by
    simp only [numMag] at h
    split at h
    · rename_i hd
      have h9 : c.toNat - 48 ≤ 9 := by
        have := hd.1
        unfold isDig at this
        simp at this
        omega
      exact numMag_le r _ m (by omega) h
    · cases h
theorem numV_in (s : List UInt8) : -10737418500 ≤ numV s ∧ numV s ≤ 10737418500 := by
  unfold numV
  cases h : numR s with
  | none => simp
  | some m =>
    have hm : m ≤ 10737418500 := by
      unfold numR at h
      split at h
      · exact numMag_le _ 0 m (by omega) h
      · exact numMag_le _ 0 m (by omega) h
    simp only
    split <;> omega
theorem dig_neg {u : Nat} : isNeg (Lib.decDigits u) = false := by
  unfold isNeg
  cases hd : Lib.decDigits u with
  | nil => rfl
  | cons c l =>
    have h1 := decDigits_dig u c (by rw [hd]; simp)
    rw [List.head?_cons]
    apply beq_eq_false_iff_ne.2
    intro h
    rw [Option.some.inj h] at h1
    revert h1; decide
theorem numR_itoa {v : Int} (h1 : -1073741824 ≤ v) (h2 : v ≤ 1073741824) : numR (Lib.itoa v) = some v.natAbs ∧ (isNeg (Lib.itoa v) = true ↔ v < 0) := by
  by_cases h : v < 0
  · obtain ⟨u, rfl⟩ : ∃ u : Nat, v = -(u : Int) := ⟨v.natAbs, by omega⟩
    have e : Lib.itoa (-(u : Int)) = 45 :: Lib.decDigits u := Lib.itoa_neg u (by omega)
    rw [e]
    have hn : isNeg (45 :: Lib.decDigits u) = true := rfl
    refine ⟨?_, by rw [hn]; simp; omega⟩
    unfold numR
    rw [if_pos hn, List.drop_one, List.tail_cons, numMag_dec u (by omega)]
    congr 1; omega
  · obtain ⟨u, rfl⟩ : ∃ u : Nat, v = (u : Int) := ⟨v.toNat, by omega⟩
    rw [Lib.itoa_nonneg]
    refine ⟨?_, by rw [dig_neg]; simp⟩
    unfold numR
    rw [if_neg (by rw [dig_neg]; simp), numMag_dec u (by omega)]
    congr 1
theorem numV_itoa {v : Int} (h1 : -1073741824 ≤ v) (h2 : v ≤ 1073741824) : numV (Lib.itoa v) = v := by
  obtain ⟨h3, h4⟩ := numR_itoa h1 h2
  unfold numV
  rw [h3]
  simp only
  by_cases h : v < 0
  · rw [if_pos (h4.2 h)]; omega
  · rw [if_neg (fun k => h (h4.1 k))]; omega
theorem numO_itoa {v : Int} (h1 : -1073741824 ≤ v) (h2 : v ≤ 1073741824) : numO (Lib.itoa v) = true := by
  unfold numO
  rw [(numR_itoa h1 h2).1, numV_itoa h1 h2]
  simp

/-! ### strconv.Atoi's numbers -/
theorem decFrom_app (l : List UInt8) (c : UInt8) (d : Nat) (hc : Lib.digitVal c = some d) : ∀ n m, Lib.decFrom n l = some m → Lib.decFrom n (l ++ [c]) = some (m * 10 + d) := by
  induction l with
  | nil => intro n m h; simp only [Lib.decFrom, Option.some.injEq] at h; subst h; simp [Lib.decFrom, hc]
  | cons b l ih =>
    intro n m h
    simp only [List.cons_append, Lib.decFrom] at h ⊢
    cases hb : Lib.digitVal b with
    | none => rw [hb] at h; cases h
    | some e =>
      rw [hb] at h
      exact ih _ m h
theorem digitVal_ofNat {i : Nat} (h : i < 10) : Lib.digitVal (UInt8.ofNat (48 + i)) = some i := by
  have e : (UInt8.ofNat (48 + i)).toNat = 48 + i := by rw [UInt8.toNat_ofNat']; omega
  unfold Lib.digitVal
  rw [e, if_pos (by omega)]
  congr 1; omega
theorem decFrom_dec (u : Nat) : Lib.decFrom 0 (Lib.decDigits u) = some u := by
  induction u using Nat.strongRecOn with
  | _ u ih =>
    rw [Lib.decDigits]
    split
    · rename_i h
      have := decFrom_app [] (UInt8.ofNat (48 + u)) u (digitVal_ofNat h) 0 0 rfl
      rw [List.nil_append] at this
      rw [this]
      congr 1; omega
    · rw [decFrom_app _ _ (u % 10) (digitVal_ofNat (by omega)) 0 (u / 10) (ih (u / 10) (by omega))]
      congr 1; omega
theorem decNat_dec (u : Nat) : Lib.decNat (Lib.decDigits u) = some u := by
  unfold Lib.decNat
  have := dec_ne u
  cases hd : Lib.decDigits u with
  | nil => exact absurd hd this
  | cons c l =>
    rw [List.isEmpty_cons, ← hd]
    simpa using decFrom_dec u
theorem atoi_itoa (v : Int) : Lib.atoi (Lib.itoa v) = some v := by
  by_cases h : v < 0
  · obtain ⟨u, rfl⟩ : ∃ u : Nat, v = -(u : Int) := ⟨v.natAbs, by omega⟩
    rw [Lib.itoa_neg u (by omega)]
    simp [Lib.atoi, decNat_dec]
  · obtain ⟨u, rfl⟩ : ∃ u : Nat, v = (u : Int) := ⟨v.toNat, by omega⟩
    rw [Lib.itoa_nonneg]
    have hd := decNat_dec u
    have hg := decDigits_dig u
    cases hl : Lib.decDigits u with
    | nil => exact absurd hl (dec_ne u)
    | cons c l =>
      rw [hl] at hd hg
      have hc := hg c (by simp)
      have h1 : (c == 45) = false := beq_eq_false_iff_ne.2 (by rintro rfl; revert hc; decide)
      have h2 : (c == 43) = false := beq_eq_false_iff_ne.2 (by rintro rfl; revert hc; decide)
      simp [Lib.atoi, h1, h2, hd]
theorem decDigits_len (u k : Nat) (h : u < 10 ^ k) (hk : 0 < k) : (Lib.decDigits u).length ≤ k := by
  induction k generalizing u with
  | zero => omega
  | succ k ih =>
    rw [Lib.decDigits]
    split
    · simp
    · rename_i h10
      rw [List.length_append, List.length_singleton]
      by_cases h0 : k = 0
      · subst h0; omega
      · have := ih (u / 10) (by rw [Nat.pow_succ] at h; omega) (by omega)
        omega
theorem atoiAll_itoa {v : Int} (h1 : -1073741824 ≤ v) (h2 : v ≤ 1073741824) : Lib.atoiAll (Lib.itoa v) = .ok v := by
  have hl : (Lib.itoa v).length ≤ 18 := by
    unfold Lib.itoa
    split
    · rw [List.length_cons]
      have := decDigits_len v.natAbs 10 (by omega) (by omega)
      omega
    · have := decDigits_len v.toNat 10 (by omega) (by omega)
      omega
  rw [Lib.atoiAll_short _ hl, atoi_itoa]
  rfl
end Go.Proofs.YtlikokeknfhejaaGreatDoor
