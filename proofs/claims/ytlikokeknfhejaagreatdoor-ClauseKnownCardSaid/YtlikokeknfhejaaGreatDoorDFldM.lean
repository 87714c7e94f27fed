/-
  Layer 5, plain: the fields of a text, as bytes.Fields finds them in plain bytes. Nothing of the program but words in memory.
-/
import Derived.Test.YtlikokeknfhejaaGreatDoorDWords
import Derived.Deep.OwnRows
namespace Go.Proofs.YtlikokeknfhejaaGreatDoor
open Go Go.RowKit

def spN (k : Nat) : Nat := if k = 9 ∨ k = 10 ∨ k = 11 ∨ k = 12 ∨ k = 13 ∨ k = 32 then 1 else 0
def isSp (c : UInt8) : Bool := spN c.toNat == 1
def fldFrom (acc : List UInt8) : List UInt8 → List (List UInt8)
  | [] => if acc = [] then [] else [acc]
  | c :: r => if isSp c = true then (if acc = [] then fldFrom [] r else acc :: fldFrom [] r) else fldFrom (acc ++ [c]) r
def fieldsOf (L : List UInt8) : List (List UInt8) := fldFrom [] L
/-- How many fields begin; was the byte ahead a space? -/
def cntF (was : Bool) : List UInt8 → Nat
  | [] => 0
  | c :: r => (if was = true ∧ isSp c = false then 1 else 0) + cntF (isSp c) r
theorem fld_len : ∀ (L acc : List UInt8), (fldFrom acc L).length = (if acc = [] then 0 else 1) + cntF (decide (acc = [])) L
  | [], acc => by
    simp only [fldFrom, cntF]
    split <;> simp
  | c :: r, acc => by
    rw [fldFrom]
    cases hc : isSp c with
    | true =>
      rw [if_pos rfl]
      have e : cntF (decide (acc = [])) (c :: r) = cntF true r := by rw [cntF, hc]; simp
      rw [e]
      split
      · rw [fld_len r []]; simp
      · rw [List.length_cons, fld_len r []]; simp; omega
    | false =>
      rw [if_neg (by simp), fld_len r (acc ++ [c])]
      have e : cntF (decide (acc = [])) (c :: r) = (if acc = [] then 1 else 0) + cntF false r := by
        rw [cntF, hc]
        by_cases h : acc = [] <;> simp [h]
      rw [e]
      by_cases h : acc = [] <;> simp [h]
theorem fields_cnt (L : List UInt8) : (fieldsOf L).length = cntF true L := by
  unfold fieldsOf; rw [fld_len]; simp
theorem cntF_le : ∀ (L : List UInt8) (b : Bool), cntF b L ≤ L.length
  | [], b => by simp [cntF]
  | c :: r, b => by
    rw [cntF, List.length_cons]
    have := cntF_le r (isSp c)
    split <;> omega
def wasF (b : Bool) (L : List UInt8) : Bool := (L.getLast?.map isSp).getD b
theorem wasF_snoc (b : Bool) (L : List UInt8) (c : UInt8) : wasF b (L ++ [c]) = isSp c := by unfold wasF; simp
theorem wasF_cons (b : Bool) (x : UInt8) (L : List UInt8) : wasF b (x :: L) = wasF (isSp x) L := by
  unfold wasF
  cases L with
  | nil => rfl
  | cons y r => rw [List.getLast?_cons_cons]; cases h : (y :: r).getLast? with
    | none => simp at h
    | some z => rfl
theorem cntF_snoc : ∀ (L : List UInt8) (b : Bool) (c : UInt8), cntF b (L ++ [c]) = cntF b L + (if wasF b L = true ∧ isSp c = false then 1 else 0)
  | [], b, c => by
    rw [List.nil_append, cntF, cntF, cntF]
    have : wasF b [] = b := rfl
    rw [this]; omega
  | x :: r, b, c => by
    rw [List.cons_append, cntF, cntF_snoc r (isSp x) c, cntF, wasF_cons]
    omega
theorem fld_go : ∀ (w acc r : List UInt8), (∀ b ∈ w, isSp b = false) → fldFrom acc (w ++ r) = fldFrom (acc ++ w) r
  | [], acc, r, _ => by simp
  | c :: w, acc, r, h => by
    rw [List.cons_append, fldFrom, if_neg (by rw [h c (by simp)]; simp), fld_go w (acc ++ [c]) r (fun b hb => h b (by simp [hb]))]
    simp
theorem fields_one (w r : List UInt8) (hw : ∀ b ∈ w, isSp b = false) (hne : w ≠ []) : fieldsOf (w ++ 32 :: r) = w :: fieldsOf r := by
  unfold fieldsOf
  rw [fld_go w [] _ hw, List.nil_append, fldFrom, if_pos (by decide), if_neg hne]
theorem fields_last (w : List UInt8) (hw : ∀ b ∈ w, isSp b = false) (hne : w ≠ []) : fieldsOf w = [w] := by
  unfold fieldsOf
  have := fld_go w [] [] hw
  rw [List.append_nil, List.nil_append] at this
  rw [this, fldFrom, if_neg hne]
theorem num_nosp {b : UInt8} (h : isNum b = true) : isSp b = false := by
  unfold isNum isDig at h
  unfold isSp spN
  simp only [Bool.or_eq_true, Bool.and_eq_true, decide_eq_true_eq] at h
  rw [if_neg]
  · rfl
  · rcases h with h | h
    · omega
    · rw [h]; decide
theorem num_plain {b : UInt8} (h : isNum b = true) : b.toNat < 128 := by
  unfold isNum isDig at h
  simp only [Bool.or_eq_true, Bool.and_eq_true, decide_eq_true_eq] at h
  rcases h with h | h
  · omega
  · rw [h]; decide
theorem itoa_nosp (x : Int) : ∀ b ∈ Lib.itoa x, isSp b = false := fun b hb => num_nosp (itoa_num x b hb)
theorem fields_lits (c : List Int) (r : List UInt8) : fieldsOf (c.flatMap litT ++ r) = c.map Lib.itoa ++ fieldsOf r := by
  induction c with
  | nil => rfl
  | cons x c ih =>
    rw [List.flatMap_cons, List.append_assoc, litT, List.append_assoc, List.singleton_append, fields_one _ _ (itoa_nosp x) (itoa_ne x), ih]
    rfl
/-- A line without its end: the literals, and 0. -/
def bodyT (c : List Int) : List UInt8 := c.flatMap litT ++ [48]
theorem line_body (c : List Int) : lineT c = bodyT c ++ [10] := by unfold lineT bodyT; simp
theorem fields_body (c : List Int) : fieldsOf (bodyT c) = (c ++ [0]).map Lib.itoa := by
  unfold bodyT
  rw [fields_lits, fields_last [48] (by decide) (by simp), List.map_append]
  simp [itoa_zero]
def headB (V : Int) (n : Nat) : List UInt8 := [112, 32, 99, 110, 102, 32] ++ Lib.itoa V ++ [32] ++ Lib.itoa (n : Int)
theorem head_body (V : Int) (n : Nat) : headT V n = headB V n ++ [10] := by unfold headT headB; simp
theorem fields_head (V : Int) (n : Nat) : fieldsOf (headB V n) = [[112], [99, 110, 102], Lib.itoa V, Lib.itoa (n : Int)] := by
  have e : headB V n = [112] ++ 32 :: ([99, 110, 102] ++ 32 :: (Lib.itoa V ++ 32 :: Lib.itoa (n : Int))) := by unfold headB; simp
  rw [e, fields_one _ _ (by decide) (by simp), fields_one _ _ (by decide) (by simp), fields_one _ _ (itoa_nosp V) (itoa_ne V), fields_last _ (itoa_nosp _) (itoa_ne _)]
theorem plain_lits (c : List Int) : ∀ b ∈ c.flatMap litT, b.toNat < 128 := by
  intro b hb
  obtain ⟨x, _, hx⟩ := List.mem_flatMap.1 hb
  unfold litT at hx
  rcases List.mem_append.1 hx with h | h
  · exact num_plain (itoa_num x b h)
  · rw [List.mem_singleton.1 h]; decide
theorem plain_body (c : List Int) : ∀ b ∈ bodyT c, b.toNat < 128 := by
  intro b hb
  unfold bodyT at hb
  rcases List.mem_append.1 hb with h | h
  · exact plain_lits c b h
  · rw [List.mem_singleton.1 h]; decide
theorem plain_head (V : Int) (n : Nat) : ∀ b ∈ headB V n, b.toNat < 128 := by
  intro b hb
  unfold headB at hb
  simp only [List.mem_append] at hb
  rcases hb with ((h | h) | h) | h
  · revert h b; decide
  · exact num_plain (itoa_num V b h)
  · rw [List.mem_singleton.1 h]; decide
  · exact num_plain (itoa_num _ b h)
/-- No byte of it ends a line. -/
theorem noend_body (c : List Int) : (10 : UInt8) ∉ bodyT c := by
  intro hb
  unfold bodyT at hb
  rcases List.mem_append.1 hb with h | h
  · obtain ⟨x, _, hx⟩ := List.mem_flatMap.1 h
    unfold litT at hx
    rcases List.mem_append.1 hx with h | h
    · have := num_sep (itoa_num x _ h); revert this; decide
    · revert h; decide
  · revert h; decide
theorem noend_head (V : Int) (n : Nat) : (10 : UInt8) ∉ headB V n := by
  intro hb
  unfold headB at hb
  simp only [List.mem_append] at hb
  rcases hb with ((h | h) | h) | h
  · revert h; decide
  · have := num_sep (itoa_num V _ h); revert this; decide
  · revert h; decide
  · have := num_sep (itoa_num _ _ h); revert this; decide

theorem fld_mem_len : ∀ (L acc : List UInt8), ∀ x ∈ fldFrom acc L, x.length ≤ acc.length + L.length
  | [], acc, x, hx => by
    rw [fldFrom] at hx
    split at hx
    · cases hx
    · rw [List.mem_singleton.1 hx]; simp
  | c :: r, acc, x, hx => by
    rw [fldFrom] at hx
    split at hx
    · split at hx
      · have := fld_mem_len r [] x hx; simp at this ⊢; omega
      · rcases List.mem_cons.1 hx with rfl | hx
        · simp
        · have := fld_mem_len r [] x hx; simp at this ⊢; omega
    · have := fld_mem_len r (acc ++ [c]) x hx; simp at this ⊢; omega
theorem setCellB_row {w : World} {b : Nat} {cs : Array Value} {t : TypeId} {fr : Nat × Nat} (h : w.heap[b]? = some (.cells cs t fr)) (o : Nat) (v : Value) : (w.setCell ⟨b, o, none⟩ v).heap[b]? = some (.cells (cs.setIfInBounds o v) t fr) := by
  simp only [World.setCell, Array.getElem?_modify, if_true, h]
  rfl
/-- A row of pieces that is being filled. -/
structure FRow (w0 w : World) (g m : Nat) (P : List (List UInt8)) : Prop where
  kept : Kept w0 w
  new : w0.heap.size ≤ g
  row : ∃ cs : Array Value, cs.size = m ∧ w.heap[g]? = some (.cells cs 26 (0, 0)) ∧ ∀ (j : Nat) (x : List UInt8), P[j]? = some x → ∃ b o k, cs[j]? = some (.slice (some ⟨b, o, none⟩) k k) ∧ BytesAt w0 (some ⟨b, o, none⟩) k x
theorem FRow.made (w0 : World) (m : Nat) : FRow w0 (w0.alloc (.cells (madeCells #[.slice none 0 0] m) 26)) w0.heap.size m [] :=
  ⟨(Kept.refl w0).alloc _, Nat.le_refl _, _, by rw [← Array.length_toList, toList_madeCells_one]; simp, (MapKept.heap_alloc w0 _).1, fun j x h => by simp at h⟩
theorem FRow.facts {w0 w : World} {g m : Nat} {P : List (List UInt8)} (h : FRow w0 w g m P) {j : Nat} (hj : j < m) : (∃ v, w.cell? ⟨g, j, none⟩ = some v) ∧ w.frozen? ⟨g, j, none⟩ = false ∧ g < w.heap.size := by
  obtain ⟨cs, hs, hb, _⟩ := h.row
  refine ⟨⟨cs[j]'(by omega), ?_⟩, frozen_of_row hb j, (Array.getElem?_eq_some_iff.1 hb).1⟩
  rw [cell_of_row _ _ _ _ _ _ hb]
  exact Array.getElem?_eq_getElem (by omega)
theorem FRow.store {w0 w : World} {g m : Nat} {P : List (List UInt8)} (h : FRow w0 w g m P) (hm : P.length < m) {b o k : Nat} {x : List UInt8} (hx : BytesAt w0 (some ⟨b, o, none⟩) k x) : FRow w0 (w.setCell ⟨g, P.length, none⟩ (.slice (some ⟨b, o, none⟩) k k)) g m (P ++ [x]) := by
  obtain ⟨cs, hs, hb, hp⟩ := h.row
  refine ⟨h.kept.setCell (p := ⟨g, P.length, none⟩) h.new _, h.new, cs.setIfInBounds P.length (.slice (some ⟨b, o, none⟩) k k), by rw [Array.size_setIfInBounds]; exact hs, setCellB_row hb _ _, fun j y hy => ?_⟩
  by_cases hj : j < P.length
  · rw [List.getElem?_append_left hj] at hy
    obtain ⟨b', o', k', h1, h2⟩ := hp j y hy
    refine ⟨b', o', k', ?_, h2⟩
    rw [Array.getElem?_setIfInBounds_ne (by omega)]; exact h1
  · have hjl := (List.getElem?_eq_some_iff.1 hy).1
    rw [List.length_append, List.length_singleton] at hjl
    have hje : j = P.length := by omega
    subst hje
    rw [List.getElem?_append_right (Nat.le_refl _)] at hy
    simp at hy
    subst hy
    refine ⟨b, o, k, ?_, hx⟩
    rw [Array.getElem?_setIfInBounds_self_of_lt (by omega)]
/-- What Fields hands back: a slice of pieces, each in memory. -/
structure FldAt (w : World) (g k : Nat) (P : List (List UInt8)) : Prop where
  len : P.length = k
  at_ : ∀ (j : Nat) (x : List UInt8), P[j]? = some x → ∃ b o m, w.cell? ⟨g, j, none⟩ = some (.slice (some ⟨b, o, none⟩) m m) ∧ BytesAt w (some ⟨b, o, none⟩) m x
theorem FldAt.kept {w w' : World} {g k : Nat} {P : List (List UInt8)} (h : FldAt w g k P) (hk : Kept w w') : FldAt w' g k P :=
  ⟨h.len, fun j x hx => by
    obtain ⟨b, o, m, h1, h2⟩ := h.at_ j x hx
    exact ⟨b, o, m, hk.cell h1, h2.kept hk⟩⟩
theorem FRow.done {w0 w : World} {g m : Nat} {P : List (List UInt8)} (h : FRow w0 w g m P) (hm : P.length = m) : FldAt w g m P := by
  obtain ⟨cs, hs, hb, hp⟩ := h.row
  refine ⟨hm, fun j x hx => ?_⟩
  obtain ⟨b, o, k, h1, h2⟩ := hp j x hx
  exact ⟨b, o, k, by rw [cell_of_row _ _ _ _ _ _ hb]; exact h1, h2.kept h.kept⟩
def FldPost (L : List UInt8) (w : World) (e : Ending) (w' : World) : Prop :=
  Kept w w' ∧ ∃ g k P, e = .returned (.slice (some ⟨g, 0, none⟩) k k) ∧ FldAt w' g k P ∧ k ≤ L.length + 1 ∧ (∀ x ∈ P, x.length ≤ L.length) ∧ ((∀ b ∈ L, b.toNat < 128) → P = fieldsOf L)
end Go.Proofs.YtlikokeknfhejaaGreatDoor
