/-
  Layer 5: bytes in memory; rows of texts of one's own; clauses of one's own beside another row.
-/
import Derived.Test.YtlikokeknfhejaaGreatDoorDNum
import Derived.Test.YtlikokeknfhejaaGreatDoorCOwnI
import Derived.Laws.BytesArg
namespace Go.Proofs.YtlikokeknfhejaaGreatDoor
open Go Go.RowKit Go.Lib

/-- A slice of bytes, in memory. -/
structure BytesAt (w : World) (ra : Option Addr) (n : Nat) (L : List UInt8) : Prop where
  len : L.length = n
  at_ : 0 < n → ∃ b off, ra = some ⟨b, off, none⟩ ∧ ∀ (j : Nat) (x : UInt8), L[j]? = some x → w.cell? ⟨b, off + j, none⟩ = some (.int .u8 (x.toNat : Int))
theorem BytesAt.kept {w w' : World} {a : Option Addr} {n : Nat} {L : List UInt8} (h : BytesAt w a n L) (k : Kept w w') : BytesAt w' a n L :=
  ⟨h.len, fun hn => by
    obtain ⟨b, off, hl, hc⟩ := h.at_ hn
    exact ⟨b, off, hl, fun j x hx => k.cell (hc j x hx)⟩⟩
theorem BytesAt.nil (w : World) (a : Option Addr) : BytesAt w a 0 [] := ⟨rfl, fun h => absurd h (Nat.lt_irrefl 0)⟩
/-- A piece of it. -/
theorem BytesAt.sub {w : World} {b off n : Nat} {L : List UInt8} (h : BytesAt w (some ⟨b, off, none⟩) n L) (i k : Nat) (hk : i + k ≤ n) : BytesAt w (some ⟨b, off + i, none⟩) k ((L.drop i).take k) := by
  have hl := h.len
  refine ⟨by rw [List.length_take, List.length_drop]; omega, fun h0 => ⟨b, off + i, rfl, fun j x hx => ?_⟩⟩
  obtain ⟨b', off', he, hc⟩ := h.at_ (by omega)
  cases he
  have hj : j < k := by
    have := (List.getElem?_eq_some_iff.1 hx).1
    rw [List.length_take] at this; omega
  rw [List.getElem?_take, if_pos hj, List.getElem?_drop] at hx
  have := hc (i + j) x hx
  rwa [← Nat.add_assoc] at this
theorem map_ofNat (L : List UInt8) : ((L.map fun x => (x.toNat : Int)).map fun n => UInt8.ofNat n.toNat) = L := by
  induction L with
  | nil => rfl
  | cons x L ih => simp only [List.map_cons, ih]; simp
/-- string(bytes). -/
theorem conv_str {w : World} {a : Option Addr} {n c : Nat} {L : List UInt8} (h : BytesAt w a n L) (hz : a = none → n = 0) (hs : ∀ ad, a = some ad → ad.spot = none) : (convert 26 9 (.slice a n c)).run Tryz.prog w = .ok (.string ⟨L.toArray⟩) w := by
  cases a with
  | none =>
    have h0 := hz rfl
    have : L = [] := List.eq_nil_of_length_eq_zero (by rw [h.len]; exact h0)
    subst this
    exact run_convert_bytes_nil w 26 5 Tryz.underlying26 Tryz.underlying5 n c 9 Tryz.underlying9
  | some ad =>
    obtain ⟨b, off, spot⟩ := ad
    have hspot : spot = none := hs _ rfl
    subst hspot
    have e := run_convert_bytes_arg (P := Tryz.prog) w 26 5 Tryz.underlying26 Tryz.underlying5 b off n c (L.map fun x => (x.toNat : Int)) (by rw [List.length_map, h.len]) (fun i hi => by
      obtain ⟨b', off', he, hc⟩ := h.at_ (by omega)
      cases he
      have hl : i < L.length := by rw [h.len]; exact hi
      rw [hc i _ (List.getElem?_eq_getElem hl), List.getD_eq_getElem?_getD, List.getElem?_map, List.getElem?_eq_getElem hl]; rfl) 9 Tryz.underlying9
    rw [e]
    unfold strOfNums
    rw [map_ofNat]
theorem infoStr : (Tryz.prog.info? 9).map (fun i => (i.zero, i.size, i.bytes)) = some (some (.string { data := #[] }), 1, 16) := by kernel_rfl
def strV (l : List UInt8) : Value := .string ⟨l.toArray⟩
set_option maxRecDepth 100000 in
/-- append(row, text). -/
theorem wpList_append_str {w0 w : World} {ops : Array Oper} {rest : List Oper} {o : Oper} {a : Act} {Q : Exit → Act → World → Prop} (hgd : o.guard = none) (s x : Operand)
    (ho : o.op = .call { callee := .builtin .append, args := #[s, x], argTypes := #[147, 147] })
    (N : Nat) (aa : Option Addr) (n c : Nat) (L : List (List UInt8)) (hs : a.eval s = .slice aa n c) (hrow : w0.ownsRow N 9 1 (.slice aa n c) n (L.map strV)) (y : List UInt8) (hw : w = w0.alloc (.cells #[.string ⟨y.toArray⟩] 9)) (hx : a.eval x = .slice (some ⟨w0.heap.size, 0, none⟩) 1 1) (hn : n ≤ 1000000000) (hN : N ≤ w0.heap.size)
    (h : ∀ a' c' w', w'.ownsRow N 9 1 (.slice a' (n + 1) c') (n + 1) ((L ++ [y]).map strV) → (w0.alloc (.cells #[.string ⟨y.toArray⟩] 9)).grownBy w' (Value.slice aa n c).ownBlock → wpList Tryz.prog ops Q rest (a.put o.dst (.slice a' (n + 1) c')) w') : wpList Tryz.prog ops Q (o :: rest) a w := by
  subst hw
  obtain ⟨iu, hi, hz0, hz1, hz2⟩ := info_parts infoStr
  refine wpList_append_lies _ hgd s x 147 ho N 9 iu _ 1 16 Tryz.underlying147 hi hz0 hz1 hz2 rfl (by omega) (.slice aa n c) n (L.map strV) hs (hrow.alloc _) ⟨w0.heap.size, 0, none⟩ 1 1 [.string ⟨y.toArray⟩] hx rfl (World.news_of_block (cs := #[.string ⟨y.toArray⟩]) (t := 9) (fr := (0, 0)) (heap_alloc_new w0 _)) (by simp [Value.oneCell']) (by omega) (by unfold maxLen; omega) (by omega) (by simp; omega) (w0.heap.size + 1) (by simp) ?_
  intro g cap w' hown hgrow hat hlt
  refine h (some ⟨g, 0, none⟩) cap w' ?_ hgrow
  rw [List.map_append]
  exact hown
/-- The cells of a row of texts. -/
theorem str_cell {w : World} {N n c : Nat} {a : Option Addr} {W : List (List UInt8)} (h : w.ownsRow N 9 1 (.slice a n c) n (W.map strV)) {j : Nat} {x : List UInt8} (hx : W[j]? = some x) (hj : j < n) : ∃ r, a = some ⟨r, 0, none⟩ ∧ w.cell? ⟨r, j, none⟩ = some (.string ⟨x.toArray⟩) := by
  obtain ⟨r, rfl, _, _, _⟩ := row_some h (by omega)
  refine ⟨r, rfl, ?_⟩
  rw [h.cellAt j (by omega), List.getElem?_map, hx]; rfl

/-- Words that are read as far as i; the last one begins at fr. -/
def WordsTo (L : List UInt8) (fr i : Nat) (W : List (List UInt8)) : Prop := fr ≤ i ∧ wordsOf L = W ++ wordsFrom ((L.drop fr).take (i - fr)) (L.drop i)
theorem WordsTo.start (L : List UInt8) : WordsTo L 0 0 [] := ⟨Nat.le_refl _, by simp [wordsOf]⟩
theorem WordsTo.sep {L : List UInt8} {fr i : Nat} {W : List (List UInt8)} {x : UInt8} (h : WordsTo L fr i W) (hx : L[i]? = some x) (hs : isSep x = true) : WordsTo L (i + 1) (i + 1) (W ++ [(L.drop fr).take (i - fr)]) := by
  refine ⟨Nat.le_refl _, ?_⟩
  rw [h.2, drop_at hx, wordsFrom, if_pos hs]
  simp
theorem WordsTo.step {L : List UInt8} {fr i : Nat} {W : List (List UInt8)} {x : UInt8} (h : WordsTo L fr i W) (hx : L[i]? = some x) (hs : isSep x = false) : WordsTo L fr (i + 1) W := by
  refine ⟨by have := h.1; omega, ?_⟩
  rw [h.2, drop_at hx, wordsFrom, if_neg (by rw [hs]; simp)]
  congr 2
  have e : i + 1 - fr = (i - fr) + 1 := by have := h.1; omega
  have hf : (L.drop fr)[i - fr]? = some x := by
    rw [List.getElem?_drop]
    have : fr + (i - fr) = i := by have := h.1; omega
    rw [this]; exact hx
  rw [e, List.take_add_one, hf]
  rfl
theorem WordsTo.done {L : List UInt8} {fr : Nat} {W : List (List UInt8)} (h : WordsTo L fr L.length W) : W = wordsOf L := by
  rw [h.2, List.drop_length, wordsFrom, List.append_nil]

/-- Clauses of one's own in memory, T turned to T'. -/
theorem RowsV.change {N k c : Nat} {w w' : World} {T T' : Nat → Prop} {a : Option Addr} {vs : List Value} {D : List (List Int)} (h : RowsV N w T a k c vs D) (hr : w'.ownsRow N 22 1 (.slice a k c) k vs) (ht : Turned T w w') (hT : ∀ q, q < w.heap.size → T' q → T q) (ho : ∀ ad, a = some ad → T' ad.block) : RowsV N w' T' a k c vs D :=
  ⟨hr, h.len, fun j u d h1 h2 => (h.each j u d h1 h2).turned ht hT, ho⟩
end Go.Proofs.YtlikokeknfhejaaGreatDoor
