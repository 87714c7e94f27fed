/-
  Layer 5: a formula that is read: its clauses, and the one that is begun, as rows of one's own; what is known of words and numbers.
-/
import Derived.Test.YtlikokeknfhejaaGreatDoorDWords
namespace Go.Proofs.YtlikokeknfhejaaGreatDoor
open Go Go.RowKit Go.Sort Go.Lib

theorem rows_apart {N s1 s2 n1 n2 : Nat} {e1 e2 : TypeId} {v1 v2 : Value} {xs ys : List Value} {w : World} (h1 : w.ownsRow N e1 s1 v1 n1 xs) (h2 : w.ownsRow N e2 s2 v2 n2 ys) (he : e1 ≠ e2) (q : Nat) (hq : v1.ownBlock = some q) : v2.ownBlock ≠ some q := by
  intro hq2
  rcases h1.2 with ⟨rfl, _⟩ | ⟨r, _, cur, rfl, _, hb, _⟩
  · cases hq
  rcases h2.2 with ⟨rfl, _⟩ | ⟨r2, _, cur2, rfl, _, hb2, _⟩
  · cases hq2
  have e1 : r = q := by simpa [Value.ownBlock] using hq
  have e2 : r2 = q := by simpa [Value.ownBlock] using hq2
  subst e1
  subst e2
  rw [hb] at hb2
  cases hb2
  exact he rfl
theorem own_block {a : Option Addr} {n c q : Nat} : (Value.slice a n c).ownBlock = some q ↔ a.map (·.block) = some q := by
  cases a with
  | none => exact ⟨(fun h => by cases h), (fun h => by cases h)⟩
  | some ad => simp [Value.ownBlock]
set_option maxRecDepth 100000 in
/-- append(row, literal), and where the row lies then. -/
theorem wpList_append_int2 {w0 w : World} {ops : Array Oper} {rest : List Oper} {o : Oper} {a : Act} {Q : Exit → Act → World → Prop} (hgd : o.guard = none) (s x : Operand)
    (ho : o.op = .call { callee := .builtin .append, args := #[s, x], argTypes := #[22, 22] })
    (N : Nat) (aa : Option Addr) (n c : Nat) (L : List Int) (hs : a.eval s = .slice aa n c) (hrow : w0.ownsRow N 3 1 (.slice aa n c) n (L.map (Value.int .i64))) (y : Int) (hw : w = w0.alloc (.cells #[.int .i64 y] 3)) (hx : a.eval x = .slice (some ⟨w0.heap.size, 0, none⟩) 1 1) (hn : n ≤ 1000000000) (hN : N ≤ w0.heap.size)
    (h : ∀ g c' w', w'.ownsRow N 3 1 (.slice (some ⟨g, 0, none⟩) (n + 1) c') (n + 1) ((L ++ [y]).map (Value.int .i64)) → (w0.alloc (.cells #[.int .i64 y] 3)).grownBy w' (Value.slice aa n c).ownBlock → ((Value.slice aa n c).ownBlock = some g ∨ g = w0.heap.size + 1) → wpList Tryz.prog ops Q rest (a.put o.dst (.slice (some ⟨g, 0, none⟩) (n + 1) c')) w') : wpList Tryz.prog ops Q (o :: rest) a w := by
  subst hw
  obtain ⟨iu, hi, hz0, hz1, hz2⟩ := info_parts infoInt
  refine wpList_append_lies _ hgd s x 22 ho N 3 iu _ 1 8 Tryz.underlying22 hi hz0 hz1 hz2 rfl (by omega) (.slice aa n c) n (L.map (Value.int .i64)) hs (hrow.alloc _) ⟨w0.heap.size, 0, none⟩ 1 1 [.int .i64 y] hx rfl (World.news_of_block (cs := #[.int .i64 y]) (t := 3) (fr := (0, 0)) (heap_alloc_new w0 _)) (by simp [Value.oneCell']) (by omega) (by unfold maxLen; omega) (by omega) (by simp; omega) (w0.heap.size + 1) (by simp) ?_
  intro g cap w' hown hgrow hat hlt
  refine h g cap w' ?_ hgrow hat
  rw [List.map_append]
  exact hown
/-- The blocks of a formula that is being read: old ones, its row's, that of the clause that is begun. -/
def TC (h : Nat) (a ac : Option Addr) (q : Nat) : Prop := (q ≤ h ∨ a.map (·.block) = some q) ∨ ac.map (·.block) = some q
structure GetAt (w7 : World) (h : Nat) (V : Int) (t : TypeId) (w : World) (a : Option Addr) (k c' : Nat) (ac : Option Addr) (kc cc : Nat) (vs : List Value) (D : List (List Int)) (cur : List Int) : Prop where
  blk : w.heap[h]? = some (f2Obj V a k c' t)
  rows : RowsV w7.heap.size w (TC h a ac) a k c' vs D
  own : w.ownsRow w7.heap.size 3 1 (.slice ac kc cc) kc (cur.map (Value.int .i64))
  clen : cur.length = kc
  cin : ∀ x ∈ cur, InR x
  hN : h < w7.heap.size
  turned : Turned (fun q => q = h) w7 w
theorem GetAt.nw {w7 w : World} {h : Nat} {V : Int} {t : TypeId} {a ac : Option Addr} {k c' kc cc : Nat} {vs : List Value} {D : List (List Int)} {cur : List Int} (G : GetAt w7 h V t w a k c' ac kc cc vs D cur) : w7.heap.size ≤ w.heap.size := G.turned.size
theorem GetAt.kept {w7 w w8 : World} {h : Nat} {V : Int} {t : TypeId} {a ac : Option Addr} {k c' kc cc : Nat} {vs : List Value} {D : List (List Int)} {cur : List Int} (G : GetAt w7 h V t w a k c' ac kc cc vs D cur) (hk : Kept w w8) : GetAt w7 h V t w8 a k c' ac kc cc vs D cur :=
  ⟨hk.row G.blk, G.rows.kept hk, row_keptR G.own hk, G.clen, G.cin, G.hN, G.turned.trans (hk.turned _)⟩
theorem GetAt.grow {w7 w8 w9 : World} {h : Nat} {V : Int} {t : TypeId} {a ac : Option Addr} {k c' kc cc : Nat} {vs : List Value} {D : List (List Int)} {cur : List Int} (G : GetAt w7 h V t w8 a k c' ac kc cc vs D cur) {y : Int} (hy : InR y) {g c9 : Nat} {o : Obj}
    (hown : w9.ownsRow w7.heap.size 3 1 (.slice (some ⟨g, 0, none⟩) (kc + 1) c9) (kc + 1) ((cur ++ [y]).map (Value.int .i64))) (hg : (w8.alloc o).grownBy w9 (Value.slice ac kc cc).ownBlock) (hat : (Value.slice ac kc cc).ownBlock = some g ∨ g = w8.heap.size + 1) :
    GetAt w7 h V t w9 a k c' (some ⟨g, 0, none⟩) (kc + 1) c9 vs D (cur ++ [y]) := by
  have hne : ∀ q, (Value.slice ac kc cc).ownBlock = some q → w7.heap.size ≤ q := fun q hq => (G.own.lt q hq).1
  have hT : Turned (fun q => (Value.slice ac kc cc).ownBlock = some q) w8 w9 := (((Kept.refl w8).alloc o).turned _).trans (Turned.grown hg fun q hq => hq)
  have hN := G.hN
  refine ⟨?_, ?_, hown, by rw [List.length_append, G.clen]; rfl, ?_, G.hN, ?_⟩
  · exact (hT.block h (Array.getElem?_eq_some_iff.1 G.blk).1 (fun e => by have := hne h e; omega)).trans G.blk
  · refine G.rows.change ((G.rows.row.alloc o).kept hg ?_) (hT.mono fun q _ e => Or.inr (own_block.1 e)) (fun q hq hTq => ?_) (fun ad had => Or.inl (Or.inr (by rw [had]; rfl)))
    · cases hb : (Value.slice a k c').ownBlock with
      | none => exact Or.inl rfl
      | some q =>
        refine Or.inr fun e => ?_
        exact rows_apart G.rows.row G.own (by decide) q hb e.symm
    · rcases hTq with h1 | h1
      · exact Or.inl h1
      · have e : g = q := by simpa using h1
        subst e
        rcases hat with h2 | h2
        · exact Or.inr (own_block.1 h2)
        · omega
  · intro x hx
    rcases List.mem_append.1 hx with hx | hx
    · exact G.cin x hx
    · rw [List.mem_singleton.1 hx]; exact hy
  · refine ((G.turned.mono (S := fun q => q = h ∨ (Value.slice ac kc cc).ownBlock = some q) fun q _ e => Or.inl e).trans (hT.mono fun q _ e => Or.inr e)).mono fun q hq e => ?_
    rcases e with e | e
    · exact e
    · have := hne q e; omega
theorem GetAt.store {w7 w8 w10 : World} {h : Nat} {V : Int} {t : TypeId} {a ac : Option Addr} {k c' kc cc : Nat} {vs : List Value} {D : List (List Int)} {cur : List Int} (G : GetAt w7 h V t w8 a k c' ac kc cc vs D cur) {gg cap : Nat} {o : Obj}
    (hown : w10.ownsRow w7.heap.size 22 1 (.slice (some ⟨gg, 0, none⟩) (k + 1) cap) (k + 1) (vs ++ [.slice ac kc cc])) (hg : (w8.alloc o).grownBy w10 (Value.slice a k c').ownBlock)
    (hat : (Value.slice a k c').ownBlock = some gg ∨ gg = w8.heap.size + 1) :
    GetAt w7 h V t (w10.setCell ⟨h, 1, none⟩ (.slice (some ⟨gg, 0, none⟩) (k + 1) cap)) (some ⟨gg, 0, none⟩) (k + 1) cap none 0 0 (vs ++ [.slice ac kc cc]) (D ++ [cur]) [] := by
  have hN := G.hN
  have hr : RowsV w7.heap.size w8 (TG (fun q => q ≤ h) a) a k c' vs D := G.rows.change G.rows.row (Turned.refl _ _) (fun q _ e => Or.inl e) (fun ad had => Or.inr (by rw [had]; rfl))
  have hu : ClauseV w8 (TG (fun q => q ≤ h) a) (.slice ac kc cc) cur := by
    refine ⟨ac, kc, cc, rfl, ints_of_row G.own G.clen G.cin, row_fit G.own, fun _ ad had hTq => ?_⟩
    have hb : (Value.slice ac kc cc).ownBlock = some ad.block := own_block.2 (by rw [had]; rfl)
    have hlt := (G.own.lt ad.block hb).1
    rcases hTq with h1 | h1
    · omega
    · exact rows_apart G.own G.rows.row (by decide) ad.block hb (own_block.2 h1)
  obtain ⟨h1, h2, h3⟩ := own_end (T0 := fun q => q ≤ h) (Nat.le_refl h) G.blk hr (Kept.refl w8) G.hN hown hg hat hu G.nw
  refine ⟨h1, h2.change h2.row (Turned.refl _ _) (fun q _ e => ?_) (fun ad had => Or.inl (Or.inr (by rw [had]; rfl))), World.ownsRow_nil _ _ _ _, rfl, by simp, G.hN, ?_⟩
  · rcases e with e | e
    · exact e
    · cases e
  · refine ((G.turned.mono (S := TG (fun q => q = h) a) fun q _ e => Or.inl e).trans h3).mono fun q hq e => ?_
    rcases e with e | e
    · exact e
    · have := (G.rows.row.lt q (own_block.2 e)).1
      omega
theorem GetAt.start {w6 : World} {h : Nat} {V : Int} {t : TypeId} (hh : h = w6.heap.size) : GetAt (w6.alloc (f2Obj V none 0 0 t)) h V t (w6.alloc (f2Obj V none 0 0 t)) none 0 0 none 0 0 [] [] [] := by
  subst hh
  exact ⟨(MapKept.heap_alloc w6 _).1, RowsV.nil _ _ _, World.ownsRow_nil _ _ _ _, rfl, by simp, by simp, Turned.refl _ _⟩

theorem clOf_facts : ∀ L : List Int, (clOf L).1.length + (clOf L).1.flatten.length + (clOf L).2.length = L.length ∧ (∀ x ∈ (clOf L).2, x ∈ L) ∧ ∀ d ∈ (clOf L).1, ∀ x ∈ d, x ∈ L := by
  refine snocInd5 ⟨rfl, by simp [clOf], by simp [clOf]⟩ fun L k ih => ?_
  obtain ⟨h1, h2, h3⟩ := ih
  rw [clOf_snoc]
  unfold clStep
  split
  · refine ⟨?_, by simp, fun d hd x hx => ?_⟩
    · simp only [List.length_append, List.flatten_append, List.length_cons, List.length_nil, List.flatten_cons, List.flatten_nil, List.append_nil]
      omega
    · rcases List.mem_append.1 hd with hd | hd
      · exact List.mem_append_left _ (h3 d hd x hx)
      · rw [List.mem_singleton.1 hd] at hx
        exact List.mem_append_left _ (h2 x hx)
  · refine ⟨?_, fun x hx => ?_, fun d hd x hx => List.mem_append_left _ (h3 d hd x hx)⟩
    · simp only [List.length_append, List.length_cons, List.length_nil]
      omega
    · rcases List.mem_append.1 hx with hx | hx
      · exact List.mem_append_left _ (h2 x hx)
      · exact List.mem_append_right _ hx
theorem flat_mem_len {C : List (List Int)} {c : List Int} (h : c ∈ C) : c.length ≤ C.flatten.length := by
  induction C with
  | nil => cases h
  | cons d C ih =>
    rw [List.flatten_cons, List.length_append]
    rcases List.mem_cons.1 h with rfl | h
    · omega
    · have := ih h; omega
theorem words_len : ∀ (L acc : List UInt8), (∀ x ∈ wordsFrom acc L, x.length ≤ acc.length + L.length) ∧ (wordsFrom acc L).length ≤ L.length
  | [], acc => by simp [wordsFrom]
  | c :: r, acc => by
    rw [wordsFrom]
    split
    · obtain ⟨h1, h2⟩ := words_len r []
      refine ⟨fun x hx => ?_, by simp; omega⟩
      rcases List.mem_cons.1 hx with rfl | hx
      · simp
      · have := h1 x hx; simp at this ⊢; omega
    · obtain ⟨h1, h2⟩ := words_len r (acc ++ [c])
      refine ⟨fun x hx => ?_, by simp; omega⟩
      have := h1 x hx
      simp at this ⊢; omega
end Go.Proofs.YtlikokeknfhejaaGreatDoor
