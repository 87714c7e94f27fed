/-
  Layer 5: append of a literal, and of a clause, to a row of one's own; a formula of one's own that grows.
-/
import Derived.Test.YtlikokeknfhejaaGreatDoorCRRight
import Derived.Test.YtlikokeknfhejaaGreatDoorCRows
namespace Go.Proofs.YtlikokeknfhejaaGreatDoor
open Go Go.RowKit Go.Sort Go.Lib

set_option maxRecDepth 100000 in
/-- append(row, literal). -/
theorem wpList_append_int {w0 w : World} {ops : Array Oper} {rest : List Oper} {o : Oper} {a : Act} {Q : Exit → Act → World → Prop} (hgd : o.guard = none) (s x : Operand)
    (ho : o.op = .call { callee := .builtin .append, args := #[s, x], argTypes := #[22, 22] })
    (N : Nat) (aa : Option Addr) (n c : Nat) (L : List Int) (hs : a.eval s = .slice aa n c) (hrow : w0.ownsRow N 3 1 (.slice aa n c) n (L.map (Value.int .i64))) (y : Int) (hw : w = w0.alloc (.cells #[.int .i64 y] 3)) (hx : a.eval x = .slice (some ⟨w0.heap.size, 0, none⟩) 1 1) (hn : n ≤ 1000000000) (hN : N ≤ w0.heap.size)
    (h : ∀ a' c' w', w'.ownsRow N 3 1 (.slice a' (n + 1) c') (n + 1) ((L ++ [y]).map (Value.int .i64)) → (w0.alloc (.cells #[.int .i64 y] 3)).grownBy w' (Value.slice aa n c).ownBlock → wpList Tryz.prog ops Q rest (a.put o.dst (.slice a' (n + 1) c')) w') : wpList Tryz.prog ops Q (o :: rest) a w := by
  subst hw
  obtain ⟨iu, hi, hz0, hz1, hz2⟩ := info_parts infoInt
  refine wpList_append_lies _ hgd s x 22 ho N 3 iu _ 1 8 Tryz.underlying22 hi hz0 hz1 hz2 rfl (by omega) (.slice aa n c) n (L.map (Value.int .i64)) hs (hrow.alloc _) ⟨w0.heap.size, 0, none⟩ 1 1 [.int .i64 y] hx rfl (World.news_of_block (cs := #[.int .i64 y]) (t := 3) (fr := (0, 0)) (heap_alloc_new w0 _)) (by simp [Value.oneCell']) (by omega) (by unfold maxLen; omega) (by omega) (by simp; omega) (w0.heap.size + 1) (by simp) ?_
  intro g cap w' hown hgrow hat hlt
  refine h (some ⟨g, 0, none⟩) cap w' ?_ hgrow
  rw [List.map_append]
  exact hown
abbrev zM : Obj := .cells #[.int .i64 0, .slice none 0 0] 83
theorem set2r {w : World} {b : Nat} {x y u v : Value} {t : TypeId} (h : w.heap[b]? = some (.cells #[x, y] t (0, 0))) : ((w.setCell ⟨b, 0, none⟩ u).setCell ⟨b, 1, none⟩ v).heap[b]? = some (.cells #[u, v] t (0, 0)) := by
  have h1 := heap_setCell_same w b 0 _ t u h
  have h2 := heap_setCell_same _ b 1 _ t v h1
  exact h2
/-- The blocks of a formula that is being made: T0's, and its row's. -/
def TG (T0 : Nat → Prop) (a : Option Addr) (q : Nat) : Prop := T0 q ∨ a.map (·.block) = some q
abbrev f2Obj (V : Int) (a : Option Addr) (k c : Nat) (t : TypeId) : Obj := .cells #[.int .i64 V, .slice a k c] t (0, 0)
theorem grown_set2 (w : World) (b o : Nat) (u : Value) : w.grownBy (w.setCell ⟨b, o, none⟩ u) (some b) :=
  ⟨rfl, rfl, rfl, by simp [World.setCell], fun k _ hk => heap_setCell_other w ⟨b, o, none⟩ k u (fun e => hk (by simp [e]))⟩
theorem own_turned {T0 : Nat → Prop} {w8 w9 w10 : World} {h k f : Nat} {a : Option Addr} {c' : Nat} {u1 : Value} {o : Obj} (h0 : T0 h) (hk : Kept w8 w9) (hg : (w9.alloc o).grownBy w10 (Value.slice a k c').ownBlock) : Turned (TG T0 a) w8 (w10.setCell ⟨h, f, none⟩ u1) := by
  have h1 : Turned (TG T0 a) w8 (w9.alloc o) := (hk.alloc o).turned _
  have h2 : Turned (TG T0 a) (w9.alloc o) w10 := Turned.grown hg fun q hq => Or.inr (by cases a with | none => cases hq | some ad => simpa [Value.ownBlock] using hq)
  exact (h1.trans h2).trans (Turned.setCell w10 ⟨h, f, none⟩ u1 (Or.inl h0))
theorem own_end {T0 : Nat → Prop} {w8 w9 w10 : World} {N h gg cap k c' : Nat} {V : Int} {t : TypeId} {a : Option Addr} {vs : List Value} {D : List (List Int)} {u : Value} {R : List Int} {o : Obj} (h0 : T0 h)
    (hb : w8.heap[h]? = some (f2Obj V a k c' t)) (hr : RowsV N w8 (TG T0 a) a k c' vs D) (hk : Kept w8 w9) (hN : h < N)
    (hown : w10.ownsRow N 22 1 (.slice (some ⟨gg, 0, none⟩) (k + 1) cap) (k + 1) (vs ++ [u])) (hg : (w9.alloc o).grownBy w10 (Value.slice a k c').ownBlock)
    (hat : (Value.slice a k c').ownBlock = some gg ∨ gg = w9.heap.size + 1) (hu : ClauseV w9 (TG T0 a) u R) (_hNw : N ≤ w8.heap.size) :
    (w10.setCell ⟨h, 1, none⟩ (.slice (some ⟨gg, 0, none⟩) (k + 1) cap)).heap[h]? = some (f2Obj V (some ⟨gg, 0, none⟩) (k + 1) cap t) ∧
    RowsV N (w10.setCell ⟨h, 1, none⟩ (.slice (some ⟨gg, 0, none⟩) (k + 1) cap)) (TG T0 (some ⟨gg, 0, none⟩)) (some ⟨gg, 0, none⟩) (k + 1) cap (vs ++ [u]) (D ++ [R]) ∧
    Turned (TG (fun q => q = h) a) w8 (w10.setCell ⟨h, 1, none⟩ (.slice (some ⟨gg, 0, none⟩) (k + 1) cap)) := by
  have hh8 : h < w8.heap.size := (Array.getElem?_eq_some_iff.1 hb).1
  have hown0 : ∀ q, (Value.slice a k c').ownBlock = some q → N ≤ q := fun q hq => (hr.row.lt q hq).1
  have hne : (Value.slice a k c').ownBlock ≠ some h := fun e => by have := hown0 h e; omega
  have hggh : gg ≠ h := by
    rcases hat with h1 | h1
    · rintro rfl; exact hne h1
    · have := hk.size; omega
  have hb9 : (w9.alloc o).heap[h]? = some (f2Obj V a k c' t) := (hk.alloc o).row hb
  have hb10 : w10.heap[h]? = some (f2Obj V a k c' t) := (hg.block h (Array.getElem?_eq_some_iff.1 hb9).1 (fun e => hne e.symm)).trans hb9
  have hT9 : Turned (TG T0 a) w9 (w10.setCell ⟨h, 1, none⟩ (.slice (some ⟨gg, 0, none⟩) (k + 1) cap)) := own_turned h0 (Kept.refl w9) hg
  refine ⟨heap_setCell_same w10 h 1 _ _ _ hb10, ?_, own_turned rfl hk hg⟩
  refine (hr.kept hk).snoc hu (hown.kept (grown_set2 w10 h 1 _) (Or.inr (by simpa [Value.ownBlock] using hggh))) hT9 (fun q hq hTq => ?_) (Or.inr rfl)
  rcases hTq with h1 | h1
  · exact Or.inl h1
  · have e : gg = q := by simpa using h1
    subst e
    rcases hat with h2 | h2
    · exact Or.inr (by cases a with | none => cases h2 | some ad => simpa [Value.ownBlock] using h2)
    · omega
theorem fil_take {lits cl : List Int} {t : Nat} {y : Int} (hy : cl[t]? = some y) : ((cl.take (t + 1)).filter fun x => !hasI lits (-x)) = ((cl.take t).filter fun x => !hasI lits (-x)) ++ if hasI lits (-y) = true then [] else [y] := by
  have hl := (List.getElem?_eq_some_iff.1 hy).1
  rw [List.take_succ_eq_append_getElem hl, (List.getElem?_eq_some_iff.1 hy).2, List.filter_append]
  congr 1
  by_cases h : hasI lits (-y) = true <;> simp [h]
theorem any_takeI {lits cl : List Int} {t : Nat} {y : Int} (hy : cl[t]? = some y) : (cl.take (t + 1)).any (hasI lits) = ((cl.take t).any (hasI lits) || hasI lits y) := by
  have hl := (List.getElem?_eq_some_iff.1 hy).1
  rw [List.take_succ_eq_append_getElem hl, (List.getElem?_eq_some_iff.1 hy).2]
  simp
theorem has_false {la : Option Addr} {n c : Nat} {L : List Int} {w : World} (x : Int) (hL : IntsAt w la n L) (hn : n ≤ 4611686018427387904) (h : hasI L x = false) :
    Calls Tryz.prog 84 #[.slice la n c, .int .i64 x] w fun e w' => e = .returned (.bool false) ∧ w' = w := by
  rw [← h]; exact (rhas_any x la n c L w hL hn).mono fun _ _ k => ⟨k.1, k.2.symm⟩
theorem has_true {la : Option Addr} {n c : Nat} {L : List Int} {w : World} (x : Int) (hL : IntsAt w la n L) (hn : n ≤ 4611686018427387904) (h : hasI L x = true) :
    Calls Tryz.prog 84 #[.slice la n c, .int .i64 x] w fun e w' => e = .returned (.bool true) ∧ w' = w := by
  rw [← h]; exact (rhas_any x la n c L w hL hn).mono fun _ _ k => ⟨k.1, k.2.symm⟩
end Go.Proofs.YtlikokeknfhejaaGreatDoor
