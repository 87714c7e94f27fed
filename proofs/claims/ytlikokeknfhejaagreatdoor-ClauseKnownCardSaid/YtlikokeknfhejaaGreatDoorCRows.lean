/-
  Layer 5: a row of clauses of one's own, in memory, beside other blocks of one's own.
-/
import Derived.Test.YtlikokeknfhejaaGreatDoorCClean
import Derived.Laws.OwnMore
import Derived.Test.YtlikokeknfhejaaGreatDoorCRightL
namespace Go.Proofs.YtlikokeknfhejaaGreatDoor
open Go Go.RowKit

/-- A value that is a slice with the literals d, none of whose cells lies in T. -/
def ClauseV (w : World) (T : Nat → Prop) (u : Value) (d : List Int) : Prop := ∃ a n c, u = .slice a n c ∧ IntsAt w a n d ∧ Fit a n c ∧ (0 < n → ∀ ad, a = some ad → ¬ T ad.block)
theorem ClauseV.turned {w w' : World} {T T' : Nat → Prop} {u : Value} {d : List Int} (h : ClauseV w T u d) (ht : Turned T w w') (hT : ∀ q, q < w.heap.size → T' q → T q) : ClauseV w' T' u d := by
  obtain ⟨a, n, c, rfl, hI, hF, hn⟩ := h
  refine ⟨a, n, c, rfl, ⟨hI.len, hI.inr, fun h0 => ?_⟩, hF, fun h0 ad had hb => ?_⟩
  · obtain ⟨b, off, rfl, hc⟩ := hI.at_ h0
    exact ⟨b, off, rfl, fun j x hj => ht.cell (hc j x hj) (hn h0 ⟨b, off, none⟩ rfl)⟩
  · obtain ⟨b, off, rfl, hc⟩ := hI.at_ h0
    cases had
    have hlt : b < w.heap.size := by
      obtain ⟨x, hx⟩ : ∃ x, d[0]? = some x := ⟨_, List.getElem?_eq_getElem (by rw [hI.len]; exact h0)⟩
      exact World.block_lt_of_cell? w _ (hc 0 x hx)
    exact hn h0 _ rfl (hT b hlt hb)
theorem row_mono {w : World} {N N' n s : Nat} {e : TypeId} {v : Value} {xs : List Value} (h : w.ownsRow N e s v n xs) (hN : N' ≤ N) : w.ownsRow N' e s v n xs := by
  refine ⟨h.1, ?_⟩
  rcases h.2 with h2 | ⟨r, cap, cur, hv, hB, h3⟩
  · exact Or.inl h2
  · exact Or.inr ⟨r, cap, cur, hv, Nat.le_trans hN hB, h3⟩
structure RowsV (N : Nat) (w : World) (T : Nat → Prop) (a : Option Addr) (k c : Nat) (vs : List Value) (D : List (List Int)) : Prop where
  row : w.ownsRow N 22 1 (.slice a k c) k vs
  len : D.length = k
  each : ∀ (j : Nat) (u : Value) (d : List Int), vs[j]? = some u → D[j]? = some d → ClauseV w T u d
  own : ∀ ad, a = some ad → T ad.block
theorem RowsV.nil (N : Nat) (w : World) (T : Nat → Prop) : RowsV N w T none 0 0 [] [] := ⟨World.ownsRow_nil _ _ _ _, rfl, fun j u d h => by simp at h, fun ad h => by cases h⟩
theorem RowsV.vlen {N k c : Nat} {w : World} {T : Nat → Prop} {a : Option Addr} {vs : List Value} {D : List (List Int)} (h : RowsV N w T a k c vs D) : vs.length = k := by have := h.row.1; omega
theorem RowsV.turned {N k c : Nat} {w w' : World} {T : Nat → Prop} {a : Option Addr} {vs : List Value} {D : List (List Int)} (h : RowsV N w T a k c vs D) (hr : w'.ownsRow N 22 1 (.slice a k c) k vs) (ht : Turned T w w') : RowsV N w' T a k c vs D :=
  ⟨hr, h.len, fun j u d h1 h2 => (h.each j u d h1 h2).turned ht fun _ _ h => h, h.own⟩
theorem row_keptR {w w' : World} {N n s : Nat} {e : TypeId} {v : Value} {xs : List Value} (h : w.ownsRow N e s v n xs) (k : Kept w w') : w'.ownsRow N e s v n xs := by
  refine h.kept (row := none) ⟨k.os, k.tape, k.output, k.size, fun i hi _ => k.block i hi⟩ ?_
  cases v.ownBlock <;> simp
theorem RowsV.kept {N k c : Nat} {w w' : World} {T : Nat → Prop} {a : Option Addr} {vs : List Value} {D : List (List Int)} (h : RowsV N w T a k c vs D) (hk : Kept w w') : RowsV N w' T a k c vs D :=
  h.turned (row_keptR h.row hk) (hk.turned T)
theorem RowsV.snoc {N k c gg cap : Nat} {w w6 : World} {T T' : Nat → Prop} {a : Option Addr} {vs : List Value} {D : List (List Int)} (h : RowsV N w T a k c vs D) {u : Value} {d : List Int} (hu : ClauseV w T u d)
    (hr : w6.ownsRow N 22 1 (.slice (some ⟨gg, 0, none⟩) (k + 1) cap) (k + 1) (vs ++ [u])) (ht : Turned T w w6) (hT : ∀ q, q < w.heap.size → T' q → T q) (hg : T' gg) : RowsV N w6 T' (some ⟨gg, 0, none⟩) (k + 1) cap (vs ++ [u]) (D ++ [d]) := by
  refine ⟨hr, by rw [List.length_append, h.len]; rfl, fun j x e hx he => ?_, fun ad had => by cases had; exact hg⟩
  by_cases hj : j < k
  · rw [List.getElem?_append_left (by rw [h.vlen]; exact hj)] at hx
    rw [List.getElem?_append_left (by rw [h.len]; exact hj)] at he
    exact (h.each j x e hx he).turned ht hT
  · rw [List.getElem?_append_right (by rw [h.vlen]; omega), h.vlen] at hx
    rw [List.getElem?_append_right (by rw [h.len]; omega), h.len] at he
    by_cases h0 : j - k = 0
    · rw [h0] at hx he
      cases hx; cases he
      exact hu.turned ht hT
    · rw [List.getElem?_eq_none (by simp; omega)] at hx; cases hx
theorem RowsV.cell {N k c : Nat} {w : World} {T : Nat → Prop} {a : Option Addr} {vs : List Value} {D : List (List Int)} (h : RowsV N w T a k c vs D) {j : Nat} {d : List Int} (hd : D[j]? = some d) :
    ∃ r u, a = some ⟨r, 0, none⟩ ∧ vs[j]? = some u ∧ w.cell? ⟨r, j, none⟩ = some u ∧ ClauseV w T u d := by
  have hj := (List.getElem?_eq_some_iff.1 hd).1
  rw [h.len] at hj
  obtain ⟨r, rfl, _, _, _⟩ := row_some h.row (by omega)
  obtain ⟨u, hu⟩ : ∃ u, vs[j]? = some u := ⟨_, List.getElem?_eq_getElem (by rw [h.vlen]; exact hj)⟩
  exact ⟨r, u, rfl, hu, by rw [h.row.cellAt j (by omega), hu], h.each j u d hu hd⟩
/-- As a slice of clauses. -/
theorem RowsV.cls {N k c : Nat} {w : World} {T : Nat → Prop} {a : Option Addr} {vs : List Value} {D : List (List Int)} (h : RowsV N w T a k c vs D) : ClsAt w a k D := by
  refine ⟨h.len, fun hk => ?_⟩
  obtain ⟨r, rfl, _, _, _⟩ := row_some h.row hk
  refine ⟨r, 0, rfl, fun j d hd => ?_⟩
  obtain ⟨r', u, hr, _, hc, a2, n, c2, rfl, hI, hF, _⟩ := h.cell hd
  cases hr
  exact ⟨a2, n, c2, by rw [Nat.zero_add]; exact hc, hI, hF.1, hF.2.1, hF.2.2⟩
/-- A row of literals of one's own that is new is no cell of T. -/
theorem clauseV_new {N k c : Nat} {w : World} {T : Nat → Prop} {a : Option Addr} {R : List Int} (h : w.ownsRow N 3 1 (.slice a k c) k (R.map (Value.int .i64))) (hl : R.length = k) (hin : ∀ x ∈ R, InR x) (hT : ∀ q, N ≤ q → ¬ T q) : ClauseV w T (.slice a k c) R := by
  refine ⟨a, k, c, rfl, ints_of_row h hl hin, row_fit h, fun _ ad had => hT _ ?_⟩
  subst had
  exact (h.lt ad.block rfl).1
end Go.Proofs.YtlikokeknfhejaaGreatDoor
