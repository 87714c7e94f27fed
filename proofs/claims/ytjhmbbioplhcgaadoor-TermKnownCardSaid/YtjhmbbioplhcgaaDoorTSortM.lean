/-
  Layer 2: what the library's sort leaves, in the words of this layer.
-/
import Derived.Test.YtjhmbbioplhcgaaDoorTSee
namespace Go.Proofs.YtjhmbbioplhcgaaDoor
open Go Go.RowKit Go.Sort

theorem sorted_row {N ur c n : Nat} {W : World} {U S : List Int} {os : Array Obj} (hrow : W.ownsRow N 30 1 (.slice (some ⟨ur, 0, none⟩) U.length c) U.length (U.map (Value.int .i64))) (hS : S.length = U.length) :
    (grow (putRow (Value.int .i64) (Sort.ahead W n) ur 0 S.toArray) os).ownsRow N 30 1 (.slice (some ⟨ur, 0, none⟩) U.length c) U.length (S.map (Value.int .i64)) ∧
    Turned (fun q => q = ur) W (grow (putRow (Value.int .i64) (Sort.ahead W n) ur 0 S.toArray) os) := by
  have hb : ∀ q, q < W.heap.size → (grow (putRow (Value.int .i64) (Sort.ahead W n) ur 0 S.toArray) os).heap[q]? = (W.heap.modify ur (onCells (putCells (Value.int .i64) 0 S.toArray)))[q]? := by
    intro q hq
    show ((W.heap.modify ur (onCells (putCells (Value.int .i64) 0 S.toArray))) ++ os)[q]? = _
    rw [Array.getElem?_append_left (by simpa using hq)]
  obtain ⟨h1, h2⟩ := hrow
  rcases h2 with ⟨h2, _⟩ | ⟨r, cap, cur, hv, hN, hblk, hle, hmx, hsz, htk⟩
  · cases h2
  · have hr : ur = r := by injection hv with h1 _ _; injection h1 with h1; injection h1
    have hc : c = cap := by injection hv with _ _ h3
    subst hr; subst hc
    have hlt : ur < W.heap.size := (Array.getElem?_eq_some_iff.1 hblk).1
    refine ⟨⟨by simp [hS], Or.inr ⟨ur, c, putCells (Value.int .i64) 0 S.toArray cur, rfl, hN, ?_, hle, hmx, ?_, ?_⟩⟩, ⟨rfl, rfl, rfl, ?_, ?_⟩⟩
    · rw [hb ur hlt, Array.getElem?_modify, if_pos rfl, hblk]; rfl
    · simp [putCells, hsz]
    · apply List.ext_getElem?
      intro i
      rw [List.getElem?_take]
      split
      · rename_i hi
        have hic : i < cur.size := by omega
        simp only [putCells, Array.getElem?_toList, Array.getElem?_mapIdx, Array.getElem?_eq_getElem hic, Option.map_some]
        rw [if_pos ⟨Nat.zero_le _, by simp; omega⟩]
        have hiS : i < S.length := by omega
        simp [List.getElem?_map, List.getElem?_eq_getElem hiS]
      · rename_i hi
        rw [List.getElem?_eq_none (by simp; omega)]
    · show W.heap.size ≤ ((W.heap.modify ur (onCells (putCells (Value.int .i64) 0 S.toArray))) ++ os).size
      simp
    · intro q hq hne
      rw [hb q hq, Array.getElem?_modify, if_neg (fun e => hne e.symm)]
theorem sort_holds {N ur c : Nat} {W : World} {U : List Int} (hrow : W.ownsRow N 30 1 (.slice (some ⟨ur, 0, none⟩) U.length c) U.length (U.map (Value.int .i64))) : Holds (Value.int .i64) W ur 0 U.toArray := by
  intro j hj
  have hj' : j < U.length := by simpa using hj
  rcases hrow.2 with ⟨h2, _⟩ | ⟨r, cap, cur, hv, hN, hblk, hle, hmx, hsz, htk⟩
  · cases h2
  · have hr : ur = r := by injection hv with h1 _ _; injection h1 with h1; injection h1
    subst hr
    refine ⟨?_, frozen_of_row hblk _⟩
    rw [Nat.zero_add, cell_of_row _ _ _ _ _ _ hblk]
    have h2 : (U.map (Value.int .i64))[j]? = some (.int .i64 (U.toArray[j]!)) := by
      rw [List.getElem?_map, List.getElem?_eq_getElem hj']
      simp [getElem!_pos, hj']
    rw [← htk, List.getElem?_take, if_pos (by omega)] at h2
    simpa using h2
end Go.Proofs.YtjhmbbioplhcgaaDoor
