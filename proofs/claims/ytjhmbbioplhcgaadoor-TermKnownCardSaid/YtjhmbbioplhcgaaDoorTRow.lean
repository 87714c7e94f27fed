/-
  Layer 2: rows of numbers that a call owns, read; slices of numbers that came in.
-/
import Derived.Test.YtjhmbbioplhcgaaDoorTUses
namespace Go.Proofs.YtjhmbbioplhcgaaDoor
open Go Go.RowKit

theorem RootsAt.kept {w w' : World} {la : Option Addr} {n : Nat} {us : List Int} (h : RootsAt w la n us) (k : Kept w w') : RootsAt w' la n us :=
  ⟨h.len, h.inr, fun hn => by
    obtain ⟨b, off, hl, hc⟩ := h.at_ hn
    exact ⟨b, off, hl, fun j x hx => k.cell (hc j x hx)⟩⟩
/-- A row that is owned, as a slice of numbers. -/
theorem roots_of_row {w : World} {N n c : Nat} {e : TypeId} {a : Option Addr} {us : List Int} (h : w.ownsRow N e 1 (.slice a n c) n (us.map (Value.int .i64))) (hl : us.length = n) (hin : ∀ x ∈ us, InR x) : RootsAt w a n us := by
  refine ⟨hl, hin, fun hn => ?_⟩
  obtain ⟨_, h2⟩ := h
  rcases h2 with ⟨_, h0⟩ | ⟨r, cap', cur, hv, hB, hblk, hle, hmx, hsz, htk⟩
  · omega
  · injection hv with ha _ _
    refine ⟨r, 0, ha, fun j x hj => ?_⟩
    rw [Nat.zero_add, cell_of_row _ _ _ _ _ _ hblk]
    have hj2 : (us.map (Value.int .i64))[j]? = some (.int .i64 x) := by rw [List.getElem?_map, hj]; rfl
    rw [← htk, List.getElem?_take] at hj2
    split at hj2
    · simpa using hj2
    · cases hj2
end Go.Proofs.YtjhmbbioplhcgaaDoor
