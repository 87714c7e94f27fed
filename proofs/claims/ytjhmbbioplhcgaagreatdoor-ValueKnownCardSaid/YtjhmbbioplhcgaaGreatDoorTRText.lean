
/-
  Layer 2: contracts of the reference's text, Long and Text.
-/
import Derived.Test.YtjhmbbioplhcgaaGreatDoorTRAdd
import Derived.Test.YtjhmbbioplhcgaaGreatDoorTTellM
namespace Go.Proofs.YtjhmbbioplhcgaaGreatDoor
open Go Go.RowKit

/-- The cells of the node numbered k of a row. -/
structure NodeCells (w : World) (h : Nat) (r c len k : Nat) (d : Nd) : Prop where
  g0 : w.cell? ⟨h, 0, none⟩ = some (.slice (some ⟨r, 0, none⟩) len c)
  m0 : w.cell? ⟨r, k * 6, none⟩ = some (.int .u8 d.k)
  m1 : w.cell? ⟨r, k * 6 + 1, none⟩ = some (.int .i64 d.n)
  m2 : w.cell? ⟨r, k * 6 + 2, none⟩ = some (.int .i64 d.a)
  m3 : w.cell? ⟨r, k * 6 + 3, none⟩ = some (.int .u8 d.o)
  m4 : w.cell? ⟨r, k * 6 + 4, none⟩ = some (.int .i64 d.x)
  m5 : w.cell? ⟨r, k * 6 + 5, none⟩ = some (.int .i64 d.y)
  lt : k < len
  le : len ≤ 900
theorem RefAt.nodeCells {N h c : Nat} {a : Option Addr} {L : List Nd} {w : World} (hR : RefAt N w h a c L) (hl : L.length ≤ 900) {k : Nat} (hk : k < L.length) : ∃ r, a = some ⟨r, 0, none⟩ ∧ NodeCells w h r c L.length k L[k] := by
  obtain ⟨r, rfl, hrl, hcap, hmx, hcell⟩ := hR.rowAt (by omega)
  have hq := hcell k L[k] (List.getElem?_eq_getElem hk)
  have m0 := hq 0 _ rfl
  simp only [Nat.add_zero] at m0
  exact ⟨r, rfl, hR.cell0, m0, hq 1 _ rfl, hq 2 _ rfl, hq 3 _ rfl, hq 4 _ rfl, hq 5 _ rfl, hk, hl⟩

end Go.Proofs.YtjhmbbioplhcgaaGreatDoor
