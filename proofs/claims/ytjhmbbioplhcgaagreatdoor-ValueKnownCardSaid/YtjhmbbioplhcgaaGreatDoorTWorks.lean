
/-
  Layer 2: the chapter's examples hold.
-/
import Derived.Test.YtjhmbbioplhcgaaGreatDoorTMade
namespace Go.Proofs.YtjhmbbioplhcgaaGreatDoor
open Go Go.RowKit

theorem nodes_of_block {W : World} {b : Nat} {ds : List Nd} {cs : Array Value} (h : W.heap[b]? = some (.cells cs 56 (0, 0))) (hcs : cs.toList = nodeCells ds) (hok : ∀ d ∈ ds, d.Ok) : NodesAt W (some ⟨b, 0, none⟩) ds.length ds := by
  refine ⟨rfl, hok, fun _ => ⟨b, 0, rfl, fun j d hd i v hv => ?_⟩⟩
  have hi : i < 6 := by
    rcases Nat.lt_or_ge i 6 with h6 | h6
    · exact h6
    · rw [List.getElem?_eq_none (by rw [Nd.cells_len]; exact h6)] at hv; cases hv
  have hf := flat_get Nd.cells 6 Nd.cells_len ds j i d hd hi
  rw [hv] at hf
  rw [Nat.zero_add, cell_of_row _ _ _ _ _ _ h, ← Array.getElem?_toList, hcs]
  exact hf
theorem addr_add0 (r j : Nat) : (⟨r, 0, none⟩ : Addr).add j = ⟨r, j, none⟩ := by unfold Addr.add; split <;> simp_all
/-- The nodes of the examples, and their graph. -/
def wds : List Nd := [⟨2, 0, 0, 0, 0, 0⟩, ⟨1, 5, 0, 0, 0, 0⟩, ⟨2, 0, 0, 0, 0, 0⟩, ⟨4, 0, 0, 1, 0, 1⟩, ⟨4, 0, 0, 1, 0, 7⟩, ⟨3, 0, 1, 0, 0, 2⟩]
def wL : List Nd := [⟨2, 0, 0, 0, 0, 0⟩, ⟨1, 5, 0, 0, 0, 0⟩, ⟨4, 0, 0, 1, 0, 1⟩, ⟨3, 0, 1, 0, 0, 2⟩]
theorem wds_adds : addsL wds = wL := by rfl
theorem wds_ids : idsL wds = [0, 1, 0, 2, -1, 3] := by rfl
theorem wds_ok : ∀ d ∈ wds, d.Ok := by
  intro d hd
  simp only [wds, List.mem_cons, List.not_mem_nil, or_false] at hd
  rcases hd with rfl | rfl | rfl | rfl | rfl | rfl <;> (simp [Nd.Ok, InB, InR])
theorem wL_deep : deepI wL 2 = 2 := by
  simp [deepI, wL, hasB, kps, kept1, deep1, partsOf, kAt, kp0]
theorem wL_uses : UsesSpec wL [2] [0, 1, 2] := by
  have n2 : ndAt wL 2 = ⟨4, 0, 0, 1, 0, 1⟩ := rfl
  have n0 : ndAt wL 0 = ⟨2, 0, 0, 0, 0, 0⟩ := rfl
  have n1 : ndAt wL 1 = ⟨1, 5, 0, 0, 0, 0⟩ := rfl
  have p2 : partsOf (ndAt wL 2) = [0, 1] := by rw [n2]; rfl
  have p0 : partsOf (ndAt wL 0) = [] := by rw [n0]; rfl
  have p1 : partsOf (ndAt wL 1) = [] := by rw [n1]; rfl
  have key : ∀ r i, Reach wL r i → r = 0 ∨ r = 1 ∨ r = 2 → i = 0 ∨ i = 1 ∨ i = 2 := by
    intro r i h
    induction h with
    | refl => exact fun h => h
    | step hp _ ih =>
      rintro (rfl | rfl | rfl)
      · rw [p0] at hp; cases hp
      · rw [p1] at hp; cases hp
      · rw [p2] at hp
        simp only [List.mem_cons, List.not_mem_nil, or_false] at hp
        rcases hp with rfl | rfl
        · exact ih (Or.inl rfl)
        · exact ih (Or.inr (Or.inl rfl))
  refine ⟨by simp, fun i => ⟨fun hi => ⟨2, by simp, rfl, ?_⟩, ?_⟩⟩
  · simp only [List.mem_cons, List.not_mem_nil, or_false] at hi
    rcases hi with rfl | rfl | rfl
    · exact .step (by rw [p2]; simp) (.refl 0)
    · exact .step (by rw [p2]; simp) (.refl 1)
    · exact .refl 2
  · rintro ⟨r, hr, _, hri⟩
    rw [List.mem_singleton.1 hr] at hri
    have := key 2 i hri (Or.inr (Or.inr rfl))
    simpa using this

end Go.Proofs.YtjhmbbioplhcgaaGreatDoor
