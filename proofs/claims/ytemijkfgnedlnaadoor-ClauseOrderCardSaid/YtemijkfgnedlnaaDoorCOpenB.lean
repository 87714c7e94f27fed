/-
  Layer 5: an argument that is a model, opened to its cells.
-/
import Derived.Test.YtemijkfgnedlnaaDoorCOpen
import Derived.Deep.Grids
namespace Go.Proofs.YtemijkfgnedlnaaDoor
open Go Go.RowKit Go.ChangeShapes Go.WideShapes Go.Deep

theorem u8_nat {n : Int} (h : (Lit.int .u8 n).wf = true) : ∃ k : Nat, k ≤ 255 ∧ n = (k : Int) := by
  simp [Lit.wf, IntKind.min, IntKind.max, IntKind.signed, IntKind.bits] at h
  exact ⟨n.toNat, by omega, by omega⟩
theorem TA.cellsBool : Tryd.prog.cellsOf 4 = 1 := by kernel_rfl
theorem open_model {H : Type} {enc : TypeId × Value → H} {w : World} {base : Nat} {fuel : Nat} {a : Option Addr} {n c : Nat} {x : DataW H × List MemPlace} (h : DataW.trod enc Tryd.prog w base (fun _ => true) true fuel 43 [.slice a n c] = some x) : (∃ M, BoolsAt w a n M) ∧ Fit a n c := by
  rcases open_bools Tryd.underlying43 Tryd.underlying4 TA.cellsBool h with ⟨hcs, hx⟩ | ⟨ad, len, cap, B, hcs, _, hl, hm, _, hcell⟩
  · simp at hcs
    obtain ⟨rfl, rfl, rfl⟩ := hcs
    exact ⟨⟨[], rfl, fun h => absurd h (Nat.lt_irrefl 0)⟩, fun _ => ⟨rfl, rfl⟩, Nat.le_refl _, by decide⟩
  · simp at hcs
    obtain ⟨rfl, rfl, rfl⟩ := hcs
    refine ⟨⟨(List.range n).map B, by simp, fun hp => ?_⟩, (fun h => by cases h), hl, Nat.le_trans hm max_len⟩
    obtain ⟨b, off, spot⟩ := ad
    have hspot : spot = none := by simpa [Addr.add] using World.cell?_spot (hcell 0 (by omega))
    subst hspot
    refine ⟨b, off, rfl, fun j y hj => ?_⟩
    have hjn : j < n := by
      have := (List.getElem?_eq_some_iff.1 hj).1
      simpa using this
    have h1 := hcell j (by omega)
    rw [add_none] at h1
    rw [h1]
    rw [List.getElem?_map, List.getElem?_range hjn] at hj
    rw [← Option.some.inj hj]
end Go.Proofs.YtemijkfgnedlnaaDoor
