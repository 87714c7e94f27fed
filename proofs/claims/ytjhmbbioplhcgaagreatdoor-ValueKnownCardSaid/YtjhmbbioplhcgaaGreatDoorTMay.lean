/-
  Layer 2: '==' at nodes; the contract of mayBe: it answers mayB, and writes nothing that was there.
-/
import Derived.Test.YtjhmbbioplhcgaaGreatDoorTNode
namespace Go.Proofs.YtjhmbbioplhcgaaGreatDoor
open Go Go.RowKit

theorem guardNode : Tryz.prog.eqGuardType Tryz.prog.depth 56 = false := by kernel_rfl
theorem guardRef : Tryz.prog.eqGuardType Tryz.prog.depth 69 = false := by kernel_rfl
theorem eq_node (d e : Nd) (w : World) : (binOp .eql 56 d.val e.val).run Tryz.prog w = .ok (.bool (d.eqb e)) w := by
  have hS : Tryz.prog.underlying 56 = some (.struct (Tryz.prog.fieldsOf 56)) := by kernel_rfl
  have hp : Tryz.prog.stoodInHeld 56 = false := by kernel_rfl
  have u5 := Tryz.underlying5
  have u2 := Tryz.underlying2
  have u3 := Tryz.underlying3
  have u30 := Tryz.underlying44
  have u32 := Tryz.underlying54
  have a5 := Tryz.isAgg5
  have a2 := Tryz.isAgg2
  have a3 := Tryz.isAgg3
  have a30 := Tryz.isAgg44
  have a32 := Tryz.isAgg54
  have z5 := Tryz.sizeOf5
  have z2 := Tryz.sizeOf2
  have z3 := Tryz.sizeOf3
  have z30 := Tryz.sizeOf44
  have z32 := Tryz.sizeOf54
  unfold Nd.val
  rw [run_eql_struct, show (10000 : Nat) = 9999 + 1 from rfl, run_equalIn_agg w 9999 56 _ _ hS hp]
  simp only [Program.fieldsOf, Tryz.underlying56]
  unfold Nd.eqb
  go_simp
  by_cases h1 : d.k = e.k
  · by_cases h2 : d.n = e.n
    · by_cases h3 : d.a = e.a
      · by_cases h4 : d.o = e.o
        · by_cases h5 : d.x = e.x
          · by_cases h6 : d.y = e.y <;> simp [h1, h2, h3, h4, h5, h6]
          · simp [h1, h2, h3, h4, h5]
        · simp [h1, h2, h3, h4]
      · simp [h1, h2, h3]
    · simp [h1, h2]
  · simp [h1]
theorem eq_ref (d e : Nd) (w : World) : (binOp .eql 69 d.val e.val).run Tryz.prog w = .ok (.bool (d.eqb e)) w := by
  have hS : Tryz.prog.underlying 69 = some (.struct (Tryz.prog.fieldsOf 69)) := by kernel_rfl
  have hp : Tryz.prog.stoodInHeld 69 = false := by kernel_rfl
  have u5 := Tryz.underlying5
  have u2 := Tryz.underlying2
  have u3 := Tryz.underlying3
  have u32 := Tryz.underlying54
  have a5 := Tryz.isAgg5
  have a2 := Tryz.isAgg2
  have a3 := Tryz.isAgg3
  have a32 := Tryz.isAgg54
  have z5 := Tryz.sizeOf5
  have z2 := Tryz.sizeOf2
  have z3 := Tryz.sizeOf3
  have z32 := Tryz.sizeOf54
  unfold Nd.val
  rw [run_eql_struct, show (10000 : Nat) = 9999 + 1 from rfl, run_equalIn_agg w 9999 69 _ _ hS hp]
  simp only [Program.fieldsOf, Tryz.underlying69]
  unfold Nd.eqb
  go_simp
  by_cases h1 : d.k = e.k
  · by_cases h2 : d.n = e.n
    · by_cases h3 : d.a = e.a
      · by_cases h4 : d.o = e.o
        · by_cases h5 : d.x = e.x
          · by_cases h6 : d.y = e.y <;> simp [h1, h2, h3, h4, h5, h6]
          · simp [h1, h2, h3, h4, h5]
        · simp [h1, h2, h3, h4]
      · simp [h1, h2, h3]
    · simp [h1, h2]
  · simp [h1]
end Go.Proofs.YtjhmbbioplhcgaaGreatDoor
