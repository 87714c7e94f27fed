/-
  Layer 2: '==' at nodes; the contract of mayBe: it answers mayB, and writes nothing that was there.
-/
import Derived.Test.YtjhmbbioplhcgaaDoorTNode
namespace Go.Proofs.YtjhmbbioplhcgaaDoor
open Go Go.RowKit

theorem guardNode : Tryd.prog.eqGuardType Tryd.prog.depth 34 = false := by kernel_rfl
theorem guardRef : Tryd.prog.eqGuardType Tryd.prog.depth 37 = false := by kernel_rfl
theorem eq_node (d e : Nd) (w : World) : (binOp .eql 34 d.val e.val).run Tryd.prog w = .ok (.bool (d.eqb e)) w := by
  have hS : Tryd.prog.underlying 34 = some (.struct (Tryd.prog.fieldsOf 34)) := by kernel_rfl
  have hp : Tryd.prog.stoodInHeld 34 = false := by kernel_rfl
  have u5 := Tryd.underlying5
  have u2 := Tryd.underlying2
  have u3 := Tryd.underlying3
  have u30 := Tryd.underlying30
  have u32 := Tryd.underlying32
  have a5 := Tryd.isAgg5
  have a2 := Tryd.isAgg2
  have a3 := Tryd.isAgg3
  have a30 := Tryd.isAgg30
  have a32 := Tryd.isAgg32
  have z5 := Tryd.sizeOf5
  have z2 := Tryd.sizeOf2
  have z3 := Tryd.sizeOf3
  have z30 := Tryd.sizeOf30
  have z32 := Tryd.sizeOf32
  unfold Nd.val
  rw [run_eql_struct, show (10000 : Nat) = 9999 + 1 from rfl, run_equalIn_agg w 9999 34 _ _ hS hp]
  simp only [Program.fieldsOf, Tryd.underlying34]
  unfold Nd.eqb
  go_simp
  by_cases h1 : d.k = e.k
  · by_cases h2 : d.n = e.n
    · by_cases h3 : d.a = e.a
      · by_cases h4 : d.o = e.o
        · by_cases h5 : d.x = e.x
          · by_cases h6 : d.y = e.y <;> simp [h1, h2, h3, h4, h5, h6]
          · simp [h1, h2, h3, h4, h5]
        · simp [h1, h2, h3, h4]
      · simp [h1, h2, h3]
    · simp [h1, h2]
  · simp [h1]
theorem eq_ref (d e : Nd) (w : World) : (binOp .eql 37 d.val e.val).run Tryd.prog w = .ok (.bool (d.eqb e)) w := by
  have hS : Tryd.prog.underlying 37 = some (.struct (Tryd.prog.fieldsOf 37)) := by kernel_rfl
  have hp : Tryd.prog.stoodInHeld 37 = false := by kernel_rfl
  have u5 := Tryd.underlying5
  have u2 := Tryd.underlying2
  have u3 := Tryd.underlying3
  have u32 := Tryd.underlying32
  have a5 := Tryd.isAgg5
  have a2 := Tryd.isAgg2
  have a3 := Tryd.isAgg3
  have a32 := Tryd.isAgg32
  have z5 := Tryd.sizeOf5
  have z2 := Tryd.sizeOf2
  have z3 := Tryd.sizeOf3
  have z32 := Tryd.sizeOf32
  unfold Nd.val
  rw [run_eql_struct, show (10000 : Nat) = 9999 + 1 from rfl, run_equalIn_agg w 9999 37 _ _ hS hp]
  simp only [Program.fieldsOf, Tryd.underlying37]
  unfold Nd.eqb
  go_simp
  by_cases h1 : d.k = e.k
  · by_cases h2 : d.n = e.n
    · by_cases h3 : d.a = e.a
      · by_cases h4 : d.o = e.o
        · by_cases h5 : d.x = e.x
          · by_cases h6 : d.y = e.y <;> simp [h1, h2, h3, h4, h5, h6]
          · simp [h1, h2, h3, h4, h5]
        · simp [h1, h2, h3, h4]
      · simp [h1, h2, h3]
    · simp [h1, h2]
  · simp [h1]
end Go.Proofs.YtjhmbbioplhcgaaDoor
