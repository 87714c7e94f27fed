/-
  Layer 2: how a graph of the program lies in memory: values, cells, the map of nodes; what stays when other blocks turn.
-/
import Derived.Test.YtjhmbbioplhcgaaDoorRows
import Derived.Test.YtjhmbbioplhcgaaDoorTMath
import Derived.WalkSpells
import Derived.Lib.Hide
import Derived.WalkLawsBesides
import Derived.Laws.EntriesVeiled
import Derived.Maps.OwnOps
import Derived.Maps.OwnSet
import Derived.DeepKeys4
import Derived.Deep.AppendLies
import Derived.Sort.Grow
import Derived.Lib.ItoaMem
import Derived.Deep.RegionHeld3
import Derived.Deep.DrawnRows
import Derived.Laws.StructEq
import Derived.Deep.QuietTactic
import Derived.BigQuiet
namespace Go.Proofs.YtjhmbbioplhcgaaDoor
open Go Go.RowKit Go.ChangeMaps Go.MapKept Go.WideMaps
open Go.Maps (Keyed)

def Kept (w w' : World) : Prop := Below w.heap.size w w'
theorem Kept.refl (w : World) : Kept w w := Below.refl _ _
theorem Kept.trans {a b c : World} (h : Kept a b) (k : Kept b c) : Kept a c := Below.trans h (Below.mono k (Below.size h))
theorem Kept.drew {w w' : World} (h : Kept w w') : Kept w w'.drew := Below.drew h
theorem Kept.alloc {w w' : World} (h : Kept w w') (o : Obj) : Kept w (w'.alloc o) := Below.alloc h (Below.size h) o
theorem Kept.setCell {w w' : World} (h : Kept w w') {p : Addr} (hp : w.heap.size ≤ p.block) (u : Value) : Kept w (w'.setCell p u) := Below.setCell h hp u
theorem Kept.cell {w w' : World} (h : Kept w w') {a : Addr} {v : Value} (hc : w.cell? a = some v) : w'.cell? a = some v := by
  rw [Below.cell h (World.block_lt_of_cell? w _ hc)]; exact hc
theorem Kept.grow {w w' : World} {k : Nat} {os : Array Obj} (h : w' = Sort.grow (w.drewN k) os) : Kept w w' := by
  subst h
  refine ⟨rfl, rfl, rfl, ?_, ?_⟩
  · show w.heap.size ≤ (w.heap ++ os).size
    simp
  · intro i hi
    show (w.heap ++ os)[i]? = w.heap[i]?
    rw [Array.getElem?_append_left hi]

/-- All blocks that were there, but those of T, are as they were. -/
structure Turned (T : Nat → Prop) (w w' : World) : Prop where
  os : w'.os = w.os
  tape : w'.tape = w.tape
  output : w'.output = w.output
  size : w.heap.size ≤ w'.heap.size
  block : ∀ k, k < w.heap.size → ¬ T k → w'.heap[k]? = w.heap[k]?
theorem Turned.refl (T : Nat → Prop) (w : World) : Turned T w w := ⟨rfl, rfl, rfl, Nat.le_refl _, fun _ _ _ => rfl⟩
theorem Kept.turned {w w' : World} (h : Kept w w') (T : Nat → Prop) : Turned T w w' := ⟨h.os, h.tape, h.output, h.size, fun k hk _ => h.block k hk⟩
theorem Turned.trans {T : Nat → Prop} {a b c : World} (h : Turned T a b) (k : Turned T b c) : Turned T a c :=
  ⟨k.os.trans h.os, k.tape.trans h.tape, k.output.trans h.output, Nat.le_trans h.size k.size, fun i hi hT => (k.block i (Nat.lt_of_lt_of_le hi h.size) hT).trans (h.block i hi hT)⟩
theorem Turned.mono {T S : Nat → Prop} {w w' : World} (h : Turned T w w') (hs : ∀ k, k < w.heap.size → T k → S k) : Turned S w w' :=
  ⟨h.os, h.tape, h.output, h.size, fun k hk hS => h.block k hk fun hT => hS (hs k hk hT)⟩
theorem Turned.kept {T : Nat → Prop} {w w' : World} (h : Turned T w w') (hs : ∀ k, k < w.heap.size → ¬ T k) : Kept w w' :=
  ⟨h.os, h.tape, h.output, h.size, fun k hk => h.block k hk (hs k hk)⟩
theorem Turned.below {T : Nat → Prop} {B : Nat} {w w' : World} (h : Turned T w w') (hB : B ≤ w.heap.size) (hs : ∀ k, k < B → ¬ T k) : Below B w w' :=
  ⟨h.os, h.tape, h.output, h.size, fun k hk => h.block k (Nat.lt_of_lt_of_le hk hB) (hs k hk)⟩
theorem Turned.cell {T : Nat → Prop} {w w' : World} (h : Turned T w w') {a : Addr} {v : Value} (hc : w.cell? a = some v) (hT : ¬ T a.block) : w'.cell? a = some v := by
  rw [World.cell?_of_block (h.block a.block (World.block_lt_of_cell? w _ hc) hT)]; exact hc
theorem Turned.grown {T : Nat → Prop} {w w' : World} {row : Option Nat} (h : w.grownBy w' row) (hr : ∀ k, row = some k → T k) : Turned T w w' :=
  ⟨h.os, h.tape, h.output, h.size, fun k hk hT => h.block k hk fun e => hT (hr k e.symm)⟩
theorem Turned.setCell {T : Nat → Prop} (w : World) (a : Addr) (u : Value) (hT : T a.block) : Turned T w (w.setCell a u) :=
  ⟨rfl, rfl, rfl, by simp [World.setCell], fun k _ hk => Below.heap_setCell _ _ _ _ (fun e => hk (e ▸ hT))⟩

/-! ### Values -/
def Nd.cells (d : Nd) : List Value := [.int .u8 d.k, .int .i64 d.n, .int .i64 d.a, .int .u8 d.o, .int .i64 d.x, .int .i64 d.y]
def Nd.val (d : Nd) : Value := .agg #[.int .u8 d.k, .int .i64 d.n, .int .i64 d.a, .int .u8 d.o, .int .i64 d.x, .int .i64 d.y]
def Kp.cells (q : Kp) : List Value := q.d.cells ++ [.int .i64 (q.deep : Int), .int .i64 (q.long : Int)]
def keptCells (K : List Kp) : List Value := K.flatMap Kp.cells
def nodeCells (L : List Nd) : List Value := L.flatMap Nd.cells
theorem Nd.cells_len (d : Nd) : d.cells.length = 6 := rfl
theorem Kp.cells_len (q : Kp) : q.cells.length = 8 := rfl
theorem keptCells_len (K : List Kp) : (keptCells K).length = K.length * 8 := by
  unfold keptCells
  induction K with
  | nil => rfl
  | cons q K ih => rw [List.flatMap_cons, List.length_append, ih, Kp.cells_len, List.length_cons]; omega
theorem nodeCells_len (L : List Nd) : (nodeCells L).length = L.length * 6 := by
  unfold nodeCells
  induction L with
  | nil => rfl
  | cons q K ih => rw [List.flatMap_cons, List.length_append, ih, Nd.cells_len, List.length_cons]; omega
theorem flat_get {α : Type} (f : α → List Value) (c : Nat) (hf : ∀ x, (f x).length = c) : ∀ (K : List α) (i j : Nat) (x : α), K[i]? = some x → j < c → (K.flatMap f)[i * c + j]? = (f x)[j]?
  | [], i, j, x, h, _ => by simp at h
  | q :: K, 0, j, x, h, hj => by
    simp at h; subst h
    rw [List.flatMap_cons, Nat.zero_mul, Nat.zero_add, List.getElem?_append_left (by rw [hf]; exact hj)]
  | q :: K, i + 1, j, x, h, hj => by
    simp at h
    rw [List.flatMap_cons, List.getElem?_append_right (by rw [hf, Nat.add_mul]; omega), hf]
    have : (i + 1) * c + j - c = i * c + j := by rw [Nat.add_mul]; omega
    rw [this]
    exact flat_get f c hf K i j x h hj

/-! ### The map of nodes -/
theorem TA.laidOut : laidOutB Tryd.prog = true := by kernel_rfl
theorem TA.rowNode : (34 : TypeId) < Tryd.prog.types.size := of_decide_eq_true (by kernel_rfl)
theorem TA.keyNode : Tryd.prog.keyTypeAt 3 34 = true := by kernel_rfl
theorem TA.keyNodeT : Tryd.prog.keyType 34 = true := by kernel_rfl
theorem lawNode' : WideMaps.KeyLaw Tryd.prog 34 := by
  have h3 : 3 + 1 ≤ 10000 := by omega
  refine deep_law_laid TA.laidOut h3 TA.rowNode TA.keyNode ?_
  rw [Tryd.underlying34]
theorem lawNode : Keyed Tryd.prog 34 := Maps.Keyed.of_law lawNode'
theorem lawId : Keyed Tryd.prog 30 := Maps.int_keyed Tryd.underlying30

end Go.Proofs.YtjhmbbioplhcgaaDoor
