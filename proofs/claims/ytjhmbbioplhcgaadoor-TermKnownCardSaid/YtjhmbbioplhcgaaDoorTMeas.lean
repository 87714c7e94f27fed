/-
  Layer 2: the contract of measured: a node with how deep and how long its term is.
-/
import Derived.Test.YtjhmbbioplhcgaaDoorTParts
import Derived.BigRegion
namespace Go.Proofs.YtjhmbbioplhcgaaDoor
open Go Go.RowKit

/-- A call that answers three marks, and writes nothing that was there. -/
def Marks (v : Value) (w : World) (M0 M1 M2 : ByteArray) : Prop := ∀ w', Kept w w' → Calls Tryd.prog 39 #[v] w' fun e w'' => e = .returned (.agg #[.string M0, .string M1, .string M2]) ∧ Kept w' w''

theorem setCell_row {w : World} {b : Nat} {cs : Array Value} {t : TypeId} {fr : Nat × Nat} (h : w.heap[b]? = some (.cells cs t fr)) (o : Nat) (v : Value) : (w.setCell ⟨b, o, none⟩ v).heap[b]? = some (.cells (cs.setIfInBounds o v) t fr) := by
  simp only [World.setCell, Array.getElem?_modify, if_true, h]
  rfl

/-- The world in the midst of measured: W: the world in which its three blocks were laid; block b has the node, b + 1 the result, b + 1 + 1 what is measured. -/
structure KB (W w : World) (b : Nat) (k n a o x y D T : Int) : Prop where
  turned : Turned (fun i => i = b + 1 + 1) W w
  row : w.heap[b + 1 + 1]? = some (.cells #[.int .u8 k, .int .i64 n, .int .i64 a, .int .u8 o, .int .i64 x, .int .i64 y, .int .i64 D, .int .i64 T] 80 (0, 0))
  box : W.heap[b]? = some (.cells #[.int .u8 k, .int .i64 n, .int .i64 a, .int .u8 o, .int .i64 x, .int .i64 y] 34 (0, 0))
  res : W.heap[b + 1]? = some (.cells #[.int .u8 0, .int .i64 0, .int .i64 0, .int .u8 0, .int .i64 0, .int .i64 0, .int .i64 0, .int .i64 0] 80 (0, 0))
section
variable {W w w' : World} {b : Nat} {k n a o x y D T : Int}
theorem KB.set6 (h : KB W w b k n a o x y D T) (v : Int) : KB W (w.setCell ⟨b + 1 + 1, 6, none⟩ (.int .i64 v)) b k n a o x y v T :=
  ⟨h.turned.trans (Turned.setCell _ _ _ rfl), setCell_row h.row 6 _, h.box, h.res⟩
theorem KB.set7 (h : KB W w b k n a o x y D T) (v : Int) : KB W (w.setCell ⟨b + 1 + 1, 7, none⟩ (.int .i64 v)) b k n a o x y D v :=
  ⟨h.turned.trans (Turned.setCell _ _ _ rfl), setCell_row h.row 7 _, h.box, h.res⟩
theorem KB.kept (h : KB W w b k n a o x y D T) (hk : Kept w w') : KB W w' b k n a o x y D T :=
  ⟨h.turned.trans (hk.turned _), hk.row h.row, h.box, h.res⟩
theorem KB.boxNow (h : KB W w b k n a o x y D T) : w.heap[b]? = some (.cells #[.int .u8 k, .int .i64 n, .int .i64 a, .int .u8 o, .int .i64 x, .int .i64 y] 34 (0, 0)) :=
  (h.turned.block b (Array.getElem?_eq_some_iff.1 h.box).1 (by omega)).trans h.box
theorem KB.resNow (h : KB W w b k n a o x y D T) : w.heap[b + 1]? = some (.cells #[.int .u8 0, .int .i64 0, .int .i64 0, .int .u8 0, .int .i64 0, .int .i64 0, .int .i64 0, .int .i64 0] 80 (0, 0)) :=
  (h.turned.block (b + 1) (Array.getElem?_eq_some_iff.1 h.res).1 (by omega)).trans h.res
theorem KB.old {w0 : World} (h : KB W w b k n a o x y D T) (hW : Kept w0 W) (hb : w0.heap.size = b) {p : Addr} {v : Value} (hc : w0.cell? p = some v) : w.cell? p = some v :=
  h.turned.cell (hW.cell hc) (by have := World.block_lt_of_cell? w0 _ hc; show ¬ p.block = b + 1 + 1; omega)
theorem KB.drew (h : KB W w b k n a o x y D T) : KB W w.drew b k n a o x y D T := h.kept (Kept.drew (Kept.refl _))
theorem cell_far {w : World} {p a : Addr} {u v : Value} (hc : w.cell? p = some v) (hne : p.block ≠ a.block) : ((w.setCell a u).drew).cell? p = some v :=
  (Turned.setCell (T := fun i => i = a.block) w a u rfl).cell hc hne
/-- What the walk asks of it. -/
theorem KB.facts (h : KB W w b k n a o x y D T) :
    w.cell? ⟨b, 0, none⟩ = some (.int .u8 k) ∧ w.cell? ⟨b, 1, none⟩ = some (.int .i64 n) ∧ w.cell? ⟨b, 2, none⟩ = some (.int .i64 a) ∧ w.cell? ⟨b, 3, none⟩ = some (.int .u8 o) ∧ w.cell? ⟨b, 4, none⟩ = some (.int .i64 x) ∧ w.cell? ⟨b, 5, none⟩ = some (.int .i64 y) ∧
    w.cell? ⟨b + 1 + 1, 6, none⟩ = some (.int .i64 D) ∧ w.cell? ⟨b + 1 + 1, 7, none⟩ = some (.int .i64 T) ∧ w.frozen? ⟨b + 1 + 1, 6, none⟩ = false ∧ w.frozen? ⟨b + 1 + 1, 7, none⟩ = false := by
  have h1 := h.boxNow
  have h2 := h.row
  refine ⟨?_, ?_, ?_, ?_, ?_, ?_, ?_, ?_, frozen_of_row h2 6, frozen_of_row h2 7⟩ <;> (first | (rw [cell_of_row _ _ _ _ _ _ h1]; rfl) | (rw [cell_of_row _ _ _ _ _ _ h2]; rfl))
/-- .. and at the end. -/
theorem KB.last (h : KB W w b k n a o x y D T) :
    w.cell? ⟨b + 1 + 1, 0, none⟩ = some (.int .u8 k) ∧ w.cell? ⟨b + 1 + 1, 1, none⟩ = some (.int .i64 n) ∧ w.cell? ⟨b + 1 + 1, 2, none⟩ = some (.int .i64 a) ∧ w.cell? ⟨b + 1 + 1, 3, none⟩ = some (.int .u8 o) ∧ w.cell? ⟨b + 1 + 1, 4, none⟩ = some (.int .i64 x) ∧ w.cell? ⟨b + 1 + 1, 5, none⟩ = some (.int .i64 y) ∧
    w.cell? ⟨b + 1, 0, none⟩ = some (.int .u8 0) ∧ w.cell? ⟨b + 1, 1, none⟩ = some (.int .i64 0) ∧ w.cell? ⟨b + 1, 2, none⟩ = some (.int .i64 0) ∧ w.cell? ⟨b + 1, 3, none⟩ = some (.int .u8 0) ∧ w.cell? ⟨b + 1, 4, none⟩ = some (.int .i64 0) ∧ w.cell? ⟨b + 1, 5, none⟩ = some (.int .i64 0) ∧ w.cell? ⟨b + 1, 6, none⟩ = some (.int .i64 0) ∧ w.cell? ⟨b + 1, 7, none⟩ = some (.int .i64 0) ∧
    w.frozen? ⟨b + 1, 0, none⟩ = false ∧ w.frozen? ⟨b + 1, 1, none⟩ = false ∧ w.frozen? ⟨b + 1, 2, none⟩ = false ∧ w.frozen? ⟨b + 1, 3, none⟩ = false ∧ w.frozen? ⟨b + 1, 4, none⟩ = false ∧ w.frozen? ⟨b + 1, 5, none⟩ = false ∧ w.frozen? ⟨b + 1, 6, none⟩ = false ∧ w.frozen? ⟨b + 1, 7, none⟩ = false := by
  have h1 := h.resNow
  have h2 := h.row
  refine ⟨?_, ?_, ?_, ?_, ?_, ?_, ?_, ?_, ?_, ?_, ?_, ?_, ?_, ?_, frozen_of_row h1 0, frozen_of_row h1 1, frozen_of_row h1 2, frozen_of_row h1 3, frozen_of_row h1 4, frozen_of_row h1 5, frozen_of_row h1 6, frozen_of_row h1 7⟩ <;> (first | (rw [cell_of_row _ _ _ _ _ _ h1]; rfl) | (rw [cell_of_row _ _ _ _ _ _ h2]; rfl))
/-- The world in which the three blocks are laid. -/
def laid3 (w : World) (k n a o x y : Int) : World := ((w.alloc (.cells #[.int .u8 k, .int .i64 n, .int .i64 a, .int .u8 o, .int .i64 x, .int .i64 y] 34)).alloc (.cells #[.int .u8 0, .int .i64 0, .int .i64 0, .int .u8 0, .int .i64 0, .int .i64 0, .int .i64 0, .int .i64 0] 80)).alloc (.cells #[.int .u8 k, .int .i64 n, .int .i64 a, .int .u8 o, .int .i64 x, .int .i64 y, .int .i64 0, .int .i64 0] 80)
theorem laid3_kept (w : World) (k n a o x y : Int) : Kept w (laid3 w k n a o x y) := (((Kept.refl w).alloc _).alloc _).alloc _
theorem laid3_KB (w : World) (k n a o x y : Int) : KB (laid3 w k n a o x y) (laid3 w k n a o x y) w.heap.size k n a o x y 0 0 := by
  have e1 := (MapKept.heap_alloc w (.cells #[.int .u8 k, .int .i64 n, .int .i64 a, .int .u8 o, .int .i64 x, .int .i64 y] 34)).1
  have e2 := (MapKept.heap_alloc (w.alloc (.cells #[.int .u8 k, .int .i64 n, .int .i64 a, .int .u8 o, .int .i64 x, .int .i64 y] 34)) (.cells #[.int .u8 0, .int .i64 0, .int .i64 0, .int .u8 0, .int .i64 0, .int .i64 0, .int .i64 0, .int .i64 0] 80)).1
  have e3 := (MapKept.heap_alloc ((w.alloc (.cells #[.int .u8 k, .int .i64 n, .int .i64 a, .int .u8 o, .int .i64 x, .int .i64 y] 34)).alloc (.cells #[.int .u8 0, .int .i64 0, .int .i64 0, .int .u8 0, .int .i64 0, .int .i64 0, .int .i64 0, .int .i64 0] 80)) (.cells #[.int .u8 k, .int .i64 n, .int .i64 a, .int .u8 o, .int .i64 x, .int .i64 y, .int .i64 0, .int .i64 0] 80)).1
  have s1 : (w.alloc (.cells #[.int .u8 k, .int .i64 n, .int .i64 a, .int .u8 o, .int .i64 x, .int .i64 y] 34)).heap.size = w.heap.size + 1 := by simp
  have s2 : ((w.alloc (.cells #[.int .u8 k, .int .i64 n, .int .i64 a, .int .u8 o, .int .i64 x, .int .i64 y] 34)).alloc (.cells #[.int .u8 0, .int .i64 0, .int .i64 0, .int .u8 0, .int .i64 0, .int .i64 0, .int .i64 0, .int .i64 0] 80)).heap.size = w.heap.size + 1 + 1 := by simp
  rw [s1] at e2
  rw [s2] at e3
  refine ⟨Turned.refl _ _, e3, ?_, ?_⟩
  · exact Kept.row (((Kept.refl _).alloc _).alloc _) e1
  · exact Kept.row ((Kept.refl _).alloc _) e2
end

set_option maxRecDepth 100000 in
set_option maxHeartbeats 8000000 in
theorem measured0w (g : Option Addr) (k n a o x y : Int) (w : World) (M0 M1 M2 : ByteArray) (hM : Marks (.agg #[.int .u8 k, .int .i64 n, .int .i64 a, .int .u8 o, .int .i64 x, .int .i64 y]) w M0 M1 M2)
    (h0 : M0.size ≤ 1000) (h1 : M1.size ≤ 1000) (h2 : M2.size ≤ 1000) (k3 : (k == 3) = false) (k4 : (k == 4) = false) :
    Calls Tryd.prog 34 #[.pointer g, .agg #[.int .u8 k, .int .i64 n, .int .i64 a, .int .u8 o, .int .i64 x, .int .i64 y]] w fun e w' => e = .returned (.agg #[.int .u8 k, .int .i64 n, .int .i64 a, .int .u8 o, .int .i64 x, .int .i64 y, .int .i64 (1), .int .i64 (min ((M0.size : Int) + M1.size + M2.size) 65537)]) ∧ Kept w w' := by
  have i0 : ∀ w, (Instr.index 87 (.agg #[.string M0, .string M1, .string M2]) (.int .i64 0)).run Tryd.prog w = .ok (.string M0) w := fun _ => by kernel_rfl
  have i1 : ∀ w, (Instr.index 87 (.agg #[.string M0, .string M1, .string M2]) (.int .i64 1)).run Tryd.prog w = .ok (.string M1) w := fun _ => by kernel_rfl
  have i2 : ∀ w, (Instr.index 87 (.agg #[.string M0, .string M1, .string M2]) (.int .i64 2)).run Tryd.prog w = .ok (.string M2) w := fun _ => by kernel_rfl
  have HL := Lib.hid (laid3_KB w k n a o x y)
  have HW := Lib.hid (laid3_kept w k n a o x y)
  have HM := Lib.hid hM; clear hM
  go_enter Tryd.func34, Tryd.ntmps34
  go_wp2_with fail
  change Calls _ _ _ (laid3 w k n a o x y) _
  generalize laid3 w k n a o x y = W at *
  generalize hb : w.heap.size = b at *
  have HB := Lib.hid hb; clear hb
  refine (HM.out _ HW.out).mono ?_
  rintro e w1 ⟨rfl, hk⟩
  have K1 := Lib.hid (HL.out.kept hk); clear hk HL
  obtain ⟨f0, f1, f2, f3, f4, f5, f6, f7, f8, f9⟩ := K1.out.facts
  go_wp2
  refine wp_loop_rounds 4 ?_
  rw [rounds_succ]
  go_wp2
  have K2 := Lib.hid (K1.out.set7 (M0.size : Int))
  generalize w1.setCell ⟨b + 1 + 1, 7, none⟩ (.int .i64 (M0.size : Int)) = w2 at *
  clear f0 f1 f2 f3 f4 f5 f6 f7 f8 f9 K1
  obtain ⟨f0, f1, f2, f3, f4, f5, f6, f7, f8, f9⟩ := K2.out.facts
  rw [rounds_succ]
  go_wp2
  have K3 := Lib.hid (K2.out.set7 ((M0.size : Int) + M1.size))
  generalize w2.setCell ⟨b + 1 + 1, 7, none⟩ (.int .i64 ((M0.size : Int) + M1.size)) = w3 at *
  clear f0 f1 f2 f3 f4 f5 f6 f7 f8 f9 K2
  obtain ⟨f0, f1, f2, f3, f4, f5, f6, f7, f8, f9⟩ := K3.out.facts
  rw [rounds_succ]
  go_wp2
  have K4 := Lib.hid (K3.out.set7 ((M0.size : Int) + M1.size + M2.size))
  generalize w3.setCell ⟨b + 1 + 1, 7, none⟩ (.int .i64 ((M0.size : Int) + M1.size + M2.size)) = w4 at *
  clear f0 f1 f2 f3 f4 f5 f6 f7 f8 f9 K3
  obtain ⟨f0, f1, f2, f3, f4, f5, f6, f7, f8, f9⟩ := K4.out.facts
  rw [rounds_succ]
  go_wp2_with fail
  refine (parts0 _ _ _ _ _ _ _ k3 k4).mono ?_
  rintro e w5 ⟨rfl, hk⟩
  have K5 := Lib.hid (K4.out.kept hk); clear hk
  clear f0 f1 f2 f3 f4 f5 f6 f7 f8 f9 K4
  obtain ⟨f0, f1, f2, f3, f4, f5, f6, f7, f8, f9⟩ := K5.out.facts
  go_wp2
  refine wp_loop_rounds 1 ?_
  rw [rounds_succ]
  go_upto_region 14 with (fail)
  have K6 := Lib.hid (K5.out.set6 1)
  generalize w5.setCell ⟨b + 1 + 1, 6, none⟩ (.int .i64 1) = w6 at *
  clear f0 f1 f2 f3 f4 f5 f6 f7 f8 f9 K5
  obtain ⟨f0, f1, f2, f3, f4, f5, f6, f7, f8, f9⟩ := K6.out.facts
  go_upto_region 15 with (fail)
  have K7 := Lib.hid (K6.out.set7 (min ((M0.size : Int) + M1.size + M2.size) 65537))
  generalize w6.setCell ⟨b + 1 + 1, 7, none⟩ (.int .i64 (min ((M0.size : Int) + M1.size + M2.size) 65537)) = wz at *
  clear f0 f1 f2 f3 f4 f5 f6 f7 f8 f9 K6
  obtain ⟨f0, f1, f2, f3, f4, f5, e0, e1, e2, e3, e4, e5, e6, e7, z0, z1, z2, z3, z4, z5, z6, z7⟩ := K7.out.last
  obtain ⟨_, _, _, _, _, _, l6, l7, _, _⟩ := K7.out.facts
  go_wp2
  have hfin : w.heap.size ≤ b + 1 := by have := HB.out; omega
  have HT : Kept w wz := ⟨K7.out.turned.os.trans HW.out.os, K7.out.turned.tape.trans HW.out.tape, K7.out.turned.output.trans HW.out.output, Nat.le_trans HW.out.size K7.out.turned.size, fun q hq => (K7.out.turned.block q (Nat.lt_of_lt_of_le hq HW.out.size) (by omega)).trans (HW.out.block q hq)⟩
  exact bodyPost_ret (v := .agg #[.int .u8 k, .int .i64 n, .int .i64 a, .int .u8 o, .int .i64 x, .int .i64 y, .int .i64 (1), .int .i64 (min ((M0.size : Int) + M1.size + M2.size) 65537)]) (by simp [results, Tryd.results34, go_sem, *]) rfl ⟨rfl, (((((((HT.setCell hfin _).setCell hfin _).setCell hfin _).setCell hfin _).setCell hfin _).setCell hfin _).setCell hfin _).setCell hfin _⟩

set_option maxRecDepth 100000 in
set_option maxHeartbeats 8000000 in
theorem measured1w (g : Nat) (n a o x y : Int) (w : World) (M0 M1 M2 : ByteArray) (hM : Marks (.agg #[.int .u8 3, .int .i64 n, .int .i64 a, .int .u8 o, .int .i64 x, .int .i64 y]) w M0 M1 M2)
    (h0 : M0.size ≤ 1000) (h1 : M1.size ≤ 1000) (h2 : M2.size ≤ 1000) (r len cap j : Nat) (de lo : Nat) (hy : y = (j : Int)) (hj : j < len) (_hle : len ≤ 1000000) (hg : w.cell? ⟨g, 0, none⟩ = some (.slice (some ⟨r, 0, none⟩) len cap)) (hd : w.cell? ⟨r, j * 8 + 6, none⟩ = some (.int .i64 (de : Int))) (hl : w.cell? ⟨r, j * 8 + 7, none⟩ = some (.int .i64 (lo : Int))) (bd : de ≤ 1000000) (bl : lo ≤ 1000000) :
    Calls Tryd.prog 34 #[.pointer (some ⟨g, 0, none⟩), .agg #[.int .u8 3, .int .i64 n, .int .i64 a, .int .u8 o, .int .i64 x, .int .i64 y]] w fun e w' => e = .returned (.agg #[.int .u8 3, .int .i64 n, .int .i64 a, .int .u8 o, .int .i64 x, .int .i64 y, .int .i64 ((de : Int) + 1), .int .i64 (min ((M0.size : Int) + M1.size + M2.size + lo) 65537)]) ∧ Kept w w' := by
  subst hy
  have i0 : ∀ w, (Instr.index 87 (.agg #[.string M0, .string M1, .string M2]) (.int .i64 0)).run Tryd.prog w = .ok (.string M0) w := fun _ => by kernel_rfl
  have i1 : ∀ w, (Instr.index 87 (.agg #[.string M0, .string M1, .string M2]) (.int .i64 1)).run Tryd.prog w = .ok (.string M1) w := fun _ => by kernel_rfl
  have i2 : ∀ w, (Instr.index 87 (.agg #[.string M0, .string M1, .string M2]) (.int .i64 2)).run Tryd.prog w = .ok (.string M2) w := fun _ => by kernel_rfl
  have HL := Lib.hid (laid3_KB w 3 n a o x (j : Int))
  have HW := Lib.hid (laid3_kept w 3 n a o x (j : Int))
  have HM := Lib.hid hM; clear hM
  have HG' := Lib.hid hg; clear hg
  have HD' := Lib.hid hd; clear hd
  have HL' := Lib.hid hl; clear hl
  have j0 : (0 : Int) ≤ (j : Int) := Int.natCast_nonneg _
  have j1 : (j : Int) < (len : Int) := by omega
  go_enter Tryd.func34, Tryd.ntmps34
  go_wp2_with fail
  change Calls _ _ _ (laid3 w 3 n a o x (j : Int)) _
  generalize laid3 w 3 n a o x (j : Int) = W at *
  generalize hb : w.heap.size = b at *
  have HB := Lib.hid hb; clear hb
  refine (HM.out _ HW.out).mono ?_
  rintro e w1 ⟨rfl, hk⟩
  have K1 := Lib.hid (HL.out.kept hk); clear hk HL
  obtain ⟨f0, f1, f2, f3, f4, f5, f6, f7, f8, f9⟩ := K1.out.facts
  go_wp2
  refine wp_loop_rounds 4 ?_
  rw [rounds_succ]
  go_wp2
  have K2 := Lib.hid (K1.out.set7 (M0.size : Int))
  generalize w1.setCell ⟨b + 1 + 1, 7, none⟩ (.int .i64 (M0.size : Int)) = w2 at *
  clear f0 f1 f2 f3 f4 f5 f6 f7 f8 f9 K1
  obtain ⟨f0, f1, f2, f3, f4, f5, f6, f7, f8, f9⟩ := K2.out.facts
  rw [rounds_succ]
  go_wp2
  have K3 := Lib.hid (K2.out.set7 ((M0.size : Int) + M1.size))
  generalize w2.setCell ⟨b + 1 + 1, 7, none⟩ (.int .i64 ((M0.size : Int) + M1.size)) = w3 at *
  clear f0 f1 f2 f3 f4 f5 f6 f7 f8 f9 K2
  obtain ⟨f0, f1, f2, f3, f4, f5, f6, f7, f8, f9⟩ := K3.out.facts
  rw [rounds_succ]
  go_wp2
  have K4 := Lib.hid (K3.out.set7 ((M0.size : Int) + M1.size + M2.size))
  generalize w3.setCell ⟨b + 1 + 1, 7, none⟩ (.int .i64 ((M0.size : Int) + M1.size + M2.size)) = w4 at *
  clear f0 f1 f2 f3 f4 f5 f6 f7 f8 f9 K3
  obtain ⟨f0, f1, f2, f3, f4, f5, f6, f7, f8, f9⟩ := K4.out.facts
  rw [rounds_succ]
  go_wp2_with fail
  refine (parts3 _ _ _ _ _ _).mono ?_
  rintro e w5 ⟨pb, rfl, hk, hpb, p0⟩
  have HPB : Hid (pb ≠ b + 1 + 1) := fun e => by have := World.block_lt_of_cell? w4 _ f6; simp only at this; omega
  clear hpb
  have K5 := Lib.hid (K4.out.kept hk); clear hk
  clear f0 f1 f2 f3 f4 f5 f6 f7 f8 f9 K4
  obtain ⟨f0, f1, f2, f3, f4, f5, f6, f7, f8, f9⟩ := K5.out.facts
  clear f0 f1 f2 f3 f4 f5
  have g0 := K5.out.old HW.out HB.out HG'.out
  have g1 := K5.out.old HW.out HB.out HD'.out
  have g2 := K5.out.old HW.out HB.out HL'.out
  go_wp2
  refine wp_loop_rounds 2 ?_
  rw [rounds_succ]
  go_wp2
  go_region
  go_upto_region 11 with (fail)
  have K6 := Lib.hid (K5.out.set7 ((M0.size : Int) + M1.size + M2.size + lo)).drew
  skip
  generalize (w5.setCell ⟨b + 1 + 1, 7, none⟩ (.int .i64 ((M0.size : Int) + M1.size + M2.size + lo))).drew = w6 at *
  clear f6 f7 f8 f9 K5 g0 g1 g2
  skip
  obtain ⟨f0, f1, f2, f3, f4, f5, f6, f7, f8, f9⟩ := K6.out.facts
  clear f0 f1 f2 f3 f4 f5
  have g0 := K6.out.old HW.out HB.out HG'.out
  have g1 := K6.out.old HW.out HB.out HD'.out
  have g2 := K6.out.old HW.out HB.out HL'.out
  go_region
  go_upto_region 8 with (fail)
  have K7 := Lib.hid (K6.out.set6 ((de : Int))).drew
  skip
  generalize (w6.setCell ⟨b + 1 + 1, 6, none⟩ (.int .i64 ((de : Int)))).drew = w7 at *
  clear f6 f7 f8 f9 K6 g0 g1 g2
  skip
  obtain ⟨f0, f1, f2, f3, f4, f5, f6, f7, f8, f9⟩ := K7.out.facts
  clear f0 f1 f2 f3 f4 f5
  rw [rounds_succ]
  go_upto_region 14 with (fail)
  have K8 := Lib.hid (K7.out.set6 ((de : Int) + 1))
  generalize w7.setCell ⟨b + 1 + 1, 6, none⟩ (.int .i64 ((de : Int) + 1)) = w8 at *
  clear f6 f7 f8 f9 K7
  obtain ⟨f0, f1, f2, f3, f4, f5, f6, f7, f8, f9⟩ := K8.out.facts
  go_upto_region 15 with (fail)
  have K9 := Lib.hid (K8.out.set7 (min ((M0.size : Int) + M1.size + M2.size + lo) 65537))
  generalize w8.setCell ⟨b + 1 + 1, 7, none⟩ (.int .i64 (min ((M0.size : Int) + M1.size + M2.size + lo) 65537)) = wz at *
  clear f0 f1 f2 f3 f4 f5 f6 f7 f8 f9 K8
  obtain ⟨f0, f1, f2, f3, f4, f5, e0, e1, e2, e3, e4, e5, e6, e7, z0, z1, z2, z3, z4, z5, z6, z7⟩ := K9.out.last
  obtain ⟨_, _, _, _, _, _, l6, l7, _, _⟩ := K9.out.facts
  go_wp2
  have hfin : w.heap.size ≤ b + 1 := by have := HB.out; omega
  have HT : Kept w wz := ⟨K9.out.turned.os.trans HW.out.os, K9.out.turned.tape.trans HW.out.tape, K9.out.turned.output.trans HW.out.output, Nat.le_trans HW.out.size K9.out.turned.size, fun q hq => (K9.out.turned.block q (Nat.lt_of_lt_of_le hq HW.out.size) (by omega)).trans (HW.out.block q hq)⟩
  exact bodyPost_ret (v := .agg #[.int .u8 3, .int .i64 n, .int .i64 a, .int .u8 o, .int .i64 x, .int .i64 (j : Int), .int .i64 ((de : Int) + 1), .int .i64 (min ((M0.size : Int) + M1.size + M2.size + lo) 65537)]) (by simp [results, Tryd.results34, go_sem, *]) rfl ⟨rfl, (((((((HT.setCell hfin _).setCell hfin _).setCell hfin _).setCell hfin _).setCell hfin _).setCell hfin _).setCell hfin _).setCell hfin _⟩

set_option maxRecDepth 100000 in
set_option maxHeartbeats 8000000 in
theorem measured2w (g : Nat) (n a o x y : Int) (w : World) (M0 M1 M2 : ByteArray) (hM : Marks (.agg #[.int .u8 4, .int .i64 n, .int .i64 a, .int .u8 o, .int .i64 x, .int .i64 y]) w M0 M1 M2)
    (h0 : M0.size ≤ 1000) (h1 : M1.size ≤ 1000) (h2 : M2.size ≤ 1000) (r len cap i j : Nat) (de lo de2 lo2 : Nat) (hx : x = (i : Int)) (hy : y = (j : Int)) (hi : i < len) (hj : j < len) (_hle : len ≤ 1000000) (hg : w.cell? ⟨g, 0, none⟩ = some (.slice (some ⟨r, 0, none⟩) len cap)) (hd : w.cell? ⟨r, i * 8 + 6, none⟩ = some (.int .i64 (de : Int))) (hl : w.cell? ⟨r, i * 8 + 7, none⟩ = some (.int .i64 (lo : Int))) (hd2 : w.cell? ⟨r, j * 8 + 6, none⟩ = some (.int .i64 (de2 : Int))) (hl2 : w.cell? ⟨r, j * 8 + 7, none⟩ = some (.int .i64 (lo2 : Int))) (bd : de ≤ 1000000) (bl : lo ≤ 1000000) (bd2 : de2 ≤ 1000000) (bl2 : lo2 ≤ 1000000) :
    Calls Tryd.prog 34 #[.pointer (some ⟨g, 0, none⟩), .agg #[.int .u8 4, .int .i64 n, .int .i64 a, .int .u8 o, .int .i64 x, .int .i64 y]] w fun e w' => e = .returned (.agg #[.int .u8 4, .int .i64 n, .int .i64 a, .int .u8 o, .int .i64 x, .int .i64 y, .int .i64 (max (de : Int) (de2 : Int) + 1), .int .i64 (min ((M0.size : Int) + M1.size + M2.size + lo + lo2) 65537)]) ∧ Kept w w' := by
  subst hy
  subst hx
  have i0 : ∀ w, (Instr.index 87 (.agg #[.string M0, .string M1, .string M2]) (.int .i64 0)).run Tryd.prog w = .ok (.string M0) w := fun _ => by kernel_rfl
  have i1 : ∀ w, (Instr.index 87 (.agg #[.string M0, .string M1, .string M2]) (.int .i64 1)).run Tryd.prog w = .ok (.string M1) w := fun _ => by kernel_rfl
  have i2 : ∀ w, (Instr.index 87 (.agg #[.string M0, .string M1, .string M2]) (.int .i64 2)).run Tryd.prog w = .ok (.string M2) w := fun _ => by kernel_rfl
  have HL := Lib.hid (laid3_KB w 4 n a o (i : Int) (j : Int))
  have HW := Lib.hid (laid3_kept w 4 n a o (i : Int) (j : Int))
  have HM := Lib.hid hM; clear hM
  have HG' := Lib.hid hg; clear hg
  have HD' := Lib.hid hd; clear hd
  have HL' := Lib.hid hl; clear hl
  have HD2' := Lib.hid hd2; clear hd2
  have HL2' := Lib.hid hl2; clear hl2
  have j0 : (0 : Int) ≤ (j : Int) := Int.natCast_nonneg _
  have j1 : (j : Int) < (len : Int) := by omega
  have q0 : (0 : Int) ≤ (i : Int) := Int.natCast_nonneg _
  have q1 : (i : Int) < (len : Int) := by omega
  go_enter Tryd.func34, Tryd.ntmps34
  go_wp2_with fail
  change Calls _ _ _ (laid3 w 4 n a o (i : Int) (j : Int)) _
  generalize laid3 w 4 n a o (i : Int) (j : Int) = W at *
  generalize hb : w.heap.size = b at *
  have HB := Lib.hid hb; clear hb
  refine (HM.out _ HW.out).mono ?_
  rintro e w1 ⟨rfl, hk⟩
  have K1 := Lib.hid (HL.out.kept hk); clear hk HL
  obtain ⟨f0, f1, f2, f3, f4, f5, f6, f7, f8, f9⟩ := K1.out.facts
  go_wp2
  refine wp_loop_rounds 4 ?_
  rw [rounds_succ]
  go_wp2
  have K2 := Lib.hid (K1.out.set7 (M0.size : Int))
  generalize w1.setCell ⟨b + 1 + 1, 7, none⟩ (.int .i64 (M0.size : Int)) = w2 at *
  clear f0 f1 f2 f3 f4 f5 f6 f7 f8 f9 K1
  obtain ⟨f0, f1, f2, f3, f4, f5, f6, f7, f8, f9⟩ := K2.out.facts
  rw [rounds_succ]
  go_wp2
  have K3 := Lib.hid (K2.out.set7 ((M0.size : Int) + M1.size))
  generalize w2.setCell ⟨b + 1 + 1, 7, none⟩ (.int .i64 ((M0.size : Int) + M1.size)) = w3 at *
  clear f0 f1 f2 f3 f4 f5 f6 f7 f8 f9 K2
  obtain ⟨f0, f1, f2, f3, f4, f5, f6, f7, f8, f9⟩ := K3.out.facts
  rw [rounds_succ]
  go_wp2
  have K4 := Lib.hid (K3.out.set7 ((M0.size : Int) + M1.size + M2.size))
  generalize w3.setCell ⟨b + 1 + 1, 7, none⟩ (.int .i64 ((M0.size : Int) + M1.size + M2.size)) = w4 at *
  clear f0 f1 f2 f3 f4 f5 f6 f7 f8 f9 K3
  obtain ⟨f0, f1, f2, f3, f4, f5, f6, f7, f8, f9⟩ := K4.out.facts
  rw [rounds_succ]
  go_wp2_with fail
  refine (parts4 _ _ _ _ _ _).mono ?_
  rintro e w5 ⟨pb, rfl, hk, hpb, p0, p1⟩
  have HPB : Hid (pb ≠ b + 1 + 1) := fun e => by have := World.block_lt_of_cell? w4 _ f6; simp only at this; omega
  clear hpb
  have K5 := Lib.hid (K4.out.kept hk); clear hk
  clear f0 f1 f2 f3 f4 f5 f6 f7 f8 f9 K4
  obtain ⟨f0, f1, f2, f3, f4, f5, f6, f7, f8, f9⟩ := K5.out.facts
  clear f0 f1 f2 f3 f4 f5
  have g0 := K5.out.old HW.out HB.out HG'.out
  have g1 := K5.out.old HW.out HB.out HD'.out
  have g2 := K5.out.old HW.out HB.out HL'.out
  go_wp2
  refine wp_loop_rounds 3 ?_
  rw [rounds_succ]
  go_wp2
  go_region
  go_upto_region 11 with (fail)
  have K6 := Lib.hid (K5.out.set7 ((M0.size : Int) + M1.size + M2.size + lo)).drew
  have p1x := cell_far (a := ⟨b + 1 + 1, 7, none⟩) (u := .int .i64 ((M0.size : Int) + M1.size + M2.size + lo)) p1 HPB.out
  generalize (w5.setCell ⟨b + 1 + 1, 7, none⟩ (.int .i64 ((M0.size : Int) + M1.size + M2.size + lo))).drew = w6 at *
  clear f6 f7 f8 f9 K5 g0 g1 g2
  clear p1; have p1 := p1x; clear p1x
  obtain ⟨f0, f1, f2, f3, f4, f5, f6, f7, f8, f9⟩ := K6.out.facts
  clear f0 f1 f2 f3 f4 f5
  have g0 := K6.out.old HW.out HB.out HG'.out
  have g1 := K6.out.old HW.out HB.out HD'.out
  have g2 := K6.out.old HW.out HB.out HL'.out
  go_region
  go_upto_region 8 with (fail)
  have K7 := Lib.hid (K6.out.set6 ((de : Int))).drew
  have p1x := cell_far (a := ⟨b + 1 + 1, 6, none⟩) (u := .int .i64 ((de : Int))) p1 HPB.out
  generalize (w6.setCell ⟨b + 1 + 1, 6, none⟩ (.int .i64 ((de : Int)))).drew = w7 at *
  clear f6 f7 f8 f9 K6 g0 g1 g2
  clear p1; have p1 := p1x; clear p1x
  obtain ⟨f0, f1, f2, f3, f4, f5, f6, f7, f8, f9⟩ := K7.out.facts
  clear f0 f1 f2 f3 f4 f5
  have g0 := K7.out.old HW.out HB.out HG'.out
  have g1 := K7.out.old HW.out HB.out HD2'.out
  have g2 := K7.out.old HW.out HB.out HL2'.out
  rw [rounds_succ]
  go_wp2
  go_region
  go_upto_region 11 with (fail)
  have K8 := Lib.hid (K7.out.set7 ((M0.size : Int) + M1.size + M2.size + lo + lo2)).drew
  skip
  generalize (w7.setCell ⟨b + 1 + 1, 7, none⟩ (.int .i64 ((M0.size : Int) + M1.size + M2.size + lo + lo2))).drew = w8 at *
  clear f6 f7 f8 f9 K7 g0 g1 g2
  skip
  obtain ⟨f0, f1, f2, f3, f4, f5, f6, f7, f8, f9⟩ := K8.out.facts
  clear f0 f1 f2 f3 f4 f5
  have g0 := K8.out.old HW.out HB.out HG'.out
  have g1 := K8.out.old HW.out HB.out HD2'.out
  have g2 := K8.out.old HW.out HB.out HL2'.out
  go_region
  go_upto_region 8 with (fail)
  have K9 := Lib.hid (K8.out.set6 (max (de : Int) (de2 : Int))).drew
  skip
  generalize (w8.setCell ⟨b + 1 + 1, 6, none⟩ (.int .i64 (max (de : Int) (de2 : Int)))).drew = w9 at *
  clear f6 f7 f8 f9 K8 g0 g1 g2
  skip
  obtain ⟨f0, f1, f2, f3, f4, f5, f6, f7, f8, f9⟩ := K9.out.facts
  clear f0 f1 f2 f3 f4 f5
  rw [rounds_succ]
  go_upto_region 14 with (fail)
  have K10 := Lib.hid (K9.out.set6 (max (de : Int) (de2 : Int) + 1))
  generalize w9.setCell ⟨b + 1 + 1, 6, none⟩ (.int .i64 (max (de : Int) (de2 : Int) + 1)) = w10 at *
  clear f6 f7 f8 f9 K9
  obtain ⟨f0, f1, f2, f3, f4, f5, f6, f7, f8, f9⟩ := K10.out.facts
  go_upto_region 15 with (fail)
  have K11 := Lib.hid (K10.out.set7 (min ((M0.size : Int) + M1.size + M2.size + lo + lo2) 65537))
  generalize w10.setCell ⟨b + 1 + 1, 7, none⟩ (.int .i64 (min ((M0.size : Int) + M1.size + M2.size + lo + lo2) 65537)) = wz at *
  clear f0 f1 f2 f3 f4 f5 f6 f7 f8 f9 K10
  obtain ⟨f0, f1, f2, f3, f4, f5, e0, e1, e2, e3, e4, e5, e6, e7, z0, z1, z2, z3, z4, z5, z6, z7⟩ := K11.out.last
  obtain ⟨_, _, _, _, _, _, l6, l7, _, _⟩ := K11.out.facts
  go_wp2
  have hfin : w.heap.size ≤ b + 1 := by have := HB.out; omega
  have HT : Kept w wz := ⟨K11.out.turned.os.trans HW.out.os, K11.out.turned.tape.trans HW.out.tape, K11.out.turned.output.trans HW.out.output, Nat.le_trans HW.out.size K11.out.turned.size, fun q hq => (K11.out.turned.block q (Nat.lt_of_lt_of_le hq HW.out.size) (by omega)).trans (HW.out.block q hq)⟩
  exact bodyPost_ret (v := .agg #[.int .u8 4, .int .i64 n, .int .i64 a, .int .u8 o, .int .i64 (i : Int), .int .i64 (j : Int), .int .i64 (max (de : Int) (de2 : Int) + 1), .int .i64 (min ((M0.size : Int) + M1.size + M2.size + lo + lo2) 65537)]) (by simp [results, Tryd.results34, go_sem, *]) rfl ⟨rfl, (((((((HT.setCell hfin _).setCell hfin _).setCell hfin _).setCell hfin _).setCell hfin _).setCell hfin _).setCell hfin _).setCell hfin _⟩

/-! ### measured, of any node that may be -/
theorem deep1_le {K : List Kp} {d : Nd} {n : Nat} (h : ∀ q ∈ K, q.deep ≤ n) : deep1 K d ≤ n + 1 := by
  have hk : ∀ i, (kAt K i).deep ≤ n := by
    intro i
    unfold kAt
    rw [List.getD_eq_getElem?_getD]
    cases hh : K[i.toNat]? with
    | none => exact Nat.zero_le _
    | some q => exact h q (List.mem_of_getElem? hh)
  unfold deep1 partsOf
  split
  · have := hk d.y; simp; omega
  · split
    · have := hk d.x; have := hk d.y; simp; omega
    · simp
theorem kps_deep_le : ∀ (L : List Nd), ∀ q ∈ kps L, q.deep ≤ L.length := by
  refine fun L => snocInd (p := fun L => ∀ q ∈ kps L, q.deep ≤ L.length) (fun q h => by cases h) (fun L d ih q hq => ?_) L
  rw [kps_snoc, List.mem_append] at hq
  rw [List.length_append]
  rcases hq with hq | hq
  · have := ih q hq; omega
  · rw [List.mem_singleton.1 hq]
    exact deep1_le ih
theorem kps_long_le : ∀ (L : List Nd), ∀ q ∈ kps L, q.long ≤ 65537 := by
  refine fun L => snocInd (p := fun L => ∀ q ∈ kps L, q.long ≤ 65537) (fun q h => by cases h) (fun L d ih q hq => ?_) L
  rw [kps_snoc, List.mem_append] at hq
  rcases hq with hq | hq
  · exact ih q hq
  · rw [List.mem_singleton.1 hq]
    exact Nat.min_le_right _ _
theorem kAt_mem {L : List Nd} {k : Nat} (h : k < L.length) : kAt (kps L) (k : Int) ∈ kps L := List.mem_of_getElem? (kAt_get h)
theorem mark_sizes (d : Nd) (hd : d.Ok) : (mark0 d).length ≤ 1000 ∧ (mark1 d).length ≤ 1000 ∧ (mark2 d).length ≤ 1000 := by
  have ln := Lib.itoa_length_le d.n hd.2.1.1 hd.2.1.2
  have la := Lib.itoa_length_le d.a hd.2.2.1.1 hd.2.2.1.2
  have ls : (signOf d.o).length ≤ 3 := by
    have := signN_le d.o.toNat
    exact this
  refine ⟨?_, ?_, ?_⟩
  · unfold mark0; split
    · omega
    · split
      · simp; omega
      · split
        · simp; omega
        · simp
  · unfold mark1; split
    · simp
    · split
      · simp
      · split
        · simp
        · simp; omega
  · unfold mark2; split
    · simp
    · split
      · simp
      · split <;> simp

theorem measured_any {B g m c : Nat} {sa : Option Addr} {L : List Nd} {w : World} (h : GraphAt B w g m sa c L) (d : Nd) (hd : d.Ok) (hm : mayB L.length d = true) (hL : Laid w) (hlen : L.length ≤ 1000) :
    Calls Tryd.prog 34 #[.pointer (some ⟨g, 0, none⟩), d.val] w fun e w' => e = .returned (.agg (kept1 (kps L) d).cells.toArray) ∧ Kept w w' := by
  have hc := h.cell0
  obtain ⟨s0, s1, s2⟩ := mark_sizes d hd
  have M : Marks d.val w ⟨(mark0 d).toArray⟩ ⟨(mark1 d).toArray⟩ ⟨(mark2 d).toArray⟩ := fun w' hk => marks_any d w' _ hd hm (hL.kept hk)
  have hp := may_parts hm
  obtain ⟨k, n, a, o, x, y⟩ := d
  have z0 : (⟨(mark0 ⟨k, n, a, o, x, y⟩).toArray⟩ : ByteArray).size = (mark0 ⟨k, n, a, o, x, y⟩).length := rfl
  have z1 : (⟨(mark1 ⟨k, n, a, o, x, y⟩).toArray⟩ : ByteArray).size = (mark1 ⟨k, n, a, o, x, y⟩).length := rfl
  have z2 : (⟨(mark2 ⟨k, n, a, o, x, y⟩).toArray⟩ : ByteArray).size = (mark2 ⟨k, n, a, o, x, y⟩).length := rfl
  by_cases k3 : k = 3
  · subst k3
    obtain ⟨hy0, hy1⟩ := hp y (by simp [partsOf])
    obtain ⟨j, rfl⟩ : ∃ j : Nat, y = j := ⟨y.toNat, by omega⟩
    have hj : j < L.length := by omega
    obtain ⟨r, rfl, _, _, _, _, _, hcell⟩ := h.rowAt (by omega)
    have bd := kps_deep_le L _ (kAt_mem hj)
    have bl := kps_long_le L _ (kAt_mem hj)
    refine (measured1w g n a o x j w _ _ _ M s0 s1 s2 r L.length c j _ _ rfl hj (by omega) hc (hcell j _ (kAt_get hj) 6 _ rfl) (hcell j _ (kAt_get hj) 7 _ rfl) (by omega) (by omega)).mono fun e w' hh => ⟨?_, hh.2⟩
    rw [hh.1, z0, z1, z2]
    simp only [kept1, Kp.cells, Nd.cells, deep1, long1, longSum, partsOf, marksLen, if_true, List.foldl_cons, List.foldl_nil]
    simp
    omega
  · by_cases k4 : k = 4
    · subst k4
      obtain ⟨hx0, hx1⟩ := hp x (by simp [partsOf])
      obtain ⟨hy0, hy1⟩ := hp y (by simp [partsOf])
      obtain ⟨i, rfl⟩ : ∃ i : Nat, x = i := ⟨x.toNat, by omega⟩
      obtain ⟨j, rfl⟩ : ∃ j : Nat, y = j := ⟨y.toNat, by omega⟩
      have hi : i < L.length := by omega
      have hj : j < L.length := by omega
      obtain ⟨r, rfl, _, _, _, _, _, hcell⟩ := h.rowAt (by omega)
      have bd := kps_deep_le L _ (kAt_mem hj)
      have bl := kps_long_le L _ (kAt_mem hj)
      have bd' := kps_deep_le L _ (kAt_mem hi)
      have bl' := kps_long_le L _ (kAt_mem hi)
      refine (measured2w g n a o i j w _ _ _ M s0 s1 s2 r L.length c i j _ _ _ _ rfl rfl hi hj (by omega) hc (hcell i _ (kAt_get hi) 6 _ rfl) (hcell i _ (kAt_get hi) 7 _ rfl) (hcell j _ (kAt_get hj) 6 _ rfl) (hcell j _ (kAt_get hj) 7 _ rfl) (by omega) (by omega) (by omega) (by omega)).mono fun e w' hh => ⟨?_, hh.2⟩
      rw [hh.1, z0, z1, z2]
      simp [kept1, Kp.cells, Nd.cells, deep1, long1, longSum, partsOf, marksLen]
      omega
    · refine (measured0w _ k n a o x y w _ _ _ M s0 s1 s2 (by simpa using k3) (by simpa using k4)).mono fun e w' hh => ⟨?_, hh.2⟩
      rw [hh.1, z0, z1, z2]
      simp [kept1, Kp.cells, Nd.cells, deep1, long1, longSum, partsOf, marksLen, k3, k4]
      omega
end Go.Proofs.YtjhmbbioplhcgaaDoor
