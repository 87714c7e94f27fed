/-
  Layer 5: how rows of literals and formulas lie in memory; what stays when other blocks turn.
-/
import Derived.Test.YtlikokeknfhejaaGreatDoorRows
import Derived.Test.YtlikokeknfhejaaGreatDoorCUnit
import Derived.Test.YtlikokeknfhejaaGreatDoorCSort
import Derived.WalkSpells
import Derived.Lib.Hide
import Derived.WalkLawsBesides
import Derived.Laws.EntriesVeiled
import Derived.Maps.OwnOps
import Derived.Maps.OwnSet
import Derived.DeepKeys4
import Derived.Deep.AppendLies
import Derived.Sort.Grow
import Derived.Lib.ItoaMem
import Derived.Lib.AppendIntMem
import Derived.Deep.RegionHeld3
import Derived.Deep.DrawnRows
import Derived.Laws.StructEq
import Derived.Deep.QuietTactic
import Derived.BigQuiet
import Derived.Laws.AppendOwnNone
import Derived.Deep.Slices
namespace Go.Proofs.YtlikokeknfhejaaGreatDoor
open Go Go.RowKit Go.ChangeMaps Go.MapKept Go.WideMaps
open Go.Maps (Keyed)

def Kept (w w' : World) : Prop := Below w.heap.size w w'
theorem Kept.refl (w : World) : Kept w w := Below.refl _ _
theorem Kept.trans {a b c : World} (h : Kept a b) (k : Kept b c) : Kept a c := Below.trans h (Below.mono k (Below.size h))
theorem Kept.drew {w w' : World} (h : Kept w w') : Kept w w'.drew := Below.drew h
theorem Kept.drewN {w w' : World} (h : Kept w w') (n : Nat) : Kept w (w'.drewN n) := ⟨h.os, h.tape, h.output, h.size, h.block⟩
theorem Kept.alloc {w w' : World} (h : Kept w w') (o : Obj) : Kept w (w'.alloc o) := Below.alloc h (Below.size h) o
theorem Kept.setCell {w w' : World} (h : Kept w w') {p : Addr} (hp : w.heap.size ≤ p.block) (u : Value) : Kept w (w'.setCell p u) := Below.setCell h hp u
theorem Kept.cell {w w' : World} (h : Kept w w') {a : Addr} {v : Value} (hc : w.cell? a = some v) : w'.cell? a = some v := by
  rw [Below.cell h (World.block_lt_of_cell? w _ hc)]; exact hc
theorem Kept.row {W w : World} (hk : Kept W w) {b : Nat} {o : Obj} (h : W.heap[b]? = some o) : w.heap[b]? = some o :=
  (hk.block b (Array.getElem?_eq_some_iff.1 h).1).trans h
theorem Kept.grow {w w' : World} {k : Nat} {os : Array Obj} (h : w' = Sort.grow (w.drewN k) os) : Kept w w' := by
  subst h
  refine ⟨rfl, rfl, rfl, ?_, ?_⟩
  · show w.heap.size ≤ (w.heap ++ os).size
    simp
  · intro i hi
    show (w.heap ++ os)[i]? = w.heap[i]?
    rw [Array.getElem?_append_left hi]

/-- All blocks that were there, but those of T, are as they were. -/
structure Turned (T : Nat → Prop) (w w' : World) : Prop where
  os : w'.os = w.os
  tape : w'.tape = w.tape
  output : w'.output = w.output
  size : w.heap.size ≤ w'.heap.size
  block : ∀ k, k < w.heap.size → ¬ T k → w'.heap[k]? = w.heap[k]?
theorem Turned.refl (T : Nat → Prop) (w : World) : Turned T w w := ⟨rfl, rfl, rfl, Nat.le_refl _, fun _ _ _ => rfl⟩
theorem Kept.turned {w w' : World} (h : Kept w w') (T : Nat → Prop) : Turned T w w' := ⟨h.os, h.tape, h.output, h.size, fun k hk _ => h.block k hk⟩
theorem Turned.trans {T : Nat → Prop} {a b c : World} (h : Turned T a b) (k : Turned T b c) : Turned T a c :=
  ⟨k.os.trans h.os, k.tape.trans h.tape, k.output.trans h.output, Nat.le_trans h.size k.size, fun i hi hT => (k.block i (Nat.lt_of_lt_of_le hi h.size) hT).trans (h.block i hi hT)⟩
theorem Turned.mono {T S : Nat → Prop} {w w' : World} (h : Turned T w w') (hs : ∀ k, k < w.heap.size → T k → S k) : Turned S w w' :=
  ⟨h.os, h.tape, h.output, h.size, fun k hk hS => h.block k hk fun hT => hS (hs k hk hT)⟩
theorem Turned.kept {T : Nat → Prop} {w w' : World} (h : Turned T w w') (hs : ∀ k, k < w.heap.size → ¬ T k) : Kept w w' :=
  ⟨h.os, h.tape, h.output, h.size, fun k hk => h.block k hk (hs k hk)⟩
theorem Turned.from {T : Nat → Prop} {w0 w w' : World} (h : Turned T w w') (k : Kept w0 w) (hs : ∀ q, q < w0.heap.size → ¬ T q) : Kept w0 w' :=
  ⟨h.os.trans k.os, h.tape.trans k.tape, h.output.trans k.output, Nat.le_trans k.size h.size, fun q hq => (h.block q (Nat.lt_of_lt_of_le hq k.size) (hs q hq)).trans (k.block q hq)⟩
theorem Turned.cell {T : Nat → Prop} {w w' : World} (h : Turned T w w') {a : Addr} {v : Value} (hc : w.cell? a = some v) (hT : ¬ T a.block) : w'.cell? a = some v := by
  rw [World.cell?_of_block (h.block a.block (World.block_lt_of_cell? w _ hc) hT)]; exact hc
theorem Turned.grown {T : Nat → Prop} {w w' : World} {row : Option Nat} (h : w.grownBy w' row) (hr : ∀ k, row = some k → T k) : Turned T w w' :=
  ⟨h.os, h.tape, h.output, h.size, fun k hk hT => h.block k hk fun e => hT (hr k e.symm)⟩
theorem Turned.setCell {T : Nat → Prop} (w : World) (a : Addr) (u : Value) (hT : T a.block) : Turned T w (w.setCell a u) :=
  ⟨rfl, rfl, rfl, by simp [World.setCell], fun k _ hk => Below.heap_setCell _ _ _ _ (fun e => hk (e ▸ hT))⟩

/-- Of a world that makes memory: old cells and old marks read as before (rules for the walk). -/
theorem bcell {W w1 : World} (hb : Kept W w1) : (∀ b o, b < W.heap.size → w1.cell? ⟨b, o, none⟩ = W.cell? ⟨b, o, none⟩) ∧ (∀ b o, b < W.heap.size → w1.frozen? ⟨b, o, none⟩ = W.frozen? ⟨b, o, none⟩) :=
  ⟨fun b o h => Below.cell hb (p := ⟨b, o, none⟩) h, fun b o h => Below.frozen hb (p := ⟨b, o, none⟩) h⟩
theorem frozen_of_row {w : World} {b : Nat} {cs : Array Value} {t : TypeId} (h : w.heap[b]? = some (.cells cs t (0, 0))) (o : Nat) : w.frozen? ⟨b, o, none⟩ = false := by
  unfold World.frozen?
  rw [h]
  simp
theorem ret_int {k : IntKind} {a b : Int} (h : a = b) : Ending.returned (.int k a) = .returned (.int k b) := by rw [h]
theorem ret_bool {a b : Bool} (h : a = b) : Ending.returned (.bool a) = .returned (.bool b) := by rw [h]

/-! ### Rows of literals -/
/-- A slice of numbers, in memory. -/
structure IntsAt (w : World) (ra : Option Addr) (n : Nat) (zs : List Int) : Prop where
  len : zs.length = n
  inr : ∀ x ∈ zs, InR x
  at_ : 0 < n → ∃ b off, ra = some ⟨b, off, none⟩ ∧ ∀ j x, zs[j]? = some x → w.cell? ⟨b, off + j, none⟩ = some (.int .i64 x)
theorem IntsAt.kept {w w' : World} {la : Option Addr} {n : Nat} {us : List Int} (h : IntsAt w la n us) (k : Kept w w') : IntsAt w' la n us :=
  ⟨h.len, h.inr, fun hn => by
    obtain ⟨b, off, hl, hc⟩ := h.at_ hn
    exact ⟨b, off, hl, fun j x hx => k.cell (hc j x hx)⟩⟩
/-- In another world, all of whose cells at this row are as they were. -/
theorem IntsAt.cells {w w' : World} {la : Option Addr} {n : Nat} {us : List Int} (h : IntsAt w la n us) (k : ∀ b off, la = some ⟨b, off, none⟩ → ∀ o v, w.cell? ⟨b, o, none⟩ = some v → w'.cell? ⟨b, o, none⟩ = some v) : IntsAt w' la n us :=
  ⟨h.len, h.inr, fun hn => by
    obtain ⟨b, off, hl, hc⟩ := h.at_ hn
    exact ⟨b, off, hl, fun j x hx => k b off hl _ _ (hc j x hx)⟩⟩
theorem IntsAt.nil (w : World) (a : Option Addr) : IntsAt w a 0 [] := ⟨rfl, by simp, fun h => absurd h (Nat.lt_irrefl 0)⟩
/-- A row that is owned, as a slice of numbers. -/
theorem ints_of_row {w : World} {N n c : Nat} {e : TypeId} {a : Option Addr} {us : List Int} (h : w.ownsRow N e 1 (.slice a n c) n (us.map (Value.int .i64))) (hl : us.length = n) (hin : ∀ x ∈ us, InR x) : IntsAt w a n us := by
  refine ⟨hl, hin, fun hn => ?_⟩
  obtain ⟨_, h2⟩ := h
  rcases h2 with ⟨_, h0⟩ | ⟨r, cap', cur, hv, hB, hblk, hle, hmx, hsz, htk⟩
  · omega
  · injection hv with ha _ _
    refine ⟨r, 0, ha, fun j x hj => ?_⟩
    rw [Nat.zero_add, cell_of_row _ _ _ _ _ _ hblk]
    have hj2 : (us.map (Value.int .i64))[j]? = some (.int .i64 x) := by rw [List.getElem?_map, hj]; rfl
    rw [← htk, List.getElem?_take] at hj2
    split at hj2
    · simpa using hj2
    · cases hj2
/-- Its cells, for a contract that asks for all of them. -/
theorem IntsAt.all {w : World} {b off n : Nat} {zs : List Int} (h : IntsAt w (some ⟨b, off, none⟩) n zs) (hn : 0 < n) : ∀ j, j < zs.length → w.cell? ⟨b, off + j, none⟩ = some (.int .i64 (zs.getD j 0)) := by
  obtain ⟨b', off', hl, hc⟩ := h.at_ hn
  cases hl
  intro j hj
  rw [hc j _ (List.getElem?_eq_getElem hj), List.getD_eq_getElem?_getD, List.getElem?_eq_getElem hj]
  rfl
theorem slice_of_row {w : World} {base e size n : Nat} {v : Value} {xs : List Value} (h : w.ownsRow base e size v n xs) : ∃ a c, v = .slice a n c := by
  rcases h.2 with ⟨rfl, h0⟩ | ⟨r, cap, cur, hv, _⟩
  · subst h0; exact ⟨_, _, rfl⟩
  · exact ⟨_, _, hv⟩
/-- A row of one's own grows: all that was there is as it was. -/
theorem grow_kept {N s n : Nat} {e : TypeId} {v : Value} {xs : List Value} {w1 wr w4 : World} {o : Obj} (h1 : wr.ownsRow N e s v n xs) (hk : Kept w1 wr) (hN : w1.heap.size ≤ N) (hg : (wr.alloc o).grownBy w4 v.ownBlock) : Kept w1 w4 := by
  have tg : Turned (fun q => v.ownBlock = some q) (wr.alloc o) w4 := Turned.grown hg fun k hk => hk
  have k2 := hk.alloc o
  refine ⟨tg.os.trans k2.os, tg.tape.trans k2.tape, tg.output.trans k2.output, Nat.le_trans k2.size tg.size, fun q hq => (tg.block q (Nat.lt_of_lt_of_le hq k2.size) fun e => ?_).trans (k2.block q hq)⟩
  have := (h1.lt q e).1
  omega
theorem infoInt : (Tryz.prog.info? 3).map (fun i => (i.zero, i.size, i.bytes)) = some (some (.int .i64 0), 1, 8) := by kernel_rfl
theorem infoInts : (Tryz.prog.info? 22).map (fun i => (i.zero, i.size, i.bytes)) = some (some (.slice none 0 0), 1, 24) := by kernel_rfl

/-! ### Formulas -/
/-- A slice of clauses, in memory. -/
structure ClsAt (w : World) (ra : Option Addr) (n : Nat) (C : List (List Int)) : Prop where
  len : C.length = n
  at_ : 0 < n → ∃ b off, ra = some ⟨b, off, none⟩ ∧ ∀ j c, C[j]? = some c → ∃ a k cap, w.cell? ⟨b, off + j, none⟩ = some (.slice a k cap) ∧ IntsAt w a k c ∧ (a = none → k = 0 ∧ cap = 0) ∧ k ≤ cap ∧ cap ≤ 9223372036854775807
theorem ClsAt.kept {w w' : World} {la : Option Addr} {n : Nat} {C : List (List Int)} (h : ClsAt w la n C) (k : Kept w w') : ClsAt w' la n C :=
  ⟨h.len, fun hn => by
    obtain ⟨b, off, hl, hc⟩ := h.at_ hn
    refine ⟨b, off, hl, fun j c hj => ?_⟩
    obtain ⟨a, q, cap, h1, h2, h3⟩ := hc j c hj
    exact ⟨a, q, cap, k.cell h1, h2.kept k, h3⟩⟩
theorem ClsAt.nil (w : World) (a : Option Addr) : ClsAt w a 0 [] := ⟨rfl, fun h => absurd h (Nat.lt_irrefl 0)⟩
end Go.Proofs.YtlikokeknfhejaaGreatDoor
