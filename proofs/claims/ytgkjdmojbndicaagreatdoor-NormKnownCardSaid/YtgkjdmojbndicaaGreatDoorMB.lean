/-
  Several texts in one: TBase: Layer 2: how a graph of the program lies in memory: values, cells, the map of nodes; what stays when other blocks turn.; TGraph: Layer 2: a graph in memory: its block, the row of its terms, the map of its nodes.; THas: Layer 2: contracts of the small functions of term: has, Size, Deep, Node, New; of the reference's has.; TNode: Layer 2: contracts of Deep, Node and New.; TMay: Layer 2: '==' at nodes; the contract of mayBe: it answers mayB, and writes nothing that was there.; TMayBe: Layer 2: the contract of mayBe: it answers mayB, and writes nothing that was there..
-/
import Derived.Test.YtgkjdmojbndicaaGreatDoorRows
import Derived.Test.YtgkjdmojbndicaaGreatDoorMA
import Derived.WalkSpells
import Derived.Lib.Hide
import Derived.WalkLawsBesides
import Derived.Laws.EntriesVeiled
import Derived.Maps.OwnOps
import Derived.Maps.OwnSet
import Derived.DeepKeys4
import Derived.Deep.AppendLies
import Derived.Sort.Grow
import Derived.Lib.ItoaMem
import Derived.Deep.RegionHeld3
import Derived.Deep.DrawnRows
import Derived.Laws.StructEq
import Derived.Deep.QuietTactic
import Derived.BigQuiet
namespace Go.Proofs.YtgkjdmojbndicaaGreatDoor
open Go Go.RowKit Go.ChangeMaps Go.MapKept Go.WideMaps
open Go.Maps (Keyed)

def Kept (w w' : World) : Prop := Below w.heap.size w w'
theorem Kept.refl (w : World) : Kept w w := Below.refl _ _
theorem Kept.trans {a b c : World} (h : Kept a b) (k : Kept b c) : Kept a c := Below.trans h (Below.mono k (Below.size h))
theorem Kept.drew {w w' : World} (h : Kept w w') : Kept w w'.drew := Below.drew h
theorem Kept.alloc {w w' : World} (h : Kept w w') (o : Obj) : Kept w (w'.alloc o) := Below.alloc h (Below.size h) o
theorem Kept.setCell {w w' : World} (h : Kept w w') {p : Addr} (hp : w.heap.size ≤ p.block) (u : Value) : Kept w (w'.setCell p u) := Below.setCell h hp u
theorem Kept.cell {w w' : World} (h : Kept w w') {a : Addr} {v : Value} (hc : w.cell? a = some v) : w'.cell? a = some v := by
  rw [Below.cell h (World.block_lt_of_cell? w _ hc)]; exact hc
theorem Kept.grow {w w' : World} {k : Nat} {os : Array Obj} (h : w' = Sort.grow (w.drewN k) os) : Kept w w' := by
  subst h
  refine ⟨rfl, rfl, rfl, ?_, ?_⟩
  · show w.heap.size ≤ (w.heap ++ os).size
    simp
  · intro i hi
    show (w.heap ++ os)[i]? = w.heap[i]?
    rw [Array.getElem?_append_left hi]

/-- All blocks that were there, but those of T, are as they were. -/
structure Turned (T : Nat → Prop) (w w' : World) : Prop where
  os : w'.os = w.os
  tape : w'.tape = w.tape
  output : w'.output = w.output
  size : w.heap.size ≤ w'.heap.size
  block : ∀ k, k < w.heap.size → ¬ T k → w'.heap[k]? = w.heap[k]?
theorem Turned.refl (T : Nat → Prop) (w : World) : Turned T w w := ⟨rfl, rfl, rfl, Nat.le_refl _, fun _ _ _ => rfl⟩
theorem Kept.turned {w w' : World} (h : Kept w w') (T : Nat → Prop) : Turned T w w' := ⟨h.os, h.tape, h.output, h.size, fun k hk _ => h.block k hk⟩
theorem Turned.trans {T : Nat → Prop} {a b c : World} (h : Turned T a b) (k : Turned T b c) : Turned T a c :=
  ⟨k.os.trans h.os, k.tape.trans h.tape, k.output.trans h.output, Nat.le_trans h.size k.size, fun i hi hT => (k.block i (Nat.lt_of_lt_of_le hi h.size) hT).trans (h.block i hi hT)⟩
theorem Turned.mono {T S : Nat → Prop} {w w' : World} (h : Turned T w w') (hs : ∀ k, k < w.heap.size → T k → S k) : Turned S w w' :=
  ⟨h.os, h.tape, h.output, h.size, fun k hk hS => h.block k hk fun hT => hS (hs k hk hT)⟩
theorem Turned.kept {T : Nat → Prop} {w w' : World} (h : Turned T w w') (hs : ∀ k, k < w.heap.size → ¬ T k) : Kept w w' :=
  ⟨h.os, h.tape, h.output, h.size, fun k hk => h.block k hk (hs k hk)⟩
theorem Turned.below {T : Nat → Prop} {B : Nat} {w w' : World} (h : Turned T w w') (hB : B ≤ w.heap.size) (hs : ∀ k, k < B → ¬ T k) : Below B w w' :=
  ⟨h.os, h.tape, h.output, h.size, fun k hk => h.block k (Nat.lt_of_lt_of_le hk hB) (hs k hk)⟩
theorem Turned.cell {T : Nat → Prop} {w w' : World} (h : Turned T w w') {a : Addr} {v : Value} (hc : w.cell? a = some v) (hT : ¬ T a.block) : w'.cell? a = some v := by
  rw [World.cell?_of_block (h.block a.block (World.block_lt_of_cell? w _ hc) hT)]; exact hc
theorem Turned.grown {T : Nat → Prop} {w w' : World} {row : Option Nat} (h : w.grownBy w' row) (hr : ∀ k, row = some k → T k) : Turned T w w' :=
  ⟨h.os, h.tape, h.output, h.size, fun k hk hT => h.block k hk fun e => hT (hr k e.symm)⟩
theorem Turned.setCell {T : Nat → Prop} (w : World) (a : Addr) (u : Value) (hT : T a.block) : Turned T w (w.setCell a u) :=
  ⟨rfl, rfl, rfl, by simp [World.setCell], fun k _ hk => Below.heap_setCell _ _ _ _ (fun e => hk (e ▸ hT))⟩

/-! ### Values -/
def Nd.cells (d : Nd) : List Value := [.int .u8 d.k, .int .i64 d.n, .int .i64 d.a, .int .u8 d.o, .int .i64 d.x, .int .i64 d.y]
def Nd.val (d : Nd) : Value := .agg #[.int .u8 d.k, .int .i64 d.n, .int .i64 d.a, .int .u8 d.o, .int .i64 d.x, .int .i64 d.y]
def Kp.cells (q : Kp) : List Value := q.d.cells ++ [.int .i64 (q.deep : Int), .int .i64 (q.long : Int)]
def keptCells (K : List Kp) : List Value := K.flatMap Kp.cells
def nodeCells (L : List Nd) : List Value := L.flatMap Nd.cells
theorem Nd.cells_len (d : Nd) : d.cells.length = 6 := rfl
theorem Kp.cells_len (q : Kp) : q.cells.length = 8 := rfl
theorem keptCells_len (K : List Kp) : (keptCells K).length = K.length * 8 := by
  unfold keptCells
  induction K with
  | nil => rfl
  | cons q K ih => rw [List.flatMap_cons, List.length_append, ih, Kp.cells_len, List.length_cons]; omega
theorem nodeCells_len (L : List Nd) : (nodeCells L).length = L.length * 6 := by
  unfold nodeCells
  induction L with
  | nil => rfl
  | cons q K ih => rw [List.flatMap_cons, List.length_append, ih, Nd.cells_len, List.length_cons]; omega
theorem flat_get {α : Type} (f : α → List Value) (c : Nat) (hf : ∀ x, (f x).length = c) : ∀ (K : List α) (i j : Nat) (x : α), K[i]? = some x → j < c → (K.flatMap f)[i * c + j]? = (f x)[j]?
  | [], i, j, x, h, _ => by simp at h
  | q :: K, 0, j, x, h, hj => by
    simp at h; subst h
    rw [List.flatMap_cons, Nat.zero_mul, Nat.zero_add, List.getElem?_append_left (by rw [hf]; exact hj)]
  | q :: K, i + 1, j, x, h, hj => by
    simp at h
    rw [List.flatMap_cons, List.getElem?_append_right (by rw [hf, Nat.add_mul]; omega), hf]
    have : (i + 1) * c + j - c = i * c + j := by rw [Nat.add_mul]; omega
    rw [this]
    exact flat_get f c hf K i j x h hj

/-! ### The map of nodes -/
theorem TA.laidOut : laidOutB Tryz.prog = true := by kernel_rfl
theorem TA.rowNode : (42 : TypeId) < Tryz.prog.types.size := of_decide_eq_true (by kernel_rfl)
theorem TA.keyNode : Tryz.prog.keyTypeAt 3 42 = true := by kernel_rfl
theorem TA.keyNodeT : Tryz.prog.keyType 42 = true := by kernel_rfl
theorem lawNode' : WideMaps.KeyLaw Tryz.prog 42 := by
  have h3 : 3 + 1 ≤ 10000 := by omega
  refine deep_law_laid TA.laidOut h3 TA.rowNode TA.keyNode ?_
  rw [Tryz.underlying42]
theorem lawNode : Keyed Tryz.prog 42 := Maps.Keyed.of_law lawNode'
theorem lawId : Keyed Tryz.prog 35 := Maps.int_keyed Tryz.underlying35

end Go.Proofs.YtgkjdmojbndicaaGreatDoor

namespace Go.Proofs.YtgkjdmojbndicaaGreatDoor
open Go Go.RowKit Go.ChangeMaps Go.MapKept Go.WideMaps
open Go.Maps (Keyed)

def litOf (d : Nd) : Lit := .string (keyBytes [.int .u8 d.k, .int .i64 d.n, .int .i64 d.a, .int .u8 d.o, .int .i64 d.x, .int .i64 d.y])

theorem wf_i64 {n : Int} (h : InR n) : (Lit.int .i64 n).wf = true := by unfold InR at h; exact WalkArith.wf_i64 (by omega)
theorem wf_u8 {n : Int} (h : InB n) : (Lit.int .u8 n).wf = true := by
  unfold InB at h
  obtain ⟨a, b⟩ := h
  simp [Lit.wf, IntKind.min, IntKind.max, IntKind.signed, IntKind.bits]
  constructor
  · exact a
  · exact b

theorem pos_succ {k n : Nat} (h : k < n) : ∃ m, n = m + 1 := ⟨n - 1, by omega⟩
theorem typesSize : ∃ m, Tryz.prog.types.size = m + 1 := pos_succ TA.rowNode
theorem TA.cellsNode : Tryz.prog.cellsOf 42 = 6 := by kernel_rfl
theorem TA.cellsU8 : Tryz.prog.cellsOf 5 = 1 := by kernel_rfl
theorem TA.cellsI64 : Tryz.prog.cellsOf 2 = 1 := by kernel_rfl
theorem TA.cellsInt : Tryz.prog.cellsOf 3 = 1 := by kernel_rfl
theorem TA.cellsOp : Tryz.prog.cellsOf 27 = 1 := by kernel_rfl
theorem TA.cellsId : Tryz.prog.cellsOf 35 = 1 := by kernel_rfl

theorem keyOf_node (d : Nd) (h : d.Ok) : keyOf Tryz.prog 42 d.val = some (litOf d) := by
  obtain ⟨m, hm⟩ := typesSize
  obtain ⟨h1, h2, h3, h4, h5, h6⟩ := h
  have w1 := wf_u8 h1; have w2 := wf_i64 h2; have w3 := wf_i64 h3; have w4 := wf_u8 h4; have w5 := wf_i64 h5; have w6 := wf_i64 h6
  have f : d.val.formed Tryz.prog 42 = true := by
    simp [Nd.val, Value.formed, Tryz.underlying42, TA.cellsNode]
  simp only [keyOf, Tryz.underlying42, TA.keyNodeT, f, Bool.and_self, if_true, hm]
  simp [Program.keyLits, Tryz.underlying42, TA.cellsNode, TA.cellsU8, TA.cellsI64, TA.cellsInt, TA.cellsOp, TA.cellsId, Nd.val, Value.cells, Tryz.underlying5, Tryz.underlying2, Tryz.underlying3, Tryz.underlying27, Tryz.underlying35, w1, w2, w3, w4, w5, w6, litOf]

theorem litOf_inj {d e : Nd} (hd : d.Ok) (he : e.Ok) (h : litOf d = litOf e) : d = e := by
  have hv : d.val = e.val := lawNode.inj (keyOf_node d hd) (h ▸ keyOf_node e he)
  simp [Nd.val] at hv
  obtain ⟨h1, h2, h3, h4, h5, h6⟩ := hv
  exact Nd.ext' h1 h2 h3 h4 h5 h6
theorem isKey_litOf (d : Nd) : WideAt.IsKeyLit (litOf d) := trivial

/-- The graph's map, as it reads: each node's place. -/
def DmS (L : List Nd) : DataW Unit × Nat := L.foldl (fun s d => (s.1.put (litOf d) (.lit (.int .i64 (s.2 : Int))), s.2 + 1)) (.map [], 0)
def Dm (L : List Nd) : DataW Unit := (DmS L).1
theorem DmS_snd (L : List Nd) : (DmS L).2 = L.length := by
  refine snocInd (p := fun L => (DmS L).2 = L.length) rfl (fun L d ih => ?_) L
  simp only [DmS, List.foldl_append, List.foldl_cons, List.foldl_nil, List.length_append, List.length_cons, List.length_nil] at ih ⊢
  omega
theorem Dm_nil : Dm [] = .map [] := rfl
theorem Dm_snoc (L : List Nd) (d : Nd) : Dm (L ++ [d]) = (Dm L).put (litOf d) (.lit (.int .i64 (L.length : Int))) := by
  have h := DmS_snd L
  unfold Dm
  simp only [DmS, List.foldl_append, List.foldl_cons, List.foldl_nil] at h ⊢
  rw [h]
theorem Dm_isMap (L : List Nd) : Maps.IsMap (Dm L) := by
  refine snocInd (p := fun L => Maps.IsMap (Dm L)) Maps.isMap_empty (fun L d ih => ?_) L
  show Maps.IsMap (Dm (L ++ [d]))
  rw [Dm_snoc]
  exact ih.put _ _
theorem inL_snoc (L : List Nd) (e d : Nd) : inL (L ++ [e]) d = (inL L d || d.eqb e) := by simp [inL]
theorem Dm_has : ∀ (L : List Nd) (d : Nd), (∀ e ∈ L, e.Ok) → d.Ok → Maps.has (Dm L) (litOf d) = inL L d := by
  refine fun L => snocInd (p := fun L => ∀ (d : Nd), (∀ e ∈ L, e.Ok) → d.Ok → Maps.has (Dm L) (litOf d) = inL L d) (fun d _ _ => rfl) (fun L e ih d hL hd => ?_) L
  have he : e.Ok := hL e (by simp)
  have hL' : ∀ e ∈ L, e.Ok := fun x hx => hL x (by simp [hx])
  rw [Dm_snoc, inL_snoc]
  by_cases hde : d = e
  · subst hde
    rw [Maps.has_put_same (Dm_isMap L) (isKey_litOf _), Nd.eqb_self, Bool.or_true]
  · rw [Maps.has_put_other (fun h => hde (litOf_inj hd he h)), ih d hL' hd]
    have : d.eqb e = false := by
      cases hb : d.eqb e with
      | false => rfl
      | true => exact absurd ((Nd.eqb_iff d e).1 hb) hde
    rw [this, Bool.or_false]
theorem Dm_at : ∀ (L : List Nd) (d : Nd), (∀ e ∈ L, e.Ok) → d.Ok → L.Nodup → inL L d = true → ∀ z, (Dm L).atKey (litOf d) z = .lit (.int .i64 (idx L d : Int)) := by
  refine fun L => snocInd (p := fun L => ∀ (d : Nd), (∀ e ∈ L, e.Ok) → d.Ok → L.Nodup → inL L d = true → ∀ z, (Dm L).atKey (litOf d) z = .lit (.int .i64 (idx L d : Int))) (fun d _ _ _ h => by cases h) (fun L e ih d hL hd hn hi z => ?_) L
  have he : e.Ok := hL e (by simp)
  have hL' : ∀ e ∈ L, e.Ok := fun x hx => hL x (by simp [hx])
  have hn' := List.nodup_append.1 hn
  rw [Dm_snoc]
  by_cases hde : d = e
  · subst hde
    have hnot : inL L d = false := by
      cases hb : inL L d with
      | false => rfl
      | true => exact absurd rfl (hn'.2.2 d ((inL_iff L d).1 hb) d (by simp))
    rw [Maps.atKey_put_same (Dm_isMap L) (isKey_litOf _), idx_append_new hnot]
  · rw [Maps.atKey_put_other (fun h => hde (litOf_inj hd he h))]
    have hb : d.eqb e = false := by
      cases hb : d.eqb e with
      | false => rfl
      | true => exact absurd ((Nd.eqb_iff d e).1 hb) hde
    rw [inL_snoc, hb, Bool.or_false] at hi
    rw [ih d hL' hd hn'.1 hi z, idx_append_in hi]

/-! ### The graph in memory -/
/-- Pointer g leads to a graph of the nodes L; its map is block m; its row is at the slice (a, c); all of it lies from block B on. -/
structure GraphAt (B : Nat) (w : World) (g m : Nat) (a : Option Addr) (c : Nat) (L : List Nd) : Prop where
  blk : w.heap[g]? = some (.cells #[.slice a L.length c, .map (some m)] 78 (0, 0))
  row : w.ownsRow B 87 8 (.slice a L.length c) L.length (keptCells (kps L))
  map : w.ownsMap Tryz.prog 42 (plainElem Tryz.prog 35) m L.length (Dm L)
  apart : ∀ x, a = some x → x.block ≠ g
  low : B ≤ g ∧ B ≤ m
  good : Good L

/-- The blocks that a graph takes. -/
def Takes (g m : Nat) (a : Option Addr) (k : Nat) : Prop := k = g ∨ k = m ∨ ∃ x, a = some x ∧ k = x.block

section
variable {B g m c : Nat} {w w' : World} {a : Option Addr} {L : List Nd}
theorem GraphAt.turned {T : Nat → Prop} (h : GraphAt B w g m a c L) (k : Turned T w w') (hT : ∀ b, Takes g m a b → ¬ T b) : GraphAt B w' g m a c L := by
  have hg : g < w.heap.size := (Array.getElem?_eq_some_iff.1 h.blk).1
  have hm : m < w.heap.size := h.map.lt
  refine ⟨(k.block g hg (hT g (Or.inl rfl))).trans h.blk, ?_, ?_, h.apart, h.low, h.good⟩
  · obtain ⟨h1, h2⟩ := h.row
    refine ⟨h1, ?_⟩
    rcases h2 with h2 | ⟨b, cap, cur, hv, hb, hblk, hr⟩
    · exact Or.inl h2
    · refine Or.inr ⟨b, cap, cur, hv, hb, ?_, hr⟩
      have hbl : b < w.heap.size := (Array.getElem?_eq_some_iff.1 hblk).1
      have ha : a = some ⟨b, 0, none⟩ := by simpa using congrArg (fun v => match v with | .slice x _ _ => x | _ => none) hv
      exact (k.block b hbl (hT b (Or.inr (Or.inr ⟨_, ha, rfl⟩)))).trans hblk
  · obtain ⟨es, clock, hb, hF, hs, hD⟩ := h.map
    exact ⟨es, clock, (k.block m hm (hT m (Or.inr (Or.inl rfl)))).trans hb, hF, hs, hD⟩
theorem GraphAt.kept (h : GraphAt B w g m a c L) (k : Kept w w') : GraphAt B w' g m a c L := h.turned (k.turned fun _ => False) fun _ _ h => h
theorem GraphAt.cell0 (h : GraphAt B w g m a c L) : w.cell? ⟨g, 0, none⟩ = some (.slice a L.length c) := by rw [cell_of_row w g 0 _ _ _ h.blk]; rfl
theorem GraphAt.cell1 (h : GraphAt B w g m a c L) : w.cell? ⟨g, 1, none⟩ = some (.map (some m)) := by rw [cell_of_row w g 1 _ _ _ h.blk]; rfl
theorem GraphAt.free (h : GraphAt B w g m a c L) (o : Nat) : w.frozen? ⟨g, o, none⟩ = false := by
  unfold World.frozen?
  rw [h.blk]
  simp
theorem GraphAt.gLt (h : GraphAt B w g m a c L) : g < w.heap.size := (Array.getElem?_eq_some_iff.1 h.blk).1
theorem GraphAt.mLt (h : GraphAt B w g m a c L) : m < w.heap.size := h.map.lt
/-- A graph that has terms has a row; its cells. -/
theorem GraphAt.rowAt (h : GraphAt B w g m a c L) (hn : 0 < L.length) : ∃ r, a = some ⟨r, 0, none⟩ ∧ B ≤ r ∧ r < w.heap.size ∧ r ≠ g ∧ L.length ≤ c ∧ c ≤ maxLen ∧
    ∀ i q, (kps L)[i]? = some q → ∀ j v, q.cells[j]? = some v → w.cell? ⟨r, i * 8 + j, none⟩ = some v := by
  obtain ⟨h1, h2⟩ := h.row
  rcases h2 with ⟨_, h2⟩ | ⟨r, cap, cur, hv, hb, hblk, hle, hmx, hsz, htk⟩
  · omega
  · have hrl : r < w.heap.size := (Array.getElem?_eq_some_iff.1 hblk).1
    have ha : a = some ⟨r, 0, none⟩ := by simpa using congrArg (fun v => match v with | .slice x _ _ => x | _ => none) hv
    have hc : c = cap := by simpa using congrArg (fun v => match v with | .slice _ _ x => x | _ => 0) hv
    subst hc
    refine ⟨r, ha, hb, hrl, h.apart _ ha, hle, hmx, fun i q hq j v hj => ?_⟩
    have hj8 : j < 8 := by
      rcases Nat.lt_or_ge j 8 with h8 | h8
      · exact h8
      · rw [List.getElem?_eq_none (by rw [Kp.cells_len]; exact h8)] at hj; cases hj
    have hi : i < L.length := by
      rw [← kps_length]
      exact (List.getElem?_eq_some_iff.1 hq).1
    have hf := flat_get Kp.cells 8 Kp.cells_len (kps L) i j q hq hj8
    rw [hj] at hf
    rw [cell_of_row w r _ _ _ _ hblk]
    have : (keptCells (kps L))[i * 8 + j]? = some v := hf
    rw [← htk, List.getElem?_take] at this
    split at this
    · simpa using this
    · cases this
theorem GraphAt.look (h : GraphAt B w g m a c L) {d : Nd} (hd : d.Ok) :
    (Instr.lookup 76 (.map (some m)) d.val true).run Tryz.prog w = .ok (.tuple #[.int .i64 (if inL L d then (idx L d : Int) else 0), .bool (inL L d)]) w := by
  have hz : (zeroValue 35).run Tryz.prog w = .ok (.int .i64 0) w := by kernel_rfl
  have hzr : plainElem (H := Unit) Tryz.prog 35 (.int .i64 0) = some (.lit (.int .i64 0), []) := plainElem_int Tryz.underlying35 (by decide)
  obtain ⟨v, ps, hrun, hR⟩ := h.map.look_ok lawNode Tryz.underlying76 hz hzr (keyOf_node d hd)
  obtain ⟨x, rfl, hx, _⟩ := plainElem_int_inv Tryz.underlying35 hR
  rw [hrun, Dm_has L d h.good.ok hd]
  have hx1 : (Dm L).atKey (litOf d) (.lit (.int .i64 0)) = .lit (.int .i64 x) := congrArg Prod.fst hx
  cases hb : inL L d with
  | true =>
    rw [Dm_at L d h.good.ok hd h.good.nodup hb] at hx1
    have : (idx L d : Int) = x := by simpa using hx1
    simp [this]
  | false =>
    rw [Maps.atKey_of_not_has (by rw [Dm_has L d h.good.ok hd]; exact hb)] at hx1
    have : (0 : Int) = x := by simpa using hx1
    simp [this]
end
end Go.Proofs.YtgkjdmojbndicaaGreatDoor

namespace Go.Proofs.YtgkjdmojbndicaaGreatDoor
open Go Go.RowKit

theorem ret_b {a b : Bool} (h : a = b) : Ending.returned (.bool a) = .returned (.bool b) := by rw [h]
theorem ret_i {a b : Int} (h : a = b) : Ending.returned (.int .i64 a) = .returned (.int .i64 b) := by rw [h]

set_option maxHeartbeats 400000 in
theorem has_cell (g n c : Nat) (a : Option Addr) (i : Int) (w : World) (hc : w.cell? ⟨g, 0, none⟩ = some (.slice a n c)) :
    Calls Tryz.prog 46 #[.pointer (some ⟨g, 0, none⟩), .int .i64 i] w fun e w' => e = .returned (.bool (hasB n i)) ∧ w = w' := by
  by_cases h0 : 0 ≤ i
  · by_cases h1 : i < n
    · have d1 : decide (i < (n : Int)) = true := decide_eq_true h1
      have d2 : hasB n i = true := (hasB_iff n i).2 ⟨h0, h1⟩
      have D2 := Lib.hid d2; clear d2
      go_enter Tryz.func46, Tryz.ntmps46
      go_wp2
      go_ret
      exact ⟨ret_b D2.out.symm, rfl⟩
    · have d1 : decide (i < (n : Int)) = false := decide_eq_false h1
      have d2 : hasB n i = false := by cases hb : hasB n i with | false => rfl | true => exact absurd ((hasB_iff n i).1 hb).2 h1
      have D2 := Lib.hid d2; clear d2
      go_enter Tryz.func46, Tryz.ntmps46
      go_wp2
      go_ret
      exact ⟨ret_b D2.out.symm, rfl⟩
  · have d1 : decide (0 ≤ i) = false := decide_eq_false h0
    have d2 : hasB n i = false := by cases hb : hasB n i with | false => rfl | true => exact absurd ((hasB_iff n i).1 hb).1 h0
    have D2 := Lib.hid d2; clear d2
    go_enter Tryz.func46, Tryz.ntmps46
    go_wp2
    go_ret
    exact ⟨ret_b D2.out.symm, rfl⟩
set_option maxHeartbeats 400000 in
theorem has_nil (i : Int) (w : World) :
    Calls Tryz.prog 46 #[.pointer none, .int .i64 i] w fun e w' => e = .returned (.bool false) ∧ w = w' := by
  go_enter Tryz.func46, Tryz.ntmps46
  go_wp2
  go_ret
  exact ⟨rfl, rfl⟩
set_option maxHeartbeats 400000 in
theorem size_cell (g n c : Nat) (a : Option Addr) (w : World) (hc : w.cell? ⟨g, 0, none⟩ = some (.slice a n c)) :
    Calls Tryz.prog 12 #[.pointer (some ⟨g, 0, none⟩)] w fun e w' => e = .returned (.int .i64 n) ∧ w = w' := by
  go_enter Tryz.func12, Tryz.ntmps12
  go_wp2
  go_ret
  exact ⟨rfl, rfl⟩
set_option maxHeartbeats 400000 in
theorem size_nil (w : World) :
    Calls Tryz.prog 12 #[.pointer none] w fun e w' => e = .returned (.int .i64 0) ∧ w = w' := by
  go_enter Tryz.func12, Tryz.ntmps12
  go_wp2
  go_ret
  exact ⟨rfl, rfl⟩
end Go.Proofs.YtgkjdmojbndicaaGreatDoor

namespace Go.Proofs.YtgkjdmojbndicaaGreatDoor
open Go Go.RowKit

def deepI (L : List Nd) (i : Int) : Int := if hasB L.length i then ((kAt (kps L) i).deep : Int) else 0
def longI (L : List Nd) (i : Int) : Int := if hasB L.length i then ((kAt (kps L) i).long : Int) else 0
def nd0 : Nd := ⟨0, 0, 0, 0, 0, 0⟩
def nodeAt (L : List Nd) (i : Int) : Nd := if hasB L.length i then L.getD i.toNat nd0 else nd0

theorem kAt_get {L : List Nd} {k : Nat} (h : k < L.length) : (kps L)[k]? = some (kAt (kps L) (k : Int)) := by
  have hl : k < (kps L).length := by rw [kps_length]; exact h
  unfold kAt
  rw [Int.toNat_natCast, List.getD_eq_getElem?_getD, List.getElem?_eq_getElem hl]
  rfl
theorem kps_d (L : List Nd) : (kps L).map Kp.d = L := by
  refine snocInd (p := fun L => (kps L).map Kp.d = L) rfl (fun L d ih => ?_) L
  rw [kps_snoc, List.map_append, ih]
  rfl
theorem kAt_d {L : List Nd} {k : Nat} (h : k < L.length) : (kAt (kps L) (k : Int)).d = L.getD k nd0 := by
  have h1 := kAt_get h
  have h2 := congrArg (fun l => l[k]?) (kps_d L)
  simp only [List.getElem?_map, h1, Option.map_some] at h2
  rw [List.getD_eq_getElem?_getD, ← h2]
  rfl

set_option maxHeartbeats 1000000 in
theorem node_any {B g m c : Nat} {a : Option Addr} {L : List Nd} {w : World} (h : GraphAt B w g m a c L) (i : Int) :
    Calls Tryz.prog 17 #[.pointer (some ⟨g, 0, none⟩), .int .i64 i] w fun e w' => e = .returned (.tuple #[(nodeAt L i).val, .bool (hasB L.length i)]) ∧ Kept w w' := by
  have hc := h.cell0
  by_cases hb : hasB L.length i = true
  · obtain ⟨h0, h1⟩ := (hasB_iff _ _).1 hb
    obtain ⟨k, rfl⟩ : ∃ k : Nat, i = k := ⟨i.toNat, by omega⟩
    have hk : k < L.length := by omega
    obtain ⟨r, rfl, _, hrl, _, hcap, hmx, hcell⟩ := h.rowAt (by omega)
    have hq := hcell k _ (kAt_get hk)
    have hdd := kAt_d hk
    have hc0 := hq 0 _ rfl
    have hc1 := hq 1 _ rfl
    have hc2 := hq 2 _ rfl
    have hc3 := hq 3 _ rfl
    have hc4 := hq 4 _ rfl
    have hc5 := hq 5 _ rfl
    simp only [Nat.add_zero] at hc0
    have hne : g ≠ w.heap.size := Nat.ne_of_lt h.gLt
    have hne0 : r ≠ w.heap.size := Nat.ne_of_lt hrl
    have hgl := h.gLt
    have HE := Lib.hid (show nodeAt L (k : Int) = (kAt (kps L) (k : Int)).d by unfold nodeAt; rw [if_pos hb, Int.toNat_natCast, hdd])
    clear hdd hq hcell
    generalize (kAt (kps L) (k : Int)).d = d at hc0 hc1 hc2 hc3 hc4 hc5 HE
    generalize hn : L.length = n at *
    unfold maxLen at hmx
    have HB := Lib.hid hb; clear hb
    have HN := Lib.hid hn; clear hn
    clear h
    go_enter Tryz.func17, Tryz.ntmps17
    go_wp2_with ((go_at_call 46; refine (has_cell _ _ _ _ _ _ ((Kept.alloc (Kept.refl _) _).cell hc)).mono ?_; rintro e w' ⟨rfl, rfl⟩; rw [HB.out]))
    rw [HE.out, HB.out]
    exact bodyPost_ret (v := .tuple #[d.val, .bool true]) (by simp [results, Tryz.results17, go_sem, Nd.val]) rfl ⟨rfl, (Kept.refl _).alloc _⟩
  · have hb' : hasB L.length i = false := by cases hq : hasB L.length i with | false => rfl | true => exact absurd hq hb
    have HE := Lib.hid (show nodeAt L i = nd0 by unfold nodeAt; rw [if_neg hb])
    have HB := Lib.hid hb'; clear hb hb' h
    go_enter Tryz.func17, Tryz.ntmps17
    go_wp2_with ((go_at_call 46; refine (has_cell _ _ _ _ _ _ ((Kept.alloc (Kept.refl _) _).cell hc)).mono ?_; rintro e w' ⟨rfl, rfl⟩; rw [HB.out]))
    rw [HE.out, HB.out]
    exact bodyPost_ret (v := .tuple #[nd0.val, .bool false]) (by simp [results, Tryz.results17, go_sem, Nd.val, nd0]) rfl ⟨rfl, (Kept.refl _).alloc _⟩
theorem node_nil (i : Int) (w : World) :
    Calls Tryz.prog 17 #[.pointer none, .int .i64 i] w fun e w' => e = .returned (.tuple #[nd0.val, .bool false]) ∧ Kept w w' := by
  go_enter Tryz.func17, Tryz.ntmps17
  go_wp2_with ((go_at_call 46; refine (has_nil _ _).mono ?_; rintro e w' ⟨rfl, rfl⟩))
  exact bodyPost_ret (v := .tuple #[nd0.val, .bool false]) (by simp [results, Tryz.results17, go_sem, Nd.val, nd0]) rfl ⟨rfl, (Kept.refl _).alloc _⟩

set_option maxHeartbeats 1000000 in
theorem new_any (B : Nat) (w : World) (hB : B ≤ w.heap.size) :
    Calls Tryz.prog 37 #[] w fun e w' => ∃ g m, e = .returned (.pointer (some ⟨g, 0, none⟩)) ∧ GraphAt B w' g m none 0 [] ∧ Kept w w' ∧ (∀ b, Takes g m none b → w.heap.size ≤ b) := by
  have hmm := @run_makeMap Tryz.prog
  go_enter Tryz.func37, Tryz.ntmps37
  go_wp2
  go_ret
  refine ⟨w.heap.size + 1, w.heap.size, by simp, ?_, ((Kept.refl _).alloc _).alloc _, ?_⟩
  · have hm := (World.ownsMap_made w Tryz.prog 42 (plainElem (H := Unit) Tryz.prog 35)).alloc (.cells #[.slice none 0 0, .map (some w.heap.size)] 78)
    have hb := (MapKept.heap_alloc (w.alloc (.map #[] 0)) (.cells #[.slice none 0 0, .map (some w.heap.size)] 78)).1
    refine ⟨?_, World.ownsRow_nil _ _ _ _, hm, fun x hx => (by cases hx), ⟨by omega, hB⟩, good_nil⟩
    simpa using hb
  · rintro b (rfl | rfl | ⟨x, hx, _⟩)
    · omega
    · omega
    · cases hx
end Go.Proofs.YtgkjdmojbndicaaGreatDoor

namespace Go.Proofs.YtgkjdmojbndicaaGreatDoor
open Go Go.RowKit

theorem guardNode : Tryz.prog.eqGuardType Tryz.prog.depth 42 = false := by kernel_rfl
theorem guardRef : Tryz.prog.eqGuardType Tryz.prog.depth 49 = false := by kernel_rfl
theorem eq_node (d e : Nd) (w : World) : (binOp .eql 42 d.val e.val).run Tryz.prog w = .ok (.bool (d.eqb e)) w := by
  have hS : Tryz.prog.underlying 42 = some (.struct (Tryz.prog.fieldsOf 42)) := by kernel_rfl
  have hp : Tryz.prog.stoodInHeld 42 = false := by kernel_rfl
  have u5 := Tryz.underlying5
  have u2 := Tryz.underlying2
  have u3 := Tryz.underlying3
  have u30 := Tryz.underlying35
  have u32 := Tryz.underlying27
  have a5 := Tryz.isAgg5
  have a2 := Tryz.isAgg2
  have a3 := Tryz.isAgg3
  have a30 := Tryz.isAgg35
  have a32 := Tryz.isAgg27
  have z5 := Tryz.sizeOf5
  have z2 := Tryz.sizeOf2
  have z3 := Tryz.sizeOf3
  have z30 := Tryz.sizeOf35
  have z32 := Tryz.sizeOf27
  unfold Nd.val
  rw [run_eql_struct, show (10000 : Nat) = 9999 + 1 from rfl, run_equalIn_agg w 9999 42 _ _ hS hp]
  simp only [Program.fieldsOf, Tryz.underlying42]
  unfold Nd.eqb
  go_simp
  by_cases h1 : d.k = e.k
  · by_cases h2 : d.n = e.n
    · by_cases h3 : d.a = e.a
      · by_cases h4 : d.o = e.o
        · by_cases h5 : d.x = e.x
          · by_cases h6 : d.y = e.y <;> simp [h1, h2, h3, h4, h5, h6]
          · simp [h1, h2, h3, h4, h5]
        · simp [h1, h2, h3, h4]
      · simp [h1, h2, h3]
    · simp [h1, h2]
  · simp [h1]
theorem eq_ref (d e : Nd) (w : World) : (binOp .eql 49 d.val e.val).run Tryz.prog w = .ok (.bool (d.eqb e)) w := by
  have hS : Tryz.prog.underlying 49 = some (.struct (Tryz.prog.fieldsOf 49)) := by kernel_rfl
  have hp : Tryz.prog.stoodInHeld 49 = false := by kernel_rfl
  have u5 := Tryz.underlying5
  have u2 := Tryz.underlying2
  have u3 := Tryz.underlying3
  have u32 := Tryz.underlying27
  have a5 := Tryz.isAgg5
  have a2 := Tryz.isAgg2
  have a3 := Tryz.isAgg3
  have a32 := Tryz.isAgg27
  have z5 := Tryz.sizeOf5
  have z2 := Tryz.sizeOf2
  have z3 := Tryz.sizeOf3
  have z32 := Tryz.sizeOf27
  unfold Nd.val
  rw [run_eql_struct, show (10000 : Nat) = 9999 + 1 from rfl, run_equalIn_agg w 9999 49 _ _ hS hp]
  simp only [Program.fieldsOf, Tryz.underlying49]
  unfold Nd.eqb
  go_simp
  by_cases h1 : d.k = e.k
  · by_cases h2 : d.n = e.n
    · by_cases h3 : d.a = e.a
      · by_cases h4 : d.o = e.o
        · by_cases h5 : d.x = e.x
          · by_cases h6 : d.y = e.y <;> simp [h1, h2, h3, h4, h5, h6]
          · simp [h1, h2, h3, h4, h5]
        · simp [h1, h2, h3, h4]
      · simp [h1, h2, h3]
    · simp [h1, h2]
  · simp [h1]
end Go.Proofs.YtgkjdmojbndicaaGreatDoor

namespace Go.Proofs.YtgkjdmojbndicaaGreatDoor
open Go Go.RowKit

set_option maxHeartbeats 1000000 in
theorem may1 (g s c : Nat) (sa : Option Addr) (n a o x y : Int) (w : World) (_hc : w.cell? ⟨g, 0, none⟩ = some (.slice sa s c)) (b : Bool) (hq : ∀ w, (binOp .eql 42 (.agg #[.int .u8 1, .int .i64 n, .int .i64 a, .int .u8 o, .int .i64 x, .int .i64 y]) (.agg #[.int .u8 1, .int .i64 n, .int .i64 0, .int .u8 0, .int .i64 0, .int .i64 0])).run Tryz.prog w = .ok (.bool b) w) :
    Calls Tryz.prog 61 #[.pointer (some ⟨g, 0, none⟩), .agg #[.int .u8 1, .int .i64 n, .int .i64 a, .int .u8 o, .int .i64 x, .int .i64 y]] w fun e w' => e = .returned (.bool b) ∧ Kept w w' := by
  have hgu := guardNode
  go_enter Tryz.func61, Tryz.ntmps61
  go_wp2
  go_ret
  exact ⟨rfl, (Kept.refl _).alloc _⟩
set_option maxHeartbeats 1000000 in
theorem may2f (g s c : Nat) (sa : Option Addr) (n a o x y : Int) (w : World) (_hc : w.cell? ⟨g, 0, none⟩ = some (.slice sa s c)) (hq : ∀ w, (binOp .eql 42 (.agg #[.int .u8 2, .int .i64 n, .int .i64 a, .int .u8 o, .int .i64 x, .int .i64 y]) (.agg #[.int .u8 2, .int .i64 n, .int .i64 0, .int .u8 0, .int .i64 0, .int .i64 0])).run Tryz.prog w = .ok (.bool false) w) :
    Calls Tryz.prog 61 #[.pointer (some ⟨g, 0, none⟩), .agg #[.int .u8 2, .int .i64 n, .int .i64 a, .int .u8 o, .int .i64 x, .int .i64 y]] w fun e w' => e = .returned (.bool false) ∧ Kept w w' := by
  have hgu := guardNode
  go_enter Tryz.func61, Tryz.ntmps61
  go_wp2
  go_ret
  exact ⟨rfl, (Kept.refl _).alloc _⟩
set_option maxHeartbeats 1000000 in
theorem may2 (g s c : Nat) (sa : Option Addr) (n a o x y : Int) (w : World) (_hc : w.cell? ⟨g, 0, none⟩ = some (.slice sa s c)) (hq : ∀ w, (binOp .eql 42 (.agg #[.int .u8 2, .int .i64 n, .int .i64 a, .int .u8 o, .int .i64 x, .int .i64 y]) (.agg #[.int .u8 2, .int .i64 n, .int .i64 0, .int .u8 0, .int .i64 0, .int .i64 0])).run Tryz.prog w = .ok (.bool true) w) (r : Bool) (hr : decide (0 ≤ n) = r) :
    Calls Tryz.prog 61 #[.pointer (some ⟨g, 0, none⟩), .agg #[.int .u8 2, .int .i64 n, .int .i64 a, .int .u8 o, .int .i64 x, .int .i64 y]] w fun e w' => e = .returned (.bool r) ∧ Kept w w' := by
  have hgu := guardNode
  go_enter Tryz.func61, Tryz.ntmps61
  go_wp2
  go_ret
  exact ⟨rfl, (Kept.refl _).alloc _⟩
set_option maxHeartbeats 1000000 in
theorem may3f (g s c : Nat) (sa : Option Addr) (n a o x y : Int) (w : World) (_hc : w.cell? ⟨g, 0, none⟩ = some (.slice sa s c)) (hq : ∀ w, (binOp .eql 42 (.agg #[.int .u8 3, .int .i64 n, .int .i64 a, .int .u8 o, .int .i64 x, .int .i64 y]) (.agg #[.int .u8 3, .int .i64 n, .int .i64 a, .int .u8 0, .int .i64 0, .int .i64 y])).run Tryz.prog w = .ok (.bool false) w) :
    Calls Tryz.prog 61 #[.pointer (some ⟨g, 0, none⟩), .agg #[.int .u8 3, .int .i64 n, .int .i64 a, .int .u8 o, .int .i64 x, .int .i64 y]] w fun e w' => e = .returned (.bool false) ∧ Kept w w' := by
  have hgu := guardNode
  go_enter Tryz.func61, Tryz.ntmps61
  go_wp2
  go_ret
  exact ⟨rfl, (Kept.refl _).alloc _⟩
set_option maxHeartbeats 1000000 in
theorem may3n (g s c : Nat) (sa : Option Addr) (n a o x y : Int) (w : World) (_hc : w.cell? ⟨g, 0, none⟩ = some (.slice sa s c)) (hq : ∀ w, (binOp .eql 42 (.agg #[.int .u8 3, .int .i64 n, .int .i64 a, .int .u8 o, .int .i64 x, .int .i64 y]) (.agg #[.int .u8 3, .int .i64 n, .int .i64 a, .int .u8 0, .int .i64 0, .int .i64 y])).run Tryz.prog w = .ok (.bool true) w) (hr : decide (0 ≤ n) = false) :
    Calls Tryz.prog 61 #[.pointer (some ⟨g, 0, none⟩), .agg #[.int .u8 3, .int .i64 n, .int .i64 a, .int .u8 o, .int .i64 x, .int .i64 y]] w fun e w' => e = .returned (.bool false) ∧ Kept w w' := by
  have hgu := guardNode
  go_enter Tryz.func61, Tryz.ntmps61
  go_wp2
  go_ret
  exact ⟨rfl, (Kept.refl _).alloc _⟩
set_option maxHeartbeats 1000000 in
theorem may3a (g s c : Nat) (sa : Option Addr) (n a o x y : Int) (w : World) (_hc : w.cell? ⟨g, 0, none⟩ = some (.slice sa s c)) (hq : ∀ w, (binOp .eql 42 (.agg #[.int .u8 3, .int .i64 n, .int .i64 a, .int .u8 o, .int .i64 x, .int .i64 y]) (.agg #[.int .u8 3, .int .i64 n, .int .i64 a, .int .u8 0, .int .i64 0, .int .i64 y])).run Tryz.prog w = .ok (.bool true) w) (h1 : 0 ≤ n) (hr : decide (0 ≤ a) = false) :
    Calls Tryz.prog 61 #[.pointer (some ⟨g, 0, none⟩), .agg #[.int .u8 3, .int .i64 n, .int .i64 a, .int .u8 o, .int .i64 x, .int .i64 y]] w fun e w' => e = .returned (.bool false) ∧ Kept w w' := by
  have hgu := guardNode
  go_enter Tryz.func61, Tryz.ntmps61
  go_wp2
  go_ret
  exact ⟨rfl, (Kept.refl _).alloc _⟩
set_option maxHeartbeats 1000000 in
theorem may3 (g s c : Nat) (sa : Option Addr) (n a o x y : Int) (w : World) (hc : w.cell? ⟨g, 0, none⟩ = some (.slice sa s c)) (hq : ∀ w, (binOp .eql 42 (.agg #[.int .u8 3, .int .i64 n, .int .i64 a, .int .u8 o, .int .i64 x, .int .i64 y]) (.agg #[.int .u8 3, .int .i64 n, .int .i64 a, .int .u8 0, .int .i64 0, .int .i64 y])).run Tryz.prog w = .ok (.bool true) w) (h1 : 0 ≤ n) (h2 : 0 ≤ a) :
    Calls Tryz.prog 61 #[.pointer (some ⟨g, 0, none⟩), .agg #[.int .u8 3, .int .i64 n, .int .i64 a, .int .u8 o, .int .i64 x, .int .i64 y]] w fun e w' => e = .returned (.bool (hasB s y)) ∧ Kept w w' := by
  have hgu := guardNode
  go_enter Tryz.func61, Tryz.ntmps61
  go_wp2_with ((go_at_call 46; refine (has_cell _ _ _ _ _ _ ((Kept.alloc (Kept.refl _) _).cell hc)).mono ?_; rintro e w' ⟨rfl, rfl⟩))
  go_ret
  exact ⟨rfl, (Kept.refl _).alloc _⟩
set_option maxHeartbeats 1000000 in
theorem may4f (g s c : Nat) (sa : Option Addr) (n a o x y : Int) (w : World) (_hc : w.cell? ⟨g, 0, none⟩ = some (.slice sa s c)) (hq : ∀ w, (binOp .eql 42 (.agg #[.int .u8 4, .int .i64 n, .int .i64 a, .int .u8 o, .int .i64 x, .int .i64 y]) (.agg #[.int .u8 4, .int .i64 0, .int .i64 0, .int .u8 o, .int .i64 x, .int .i64 y])).run Tryz.prog w = .ok (.bool false) w) :
    Calls Tryz.prog 61 #[.pointer (some ⟨g, 0, none⟩), .agg #[.int .u8 4, .int .i64 n, .int .i64 a, .int .u8 o, .int .i64 x, .int .i64 y]] w fun e w' => e = .returned (.bool false) ∧ Kept w w' := by
  have hgu := guardNode
  go_enter Tryz.func61, Tryz.ntmps61
  go_wp2
  go_ret
  exact ⟨rfl, (Kept.refl _).alloc _⟩
set_option maxHeartbeats 1000000 in
theorem may4l (g s c : Nat) (sa : Option Addr) (n a o x y : Int) (w : World) (_hc : w.cell? ⟨g, 0, none⟩ = some (.slice sa s c)) (hq : ∀ w, (binOp .eql 42 (.agg #[.int .u8 4, .int .i64 n, .int .i64 a, .int .u8 o, .int .i64 x, .int .i64 y]) (.agg #[.int .u8 4, .int .i64 0, .int .i64 0, .int .u8 o, .int .i64 x, .int .i64 y])).run Tryz.prog w = .ok (.bool true) w) (hr : decide (1 ≤ o) = false) :
    Calls Tryz.prog 61 #[.pointer (some ⟨g, 0, none⟩), .agg #[.int .u8 4, .int .i64 n, .int .i64 a, .int .u8 o, .int .i64 x, .int .i64 y]] w fun e w' => e = .returned (.bool false) ∧ Kept w w' := by
  have hgu := guardNode
  go_enter Tryz.func61, Tryz.ntmps61
  go_wp2
  go_ret
  exact ⟨rfl, (Kept.refl _).alloc _⟩
set_option maxHeartbeats 1000000 in
theorem may4h (g s c : Nat) (sa : Option Addr) (n a o x y : Int) (w : World) (_hc : w.cell? ⟨g, 0, none⟩ = some (.slice sa s c)) (hq : ∀ w, (binOp .eql 42 (.agg #[.int .u8 4, .int .i64 n, .int .i64 a, .int .u8 o, .int .i64 x, .int .i64 y]) (.agg #[.int .u8 4, .int .i64 0, .int .i64 0, .int .u8 o, .int .i64 x, .int .i64 y])).run Tryz.prog w = .ok (.bool true) w) (h1 : 1 ≤ o) (hr : decide (o ≤ 16) = false) :
    Calls Tryz.prog 61 #[.pointer (some ⟨g, 0, none⟩), .agg #[.int .u8 4, .int .i64 n, .int .i64 a, .int .u8 o, .int .i64 x, .int .i64 y]] w fun e w' => e = .returned (.bool false) ∧ Kept w w' := by
  have hgu := guardNode
  go_enter Tryz.func61, Tryz.ntmps61
  go_wp2
  go_ret
  exact ⟨rfl, (Kept.refl _).alloc _⟩
set_option maxHeartbeats 1000000 in
theorem may4x (g s c : Nat) (sa : Option Addr) (n a o x y : Int) (w : World) (hc : w.cell? ⟨g, 0, none⟩ = some (.slice sa s c)) (hq : ∀ w, (binOp .eql 42 (.agg #[.int .u8 4, .int .i64 n, .int .i64 a, .int .u8 o, .int .i64 x, .int .i64 y]) (.agg #[.int .u8 4, .int .i64 0, .int .i64 0, .int .u8 o, .int .i64 x, .int .i64 y])).run Tryz.prog w = .ok (.bool true) w) (h1 : 1 ≤ o) (h2 : o ≤ 16) (hx : Hid (hasB s x = false)) :
    Calls Tryz.prog 61 #[.pointer (some ⟨g, 0, none⟩), .agg #[.int .u8 4, .int .i64 n, .int .i64 a, .int .u8 o, .int .i64 x, .int .i64 y]] w fun e w' => e = .returned (.bool false) ∧ Kept w w' := by
  have hgu := guardNode
  go_enter Tryz.func61, Tryz.ntmps61
  go_wp2_with ((go_at_call 46; refine (has_cell _ _ _ _ _ _ ((Kept.alloc (Kept.refl _) _).cell hc)).mono ?_; rintro e w' ⟨rfl, rfl⟩; rw [hx.out]))
  go_ret
  exact ⟨rfl, (Kept.refl _).alloc _⟩
set_option maxHeartbeats 1000000 in
theorem may4 (g s c : Nat) (sa : Option Addr) (n a o x y : Int) (w : World) (hc : w.cell? ⟨g, 0, none⟩ = some (.slice sa s c)) (hq : ∀ w, (binOp .eql 42 (.agg #[.int .u8 4, .int .i64 n, .int .i64 a, .int .u8 o, .int .i64 x, .int .i64 y]) (.agg #[.int .u8 4, .int .i64 0, .int .i64 0, .int .u8 o, .int .i64 x, .int .i64 y])).run Tryz.prog w = .ok (.bool true) w) (h1 : 1 ≤ o) (h2 : o ≤ 16) (hx : Hid (hasB s x = true)) :
    Calls Tryz.prog 61 #[.pointer (some ⟨g, 0, none⟩), .agg #[.int .u8 4, .int .i64 n, .int .i64 a, .int .u8 o, .int .i64 x, .int .i64 y]] w fun e w' => e = .returned (.bool (hasB s y)) ∧ Kept w w' := by
  have hgu := guardNode
  go_enter Tryz.func61, Tryz.ntmps61
  go_wp2_with ((go_at_call 46; refine (has_cell _ _ _ _ _ _ ((Kept.alloc (Kept.refl _) _).cell hc)).mono ?_; rintro e w' ⟨rfl, rfl⟩; try rw [hx.out]))
  go_ret
  exact ⟨rfl, (Kept.refl _).alloc _⟩
set_option maxHeartbeats 1000000 in
theorem may0 (g s c : Nat) (sa : Option Addr) (n a o x y k : Int) (w : World) (_hc : w.cell? ⟨g, 0, none⟩ = some (.slice sa s c)) (k1 : (k == 1) = false) (k2 : (k == 2) = false) (k3 : (k == 3) = false) (k4 : (k == 4) = false) :
    Calls Tryz.prog 61 #[.pointer (some ⟨g, 0, none⟩), .agg #[.int .u8 k, .int .i64 n, .int .i64 a, .int .u8 o, .int .i64 x, .int .i64 y]] w fun e w' => e = .returned (.bool false) ∧ Kept w w' := by
  have hgu := guardNode
  go_enter Tryz.func61, Tryz.ntmps61
  go_wp2
  go_ret
  exact ⟨rfl, (Kept.refl _).alloc _⟩

theorem may_any {B g m c : Nat} {sa : Option Addr} {L : List Nd} {w : World} (h : GraphAt B w g m sa c L) (d : Nd) :
    Calls Tryz.prog 61 #[.pointer (some ⟨g, 0, none⟩), d.val] w fun e w' => e = .returned (.bool (mayB L.length d)) ∧ Kept w w' := by
  have hc := h.cell0
  generalize L.length = s at hc
  clear h
  obtain ⟨k, n, a, o, x, y⟩ := d
  have fin : ∀ {b : Bool}, Calls Tryz.prog 61 #[.pointer (some ⟨g, 0, none⟩), Nd.val ⟨k, n, a, o, x, y⟩] w (fun e w' => e = .returned (.bool b) ∧ Kept w w') → b = mayB s ⟨k, n, a, o, x, y⟩ →
      Calls Tryz.prog 61 #[.pointer (some ⟨g, 0, none⟩), Nd.val ⟨k, n, a, o, x, y⟩] w (fun e w' => e = .returned (.bool (mayB s ⟨k, n, a, o, x, y⟩)) ∧ Kept w w') := fun hw hb => hb ▸ hw
  by_cases k1 : k = 1
  · subst k1
    refine fin (may1 g s c sa n a o x y w hc _ (fun w => eq_node ⟨1, n, a, o, x, y⟩ ⟨1, n, 0, 0, 0, 0⟩ w)) ?_
    simp [Nd.eqb, mayB]
  · by_cases k2 : k = 2
    · subst k2
      have he := fun w => eq_node ⟨2, n, a, o, x, y⟩ ⟨2, n, 0, 0, 0, 0⟩ w
      cases hb : Nd.eqb ⟨2, n, a, o, x, y⟩ ⟨2, n, 0, 0, 0, 0⟩ with
      | false =>
        rw [hb] at he
        refine fin (may2f g s c sa n a o x y w hc he) ?_
        simp [Nd.eqb] at hb; simp [mayB]; omega
      | true =>
        rw [hb] at he
        refine fin (may2 g s c sa n a o x y w hc he _ rfl) ?_
        simp [Nd.eqb] at hb; simp [mayB, hb]
    · by_cases k3 : k = 3
      · subst k3
        have he := fun w => eq_node ⟨3, n, a, o, x, y⟩ ⟨3, n, a, 0, 0, y⟩ w
        cases hb : Nd.eqb ⟨3, n, a, o, x, y⟩ ⟨3, n, a, 0, 0, y⟩ with
        | false =>
          rw [hb] at he
          refine fin (may3f g s c sa n a o x y w hc he) ?_
          simp [Nd.eqb] at hb; simp [mayB, hasB]; omega
        | true =>
          rw [hb] at he
          simp [Nd.eqb] at hb
          by_cases h1 : 0 ≤ n
          · by_cases h2 : 0 ≤ a
            · refine fin (may3 g s c sa n a o x y w hc he h1 h2) ?_
              simp [mayB, hb, h1, h2]
            · refine fin (may3a g s c sa n a o x y w hc he h1 (decide_eq_false h2)) ?_
              simp [mayB, h2]
          · refine fin (may3n g s c sa n a o x y w hc he (decide_eq_false h1)) ?_
            simp [mayB, h1]
      · by_cases k4 : k = 4
        · subst k4
          have he := fun w => eq_node ⟨4, n, a, o, x, y⟩ ⟨4, 0, 0, o, x, y⟩ w
          cases hb : Nd.eqb ⟨4, n, a, o, x, y⟩ ⟨4, 0, 0, o, x, y⟩ with
          | false =>
            rw [hb] at he
            refine fin (may4f g s c sa n a o x y w hc he) ?_
            simp [Nd.eqb] at hb; simp [mayB, hasB]; omega
          | true =>
            rw [hb] at he
            simp [Nd.eqb] at hb
            by_cases h1 : 1 ≤ o
            · by_cases h2 : o ≤ 16
              · cases hx : hasB s x with
                | true =>
                  refine fin (may4 g s c sa n a o x y w hc he h1 h2 (Lib.hid hx)) ?_
                  simp [mayB, hb, h1, h2, hx]
                | false =>
                  refine fin (may4x g s c sa n a o x y w hc he h1 h2 (Lib.hid hx)) ?_
                  simp [mayB, hx]
              · refine fin (may4h g s c sa n a o x y w hc he h1 (decide_eq_false h2)) ?_
                simp [mayB, h2]
            · refine fin (may4l g s c sa n a o x y w hc he (decide_eq_false h1)) ?_
              simp [mayB, h1]
        · refine fin (may0 g s c sa n a o x y k w hc (by simpa using k1) (by simpa using k2) (by simpa using k3) (by simpa using k4)) ?_
          simp [mayB, k1, k2, k3, k4]
end Go.Proofs.YtgkjdmojbndicaaGreatDoor
