/-
  Layer 2: a graph in memory: its block, the row of its terms, the map of its nodes.
-/
import Derived.Test.YtjhmbbioplhcgaaDoorTBase
namespace Go.Proofs.YtjhmbbioplhcgaaDoor
open Go Go.RowKit Go.ChangeMaps Go.MapKept Go.WideMaps
open Go.Maps (Keyed)

def litOf (d : Nd) : Lit := .string (keyBytes [.int .u8 d.k, .int .i64 d.n, .int .i64 d.a, .int .u8 d.o, .int .i64 d.x, .int .i64 d.y])

theorem wf_i64 {n : Int} (h : InR n) : (Lit.int .i64 n).wf = true := by unfold InR at h; exact WalkArith.wf_i64 (by omega)
theorem wf_u8 {n : Int} (h : InB n) : (Lit.int .u8 n).wf = true := by
  unfold InB at h
  obtain ⟨a, b⟩ := h
  simp [Lit.wf, IntKind.min, IntKind.max, IntKind.signed, IntKind.bits]
  constructor
  · exact a
  · exact b

theorem pos_succ {k n : Nat} (h : k < n) : ∃ m, n = m + 1 := ⟨n - 1, by omega⟩
theorem typesSize : ∃ m, Tryd.prog.types.size = m + 1 := pos_succ TA.rowNode
theorem TA.cellsNode : Tryd.prog.cellsOf 34 = 6 := by kernel_rfl
theorem TA.cellsU8 : Tryd.prog.cellsOf 5 = 1 := by kernel_rfl
theorem TA.cellsI64 : Tryd.prog.cellsOf 2 = 1 := by kernel_rfl
theorem TA.cellsInt : Tryd.prog.cellsOf 3 = 1 := by kernel_rfl
theorem TA.cellsOp : Tryd.prog.cellsOf 32 = 1 := by kernel_rfl
theorem TA.cellsId : Tryd.prog.cellsOf 30 = 1 := by kernel_rfl

theorem keyOf_node (d : Nd) (h : d.Ok) : keyOf Tryd.prog 34 d.val = some (litOf d) := by
  obtain ⟨m, hm⟩ := typesSize
  obtain ⟨h1, h2, h3, h4, h5, h6⟩ := h
  have w1 := wf_u8 h1; have w2 := wf_i64 h2; have w3 := wf_i64 h3; have w4 := wf_u8 h4; have w5 := wf_i64 h5; have w6 := wf_i64 h6
  have f : d.val.formed Tryd.prog 34 = true := by
    simp [Nd.val, Value.formed, Tryd.underlying34, TA.cellsNode]
  simp only [keyOf, Tryd.underlying34, TA.keyNodeT, f, Bool.and_self, if_true, hm]
  simp [Program.keyLits, Tryd.underlying34, TA.cellsNode, TA.cellsU8, TA.cellsI64, TA.cellsInt, TA.cellsOp, TA.cellsId, Nd.val, Value.cells, Tryd.underlying5, Tryd.underlying2, Tryd.underlying3, Tryd.underlying32, Tryd.underlying30, w1, w2, w3, w4, w5, w6, litOf]

theorem litOf_inj {d e : Nd} (hd : d.Ok) (he : e.Ok) (h : litOf d = litOf e) : d = e := by
  have hv : d.val = e.val := lawNode.inj (keyOf_node d hd) (h ▸ keyOf_node e he)
  simp [Nd.val] at hv
  obtain ⟨h1, h2, h3, h4, h5, h6⟩ := hv
  exact Nd.ext' h1 h2 h3 h4 h5 h6
theorem isKey_litOf (d : Nd) : WideAt.IsKeyLit (litOf d) := trivial

/-- The graph's map, as it reads: each node's place. -/
def DmS (L : List Nd) : DataW Unit × Nat := L.foldl (fun s d => (s.1.put (litOf d) (.lit (.int .i64 (s.2 : Int))), s.2 + 1)) (.map [], 0)
def Dm (L : List Nd) : DataW Unit := (DmS L).1
theorem DmS_snd (L : List Nd) : (DmS L).2 = L.length := by
  refine snocInd (p := fun L => (DmS L).2 = L.length) rfl (fun L d ih => ?_) L
  simp only [DmS, List.foldl_append, List.foldl_cons, List.foldl_nil, List.length_append, List.length_cons, List.length_nil] at ih ⊢
  omega
theorem Dm_nil : Dm [] = .map [] := rfl
theorem Dm_snoc (L : List Nd) (d : Nd) : Dm (L ++ [d]) = (Dm L).put (litOf d) (.lit (.int .i64 (L.length : Int))) := by
  have h := DmS_snd L
  unfold Dm
  simp only [DmS, List.foldl_append, List.foldl_cons, List.foldl_nil] at h ⊢
  rw [h]
theorem Dm_isMap (L : List Nd) : Maps.IsMap (Dm L) := by
  refine snocInd (p := fun L => Maps.IsMap (Dm L)) Maps.isMap_empty (fun L d ih => ?_) L
  show Maps.IsMap (Dm (L ++ [d]))
  rw [Dm_snoc]
  exact ih.put _ _
theorem inL_snoc (L : List Nd) (e d : Nd) : inL (L ++ [e]) d = (inL L d || d.eqb e) := by simp [inL]
theorem Dm_has : ∀ (L : List Nd) (d : Nd), (∀ e ∈ L, e.Ok) → d.Ok → Maps.has (Dm L) (litOf d) = inL L d := by
  refine fun L => snocInd (p := fun L => ∀ (d : Nd), (∀ e ∈ L, e.Ok) → d.Ok → Maps.has (Dm L) (litOf d) = inL L d) (fun d _ _ => rfl) (fun L e ih d hL hd => ?_) L
  have he : e.Ok := hL e (by simp)
  have hL' : ∀ e ∈ L, e.Ok := fun x hx => hL x (by simp [hx])
  rw [Dm_snoc, inL_snoc]
  by_cases hde : d = e
  · subst hde
    rw [Maps.has_put_same (Dm_isMap L) (isKey_litOf _), Nd.eqb_self, Bool.or_true]
  · rw [Maps.has_put_other (fun h => hde (litOf_inj hd he h)), ih d hL' hd]
    have : d.eqb e = false := by
      cases hb : d.eqb e with
      | false => rfl
      | true => exact absurd ((Nd.eqb_iff d e).1 hb) hde
    rw [this, Bool.or_false]
theorem Dm_at : ∀ (L : List Nd) (d : Nd), (∀ e ∈ L, e.Ok) → d.Ok → L.Nodup → inL L d = true → ∀ z, (Dm L).atKey (litOf d) z = .lit (.int .i64 (idx L d : Int)) := by
  refine fun L => snocInd (p := fun L => ∀ (d : Nd), (∀ e ∈ L, e.Ok) → d.Ok → L.Nodup → inL L d = true → ∀ z, (Dm L).atKey (litOf d) z = .lit (.int .i64 (idx L d : Int))) (fun d _ _ _ h => by cases h) (fun L e ih d hL hd hn hi z => ?_) L
  have he : e.Ok := hL e (by simp)
  have hL' : ∀ e ∈ L, e.Ok := fun x hx => hL x (by simp [hx])
  have hn' := List.nodup_append.1 hn
  rw [Dm_snoc]
  by_cases hde : d = e
  · subst hde
    have hnot : inL L d = false := by
      cases hb : inL L d with
      | false => rfl
      | true => exact absurd rfl (hn'.2.2 d ((inL_iff L d).1 hb) d (by simp))
    rw [Maps.atKey_put_same (Dm_isMap L) (isKey_litOf _), idx_append_new hnot]
  · rw [Maps.atKey_put_other (fun h => hde (litOf_inj hd he h))]
    have hb : d.eqb e = false := by
      cases hb : d.eqb e with
      | false => rfl
      | true => exact absurd ((Nd.eqb_iff d e).1 hb) hde
    rw [inL_snoc, hb, Bool.or_false] at hi
    rw [ih d hL' hd hn'.1 hi z, idx_append_in hi]

/-! ### The graph in memory -/
/-- Pointer g leads to a graph of the nodes L; its map is block m; its row is at the slice (a, c); all of it lies from block B on. -/
structure GraphAt (B : Nat) (w : World) (g m : Nat) (a : Option Addr) (c : Nat) (L : List Nd) : Prop where
  blk : w.heap[g]? = some (.cells #[.slice a L.length c, .map (some m)] 76 (0, 0))
  row : w.ownsRow B 80 8 (.slice a L.length c) L.length (keptCells (kps L))
  map : w.ownsMap Tryd.prog 34 (plainElem Tryd.prog 30) m L.length (Dm L)
  apart : ∀ x, a = some x → x.block ≠ g
  low : B ≤ g ∧ B ≤ m
  good : Good L

/-- The blocks that a graph takes. -/
def Takes (g m : Nat) (a : Option Addr) (k : Nat) : Prop := k = g ∨ k = m ∨ ∃ x, a = some x ∧ k = x.block

section
variable {B g m c : Nat} {w w' : World} {a : Option Addr} {L : List Nd}
theorem GraphAt.turned {T : Nat → Prop} (h : GraphAt B w g m a c L) (k : Turned T w w') (hT : ∀ b, Takes g m a b → ¬ T b) : GraphAt B w' g m a c L := by
  have hg : g < w.heap.size := (Array.getElem?_eq_some_iff.1 h.blk).1
  have hm : m < w.heap.size := h.map.lt
  refine ⟨(k.block g hg (hT g (Or.inl rfl))).trans h.blk, ?_, ?_, h.apart, h.low, h.good⟩
  · obtain ⟨h1, h2⟩ := h.row
    refine ⟨h1, ?_⟩
    rcases h2 with h2 | ⟨b, cap, cur, hv, hb, hblk, hr⟩
    · exact Or.inl h2
    · refine Or.inr ⟨b, cap, cur, hv, hb, ?_, hr⟩
      have hbl : b < w.heap.size := (Array.getElem?_eq_some_iff.1 hblk).1
      have ha : a = some ⟨b, 0, none⟩ := by simpa using congrArg (fun v => match v with | .slice x _ _ => x | _ => none) hv
      exact (k.block b hbl (hT b (Or.inr (Or.inr ⟨_, ha, rfl⟩)))).trans hblk
  · obtain ⟨es, clock, hb, hF, hs, hD⟩ := h.map
    exact ⟨es, clock, (k.block m hm (hT m (Or.inr (Or.inl rfl)))).trans hb, hF, hs, hD⟩
theorem GraphAt.kept (h : GraphAt B w g m a c L) (k : Kept w w') : GraphAt B w' g m a c L := h.turned (k.turned fun _ => False) fun _ _ h => h
theorem GraphAt.cell0 (h : GraphAt B w g m a c L) : w.cell? ⟨g, 0, none⟩ = some (.slice a L.length c) := by rw [cell_of_row w g 0 _ _ _ h.blk]; rfl
theorem GraphAt.cell1 (h : GraphAt B w g m a c L) : w.cell? ⟨g, 1, none⟩ = some (.map (some m)) := by rw [cell_of_row w g 1 _ _ _ h.blk]; rfl
theorem GraphAt.free (h : GraphAt B w g m a c L) (o : Nat) : w.frozen? ⟨g, o, none⟩ = false := by
  unfold World.frozen?
  rw [h.blk]
  simp
theorem GraphAt.gLt (h : GraphAt B w g m a c L) : g < w.heap.size := (Array.getElem?_eq_some_iff.1 h.blk).1
theorem GraphAt.mLt (h : GraphAt B w g m a c L) : m < w.heap.size := h.map.lt
/-- A graph that has terms has a row; its cells. -/
theorem GraphAt.rowAt (h : GraphAt B w g m a c L) (hn : 0 < L.length) : ∃ r, a = some ⟨r, 0, none⟩ ∧ B ≤ r ∧ r < w.heap.size ∧ r ≠ g ∧ L.length ≤ c ∧ c ≤ maxLen ∧
    ∀ i q, (kps L)[i]? = some q → ∀ j v, q.cells[j]? = some v → w.cell? ⟨r, i * 8 + j, none⟩ = some v := by
  obtain ⟨h1, h2⟩ := h.row
  rcases h2 with ⟨_, h2⟩ | ⟨r, cap, cur, hv, hb, hblk, hle, hmx, hsz, htk⟩
  · omega
  · have hrl : r < w.heap.size := (Array.getElem?_eq_some_iff.1 hblk).1
    have ha : a = some ⟨r, 0, none⟩ := by simpa using congrArg (fun v => match v with | .slice x _ _ => x | _ => none) hv
    have hc : c = cap := by simpa using congrArg (fun v => match v with | .slice _ _ x => x | _ => 0) hv
    subst hc
    refine ⟨r, ha, hb, hrl, h.apart _ ha, hle, hmx, fun i q hq j v hj => ?_⟩
    have hj8 : j < 8 := by
      rcases Nat.lt_or_ge j 8 with h8 | h8
      · exact h8
      · rw [List.getElem?_eq_none (by rw [Kp.cells_len]; exact h8)] at hj; cases hj
    have hi : i < L.length := by
      rw [← kps_length]
      exact (List.getElem?_eq_some_iff.1 hq).1
    have hf := flat_get Kp.cells 8 Kp.cells_len (kps L) i j q hq hj8
    rw [hj] at hf
    rw [cell_of_row w r _ _ _ _ hblk]
    have : (keptCells (kps L))[i * 8 + j]? = some v := hf
    rw [← htk, List.getElem?_take] at this
    split at this
    · simpa using this
    · cases this
theorem GraphAt.look (h : GraphAt B w g m a c L) {d : Nd} (hd : d.Ok) :
    (Instr.lookup 73 (.map (some m)) d.val true).run Tryd.prog w = .ok (.tuple #[.int .i64 (if inL L d then (idx L d : Int) else 0), .bool (inL L d)]) w := by
  have hz : (zeroValue 30).run Tryd.prog w = .ok (.int .i64 0) w := by kernel_rfl
  have hzr : plainElem (H := Unit) Tryd.prog 30 (.int .i64 0) = some (.lit (.int .i64 0), []) := plainElem_int Tryd.underlying30 (by decide)
  obtain ⟨v, ps, hrun, hR⟩ := h.map.look_ok lawNode Tryd.underlying73 hz hzr (keyOf_node d hd)
  obtain ⟨x, rfl, hx, _⟩ := plainElem_int_inv Tryd.underlying30 hR
  rw [hrun, Dm_has L d h.good.ok hd]
  have hx1 : (Dm L).atKey (litOf d) (.lit (.int .i64 0)) = .lit (.int .i64 x) := congrArg Prod.fst hx
  cases hb : inL L d with
  | true =>
    rw [Dm_at L d h.good.ok hd h.good.nodup hb] at hx1
    have : (idx L d : Int) = x := by simpa using hx1
    simp [this]
  | false =>
    rw [Maps.atKey_of_not_has (by rw [Dm_has L d h.good.ok hd]; exact hb)] at hx1
    have : (0 : Int) = x := by simpa using hx1
    simp [this]
end
end Go.Proofs.YtjhmbbioplhcgaaDoor
