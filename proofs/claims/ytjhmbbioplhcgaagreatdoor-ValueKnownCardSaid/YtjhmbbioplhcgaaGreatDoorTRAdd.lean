
/-
  Layer 2: the reference's graph in memory, and the contract of its Add.
-/
import Derived.Test.YtjhmbbioplhcgaaGreatDoorTRMay
namespace Go.Proofs.YtjhmbbioplhcgaaGreatDoor
open Go Go.RowKit

/-- Pointer h leads to a reference's graph of the nodes L. -/
structure RefAt (N : Nat) (w : World) (h : Nat) (a : Option Addr) (c : Nat) (L : List Nd) : Prop where
  blk : w.heap[h]? = some (.cells #[.slice a L.length c] 64 (0, 0))
  row : w.ownsRow N 69 6 (.slice a L.length c) L.length (nodeCells L)
  apart : ∀ x, a = some x → x.block ≠ h
  low : N ≤ h
def RTakes (h : Nat) (a : Option Addr) (q : Nat) : Prop := q = h ∨ ∃ x, a = some x ∧ q = x.block
section
variable {N h c : Nat} {a : Option Addr} {L : List Nd} {w w' : World}
theorem RefAt.turned {T : Nat → Prop} (hr : RefAt N w h a c L) (k : Turned T w w') (hT : ∀ q, RTakes h a q → ¬ T q) : RefAt N w' h a c L :=
  ⟨(k.block h (Array.getElem?_eq_some_iff.1 hr.blk).1 (hT h (Or.inl rfl))).trans hr.blk, ownsRow_block hr.row fun q hq => k.block q (hr.row.lt q hq).2 (hT q (Or.inr (by
    cases a with
    | none => cases hq
    | some x => exact ⟨x, rfl, by simpa [Value.ownBlock] using hq.symm⟩))), hr.apart, hr.low⟩
theorem RefAt.kept (hr : RefAt N w h a c L) (k : Kept w w') : RefAt N w' h a c L := hr.turned (k.turned fun _ => False) fun _ _ e => e
theorem RefAt.cell0 (hr : RefAt N w h a c L) : w.cell? ⟨h, 0, none⟩ = some (.slice a L.length c) := by rw [cell_of_row _ _ _ _ _ _ hr.blk]; rfl
theorem RefAt.takes (hr : RefAt N w h a c L) : ∀ q, RTakes h a q → N ≤ q ∧ q < w.heap.size := by
  rintro q (rfl | ⟨x, hx, rfl⟩)
  · exact ⟨hr.low, (Array.getElem?_eq_some_iff.1 hr.blk).1⟩
  · exact hr.row.lt x.block (by rw [hx]; rfl)
theorem RefAt.keptOn {w0 : World} (hr : RefAt N w h a c L) (hN : w0.heap.size ≤ N) (hk : Kept w0 w) (ht : Turned (RTakes h a) w w') : Kept w0 w' :=
  ⟨ht.os.trans hk.os, ht.tape.trans hk.tape, ht.output.trans hk.output, Nat.le_trans hk.size ht.size, fun q hq => (ht.block q (Nat.lt_of_lt_of_le hq hk.size) fun e => by have := (hr.takes q e).1; omega).trans (hk.block q hq)⟩
theorem RefAt.rowAt (hr : RefAt N w h a c L) (hn : 0 < L.length) : ∃ r, a = some ⟨r, 0, none⟩ ∧ r < w.heap.size ∧ L.length ≤ c ∧ c ≤ maxLen ∧
    ∀ i d, L[i]? = some d → ∀ j v, d.cells[j]? = some v → w.cell? ⟨r, i * 6 + j, none⟩ = some v := by
  obtain ⟨h1, h2⟩ := hr.row
  rcases h2 with ⟨_, h2⟩ | ⟨r, cap, cur, hv, hb, hblk, hle, hmx, hsz, htk⟩
  · omega
  · have hrl : r < w.heap.size := (Array.getElem?_eq_some_iff.1 hblk).1
    have ha : a = some ⟨r, 0, none⟩ := by injection hv with h1 _ _
    have hc : c = cap := by injection hv with _ _ h3
    subst hc
    refine ⟨r, ha, hrl, hle, hmx, fun i d hd j v hj => ?_⟩
    have hj6 : j < 6 := by
      rcases Nat.lt_or_ge j 6 with h6 | h6
      · exact h6
      · rw [List.getElem?_eq_none (by rw [Nd.cells_len]; exact h6)] at hj; cases hj
    have hi : i < L.length := (List.getElem?_eq_some_iff.1 hd).1
    have hf := flat_get Nd.cells 6 Nd.cells_len L i j d hd hj6
    rw [hj] at hf
    rw [cell_of_row w r _ _ _ _ hblk]
    have : (nodeCells L)[i * 6 + j]? = some v := hf
    rw [← htk, List.getElem?_take] at this
    split at this
    · simpa using this
    · cases this
end
theorem eqb_comm (d e : Nd) : d.eqb e = e.eqb d := by
  cases h : e.eqb d with
  | true => rw [(Nd.eqb_iff e d).1 h]; exact Nd.eqb_self d
  | false =>
    cases h2 : d.eqb e with
    | false => rfl
    | true => rw [(Nd.eqb_iff d e).1 h2, Nd.eqb_self] at h; cases h
theorem idx_found {L : List Nd} {d : Nd} {j : Nat} {e : Nd} (hj : L[j]? = some e) (h : e.eqb d = true) (hp : ∀ k e, k < j → L[k]? = some e → e.eqb d = false) : idx L d = j ∧ inL L d = true := by
  obtain ⟨hl, he⟩ := List.getElem?_eq_some_iff.1 hj
  have h1 : idx L d = j := by
    unfold idx
    refine (List.findIdx_eq hl).2 ⟨by rw [he, eqb_comm]; exact h, fun k hk => ?_⟩
    rw [eqb_comm]
    have hkl : k < L.length := by omega
    simpa using hp k L[k] hk (List.getElem?_eq_getElem hkl)
  refine ⟨h1, (inL_iff L d).2 ?_⟩
  have := (Nd.eqb_iff e d).1 h
  rw [← this, ← he]
  exact List.getElem_mem hl
theorem inL_none {L : List Nd} {d : Nd} (hp : ∀ k e, k < L.length → L[k]? = some e → e.eqb d = false) : inL L d = false := by
  cases h : inL L d with
  | false => rfl
  | true =>
    obtain ⟨k, hk, he⟩ := List.getElem_of_mem ((inL_iff L d).1 h)
    have := hp k d hk (by rw [List.getElem?_eq_getElem hk, he])
    rw [Nd.eqb_self] at this; cases this
def refObj (d : Nd) : Obj := .cells #[.int .u8 d.k, .int .i64 d.n, .int .i64 d.a, .int .u8 d.o, .int .i64 d.x, .int .i64 d.y] 69
theorem rbox_facts {W w : World} {b : Nat} {d : Nd} (h : W.heap[b]? = some (refObj d)) (hk : Kept W w) :
    w.cell? ⟨b, 0, none⟩ = some (.int .u8 d.k) ∧ w.cell? ⟨b, 1, none⟩ = some (.int .i64 d.n) ∧ w.cell? ⟨b, 2, none⟩ = some (.int .i64 d.a) ∧ w.cell? ⟨b, 3, none⟩ = some (.int .u8 d.o) ∧ w.cell? ⟨b, 4, none⟩ = some (.int .i64 d.x) ∧ w.cell? ⟨b, 5, none⟩ = some (.int .i64 d.y) := by
  have h1 := hk.row h
  refine ⟨?_, ?_, ?_, ?_, ?_, ?_⟩ <;> (rw [cell_of_row _ _ _ _ _ _ h1]; rfl)
theorem infoRef : (Tryz.prog.info? 69).map (fun i => (i.zero, i.size, i.bytes)) = some (some (.agg #[.int .u8 0, .int .i64 0, .int .i64 0, .int .u8 0, .int .i64 0, .int .i64 0]), 6, 48) := by kernel_rfl
/-- Behind the append and its store. -/
theorem radd_end {N h c gg cap : Nat} {a : Option Addr} {L : List Nd} {d : Nd} {w w2 w4 : World} {o : Obj} (hr : RefAt N w h a c L) (hk : Kept w w2)
    (hown : w4.ownsRow N 69 6 (.slice (some ⟨gg, 0, none⟩) (L.length + 1) cap) (L.length + 1) (nodeCells L ++ d.cells))
    (hgrow : (w2.alloc o).grownBy w4 (Value.slice a L.length c).ownBlock) (hat : (Value.slice a L.length c).ownBlock = some gg ∨ gg = w2.heap.size + 1) :
    RefAt N (w4.setCell ⟨h, 0, none⟩ (.slice (some ⟨gg, 0, none⟩) (L.length + 1) cap)) h (some ⟨gg, 0, none⟩) cap (L ++ [d]) ∧ Turned (RTakes h a) w (w4.setCell ⟨h, 0, none⟩ (.slice (some ⟨gg, 0, none⟩) (L.length + 1) cap)) ∧
    (∀ q, RTakes h (some ⟨gg, 0, none⟩) q → RTakes h a q ∨ w.heap.size ≤ q) := by
  have h2 := (hr.kept hk).kept ((Kept.refl w2).alloc o)
  have hh2 : h < (w2.alloc o).heap.size := (Array.getElem?_eq_some_iff.1 h2.blk).1
  have hh3 : h < w2.heap.size := (Array.getElem?_eq_some_iff.1 (hr.kept hk).blk).1
  have hsz := hk.size
  have hro : ∀ q, (Value.slice a L.length c).ownBlock = some q → q ≠ h ∧ RTakes h a q := by
    intro q hq
    cases a with
    | none => cases hq
    | some x =>
      have hx : x.block = q := by simpa [Value.ownBlock] using hq
      exact ⟨hx ▸ hr.apart x rfl, Or.inr ⟨x, rfl, hx.symm⟩⟩
  have hgg : gg ≠ h := by
    rcases hat with e | e
    · exact (hro gg e).1
    · omega
  have hb4 : w4.heap[h]? = some (.cells #[.slice a L.length c] 64 (0, 0)) := (hgrow.block h hh2 (fun e => (hro h e.symm).1 rfl)).trans h2.blk
  have hlen : (L ++ [d]).length = L.length + 1 := by simp
  refine ⟨⟨?_, ?_, fun x hx => ?_, hr.low⟩, ?_, ?_⟩
  · rw [hlen]; exact setCell_row hb4 0 _
  · have hn : nodeCells (L ++ [d]) = nodeCells L ++ d.cells := by simp [nodeCells]
    rw [hlen, hn]
    refine ownsRow_block hown fun q hq => ?_
    have : gg = q := by simpa [Value.ownBlock] using hq
    subst this
    exact Below.heap_setCell _ _ _ _ hgg
  · have : x = ⟨gg, 0, none⟩ := by simpa using hx.symm
    rw [this]; exact hgg
  · have t1 : Turned (RTakes h a) w (w2.alloc o) := (hk.alloc o).turned _
    exact (t1.trans (Turned.grown hgrow fun k hk => (hro k hk).2)).trans (Turned.setCell _ _ _ (Or.inl rfl))
  · rintro q (rfl | ⟨x, hx, rfl⟩)
    · exact Or.inl (Or.inl rfl)
    · have : x = ⟨gg, 0, none⟩ := by simpa using hx.symm
      subst this
      rcases hat with e | e
      · exact Or.inl (hro gg e).2
      · right; show w.heap.size ≤ gg; omega

end Go.Proofs.YtjhmbbioplhcgaaGreatDoor
