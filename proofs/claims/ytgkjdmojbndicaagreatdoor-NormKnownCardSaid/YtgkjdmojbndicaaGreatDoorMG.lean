/-
  Several texts in one: TSee: Layer 2: the closure of Uses that keeps a term once.; TSortM: Layer 2: what the library's sort leaves, in the words of this layer.; TUses: Layer 2: the contract of Uses.; TMade: Layer 2: the contract of Made: a graph of some nodes, as they come, and the numbers that these got.; TRow: Layer 2: rows of numbers that a call owns, read; slices of numbers that came in..
-/
import Derived.Test.YtgkjdmojbndicaaGreatDoorMF
import Derived.Test.YtgkjdmojbndicaaGreatDoorMA
import Derived.StillTailTactics
namespace Go.Proofs.YtgkjdmojbndicaaGreatDoor
open Go Go.RowKit Go.ChangeMaps Go.MapKept Go.WideMaps
open Go.Maps (Keyed)

/-- The set of the terms so far, as its map reads. -/
def Ds (U : List Int) : DataW Unit := Maps.setOf (.agg []) (U.map (Lit.int .i64))
theorem Ds_snoc (U : List Int) (x : Int) : Ds (U ++ [x]) = (Ds U).put (.int .i64 x) (.agg []) := by
  unfold Ds
  rw [List.map_append, List.map_cons, List.map_nil, Maps.setOf_snoc]
theorem Ds_has (U : List Int) (x : Int) : Maps.has (Ds U) (.int .i64 x) = memB U x := by
  unfold Ds
  rw [Maps.has_setOf _ _ _ (by intro l hl; obtain ⟨y, _, rfl⟩ := List.mem_map.1 hl; trivial), List.any_map]
  unfold memB
  congr 1
  funext y
  simp [Lit.sameKey]

/-- The terms so far, in memory. -/
structure SeeAt (N : Nat) (w : World) (bs bu ms : Nat) (a : Option Addr) (c : Nat) (U : List Int) : Prop where
  hs : w.heap[bs]? = some (.cells #[.map (some ms)] 123 (0, 0))
  hu : w.heap[bu]? = some (.cells #[.slice a U.length c] 31 (0, 0))
  row : w.ownsRow N 35 1 (.slice a U.length c) U.length (U.map (Value.int .i64))
  map : w.ownsMap Tryz.prog 35 (unitElem (H := Unit)) ms U.length (Ds U)
  ne : bs ≠ bu
  apart : ∀ x, a = some x → x.block ≠ bs ∧ x.block ≠ bu
  low : N ≤ bs ∧ N ≤ bu ∧ N ≤ ms
  inr : ∀ x ∈ U, InR x
def SeeT (bu ms : Nat) (a : Option Addr) (q : Nat) : Prop := q = bu ∨ q = ms ∨ ∃ x, a = some x ∧ q = x.block

section
variable {N bs bu ms c : Nat} {a : Option Addr} {U : List Int} {w w' : World}
theorem SeeAt.kept (h : SeeAt N w bs bu ms a c U) (k : Kept w w') : SeeAt N w' bs bu ms a c U :=
  ⟨k.row h.hs, k.row h.hu, ownsRow_block h.row fun q hq => k.block q (h.row.lt q hq).2, ownsMap_block h.map (k.block ms h.map.lt), h.ne, h.apart, h.low, h.inr⟩
theorem SeeAt.cs (h : SeeAt N w bs bu ms a c U) : w.cell? ⟨bs, 0, none⟩ = some (.map (some ms)) := by rw [cell_of_row _ _ _ _ _ _ h.hs]; rfl
theorem SeeAt.cu (h : SeeAt N w bs bu ms a c U) : w.cell? ⟨bu, 0, none⟩ = some (.slice a U.length c) := by rw [cell_of_row _ _ _ _ _ _ h.hu]; rfl
theorem SeeAt.rowOf (h : SeeAt N w bs bu ms a c U) : ∀ q, (Value.slice a U.length c).ownBlock = some q → q ≠ bs ∧ q ≠ bu ∧ q ≠ ms ∧ q < w.heap.size ∧ N ≤ q := by
  intro q hq
  have hl := h.row.lt q hq
  cases a with
  | none => cases hq
  | some x =>
    have hx : x.block = q := by simpa [Value.ownBlock] using hq
    have ha := h.apart x rfl
    rw [hx] at ha
    refine ⟨ha.1, ha.2, ?_, hl.2, hl.1⟩
    rintro rfl
    obtain ⟨es, clock, hb, _⟩ := h.map
    rcases h.row.2 with ⟨h1, _⟩ | ⟨r, _, cur, hv, _, hblk, _⟩
    · cases h1
    · have hxr : x = ⟨r, 0, none⟩ := by injection hv with h1 _ _; injection h1
      subst hxr
      simp only at hx
      rw [hx, hb] at hblk
      cases hblk
theorem SeeAt.look (h : SeeAt N w bs bu ms a c U) {x : Int} (hx : InR x) : (Instr.lookup 123 (.map (some ms)) (.int .i64 x) true).run Tryz.prog w = .ok (.tuple #[.agg #[], .bool (memB U x)]) w := by
  have hz : (zeroValue 124).run Tryz.prog w = .ok (.agg #[]) w := by kernel_rfl
  obtain ⟨v, ps, hrun, hR⟩ := h.map.look_ok lawId Tryz.underlying123 hz unitElem_mk (Maps.keyOf_int_mk Tryz.underlying35 (wf_i64 hx))
  obtain ⟨rfl, _⟩ := unitElem_inv hR
  rw [hrun, Ds_has]
/-- Behind the store into the map, the append and its store. -/
theorem see_end {w1 w2 w4 : World} {x : Int} {gg cap : Nat} {o : Obj} (h : SeeAt N w bs bu ms a c U) (hx : InR x) (hk1 : Kept w w1)
    (hmap : w2.ownsMap Tryz.prog 35 (unitElem (H := Unit)) ms (U.length + 1) ((Ds U).put (.int .i64 x) (.agg []))) (hg2 : w1.grownBy w2 (some ms))
    (hown : w4.ownsRow N 35 1 (.slice (some ⟨gg, 0, none⟩) (U.length + 1) cap) (U.length + 1) (U.map (Value.int .i64) ++ [.int .i64 x]))
    (hgrow : (w2.alloc o).grownBy w4 (Value.slice a U.length c).ownBlock) (hat : (Value.slice a U.length c).ownBlock = some gg ∨ gg = w2.heap.size + 1) :
    SeeAt N (w4.setCell ⟨bu, 0, none⟩ (.slice (some ⟨gg, 0, none⟩) (U.length + 1) cap)) bs bu ms (some ⟨gg, 0, none⟩) cap (U ++ [x]) ∧
    Turned (SeeT bu ms a) w (w4.setCell ⟨bu, 0, none⟩ (.slice (some ⟨gg, 0, none⟩) (U.length + 1) cap)) ∧ (a = some ⟨gg, 0, none⟩ ∨ w.heap.size ≤ gg) := by
  have h1 := h.kept hk1
  have hbs1 : bs < w1.heap.size := (Array.getElem?_eq_some_iff.1 h1.hs).1
  have hbu1 : bu < w1.heap.size := (Array.getElem?_eq_some_iff.1 h1.hu).1
  have hms1 : ms < w1.heap.size := h1.map.lt
  have hsm : bs ≠ ms := by
    rintro rfl
    obtain ⟨es, clock, hb, _⟩ := h1.map
    rw [h1.hs] at hb; cases hb
  have hum : bu ≠ ms := by
    rintro rfl
    obtain ⟨es, clock, hb, _⟩ := h1.map
    rw [h1.hu] at hb; cases hb
  have hsz := hg2.size
  have hro := h1.rowOf
  have b2 : ∀ q, q < w1.heap.size → q ≠ ms → (w2.alloc o).heap[q]? = w1.heap[q]? := fun q hq hn =>
    (Below.heap_alloc w2 o q (by omega)).trans (hg2.block q hq (by simpa using hn))
  have sz3 : w2.heap.size < (w2.alloc o).heap.size := by simp
  have b4 : ∀ q, q < w2.heap.size → some q ≠ (Value.slice a U.length c).ownBlock → w4.heap[q]? = (w2.alloc o).heap[q]? := fun q hq hn => hgrow.block q (by omega) hn
  have hgg : gg ≠ bs ∧ gg ≠ bu ∧ gg ≠ ms := by
    rcases hat with hh | hh
    · have := hro gg hh; exact ⟨this.1, this.2.1, this.2.2.1⟩
    · exact ⟨by omega, by omega, by omega⟩
  have hu4 : w4.heap[bu]? = some (.cells #[.slice a U.length c] 31 (0, 0)) :=
    (b4 bu (by omega) fun e => (hro bu e.symm).2.1 rfl).trans ((b2 bu hbu1 hum).trans h1.hu)
  have hlen : (U ++ [x]).length = U.length + 1 := by simp
  refine ⟨⟨?_, ?_, ?_, ?_, h.ne, ?_, h.low, ?_⟩, ?_, ?_⟩
  · rw [Below.heap_setCell _ _ _ _ h.ne]
    exact (b4 bs (by omega) fun e => (hro bs e.symm).1 rfl).trans ((b2 bs hbs1 hsm).trans h1.hs)
  · rw [hlen]; exact setCell_row hu4 0 _
  · rw [hlen, List.map_append]
    refine ownsRow_block hown fun q hq => ?_
    have : gg = q := by simpa [Value.ownBlock] using hq
    subst this
    exact Below.heap_setCell _ _ _ _ hgg.2.1
  · rw [hlen, Ds_snoc]
    refine ownsMap_block hmap ?_
    rw [Below.heap_setCell _ _ _ _ hum.symm]
    exact (b4 ms (by omega) fun e => (hro ms e.symm).2.2.1 rfl).trans (Below.heap_alloc w2 o ms (by omega))
  · intro y hy
    have : y = ⟨gg, 0, none⟩ := by simpa using hy.symm
    subst this
    exact ⟨hgg.1, hgg.2.1⟩
  · intro y hy
    rcases List.mem_append.1 hy with hy | hy
    · exact h.inr y hy
    · rw [List.mem_singleton.1 hy]; exact hx
  · have t1 : Turned (SeeT bu ms a) w w1 := hk1.turned _
    have t2 : Turned (SeeT bu ms a) w1 w2 := Turned.grown hg2 fun k hk => Or.inr (Or.inl (by simpa using hk.symm))
    have t3 : Turned (SeeT bu ms a) w2 (w2.alloc o) := ((Kept.refl w2).alloc o).turned _
    have t4 : Turned (SeeT bu ms a) (w2.alloc o) w4 := Turned.grown hgrow fun k hk => by
      cases a with
      | none => cases hk
      | some y => exact Or.inr (Or.inr ⟨y, rfl, by simpa [Value.ownBlock] using hk.symm⟩)
    exact (((t1.trans t2).trans t3).trans t4).trans (Turned.setCell _ _ _ (Or.inl rfl))
  · rcases hat with hh | hh
    · left
      cases a with
      | none => cases hh
      | some y =>
        rcases h.row.2 with ⟨h1, _⟩ | ⟨r, _, cur, hv, _, hblk, _⟩
        · cases h1
        · have hxr : y = ⟨r, 0, none⟩ := by injection hv with h1 _ _; injection h1
          have hx2 : y.block = gg := by simpa [Value.ownBlock] using hh
          subst hxr
          simp only at hx2
          rw [hx2]
    · right; have := hk1.size; omega
end
theorem infoId : (Tryz.prog.info? 35).map (fun i => (i.zero, i.size, i.bytes)) = some (some (.int .i64 0), 1, 8) := by kernel_rfl

set_option maxRecDepth 100000 in
set_option maxHeartbeats 4000000 in
theorem see_any {N bs bu ms c : Nat} {a : Option Addr} {U : List Int} {w : World} (h : SeeAt N w bs bu ms a c U) (x : Int) (hx : InR x) (hlen : U.length ≤ 2000000000) :
    Calls Tryz.prog 71 #[.int .i64 x, .pointer (some ⟨bs, 0, none⟩), .pointer (some ⟨bu, 0, none⟩)] w fun e w' => e = .returned (.tuple #[]) ∧ ∃ a' c', SeeAt N w' bs bu ms a' c' (seeL U x) ∧ Turned (SeeT bu ms a) w w' ∧ (a' = a ∨ ∃ y, a' = some y ∧ w.heap.size ≤ y.block) := by
  have l0 := h.look hx
  have c0 := h.cs
  have c1 := h.cu
  have HH := Lib.hid h
  cases hm : memB U x with
  | true =>
    rw [hm] at l0
    have HM := Lib.hid hm; clear hm h
    go_enter Tryz.func71, Tryz.ntmps71
    go_wp2
    go_end0
    have e : seeL U x = U := by unfold seeL; rw [if_pos HM.out]
    rw [e]
    exact ⟨rfl, a, c, HH.out.kept ((Kept.refl _).alloc _), ((Kept.refl _).alloc _).turned _, Or.inl rfl⟩
  | false =>
    rw [hm] at l0
    have HM := Lib.hid hm; clear hm
    have hk1 := (Kept.refl w).alloc (.cells #[] 124)
    have h1 := h.kept hk1
    obtain ⟨w2, hrun, hmap2, hgrow2⟩ := h1.map.update lawId Tryz.underlying123 (by unfold maxLen; omega) (Maps.keyOf_int_mk Tryz.underlying35 (wf_i64 hx)) unitElem_mk
    have HMP := Lib.hid hmap2; have HG2 := Lib.hid hgrow2; have HK1 := Lib.hid hk1; have H1 := Lib.hid h1
    clear hmap2 hgrow2 hk1 h1 h
    have HX := Lib.hid hx; clear hx
    go_enter Tryz.func71, Tryz.ntmps71
    go_upto_region 2 with (fail)
    change Code.wp _ _ _ _ (w.alloc (.cells #[] 124))
    generalize w.alloc (.cells #[] 124) = W1 at *
    clear c0 c1 l0
    have c0 := H1.out.cs
    have c1 := H1.out.cu
    go_upto_region 3 with (fail)
    have hms : bu ≠ ms := by
      rintro rfl
      obtain ⟨es, clock, hb, _⟩ := H1.out.map
      rw [H1.out.hu] at hb; cases hb
    have hbl : bu < W1.heap.size := (Array.getElem?_eq_some_iff.1 H1.out.hu).1
    have HU2 : Hid (w2.heap[bu]? = some (.cells #[.slice a U.length c] 31 (0, 0))) := (HG2.out.block bu hbl (by simpa using hms)).trans H1.out.hu
    have HSZ : Hid (bu < w2.heap.size ∧ bu < (w2.alloc (.cells #[.int .i64 x] 35)).heap.size) := by have := HG2.out.size; show _ ∧ _; simp; omega
    have HLOW : Hid (N ≤ w2.heap.size) := by have h1 := HG2.out.size; have h2 := H1.out.low; show _ ≤ _; omega
    have HROW : Hid ((w2.alloc (.cells #[.int .i64 x] 35)).ownsRow N 35 1 (.slice a U.length c) U.length (U.map (Value.int .i64))) := by
      refine World.ownsRow.alloc (ownsRow_block H1.out.row fun q hq => ?_) _
      have hr := H1.out.rowOf q hq
      exact HG2.out.block q hr.2.2.2.1 (by simpa using hr.2.2.1)
    have HNE : Hid (some bu ≠ (Value.slice a U.length c).ownBlock) := fun e => (H1.out.rowOf bu e.symm).2.1 rfl
    clear c0 c1 hms hbl hrun
    have c1 : w2.cell? ⟨bu, 0, none⟩ = some (.slice a U.length c) := by rw [cell_of_row _ _ _ _ _ _ HU2.out]; rfl
    have z1 : w2.frozen? ⟨bu, 0, none⟩ = false := frozen_of_row HU2.out 0
    have hbl2 := HSZ.out.1
    have hbn2 : bu ≠ w2.heap.size := Nat.ne_of_lt HSZ.out.1
    obtain ⟨ii, hi, hz0, hz1, hz2⟩ := info_parts infoId
    have HI := Lib.hid (And.intro hi (And.intro hz0 (And.intro hz1 hz2))); clear hi hz0 hz1 hz2
    go_wp2_with (at_builtin; refine wpList_append_lies _ rfl _ _ _ rfl N 35 ii _ 1 8 Tryz.underlying31 HI.out.1 HI.out.2.1 HI.out.2.2.1 HI.out.2.2.2 rfl (by omega) (.slice a U.length c) U.length (U.map (Value.int .i64)) rfl HROW.out ⟨w2.heap.size, 0, none⟩ 1 1 [.int .i64 x] rfl rfl (World.news_of_block (cs := #[.int .i64 x]) (t := 35) (fr := (0, 0)) (heap_alloc_new w2 _)) (by simp [Value.oneCell']) (by omega) (by unfold maxLen; omega) (by omega) (by have := HLOW.out; simp; omega) (w2.heap.size + 1) (by simp) ?_; intro gg cap w4 hown4 hgrow4 hat4 hlt4; have c4 := (hgrow4.cell_far ⟨bu, 0, none⟩ HSZ.out.2 HNE.out).trans (((Kept.refl w2).alloc (.cells #[.int .i64 x] 35)).cell c1); have z4 : w4.frozen? ⟨bu, 0, none⟩ = false := (hgrow4.frozen_far ⟨bu, 0, none⟩ HSZ.out.2 HNE.out).trans (frozen_of_row (((Kept.refl w2).alloc (.cells #[.int .i64 x] 35)).row HU2.out) 0); have HOW4 := Lib.hid hown4; have HGR4 := Lib.hid hgrow4; have HAT4 := Lib.hid hat4; clear hown4 hgrow4 hat4 hlt4)
    go_end0
    have e : seeL U x = U ++ [x] := by unfold seeL; rw [if_neg (by rw [HM.out]; simp)]
    rw [e]
    have hE := see_end HH.out HX.out HK1.out HMP.out HG2.out HOW4.out HGR4.out HAT4.out
    refine ⟨rfl, _, _, hE.1, hE.2.1, ?_⟩
    rcases hE.2.2 with h | h
    · exact Or.inl h.symm
    · exact Or.inr ⟨_, rfl, h⟩
end Go.Proofs.YtgkjdmojbndicaaGreatDoor

namespace Go.Proofs.YtgkjdmojbndicaaGreatDoor
open Go Go.RowKit Go.Sort

theorem sorted_row {N ur c n : Nat} {W : World} {U S : List Int} {os : Array Obj} (hrow : W.ownsRow N 35 1 (.slice (some ⟨ur, 0, none⟩) U.length c) U.length (U.map (Value.int .i64))) (hS : S.length = U.length) :
    (grow (putRow (Value.int .i64) (Sort.ahead W n) ur 0 S.toArray) os).ownsRow N 35 1 (.slice (some ⟨ur, 0, none⟩) U.length c) U.length (S.map (Value.int .i64)) ∧
    Turned (fun q => q = ur) W (grow (putRow (Value.int .i64) (Sort.ahead W n) ur 0 S.toArray) os) := by
  have hb : ∀ q, q < W.heap.size → (grow (putRow (Value.int .i64) (Sort.ahead W n) ur 0 S.toArray) os).heap[q]? = (W.heap.modify ur (onCells (putCells (Value.int .i64) 0 S.toArray)))[q]? := by
    intro q hq
    show ((W.heap.modify ur (onCells (putCells (Value.int .i64) 0 S.toArray))) ++ os)[q]? = _
    rw [Array.getElem?_append_left (by simpa using hq)]
  obtain ⟨h1, h2⟩ := hrow
  rcases h2 with ⟨h2, _⟩ | ⟨r, cap, cur, hv, hN, hblk, hle, hmx, hsz, htk⟩
  · cases h2
  · have hr : ur = r := by injection hv with h1 _ _; injection h1 with h1; injection h1
    have hc : c = cap := by injection hv with _ _ h3
    subst hr; subst hc
    have hlt : ur < W.heap.size := (Array.getElem?_eq_some_iff.1 hblk).1
    refine ⟨⟨by simp [hS], Or.inr ⟨ur, c, putCells (Value.int .i64) 0 S.toArray cur, rfl, hN, ?_, hle, hmx, ?_, ?_⟩⟩, ⟨rfl, rfl, rfl, ?_, ?_⟩⟩
    · rw [hb ur hlt, Array.getElem?_modify, if_pos rfl, hblk]; rfl
    · simp [putCells, hsz]
    · apply List.ext_getElem?
      intro i
      rw [List.getElem?_take]
      split
      · rename_i hi
        have hic : i < cur.size := by omega
        simp only [putCells, Array.getElem?_toList, Array.getElem?_mapIdx, Array.getElem?_eq_getElem hic, Option.map_some]
        rw [if_pos ⟨Nat.zero_le _, by simp; omega⟩]
        have hiS : i < S.length := by omega
        simp [List.getElem?_map, List.getElem?_eq_getElem hiS]
      · rename_i hi
        rw [List.getElem?_eq_none (by simp; omega)]
    · show W.heap.size ≤ ((W.heap.modify ur (onCells (putCells (Value.int .i64) 0 S.toArray))) ++ os).size
      simp
    · intro q hq hne
      rw [hb q hq, Array.getElem?_modify, if_neg (fun e => hne e.symm)]
theorem sort_holds {N ur c : Nat} {W : World} {U : List Int} (hrow : W.ownsRow N 35 1 (.slice (some ⟨ur, 0, none⟩) U.length c) U.length (U.map (Value.int .i64))) : Holds (Value.int .i64) W ur 0 U.toArray := by
  intro j hj
  have hj' : j < U.length := by simpa using hj
  rcases hrow.2 with ⟨h2, _⟩ | ⟨r, cap, cur, hv, hN, hblk, hle, hmx, hsz, htk⟩
  · cases h2
  · have hr : ur = r := by injection hv with h1 _ _; injection h1 with h1; injection h1
    subst hr
    refine ⟨?_, frozen_of_row hblk _⟩
    rw [Nat.zero_add, cell_of_row _ _ _ _ _ _ hblk]
    have h2 : (U.map (Value.int .i64))[j]? = some (.int .i64 (U.toArray[j]!)) := by
      rw [List.getElem?_map, List.getElem?_eq_getElem hj']
      simp [getElem!_pos, hj']
    rw [← htk, List.getElem?_take, if_pos (by omega)] at h2
    simpa using h2
end Go.Proofs.YtgkjdmojbndicaaGreatDoor

namespace Go.Proofs.YtgkjdmojbndicaaGreatDoor
open Go Go.RowKit

/-- A slice of numbers that came in. -/
structure RootsAt (w : World) (ra : Option Addr) (n : Nat) (zs : List Int) : Prop where
  len : zs.length = n
  inr : ∀ x ∈ zs, InR x
  at_ : 0 < n → ∃ b off, ra = some ⟨b, off, none⟩ ∧ ∀ j x, zs[j]? = some x → w.cell? ⟨b, off + j, none⟩ = some (.int .i64 x)

/-- The world at the head of the first loop's rounds. -/
def RelA (L : List Nd) (roots : List Int) (w : World) (bs bu ms j : Nat) (wr : World) : Prop :=
  ∃ a c U, SeeAt w.heap.size wr bs bu ms a c U ∧ Kept w wr ∧ UInv L roots (roots.take j) U
/-- .. and of the second's. -/
def RelB (L : List Nd) (roots : List Int) (w : World) (bs bu ms j : Nat) (wr : World) : Prop :=
  ∃ a c U, SeeAt w.heap.size wr bs bu ms a c U ∧ Kept w wr ∧ UInv L roots roots U ∧ Clo L U j ∧ j ≤ U.length

theorem SeeAt.keptOn {N : Nat} {w wr wr' : World} {bs bu ms c : Nat} {a : Option Addr} {U : List Int} (h : SeeAt N wr bs bu ms a c U) (hN : w.heap.size ≤ N) (hk : Kept w wr) (ht : Turned (SeeT bu ms a) wr wr') : Kept w wr' := by
  refine ⟨ht.os.trans hk.os, ht.tape.trans hk.tape, ht.output.trans hk.output, Nat.le_trans hk.size ht.size, fun q hq => (ht.block q (Nat.lt_of_lt_of_le hq hk.size) ?_).trans (hk.block q hq)⟩
  rintro (e | e | ⟨x, hx, e⟩)
  · have := h.low.2.1; omega
  · have := h.low.2.2; omega
  · have := (h.rowOf x.block (by rw [hx]; rfl)).2.2.2.2
    omega
theorem SeeAt.cellAt {N : Nat} {w : World} {bs bu ms c : Nat} {a : Option Addr} {U : List Int} (h : SeeAt N w bs bu ms a c U) (hn : 0 < U.length) :
    ∃ ur, a = some ⟨ur, 0, none⟩ ∧ U.length ≤ c ∧ c ≤ maxLen ∧ ∀ j x, U[j]? = some x → w.cell? ⟨ur, j, none⟩ = some (.int .i64 x) := by
  rcases h.row.2 with ⟨_, h0⟩ | ⟨r, cap, cur, hv, _, hblk, hle, hmx, hsz, htk⟩
  · omega
  · have ha : a = some ⟨r, 0, none⟩ := by injection hv with h1 _ _
    have hc : c = cap := by injection hv with _ _ h3
    subst hc
    refine ⟨r, ha, hle, hmx, fun j x hx => ?_⟩
    have hj : j < U.length := (List.getElem?_eq_some_iff.1 hx).1
    rw [cell_of_row w r _ _ _ _ hblk]
    have h2 : (U.map (Value.int .i64))[j]? = some (.int .i64 x) := by rw [List.getElem?_map, hx]; rfl
    rw [← htk, List.getElem?_take, if_pos (by omega)] at h2
    simpa using h2
theorem clo_step {L : List Nd} {U V : List Int} {q : Nat} {u : Int} (h : Clo L U q) (hq : U[q]? = some u) (hV : ∃ Z, V = U ++ Z) (hp : ∀ p ∈ partsOf (ndAt L u), p ∈ V) : Clo L V (q + 1) := by
  obtain ⟨Z, rfl⟩ := hV
  have hql : q < U.length := (List.getElem?_eq_some_iff.1 hq).1
  intro j v hj hv p hpp
  rw [List.getElem?_append_left (by omega)] at hv
  by_cases hjq : j = q
  · subst hjq
    rw [hq] at hv
    cases hv
    exact hp p hpp
  · exact List.mem_append_left _ (h j v (by omega) hv p hpp)
theorem see2_prefix (U : List Int) (x y : Int) : ∃ Z, seeL (seeL U x) y = U ++ Z := by
  obtain ⟨V, h1⟩ := seeL_prefix U x
  obtain ⟨Z, h2⟩ := seeL_prefix (seeL U x) y
  exact ⟨V ++ Z, by rw [h2, h1, List.append_assoc]⟩
theorem has_inR {n : Nat} {i : Int} (h : hasB n i = true) (hn : n ≤ 1000000000) : InR i := by
  obtain ⟨h0, h1⟩ := (hasB_iff _ _).1 h
  exact ⟨by omega, by omega⟩

theorem uses_start (w : World) : SeeAt w.heap.size (((w.alloc (.cells #[.slice none 0 0] 31)).alloc (.map #[] 0)).alloc (.cells #[.map (some (w.heap.size + 1))] 123)) (w.heap.size + 1 + 1) w.heap.size (w.heap.size + 1) none 0 [] ∧ Kept w (((w.alloc (.cells #[.slice none 0 0] 31)).alloc (.map #[] 0)).alloc (.cells #[.map (some (w.heap.size + 1))] 123)) := by
  have e1 := (MapKept.heap_alloc w (.cells #[.slice none 0 0] 31)).1
  have s1 : (w.alloc (.cells #[.slice none 0 0] 31)).heap.size = w.heap.size + 1 := by simp
  have s2 : ((w.alloc (.cells #[.slice none 0 0] 31)).alloc (.map #[] 0)).heap.size = w.heap.size + 1 + 1 := by simp
  have e3 := (MapKept.heap_alloc ((w.alloc (.cells #[.slice none 0 0] 31)).alloc (.map #[] 0)) (.cells #[.map (some (w.heap.size + 1))] 123)).1
  rw [s2] at e3
  have om := (World.ownsMap_made (w.alloc (.cells #[.slice none 0 0] 31)) Tryz.prog 35 (unitElem (H := Unit))).alloc (.cells #[.map (some (w.heap.size + 1))] 123)
  rw [s1] at om
  exact ⟨⟨e3, Kept.row (((Kept.refl _).alloc _).alloc _) e1, World.ownsRow_nil _ _ _ _, om, by omega, (fun x hx => by cases hx), ⟨by omega, by omega, by omega⟩, by simp⟩, (((Kept.refl w).alloc _).alloc _).alloc _⟩
set_option maxRecDepth 100000 in
set_option maxHeartbeats 8000000 in
theorem uses_any {B g m c : Nat} {sa : Option Addr} {L : List Nd} {w : World} (h : GraphAt B w g m sa c L) (hlen : L.length ≤ 1000000000) (ra : Option Addr) (n rc : Nat) (zs : List Int) (hz : RootsAt w ra n zs) (hn : n ≤ 100000) :
    Calls Tryz.prog 56 #[.pointer (some ⟨g, 0, none⟩), .slice ra n rc] w fun e w' => ∃ a' c' R, e = .returned (.slice a' R.length c') ∧ UsesSpec L zs R ∧ w'.ownsRow w.heap.size 35 1 (.slice a' R.length c') R.length (R.map (Value.int .i64)) ∧ Kept w w' := by
  have hmm := @run_makeMap Tryz.prog
  have HH := Lib.hid h
  have HZ := Lib.hid hz
  clear h hz
  go_enter Tryz.func56, Tryz.ntmps56
  go_wp2
  have HS := Lib.hid (uses_start w)
  change Code.wp _ _ _ _ (((w.alloc (.cells #[.slice none 0 0] 31)).alloc (.map #[] 0)).alloc (.cells #[.map (some (w.heap.size + 1))] 123))
  generalize ((w.alloc (.cells #[.slice none 0 0] 31)).alloc (.map #[] 0)).alloc (.cells #[.map (some (w.heap.size + 1))] 123) = W1 at *
  generalize hbs : w.heap.size + 1 + 1 = bs at *
  generalize hms : w.heap.size + 1 = ms at *
  generalize hbu : w.heap.size = bu at *
  have HBS := Lib.hid hbs; have HMS := Lib.hid hms; have HBU := Lib.hid hbu
  clear hbs hms hbu
  go_loopw [17] (fun i wr => ∃ j : Nat, j ≤ n ∧ i = .int .i64 j ∧ RelA L zs w bs bu ms j wr) (fun i _ => n - (intOf i).toNat)
  case atStart =>
    refine ⟨0, Nat.zero_le _, rfl, none, 0, [], ?_, HS.out.2, UInv.nil L zs⟩
    rw [HBU.out]; exact HS.out.1
  case round =>
    obtain ⟨j, hj, rfl, hR⟩ := hrel
    by_cases hlt : j < n
    · obtain ⟨b, off, hra, hcz⟩ := HZ.out.at_ (by omega)
      subst hra
      obtain ⟨a1, c1, U, hS, hK, hI⟩ := hR
      have hzl := HZ.out.len
      have hjz : j < zs.length := by omega
      have hx0 := hK.cell (hcz j _ (List.getElem?_eq_getElem hjz))
      have hxr := HZ.out.inr _ (List.getElem_mem hjz)
      have htk : zs.take (j + 1) = zs.take j ++ [zs[j]] := List.take_succ_eq_append_getElem hjz
      have hmem : zs[j] ∈ zs := List.getElem_mem hjz
      have HTK := Lib.hid htk; have HMEM := Lib.hid hmem; have HXR := Lib.hid hxr
      clear htk hmem hxr hcz
      generalize zs[j] = x at *
      have g0 := (HH.out.kept hK).cell0
      have HS1 := Lib.hid hS; have HK1 := Lib.hid hK; have HI1 := Lib.hid hI
      clear hS hK hI hzl hjz
      have hj0 : (0 : Int) ≤ (j : Int) := Int.natCast_nonneg _
      have hj1 : (j : Int) < (n : Int) := by omega
      have hU := HI1.out.len
      cases hb : hasB L.length x with
      | true =>
        have HB := Lib.hid hb; clear hb
        go_wp2_with (first
          | (go_at_call 46; refine (has_cell _ _ _ _ _ _ g0).mono ?_; rintro e w' ⟨rfl, rfl⟩; rw [HB.out])
          | (go_at_call 71; refine (see_any HS1.out x HXR.out (by omega)).mono ?_; rintro e w2 ⟨rfl, a2, c2, hS2, hT2, _⟩; have HS2 := Lib.hid hS2; have HT2 := Lib.hid hT2; clear hS2 hT2))
        go_roundw
        case rel => exact ⟨j + 1, by omega, by go_num, a2, c2, _, HS2.out, HS1.out.keptOn (Nat.le_refl _) HK1.out HT2.out, by rw [HTK.out]; exact HI1.out.root HMEM.out HB.out⟩
        case measure => simp [intOf]; omega
      | false =>
        have HB := Lib.hid hb; clear hb
        go_wp2_with (go_at_call 46; refine (has_cell _ _ _ _ _ _ g0).mono ?_; rintro e w' ⟨rfl, rfl⟩; rw [HB.out])
        go_roundw
        case rel => exact ⟨j + 1, by omega, by go_num, a1, c1, U, HS1.out, HK1.out, by rw [HTK.out]; exact HI1.out.pass HB.out⟩
        case measure => simp [intOf]; omega
    · have hjn : j = n := by omega
      subst hjn
      obtain ⟨a1, c1, U, hS, hK, hI⟩ := hR
      have htk : zs.take j = zs := List.take_of_length_le (by rw [HZ.out.len]; exact Nat.le_refl _)
      rw [htk] at hI
      clear htk
      have HS1 := Lib.hid hS; have HK1 := Lib.hid hK; have HI1 := Lib.hid hI
      clear hS hK hI
      go_upto_region 11 with (fail)
      obtain ⟨wo, rfl⟩ : ∃ wo : World, wo = wr := ⟨_, rfl⟩
      go_loopw [10] (fun i wr => ∃ q : Nat, i = .int .i64 q ∧ RelB L zs w bs bu ms q wr) (fun i _ => 2000000000 - (intOf i).toNat)
      case atStart => exact ⟨0, rfl, a1, c1, U, HS1.out, HK1.out, HI1.out, (fun j u hj => absurd hj (Nat.not_lt_zero _)), Nat.zero_le _⟩
      case round =>
        obtain ⟨q, rfl, a2, c2, U2, hS, hK, hI, hC, hq⟩ := hrel
        have hU := hI.len
        have cu := hS.cu
        by_cases hql : q < U2.length
        · obtain ⟨ur, rfl, hcap2, hmx2, hcu⟩ := hS.cellAt (by omega)
          obtain ⟨u, hu⟩ : ∃ u, U2[q]? = some u := ⟨_, List.getElem?_eq_getElem hql⟩
          have hum : u ∈ U2 := List.mem_of_getElem? hu
          have hub := hI.has u hum
          obtain ⟨hu0, hu1⟩ := (hasB_iff _ _).1 hub
          obtain ⟨k, rfl⟩ : ∃ k : Nat, u = k := ⟨u.toNat, by omega⟩
          have hkl : k < L.length := by omega
          obtain ⟨r0, rfl, _, _, _, hcap0, hmx0, hcell⟩ := (HH.out.kept hK).rowAt (by omega)
          have hkd : (kAt (kps L) (k : Int)).d = ndAt L (k : Int) := by
            rw [kAt_d hkl]; rfl
          have hq0 := hcell k _ (kAt_get hkl)
          have m0 := hq0 0 _ rfl
          have m1 := hq0 1 _ rfl
          have m2 := hq0 2 _ rfl
          have m3 := hq0 3 _ rfl
          have m4 := hq0 4 _ rfl
          have m5 := hq0 5 _ rfl
          simp only [Nat.add_zero, hkd] at m0 m1 m2 m3 m4 m5
          have hmay : mayB k (ndAt L (k : Int)) = true := by rw [ndAt_get hkl]; exact HH.out.good.may k hkl
          have hparts := may_parts hmay
          have g0 := (HH.out.kept hK).cell0
          have huc := hcu q _ hu
          clear hq0 hcell hkd hcu
          have HHU := Lib.hid hu; have HUM := Lib.hid hum
          have HS2 := Lib.hid hS; have HK2 := Lib.hid hK; have HI2 := Lib.hid hI; have HC2 := Lib.hid hC
          clear hS hK hI hC hu hum hub hu0 hu1
          unfold maxLen at hmx0 hmx2
          have q0 : (0 : Int) ≤ (q : Int) := Int.natCast_nonneg _
          have q1 : (q : Int) < (U2.length : Int) := by omega
          have k0 : (0 : Int) ≤ (k : Int) := Int.natCast_nonneg _
          have k1 : (k : Int) < (L.length : Int) := by omega
          have HPT := Lib.hid hparts; clear hparts
          obtain ⟨d, hd⟩ : ∃ d, ndAt L (k : Int) = d := ⟨_, rfl⟩
          rw [hd] at m0 m1 m2 m3 m4 m5 hmay
          have HD := Lib.hid hd; clear hd
          have HMAY := Lib.hid hmay; clear hmay
          by_cases k3 : d.k = 3
          · have K3 := Lib.hid k3
            have HYR : Hid (InR d.y) := by
              have := HPT.out d.y (by rw [HD.out]; unfold partsOf; rw [if_pos k3]; simp)
              exact ⟨by omega, by omega⟩
            rw [k3] at m0
            clear k3
            have SK : Hid (∀ w', Kept wr w' → w'.cell? ⟨g, 0, none⟩ = some (.slice (some ⟨r0, 0, none⟩) L.length c) ∧ w'.cell? ⟨bu, 0, none⟩ = some (.slice (some ⟨ur, 0, none⟩) U2.length c2) ∧ w'.cell? ⟨ur, q, none⟩ = some (.int .i64 (k : Int)) ∧
                          w'.cell? ⟨r0, k * 8, none⟩ = some (.int .u8 3) ∧ w'.cell? ⟨r0, k * 8 + 1, none⟩ = some (.int .i64 d.n) ∧ w'.cell? ⟨r0, k * 8 + 2, none⟩ = some (.int .i64 d.a) ∧ w'.cell? ⟨r0, k * 8 + 3, none⟩ = some (.int .u8 d.o) ∧ w'.cell? ⟨r0, k * 8 + 4, none⟩ = some (.int .i64 d.x) ∧ w'.cell? ⟨r0, k * 8 + 5, none⟩ = some (.int .i64 d.y)) := fun w' hk =>
              ⟨hk.cell g0, hk.cell cu, hk.cell huc, hk.cell m0, hk.cell m1, hk.cell m2, hk.cell m3, hk.cell m4, hk.cell m5⟩
            clear m0 m1 m2 m3 m4 m5 huc g0 cu
            have hK0 := Kept.refl wr
            obtain ⟨g0, cu, huc, m0, m1, m2, m3, m4, m5⟩ := SK.out wr hK0
            go_wp2_with fail
            go_region_held3 (fun w' => w'.cell? ⟨g, 0, none⟩ = some (.slice (some ⟨r0, 0, none⟩) L.length c) ∧ w'.cell? ⟨bu, 0, none⟩ = some (.slice (some ⟨ur, 0, none⟩) U2.length c2) ∧ w'.cell? ⟨ur, q, none⟩ = some (.int .i64 (k : Int)) ∧
                          w'.cell? ⟨r0, k * 8, none⟩ = some (.int .u8 3) ∧ w'.cell? ⟨r0, k * 8 + 1, none⟩ = some (.int .i64 d.n) ∧ w'.cell? ⟨r0, k * 8 + 2, none⟩ = some (.int .i64 d.a) ∧ w'.cell? ⟨r0, k * 8 + 3, none⟩ = some (.int .u8 d.o) ∧ w'.cell? ⟨r0, k * 8 + 4, none⟩ = some (.int .i64 d.x) ∧ w'.cell? ⟨r0, k * 8 + 5, none⟩ = some (.int .i64 d.y))
              (first | exact SK.out _ (Kept.refl _) | exact SK.out _ (Kept.drew (Kept.refl _)) | exact SK.out _ (by assumption))
              ((go_at_call 60; refine (parts3 _ _ _ _ _ _).mono ?_; rintro e w3 ⟨pb, rfl, hk, hpb, p0⟩; replace hk := (Kept.drew hK0).trans hk))
            have HK0 := Lib.hid hk
            have HS4 := Lib.hid (HS2.out.kept HK0.out)
            have HK4 := Lib.hid (HK2.out.trans HK0.out)
            clear hk
            go_wp2
            refine wp_loop_rounds 2 ?_
            rw [rounds_succ]
            go_wp2_with fail
            refine (see_any HS4.out d.y HYR.out (by omega)).mono ?_
            rintro e w5 ⟨rfl, a5, c5, hS5, hT5, _⟩
            have HS5 := Lib.hid hS5
            have HK5 := Lib.hid (HS4.out.keptOn (Nat.le_refl _) HK4.out hT5)
            clear hS5 hT5
            go_wp2
            rw [rounds_succ]
            go_wp2
            go_roundw
            case rel =>
              have hd : partsOf (ndAt L (k : Int)) = [d.y] := by rw [HD.out]; unfold partsOf; rw [if_pos K3.out]
              refine ⟨q + 1, by go_num, a5, c5, _, HS5.out, HK5.out, HI2.out.part HH.out.good HUM.out (by rw [hd]; simp), clo_step HC2.out HHU.out (seeL_prefix _ _) (by rw [hd]; intro p hp; rw [List.mem_singleton.1 hp]; exact (mem_seeL _ _ _).2 (Or.inr rfl)), ?_⟩
              obtain ⟨Z, hZ⟩ := seeL_prefix U2 d.y
              rw [hZ, List.length_append]; omega
            case measure => simp [intOf]; omega
          · by_cases k4 : d.k = 4
            · have K4 := Lib.hid k4
              have HXR : Hid (InR d.x) := by
                have := HPT.out d.x (by rw [HD.out]; unfold partsOf; rw [if_neg k3, if_pos k4]; simp)
                exact ⟨by omega, by omega⟩
              have HYR : Hid (InR d.y) := by
                have := HPT.out d.y (by rw [HD.out]; unfold partsOf; rw [if_neg k3, if_pos k4]; simp)
                exact ⟨by omega, by omega⟩
              rw [k4] at m0
              clear k3 k4
              have SK : Hid (∀ w', Kept wr w' → w'.cell? ⟨g, 0, none⟩ = some (.slice (some ⟨r0, 0, none⟩) L.length c) ∧ w'.cell? ⟨bu, 0, none⟩ = some (.slice (some ⟨ur, 0, none⟩) U2.length c2) ∧ w'.cell? ⟨ur, q, none⟩ = some (.int .i64 (k : Int)) ∧
                            w'.cell? ⟨r0, k * 8, none⟩ = some (.int .u8 4) ∧ w'.cell? ⟨r0, k * 8 + 1, none⟩ = some (.int .i64 d.n) ∧ w'.cell? ⟨r0, k * 8 + 2, none⟩ = some (.int .i64 d.a) ∧ w'.cell? ⟨r0, k * 8 + 3, none⟩ = some (.int .u8 d.o) ∧ w'.cell? ⟨r0, k * 8 + 4, none⟩ = some (.int .i64 d.x) ∧ w'.cell? ⟨r0, k * 8 + 5, none⟩ = some (.int .i64 d.y)) := fun w' hk =>
                ⟨hk.cell g0, hk.cell cu, hk.cell huc, hk.cell m0, hk.cell m1, hk.cell m2, hk.cell m3, hk.cell m4, hk.cell m5⟩
              clear m0 m1 m2 m3 m4 m5 huc g0 cu
              have hK0 := Kept.refl wr
              obtain ⟨g0, cu, huc, m0, m1, m2, m3, m4, m5⟩ := SK.out wr hK0
              go_wp2_with fail
              go_region_held3 (fun w' => w'.cell? ⟨g, 0, none⟩ = some (.slice (some ⟨r0, 0, none⟩) L.length c) ∧ w'.cell? ⟨bu, 0, none⟩ = some (.slice (some ⟨ur, 0, none⟩) U2.length c2) ∧ w'.cell? ⟨ur, q, none⟩ = some (.int .i64 (k : Int)) ∧
                            w'.cell? ⟨r0, k * 8, none⟩ = some (.int .u8 4) ∧ w'.cell? ⟨r0, k * 8 + 1, none⟩ = some (.int .i64 d.n) ∧ w'.cell? ⟨r0, k * 8 + 2, none⟩ = some (.int .i64 d.a) ∧ w'.cell? ⟨r0, k * 8 + 3, none⟩ = some (.int .u8 d.o) ∧ w'.cell? ⟨r0, k * 8 + 4, none⟩ = some (.int .i64 d.x) ∧ w'.cell? ⟨r0, k * 8 + 5, none⟩ = some (.int .i64 d.y))
                (first | exact SK.out _ (Kept.refl _) | exact SK.out _ (Kept.drew (Kept.refl _)) | exact SK.out _ (by assumption))
                ((go_at_call 60; refine (parts4 _ _ _ _ _ _).mono ?_; rintro e w3 ⟨pb, rfl, hk, hpb, p0, p1⟩; replace hk := (Kept.drew hK0).trans hk))
              have HK0 := Lib.hid hk
              have HS4 := Lib.hid (HS2.out.kept HK0.out)
              have HK4 := Lib.hid (HK2.out.trans HK0.out)
              clear hk
              have HPB : Hid (¬ SeeT bu ms (some ⟨ur, 0, none⟩) pb) := by
                have h1 := (Array.getElem?_eq_some_iff.1 HS2.out.hu).1
                have h2 := HS2.out.map.lt
                have h3 := HS2.out.rowOf ur rfl
                have h4 : wr.heap.size ≤ pb := hpb
                rintro (e | e | ⟨y, hy, e⟩)
                · omega
                · omega
                · have : y = ⟨ur, 0, none⟩ := by simpa using hy.symm
                  subst this
                  simp only at e
                  omega
              go_wp2
              refine wp_loop_rounds 3 ?_
              rw [rounds_succ]
              go_wp2_with fail
              refine (see_any HS4.out d.x HXR.out (by omega)).mono ?_
              rintro e w5 ⟨rfl, a5, c5, hS5, hT5, _⟩
              have p1x := hT5.cell p1 HPB.out
              have HS5 := Lib.hid hS5
              have HK5 := Lib.hid (HS4.out.keptOn (Nat.le_refl _) HK4.out hT5)
              clear hS5 hT5 p1 p0
              go_wp2
              rw [rounds_succ]
              go_wp2_with fail
              have hlen5 : (seeL U2 d.x).length ≤ 2000000000 := by
                have h1 := (HI2.out.part HH.out.good HUM.out (p := d.x) (by rw [HD.out]; unfold partsOf; rw [if_neg (by rw [K4.out]; decide), if_pos K4.out]; simp)).len
                omega
              refine (see_any HS5.out d.y HYR.out hlen5).mono ?_
              rintro e w6 ⟨rfl, a6, c6, hS6, hT6, _⟩
              have HS6 := Lib.hid hS6
              have HK6 := Lib.hid (HS5.out.keptOn (Nat.le_refl _) HK5.out hT6)
              clear hS6 hT6 hlen5
              go_wp2
              rw [rounds_succ]
              go_wp2
              go_roundw
              case rel =>
                have hd : partsOf (ndAt L (k : Int)) = [d.x, d.y] := by rw [HD.out]; unfold partsOf; rw [if_neg (by rw [K4.out]; decide), if_pos K4.out]
                have hI5 := HI2.out.part HH.out.good HUM.out (p := d.x) (by rw [hd]; simp)
                refine ⟨q + 1, by go_num, a6, c6, _, HS6.out, HK6.out, hI5.part HH.out.good ((mem_seeL _ _ _).2 (Or.inl HUM.out)) (by rw [hd]; simp), clo_step HC2.out HHU.out (see2_prefix _ _ _) (by
                  rw [hd]; intro p hp
                  rcases List.mem_cons.1 hp with e | e
                  · rw [e]; exact (mem_seeL _ _ _).2 (Or.inl ((mem_seeL _ _ _).2 (Or.inr rfl)))
                  · rw [List.mem_singleton.1 e]; exact (mem_seeL _ _ _).2 (Or.inr rfl)), ?_⟩
                obtain ⟨Z, hZ⟩ := see2_prefix U2 d.x d.y
                rw [hZ, List.length_append]; omega
              case measure => simp [intOf]; omega
            · replace k3 : (d.k == 3) = false := by simpa using k3
              replace k4 : (d.k == 4) = false := by simpa using k4
              have SK : Hid (∀ w', Kept wr w' → w'.cell? ⟨g, 0, none⟩ = some (.slice (some ⟨r0, 0, none⟩) L.length c) ∧ w'.cell? ⟨bu, 0, none⟩ = some (.slice (some ⟨ur, 0, none⟩) U2.length c2) ∧ w'.cell? ⟨ur, q, none⟩ = some (.int .i64 (k : Int)) ∧
                            w'.cell? ⟨r0, k * 8, none⟩ = some (.int .u8 d.k) ∧ w'.cell? ⟨r0, k * 8 + 1, none⟩ = some (.int .i64 d.n) ∧ w'.cell? ⟨r0, k * 8 + 2, none⟩ = some (.int .i64 d.a) ∧ w'.cell? ⟨r0, k * 8 + 3, none⟩ = some (.int .u8 d.o) ∧ w'.cell? ⟨r0, k * 8 + 4, none⟩ = some (.int .i64 d.x) ∧ w'.cell? ⟨r0, k * 8 + 5, none⟩ = some (.int .i64 d.y)) := fun w' hk =>
                ⟨hk.cell g0, hk.cell cu, hk.cell huc, hk.cell m0, hk.cell m1, hk.cell m2, hk.cell m3, hk.cell m4, hk.cell m5⟩
              clear m0 m1 m2 m3 m4 m5 huc g0 cu
              have hK0 := Kept.refl wr
              obtain ⟨g0, cu, huc, m0, m1, m2, m3, m4, m5⟩ := SK.out wr hK0
              go_wp2_with fail
              go_region_held3 (fun w' => w'.cell? ⟨g, 0, none⟩ = some (.slice (some ⟨r0, 0, none⟩) L.length c) ∧ w'.cell? ⟨bu, 0, none⟩ = some (.slice (some ⟨ur, 0, none⟩) U2.length c2) ∧ w'.cell? ⟨ur, q, none⟩ = some (.int .i64 (k : Int)) ∧
                            w'.cell? ⟨r0, k * 8, none⟩ = some (.int .u8 d.k) ∧ w'.cell? ⟨r0, k * 8 + 1, none⟩ = some (.int .i64 d.n) ∧ w'.cell? ⟨r0, k * 8 + 2, none⟩ = some (.int .i64 d.a) ∧ w'.cell? ⟨r0, k * 8 + 3, none⟩ = some (.int .u8 d.o) ∧ w'.cell? ⟨r0, k * 8 + 4, none⟩ = some (.int .i64 d.x) ∧ w'.cell? ⟨r0, k * 8 + 5, none⟩ = some (.int .i64 d.y))
                (first | exact SK.out _ (Kept.refl _) | exact SK.out _ (Kept.drew (Kept.refl _)) | exact SK.out _ (by assumption))
                ((go_at_call 60; refine (parts0 _ _ _ _ _ _ _ k3 k4).mono ?_; rintro e w3 ⟨rfl, hk⟩; replace hk := (Kept.drew hK0).trans hk))
              have HK0 := Lib.hid hk
              have HS4 := Lib.hid (HS2.out.kept HK0.out)
              have HK4 := Lib.hid (HK2.out.trans HK0.out)
              clear hk
              go_wp2
              refine wp_loop_rounds 1 ?_
              rw [rounds_succ]
              go_wp2
              go_roundw
              case rel => exact ⟨q + 1, by go_num, _, c2, U2, HS4.out, HK4.out, HI2.out, clo_step HC2.out HHU.out ⟨[], by simp⟩ (by rw [HD.out]; unfold partsOf; rw [if_neg (by simpa using k3), if_neg (by simpa using k4)]; simp), by omega⟩
              case measure => simp [intOf]; omega
        · obtain rfl : q = U2.length := by omega
          have hsp := uses_end (S := U2.mergeSort fun x y => decide (x ≤ y)) hI hC (List.mergeSort_perm _ _) (by
            have hp := List.pairwise_mergeSort (le := fun x y : Int => decide (x ≤ y)) (fun a b c h1 h2 => by simp at h1 h2 ⊢; omega) (fun a b => by simp; omega) U2
            exact hp.imp fun h => of_decide_eq_true h)
          have hsl : (U2.mergeSort fun x y => decide (x ≤ y)).length = U2.length := List.length_mergeSort _
          have HSP := Lib.hid hsp; have HSL := Lib.hid hsl
          have HS2 := Lib.hid hS; have HK2 := Lib.hid hK
          clear hsp hsl hS hK hI hC
          by_cases h0 : U2.length = 0
          · obtain rfl : U2 = [] := List.eq_nil_of_length_eq_zero h0
            clear h0 hql hq hU
            go_wp2_with fail
            refine (AnyM.slices_Sort_int_none Tryz.laysSort _ _ _).mono ?_
            rintro e w3 ⟨rfl, hw3⟩
            subst hw3
            go_wp2
            go_ret
            have e0 : ([] : List Int).mergeSort (fun x y => decide (x ≤ y)) = [] := by simp
            exact ⟨a2, c2, [], rfl, e0 ▸ HSP.out, HS2.out.row, HK2.out⟩
          · obtain ⟨ur, rfl, hcap2, hmx2, hcu⟩ := HS2.out.cellAt (by omega)
            clear hcu hcap2 hmx2
            go_wp2_with fail
            refine (Tryz.slices_Sort_ID ur 0 c2 U2 wr (sort_holds HS2.out.row) (HS2.out.row.lt ur rfl).2 (by omega)).mono ?_
            rintro e w3 ⟨rfl, nn, os, hw3⟩
            have hsr := sorted_row (n := nn) (os := os) HS2.out.row HSL.out
            rw [← hw3] at hsr
            have HSR := Lib.hid hsr
            clear hsr hw3
            have cu3 : w3.cell? ⟨bu, 0, none⟩ = some (.slice (some ⟨ur, 0, none⟩) U2.length c2) := HSR.out.2.cell cu (fun e => (HS2.out.rowOf ur rfl).2.1 e.symm)
            go_wp2
            go_ret
            refine ⟨some ⟨ur, 0, none⟩, c2, U2.mergeSort fun x y => decide (x ≤ y), (by rw [HSL.out]; rfl), HSP.out, by rw [HSL.out]; exact HSR.out.1, ?_⟩
            refine HS2.out.keptOn (Nat.le_refl _) HK2.out (HSR.out.2.mono fun q _ hq => Or.inr (Or.inr ⟨_, rfl, hq⟩))
end Go.Proofs.YtgkjdmojbndicaaGreatDoor

namespace Go.Proofs.YtgkjdmojbndicaaGreatDoor
open Go Go.RowKit

/-- A slice of nodes that came in. -/
structure NodesAt (w : World) (la : Option Addr) (n : Nat) (ds : List Nd) : Prop where
  len : ds.length = n
  ok : ∀ d ∈ ds, d.Ok
  at_ : 0 < n → ∃ b off, la = some ⟨b, off, none⟩ ∧ ∀ j d, ds[j]? = some d → ∀ i v, d.cells[i]? = some v → w.cell? ⟨b, off + j * 6 + i, none⟩ = some v
theorem NodesAt.kept {w w' : World} {la : Option Addr} {n : Nat} {ds : List Nd} (h : NodesAt w la n ds) (k : Kept w w') : NodesAt w' la n ds :=
  ⟨h.len, h.ok, fun hn => by
    obtain ⟨b, off, hl, hc⟩ := h.at_ hn
    exact ⟨b, off, hl, fun j d hd i v hv => k.cell (hc j d hd i v hv)⟩⟩

/-- The graph of some nodes, added one by one; the numbers that they got. -/
def addsL (ds : List Nd) : List Nd := ds.foldl addL []
def idsL (ds : List Nd) : List Int := (ds.foldl (fun s d => (addL s.1 d, s.2 ++ [addR s.1 d])) (([] : List Nd), ([] : List Int))).2
theorem addsL_snoc (ds : List Nd) (d : Nd) : addsL (ds ++ [d]) = addL (addsL ds) d := by simp [addsL]
theorem idsL_fst (ds : List Nd) : (ds.foldl (fun s d => (addL s.1 d, s.2 ++ [addR s.1 d])) (([] : List Nd), ([] : List Int))).1 = addsL ds := by
  refine snocInd (p := fun ds => (ds.foldl (fun s d => (addL s.1 d, s.2 ++ [addR s.1 d])) (([] : List Nd), ([] : List Int))).1 = addsL ds) rfl (fun L d ih => ?_) ds
  rw [addsL_snoc, List.foldl_append, List.foldl_cons, List.foldl_nil, ih]
theorem idsL_snoc (ds : List Nd) (d : Nd) : idsL (ds ++ [d]) = idsL ds ++ [addR (addsL ds) d] := by
  have h := idsL_fst ds
  unfold idsL
  rw [List.foldl_append, List.foldl_cons, List.foldl_nil, h]
theorem addsL_len (ds : List Nd) : (addsL ds).length ≤ ds.length := by
  refine snocInd (p := fun ds => (addsL ds).length ≤ ds.length) (Nat.le_refl _) (fun L d ih => ?_) ds
  have := (addL_length (addsL L) d).1
  show (addsL (L ++ [d])).length ≤ (L ++ [d]).length
  rw [addsL_snoc, List.length_append, List.length_singleton]
  omega
theorem idsL_len (ds : List Nd) : (idsL ds).length = ds.length := by
  refine snocInd (p := fun ds => (idsL ds).length = ds.length) rfl (fun L d ih => ?_) ds
  show (idsL (L ++ [d])).length = (L ++ [d]).length
  rw [idsL_snoc, List.length_append, List.length_append, ih]; rfl

theorem GraphAt.takes {B g m c : Nat} {a : Option Addr} {L : List Nd} {w : World} (h : GraphAt B w g m a c L) : ∀ q, Takes g m a q → B ≤ q ∧ q < w.heap.size := by
  rintro q (rfl | rfl | ⟨x, hx, rfl⟩)
  · exact ⟨h.low.1, h.gLt⟩
  · exact ⟨h.low.2, h.mLt⟩
  · exact h.row.lt x.block (by rw [hx]; rfl)
theorem GraphAt.keptOn {N g m c : Nat} {a : Option Addr} {L : List Nd} {w wr wr' : World} (h : GraphAt N wr g m a c L) (hN : w.heap.size ≤ N) (hk : Kept w wr) (ht : Turned (Takes g m a) wr wr') : Kept w wr' :=
  ⟨ht.os.trans hk.os, ht.tape.trans hk.tape, ht.output.trans hk.output, Nat.le_trans hk.size ht.size, fun q hq => (ht.block q (Nat.lt_of_lt_of_le hq hk.size) fun e => by have := (h.takes q e).1; omega).trans (hk.block q hq)⟩

/-- In the midst of Made: the graph of the first j nodes, and their numbers. -/
def MadeAt (N : Nat) (wr : World) (g m j : Nat) (ds : List Nd) (v : Value) : Prop :=
  ∃ a c a' c', GraphAt N wr g m a c (addsL (ds.take j)) ∧ v = .slice a' j c' ∧ wr.ownsRow N 35 1 (.slice a' j c') j ((idsL (ds.take j)).map (Value.int .i64)) ∧ ∀ q, Takes g m a q → (Value.slice a' j c').ownBlock ≠ some q
theorem made_step {N g m j : Nat} {ds : List Nd} {d : Nd} {a a2 a' : Option Addr} {c c2 c' gg cap : Nat} {wr w1 w4 : World} {o : Obj} (hG : GraphAt N wr g m a c (addsL (ds.take j))) (hd : ds[j]? = some d)
    (hrow : wr.ownsRow N 35 1 (.slice a' j c') j ((idsL (ds.take j)).map (Value.int .i64))) (hap : ∀ q, Takes g m a q → (Value.slice a' j c').ownBlock ≠ some q)
    (hG1 : GraphAt N w1 g m a2 c2 (addL (addsL (ds.take j)) d)) (ht : Turned (Takes g m a) wr w1) (hnew : ∀ q, Takes g m a2 q → Takes g m a q ∨ wr.heap.size ≤ q)
    (hown : w4.ownsRow N 35 1 (.slice (some ⟨gg, 0, none⟩) (j + 1) cap) (j + 1) ((idsL (ds.take j)).map (Value.int .i64) ++ [.int .i64 (addR (addsL (ds.take j)) d)]))
    (hgrow : (w1.alloc o).grownBy w4 (Value.slice a' j c').ownBlock) (hat : (Value.slice a' j c').ownBlock = some gg ∨ gg = w1.heap.size + 1) :
    MadeAt N w4 g m (j + 1) ds (.slice (some ⟨gg, 0, none⟩) (j + 1) cap) ∧ (∀ w, Kept w wr → w.heap.size ≤ N → Kept w w4) := by
  have htk : ds.take (j + 1) = ds.take j ++ [d] := by
    have hj : j < ds.length := (List.getElem?_eq_some_iff.1 hd).1
    rw [List.take_succ_eq_append_getElem hj]
    have : ds[j] = d := (List.getElem?_eq_some_iff.1 hd).2
    rw [this]
  have hold : ∀ q, (Value.slice a' j c').ownBlock = some q → q < wr.heap.size ∧ N ≤ q ∧ ¬ Takes g m a q := fun q hq => ⟨(hrow.lt q hq).2, (hrow.lt q hq).1, fun e => hap q e hq⟩
  have hG1' := hG1.kept ((Kept.refl w1).alloc o)
  have hsz := ht.size
  have hT2 : ∀ q, Takes g m a2 q → (Value.slice a' j c').ownBlock ≠ some q := by
    intro q hq e
    have h1 := hold q e
    rcases hnew q hq with h | h
    · exact h1.2.2 h
    · omega
  have tg : Turned (fun q => (Value.slice a' j c').ownBlock = some q) (w1.alloc o) w4 := Turned.grown hgrow fun k hk => hk
  refine ⟨⟨a2, c2, some ⟨gg, 0, none⟩, cap, ?_, rfl, ?_, ?_⟩, ?_⟩
  · rw [htk, addsL_snoc]
    exact hG1'.turned tg fun q hq => hT2 q hq
  · rw [htk, idsL_snoc, List.map_append]
    exact hown
  · intro q hq e
    have : gg = q := by simpa [Value.ownBlock] using e
    subst this
    rcases hat with h | h
    · exact hT2 gg hq h
    · have := (hG1.takes gg hq).2; omega
  · intro w hk hN
    have k1 := hG.keptOn hN hk ht
    have k2 := k1.alloc o
    refine ⟨tg.os.trans k2.os, tg.tape.trans k2.tape, tg.output.trans k2.output, Nat.le_trans k2.size tg.size, fun q hq => (tg.block q (Nat.lt_of_lt_of_le hq k2.size) fun e => ?_).trans (k2.block q hq)⟩
    have := (hold q e).2.1
    omega

set_option maxRecDepth 100000 in
set_option maxHeartbeats 8000000 in
theorem made_any (la : Option Addr) (n lc : Nat) (ds : List Nd) (w : World) (hds : NodesAt w la n ds) (hn : n ≤ 200) (hL : Laid w) :
    Calls Tryz.prog 11 #[.slice la n lc] w fun e w' => ∃ g m v, e = .returned (.tuple #[.pointer (some ⟨g, 0, none⟩), v]) ∧ MadeAt w.heap.size w' g m n ds v ∧ Kept w w' := by
  have HD := Lib.hid hds
  have HL := Lib.hid hL
  clear hds hL
  go_enter Tryz.func11, Tryz.ntmps11
  go_wp2_with fail
  refine (new_any w.heap.size w (Nat.le_refl _)).mono ?_
  rintro e w0 ⟨g, m, rfl, hG, hK, _⟩
  have HG := Lib.hid hG; have HK := Lib.hid hK
  clear hG hK
  go_wp2_with fail
  go_loopw [5, 6] (fun v i wr => ∃ j : Nat, j ≤ n ∧ i = .int .i64 j ∧ MadeAt w.heap.size wr g m j ds v ∧ Kept w wr) (fun _ i _ => n - (intOf i).toNat)
  case atStart => exact ⟨0, Nat.zero_le _, rfl, ⟨none, 0, none, 0, HG.out, rfl, World.ownsRow_nil _ _ _ _, fun q _ h => by cases h⟩, HK.out⟩
  case round =>
    obtain ⟨j, hj, rfl, ⟨a, c, a', c', hG, rfl, hrow, hap⟩, hK⟩ := hrel
    by_cases hlt : j < n
    · obtain ⟨b, off, rfl, hc⟩ := HD.out.at_ (by omega)
      have hjl : j < ds.length := by rw [HD.out.len]; exact hlt
      obtain ⟨d, hd⟩ : ∃ d, ds[j]? = some d := ⟨_, List.getElem?_eq_getElem hjl⟩
      have hdo := HD.out.ok d (List.mem_of_getElem? hd)
      have hcd := hc j d hd
      have x0 := hK.cell (hcd 0 _ rfl)
      have x1 := hK.cell (hcd 1 _ rfl)
      have x2 := hK.cell (hcd 2 _ rfl)
      have x3 := hK.cell (hcd 3 _ rfl)
      have x4 := hK.cell (hcd 4 _ rfl)
      have x5 := hK.cell (hcd 5 _ rfl)
      simp only [Nat.add_zero] at x0
      clear hc hcd hjl
      have HDD := Lib.hid hd; have HDO := Lib.hid hdo; have HGj := Lib.hid hG; have HKj := Lib.hid hK; have HRj := Lib.hid hrow; have HAj := Lib.hid hap
      clear hd hdo hG hK hrow hap
      have hlen : (addsL (ds.take j)).length ≤ 900 := by
        have h1 := addsL_len (ds.take j)
        have h2 := List.length_take_le j ds
        omega
      have HLEN := Lib.hid hlen; clear hlen
      have hj0 : (0 : Int) ≤ (j : Int) := Int.natCast_nonneg _
      have hj1 : (j : Int) < (n : Int) := by omega
      obtain ⟨ii, hi, hz0, hz1, hz2⟩ := info_parts infoId
      have HI := Lib.hid (And.intro hi (And.intro hz0 (And.intro hz1 hz2))); clear hi hz0 hz1 hz2
      go_wp2_with fail
      refine (add_any HGj.out d HDO.out (HL.out.kept HKj.out) (Nat.le_trans HLEN.out (by decide))).mono ?_
      rintro e w1 ⟨rfl, a2, c2, hG1, hT1, hN1⟩
      have HG1 := Lib.hid hG1; have HT1 := Lib.hid hT1; have HN1 := Lib.hid hN1
      clear hG1 hT1 hN1 x0 x1 x2 x3 x4 x5
      have HROW : Hid ((w1.alloc (.cells #[.int .i64 (addR (addsL (ds.take j)) d)] 35)).ownsRow w.heap.size 35 1 (.slice a' j c') j ((idsL (ds.take j)).map (Value.int .i64))) :=
        World.ownsRow.alloc (ownsRow_block HRj.out fun q hq => HT1.out.block q (HRj.out.lt q hq).2 fun e => HAj.out q e hq) _
      have HLOW : Hid (w.heap.size ≤ w1.heap.size) := Nat.le_trans HKj.out.size HT1.out.size
      go_wp2_with (at_builtin; refine wpList_append_lies _ rfl _ _ _ rfl w.heap.size 35 ii _ 1 8 Tryz.underlying31 HI.out.1 HI.out.2.1 HI.out.2.2.1 HI.out.2.2.2 rfl (by omega) (.slice a' j c') j _ rfl HROW.out ⟨w1.heap.size, 0, none⟩ 1 1 [.int .i64 (addR (addsL (ds.take j)) d)] rfl rfl (World.news_of_block (cs := #[.int .i64 (addR (addsL (ds.take j)) d)]) (t := 35) (fr := (0, 0)) (heap_alloc_new w1 _)) (by simp [Value.oneCell']) (by omega) (by unfold maxLen; omega) (by omega) (by have := HLOW.out; simp; omega) (w1.heap.size + 1) (by simp) ?_; intro gg cap w4 hown4 hgrow4 hat4 hlt4; have HOW4 := Lib.hid hown4; have HGR4 := Lib.hid hgrow4; have HAT4 := Lib.hid hat4; clear hown4 hgrow4 hat4 hlt4)
      have hS := made_step HGj.out HDD.out HRj.out HAj.out HG1.out HT1.out HN1.out HOW4.out HGR4.out HAT4.out
      have HS := Lib.hid hS; clear hS
      go_roundw
      case rel => exact ⟨j + 1, by omega, by go_num, HS.out.1, HS.out.2 w HKj.out (Nat.le_refl _)⟩
      case measure => simp [intOf]; omega
    · obtain rfl : j = n := by omega
      have HGj := Lib.hid hG; have HKj := Lib.hid hK; have HRj := Lib.hid hrow; have HAj := Lib.hid hap
      clear hG hK hrow hap
      go_wp2
      go_ret2
      exact ⟨g, m, _, rfl, ⟨a, c, a', c', HGj.out, rfl, HRj.out, HAj.out⟩, HKj.out⟩
end Go.Proofs.YtgkjdmojbndicaaGreatDoor

namespace Go.Proofs.YtgkjdmojbndicaaGreatDoor
open Go Go.RowKit

theorem RootsAt.kept {w w' : World} {la : Option Addr} {n : Nat} {us : List Int} (h : RootsAt w la n us) (k : Kept w w') : RootsAt w' la n us :=
  ⟨h.len, h.inr, fun hn => by
    obtain ⟨b, off, hl, hc⟩ := h.at_ hn
    exact ⟨b, off, hl, fun j x hx => k.cell (hc j x hx)⟩⟩
/-- A row that is owned, as a slice of numbers. -/
theorem roots_of_row {w : World} {N n c : Nat} {e : TypeId} {a : Option Addr} {us : List Int} (h : w.ownsRow N e 1 (.slice a n c) n (us.map (Value.int .i64))) (hl : us.length = n) (hin : ∀ x ∈ us, InR x) : RootsAt w a n us := by
  refine ⟨hl, hin, fun hn => ?_⟩
  obtain ⟨_, h2⟩ := h
  rcases h2 with ⟨_, h0⟩ | ⟨r, cap', cur, hv, hB, hblk, hle, hmx, hsz, htk⟩
  · omega
  · injection hv with ha _ _
    refine ⟨r, 0, ha, fun j x hj => ?_⟩
    rw [Nat.zero_add, cell_of_row _ _ _ _ _ _ hblk]
    have hj2 : (us.map (Value.int .i64))[j]? = some (.int .i64 x) := by rw [List.getElem?_map, hj]; rfl
    rw [← htk, List.getElem?_take] at hj2
    split at hj2
    · simpa using hj2
    · cases hj2
end Go.Proofs.YtgkjdmojbndicaaGreatDoor
