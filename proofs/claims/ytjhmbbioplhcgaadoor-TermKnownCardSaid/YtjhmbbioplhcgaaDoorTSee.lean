/-
  Layer 2: the closure of Uses that keeps a term once.
-/
import Derived.Test.YtjhmbbioplhcgaaDoorTText
import Derived.Test.YtjhmbbioplhcgaaDoorTUsesM
namespace Go.Proofs.YtjhmbbioplhcgaaDoor
open Go Go.RowKit Go.ChangeMaps Go.MapKept Go.WideMaps
open Go.Maps (Keyed)

/-- The set of the terms so far, as its map reads. -/
def Ds (U : List Int) : DataW Unit := Maps.setOf (.agg []) (U.map (Lit.int .i64))
theorem Ds_snoc (U : List Int) (x : Int) : Ds (U ++ [x]) = (Ds U).put (.int .i64 x) (.agg []) := by
  unfold Ds
  rw [List.map_append, List.map_cons, List.map_nil, Maps.setOf_snoc]
theorem Ds_has (U : List Int) (x : Int) : Maps.has (Ds U) (.int .i64 x) = memB U x := by
  unfold Ds
  rw [Maps.has_setOf _ _ _ (by intro l hl; obtain ⟨y, _, rfl⟩ := List.mem_map.1 hl; trivial), List.any_map]
  unfold memB
  congr 1
  funext y
  simp [Lit.sameKey]

/-- The terms so far, in memory. -/
structure SeeAt (N : Nat) (w : World) (bs bu ms : Nat) (a : Option Addr) (c : Nat) (U : List Int) : Prop where
  hs : w.heap[bs]? = some (.cells #[.map (some ms)] 90 (0, 0))
  hu : w.heap[bu]? = some (.cells #[.slice a U.length c] 43 (0, 0))
  row : w.ownsRow N 30 1 (.slice a U.length c) U.length (U.map (Value.int .i64))
  map : w.ownsMap Tryd.prog 30 (unitElem (H := Unit)) ms U.length (Ds U)
  ne : bs ≠ bu
  apart : ∀ x, a = some x → x.block ≠ bs ∧ x.block ≠ bu
  low : N ≤ bs ∧ N ≤ bu ∧ N ≤ ms
  inr : ∀ x ∈ U, InR x
def SeeT (bu ms : Nat) (a : Option Addr) (q : Nat) : Prop := q = bu ∨ q = ms ∨ ∃ x, a = some x ∧ q = x.block

section
variable {N bs bu ms c : Nat} {a : Option Addr} {U : List Int} {w w' : World}
theorem SeeAt.kept (h : SeeAt N w bs bu ms a c U) (k : Kept w w') : SeeAt N w' bs bu ms a c U :=
  ⟨k.row h.hs, k.row h.hu, ownsRow_block h.row fun q hq => k.block q (h.row.lt q hq).2, ownsMap_block h.map (k.block ms h.map.lt), h.ne, h.apart, h.low, h.inr⟩
theorem SeeAt.cs (h : SeeAt N w bs bu ms a c U) : w.cell? ⟨bs, 0, none⟩ = some (.map (some ms)) := by rw [cell_of_row _ _ _ _ _ _ h.hs]; rfl
theorem SeeAt.cu (h : SeeAt N w bs bu ms a c U) : w.cell? ⟨bu, 0, none⟩ = some (.slice a U.length c) := by rw [cell_of_row _ _ _ _ _ _ h.hu]; rfl
theorem SeeAt.rowOf (h : SeeAt N w bs bu ms a c U) : ∀ q, (Value.slice a U.length c).ownBlock = some q → q ≠ bs ∧ q ≠ bu ∧ q ≠ ms ∧ q < w.heap.size ∧ N ≤ q := by
  intro q hq
  have hl := h.row.lt q hq
  cases a with
  | none => cases hq
  | some x =>
    have hx : x.block = q := by simpa [Value.ownBlock] using hq
    have ha := h.apart x rfl
    rw [hx] at ha
    refine ⟨ha.1, ha.2, ?_, hl.2, hl.1⟩
    rintro rfl
    obtain ⟨es, clock, hb, _⟩ := h.map
    rcases h.row.2 with ⟨h1, _⟩ | ⟨r, _, cur, hv, _, hblk, _⟩
    · cases h1
    · have hxr : x = ⟨r, 0, none⟩ := by injection hv with h1 _ _; injection h1
      subst hxr
      simp only at hx
      rw [hx, hb] at hblk
      cases hblk
theorem SeeAt.look (h : SeeAt N w bs bu ms a c U) {x : Int} (hx : InR x) : (Instr.lookup 90 (.map (some ms)) (.int .i64 x) true).run Tryd.prog w = .ok (.tuple #[.agg #[], .bool (memB U x)]) w := by
  have hz : (zeroValue 91).run Tryd.prog w = .ok (.agg #[]) w := by kernel_rfl
  obtain ⟨v, ps, hrun, hR⟩ := h.map.look_ok lawId Tryd.underlying90 hz unitElem_mk (Maps.keyOf_int_mk Tryd.underlying30 (wf_i64 hx))
  obtain ⟨rfl, _⟩ := unitElem_inv hR
  rw [hrun, Ds_has]
/-- Behind the store into the map, the append and its store. -/
theorem see_end {w1 w2 w4 : World} {x : Int} {gg cap : Nat} {o : Obj} (h : SeeAt N w bs bu ms a c U) (hx : InR x) (hk1 : Kept w w1)
    (hmap : w2.ownsMap Tryd.prog 30 (unitElem (H := Unit)) ms (U.length + 1) ((Ds U).put (.int .i64 x) (.agg []))) (hg2 : w1.grownBy w2 (some ms))
    (hown : w4.ownsRow N 30 1 (.slice (some ⟨gg, 0, none⟩) (U.length + 1) cap) (U.length + 1) (U.map (Value.int .i64) ++ [.int .i64 x]))
    (hgrow : (w2.alloc o).grownBy w4 (Value.slice a U.length c).ownBlock) (hat : (Value.slice a U.length c).ownBlock = some gg ∨ gg = w2.heap.size + 1) :
    SeeAt N (w4.setCell ⟨bu, 0, none⟩ (.slice (some ⟨gg, 0, none⟩) (U.length + 1) cap)) bs bu ms (some ⟨gg, 0, none⟩) cap (U ++ [x]) ∧
    Turned (SeeT bu ms a) w (w4.setCell ⟨bu, 0, none⟩ (.slice (some ⟨gg, 0, none⟩) (U.length + 1) cap)) ∧ (a = some ⟨gg, 0, none⟩ ∨ w.heap.size ≤ gg) := by
  have h1 := h.kept hk1
  have hbs1 : bs < w1.heap.size := (Array.getElem?_eq_some_iff.1 h1.hs).1
  have hbu1 : bu < w1.heap.size := (Array.getElem?_eq_some_iff.1 h1.hu).1
  have hms1 : ms < w1.heap.size := h1.map.lt
  have hsm : bs ≠ ms := by
    rintro rfl
    obtain ⟨es, clock, hb, _⟩ := h1.map
    rw [h1.hs] at hb; cases hb
  have hum : bu ≠ ms := by
    rintro rfl
    obtain ⟨es, clock, hb, _⟩ := h1.map
    rw [h1.hu] at hb; cases hb
  have hsz := hg2.size
  have hro := h1.rowOf
  have b2 : ∀ q, q < w1.heap.size → q ≠ ms → (w2.alloc o).heap[q]? = w1.heap[q]? := fun q hq hn =>
    (Below.heap_alloc w2 o q (by omega)).trans (hg2.block q hq (by simpa using hn))
  have sz3 : w2.heap.size < (w2.alloc o).heap.size := by simp
  have b4 : ∀ q, q < w2.heap.size → some q ≠ (Value.slice a U.length c).ownBlock → w4.heap[q]? = (w2.alloc o).heap[q]? := fun q hq hn => hgrow.block q (by omega) hn
  have hgg : gg ≠ bs ∧ gg ≠ bu ∧ gg ≠ ms := by
    rcases hat with hh | hh
    · have := hro gg hh; exact ⟨this.1, this.2.1, this.2.2.1⟩
    · exact ⟨by omega, by omega, by omega⟩
  have hu4 : w4.heap[bu]? = some (.cells #[.slice a U.length c] 43 (0, 0)) :=
    (b4 bu (by omega) fun e => (hro bu e.symm).2.1 rfl).trans ((b2 bu hbu1 hum).trans h1.hu)
  have hlen : (U ++ [x]).length = U.length + 1 := by simp
  refine ⟨⟨?_, ?_, ?_, ?_, h.ne, ?_, h.low, ?_⟩, ?_, ?_⟩
  · rw [Below.heap_setCell _ _ _ _ h.ne]
    exact (b4 bs (by omega) fun e => (hro bs e.symm).1 rfl).trans ((b2 bs hbs1 hsm).trans h1.hs)
  · rw [hlen]; exact setCell_row hu4 0 _
  · rw [hlen, List.map_append]
    refine ownsRow_block hown fun q hq => ?_
    have : gg = q := by simpa [Value.ownBlock] using hq
    subst this
    exact Below.heap_setCell _ _ _ _ hgg.2.1
  · rw [hlen, Ds_snoc]
    refine ownsMap_block hmap ?_
    rw [Below.heap_setCell _ _ _ _ hum.symm]
    exact (b4 ms (by omega) fun e => (hro ms e.symm).2.2.1 rfl).trans (Below.heap_alloc w2 o ms (by omega))
  · intro y hy
    have : y = ⟨gg, 0, none⟩ := by simpa using hy.symm
    subst this
    exact ⟨hgg.1, hgg.2.1⟩
  · intro y hy
    rcases List.mem_append.1 hy with hy | hy
    · exact h.inr y hy
    · rw [List.mem_singleton.1 hy]; exact hx
  · have t1 : Turned (SeeT bu ms a) w w1 := hk1.turned _
    have t2 : Turned (SeeT bu ms a) w1 w2 := Turned.grown hg2 fun k hk => Or.inr (Or.inl (by simpa using hk.symm))
    have t3 : Turned (SeeT bu ms a) w2 (w2.alloc o) := ((Kept.refl w2).alloc o).turned _
    have t4 : Turned (SeeT bu ms a) (w2.alloc o) w4 := Turned.grown hgrow fun k hk => by
      cases a with
      | none => cases hk
      | some y => exact Or.inr (Or.inr ⟨y, rfl, by simpa [Value.ownBlock] using hk.symm⟩)
    exact (((t1.trans t2).trans t3).trans t4).trans (Turned.setCell _ _ _ (Or.inl rfl))
  · rcases hat with hh | hh
    · left
      cases a with
      | none => cases hh
      | some y =>
        rcases h.row.2 with ⟨h1, _⟩ | ⟨r, _, cur, hv, _, hblk, _⟩
        · cases h1
        · have hxr : y = ⟨r, 0, none⟩ := by injection hv with h1 _ _; injection h1
          have hx2 : y.block = gg := by simpa [Value.ownBlock] using hh
          subst hxr
          simp only at hx2
          rw [hx2]
    · right; have := hk1.size; omega
end
theorem infoId : (Tryd.prog.info? 30).map (fun i => (i.zero, i.size, i.bytes)) = some (some (.int .i64 0), 1, 8) := by kernel_rfl

set_option maxRecDepth 100000 in
set_option maxHeartbeats 4000000 in
theorem see_any {N bs bu ms c : Nat} {a : Option Addr} {U : List Int} {w : World} (h : SeeAt N w bs bu ms a c U) (x : Int) (hx : InR x) (hlen : U.length ≤ 100000) :
    Calls Tryd.prog 43 #[.int .i64 x, .pointer (some ⟨bs, 0, none⟩), .pointer (some ⟨bu, 0, none⟩)] w fun e w' => e = .returned (.tuple #[]) ∧ ∃ a' c', SeeAt N w' bs bu ms a' c' (seeL U x) ∧ Turned (SeeT bu ms a) w w' ∧ (a' = a ∨ ∃ y, a' = some y ∧ w.heap.size ≤ y.block) := by
  have l0 := h.look hx
  have c0 := h.cs
  have c1 := h.cu
  have HH := Lib.hid h
  cases hm : memB U x with
  | true =>
    rw [hm] at l0
    have HM := Lib.hid hm; clear hm h
    go_enter Tryd.func43, Tryd.ntmps43
    go_wp2
    go_end0
    have e : seeL U x = U := by unfold seeL; rw [if_pos HM.out]
    rw [e]
    exact ⟨rfl, a, c, HH.out.kept ((Kept.refl _).alloc _), ((Kept.refl _).alloc _).turned _, Or.inl rfl⟩
  | false =>
    rw [hm] at l0
    have HM := Lib.hid hm; clear hm
    have hk1 := (Kept.refl w).alloc (.cells #[] 91)
    have h1 := h.kept hk1
    obtain ⟨w2, hrun, hmap2, hgrow2⟩ := h1.map.update lawId Tryd.underlying90 (by unfold maxLen; omega) (Maps.keyOf_int_mk Tryd.underlying30 (wf_i64 hx)) unitElem_mk
    have HMP := Lib.hid hmap2; have HG2 := Lib.hid hgrow2; have HK1 := Lib.hid hk1; have H1 := Lib.hid h1
    clear hmap2 hgrow2 hk1 h1 h
    have HX := Lib.hid hx; clear hx
    go_enter Tryd.func43, Tryd.ntmps43
    go_upto_region 2 with (fail)
    change Code.wp _ _ _ _ (w.alloc (.cells #[] 91))
    generalize w.alloc (.cells #[] 91) = W1 at *
    clear c0 c1 l0
    have c0 := H1.out.cs
    have c1 := H1.out.cu
    go_upto_region 3 with (fail)
    have hms : bu ≠ ms := by
      rintro rfl
      obtain ⟨es, clock, hb, _⟩ := H1.out.map
      rw [H1.out.hu] at hb; cases hb
    have hbl : bu < W1.heap.size := (Array.getElem?_eq_some_iff.1 H1.out.hu).1
    have HU2 : Hid (w2.heap[bu]? = some (.cells #[.slice a U.length c] 43 (0, 0))) := (HG2.out.block bu hbl (by simpa using hms)).trans H1.out.hu
    have HSZ : Hid (bu < w2.heap.size ∧ bu < (w2.alloc (.cells #[.int .i64 x] 30)).heap.size) := by have := HG2.out.size; show _ ∧ _; simp; omega
    have HLOW : Hid (N ≤ w2.heap.size) := by have h1 := HG2.out.size; have h2 := H1.out.low; show _ ≤ _; omega
    have HROW : Hid ((w2.alloc (.cells #[.int .i64 x] 30)).ownsRow N 30 1 (.slice a U.length c) U.length (U.map (Value.int .i64))) := by
      refine World.ownsRow.alloc (ownsRow_block H1.out.row fun q hq => ?_) _
      have hr := H1.out.rowOf q hq
      exact HG2.out.block q hr.2.2.2.1 (by simpa using hr.2.2.1)
    have HNE : Hid (some bu ≠ (Value.slice a U.length c).ownBlock) := fun e => (H1.out.rowOf bu e.symm).2.1 rfl
    clear c0 c1 hms hbl hrun
    have c1 : w2.cell? ⟨bu, 0, none⟩ = some (.slice a U.length c) := by rw [cell_of_row _ _ _ _ _ _ HU2.out]; rfl
    have z1 : w2.frozen? ⟨bu, 0, none⟩ = false := frozen_of_row HU2.out 0
    have hbl2 := HSZ.out.1
    have hbn2 : bu ≠ w2.heap.size := Nat.ne_of_lt HSZ.out.1
    obtain ⟨ii, hi, hz0, hz1, hz2⟩ := info_parts infoId
    have HI := Lib.hid (And.intro hi (And.intro hz0 (And.intro hz1 hz2))); clear hi hz0 hz1 hz2
    go_wp2_with (at_builtin; refine wpList_append_lies _ rfl _ _ _ rfl N 30 ii _ 1 8 Tryd.underlying43 HI.out.1 HI.out.2.1 HI.out.2.2.1 HI.out.2.2.2 rfl (by omega) (.slice a U.length c) U.length (U.map (Value.int .i64)) rfl HROW.out ⟨w2.heap.size, 0, none⟩ 1 1 [.int .i64 x] rfl rfl (World.news_of_block (cs := #[.int .i64 x]) (t := 30) (fr := (0, 0)) (heap_alloc_new w2 _)) (by simp [Value.oneCell']) (by omega) (by unfold maxLen; omega) (by omega) (by have := HLOW.out; simp; omega) (w2.heap.size + 1) (by simp) ?_; intro gg cap w4 hown4 hgrow4 hat4 hlt4; have c4 := (hgrow4.cell_far ⟨bu, 0, none⟩ HSZ.out.2 HNE.out).trans (((Kept.refl w2).alloc (.cells #[.int .i64 x] 30)).cell c1); have z4 : w4.frozen? ⟨bu, 0, none⟩ = false := (hgrow4.frozen_far ⟨bu, 0, none⟩ HSZ.out.2 HNE.out).trans (frozen_of_row (((Kept.refl w2).alloc (.cells #[.int .i64 x] 30)).row HU2.out) 0); have HOW4 := Lib.hid hown4; have HGR4 := Lib.hid hgrow4; have HAT4 := Lib.hid hat4; clear hown4 hgrow4 hat4 hlt4)
    go_end0
    have e : seeL U x = U ++ [x] := by unfold seeL; rw [if_neg (by rw [HM.out]; simp)]
    rw [e]
    have hE := see_end HH.out HX.out HK1.out HMP.out HG2.out HOW4.out HGR4.out HAT4.out
    refine ⟨rfl, _, _, hE.1, hE.2.1, ?_⟩
    rcases hE.2.2 with h | h
    · exact Or.inl h.symm
    · exact Or.inr ⟨_, rfl, h⟩
end Go.Proofs.YtjhmbbioplhcgaaDoor
