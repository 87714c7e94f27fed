/-
  Layer 2: the reference's graph in memory, and the contract of its Add.
-/
import Derived.Test.YtjhmbbioplhcgaaDoorTRMay
namespace Go.Proofs.YtjhmbbioplhcgaaDoor
open Go Go.RowKit

/-- Pointer h leads to a reference's graph of the nodes L. -/
structure RefAt (N : Nat) (w : World) (h : Nat) (a : Option Addr) (c : Nat) (L : List Nd) : Prop where
  blk : w.heap[h]? = some (.cells #[.slice a L.length c] 29 (0, 0))
  row : w.ownsRow N 37 6 (.slice a L.length c) L.length (nodeCells L)
  apart : ∀ x, a = some x → x.block ≠ h
  low : N ≤ h
def RTakes (h : Nat) (a : Option Addr) (q : Nat) : Prop := q = h ∨ ∃ x, a = some x ∧ q = x.block
section
variable {N h c : Nat} {a : Option Addr} {L : List Nd} {w w' : World}
theorem RefAt.turned {T : Nat → Prop} (hr : RefAt N w h a c L) (k : Turned T w w') (hT : ∀ q, RTakes h a q → ¬ T q) : RefAt N w' h a c L :=
  ⟨(k.block h (Array.getElem?_eq_some_iff.1 hr.blk).1 (hT h (Or.inl rfl))).trans hr.blk, ownsRow_block hr.row fun q hq => k.block q (hr.row.lt q hq).2 (hT q (Or.inr (by
    cases a with
    | none => cases hq
    | some x => exact ⟨x, rfl, by simpa [Value.ownBlock] using hq.symm⟩))), hr.apart, hr.low⟩
theorem RefAt.kept (hr : RefAt N w h a c L) (k : Kept w w') : RefAt N w' h a c L := hr.turned (k.turned fun _ => False) fun _ _ e => e
theorem RefAt.cell0 (hr : RefAt N w h a c L) : w.cell? ⟨h, 0, none⟩ = some (.slice a L.length c) := by rw [cell_of_row _ _ _ _ _ _ hr.blk]; rfl
theorem RefAt.takes (hr : RefAt N w h a c L) : ∀ q, RTakes h a q → N ≤ q ∧ q < w.heap.size := by
  rintro q (rfl | ⟨x, hx, rfl⟩)
  · exact ⟨hr.low, (Array.getElem?_eq_some_iff.1 hr.blk).1⟩
  · exact hr.row.lt x.block (by rw [hx]; rfl)
theorem RefAt.keptOn {w0 : World} (hr : RefAt N w h a c L) (hN : w0.heap.size ≤ N) (hk : Kept w0 w) (ht : Turned (RTakes h a) w w') : Kept w0 w' :=
  ⟨ht.os.trans hk.os, ht.tape.trans hk.tape, ht.output.trans hk.output, Nat.le_trans hk.size ht.size, fun q hq => (ht.block q (Nat.lt_of_lt_of_le hq hk.size) fun e => by have := (hr.takes q e).1; omega).trans (hk.block q hq)⟩
theorem RefAt.rowAt (hr : RefAt N w h a c L) (hn : 0 < L.length) : ∃ r, a = some ⟨r, 0, none⟩ ∧ r < w.heap.size ∧ L.length ≤ c ∧ c ≤ maxLen ∧
    ∀ i d, L[i]? = some d → ∀ j v, d.cells[j]? = some v → w.cell? ⟨r, i * 6 + j, none⟩ = some v := by
  obtain ⟨h1, h2⟩ := hr.row
  rcases h2 with ⟨_, h2⟩ | ⟨r, cap, cur, hv, hb, hblk, hle, hmx, hsz, htk⟩
  · omega
  · have hrl : r < w.heap.size := (Array.getElem?_eq_some_iff.1 hblk).1
    have ha : a = some ⟨r, 0, none⟩ := by injection hv with h1 _ _
    have hc : c = cap := by injection hv with _ _ h3
    subst hc
    refine ⟨r, ha, hrl, hle, hmx, fun i d hd j v hj => ?_⟩
    have hj6 : j < 6 := by
      rcases Nat.lt_or_ge j 6 with h6 | h6
      · exact h6
      · rw [List.getElem?_eq_none (by rw [Nd.cells_len]; exact h6)] at hj; cases hj
    have hi : i < L.length := (List.getElem?_eq_some_iff.1 hd).1
    have hf := flat_get Nd.cells 6 Nd.cells_len L i j d hd hj6
    rw [hj] at hf
    rw [cell_of_row w r _ _ _ _ hblk]
    have : (nodeCells L)[i * 6 + j]? = some v := hf
    rw [← htk, List.getElem?_take] at this
    split at this
    · simpa using this
    · cases this
end
theorem eqb_comm (d e : Nd) : d.eqb e = e.eqb d := by
  cases h : e.eqb d with
  | true => rw [(Nd.eqb_iff e d).1 h]; exact Nd.eqb_self d
  | false =>
    cases h2 : d.eqb e with
    | false => rfl
    | true => rw [(Nd.eqb_iff d e).1 h2, Nd.eqb_self] at h; cases h
theorem idx_found {L : List Nd} {d : Nd} {j : Nat} {e : Nd} (hj : L[j]? = some e) (h : e.eqb d = true) (hp : ∀ k e, k < j → L[k]? = some e → e.eqb d = false) : idx L d = j ∧ inL L d = true := by
  obtain ⟨hl, he⟩ := List.getElem?_eq_some_iff.1 hj
  have h1 : idx L d = j := by
    unfold idx
    refine (List.findIdx_eq hl).2 ⟨by rw [he, eqb_comm]; exact h, fun k hk => ?_⟩
    rw [eqb_comm]
    have hkl : k < L.length := by omega
    simpa using hp k L[k] hk (List.getElem?_eq_getElem hkl)
  refine ⟨h1, (inL_iff L d).2 ?_⟩
  have := (Nd.eqb_iff e d).1 h
  rw [← this, ← he]
  exact List.getElem_mem hl
theorem inL_none {L : List Nd} {d : Nd} (hp : ∀ k e, k < L.length → L[k]? = some e → e.eqb d = false) : inL L d = false := by
  cases h : inL L d with
  | false => rfl
  | true =>
    obtain ⟨k, hk, he⟩ := List.getElem_of_mem ((inL_iff L d).1 h)
    have := hp k d hk (by rw [List.getElem?_eq_getElem hk, he])
    rw [Nd.eqb_self] at this; cases this
def refObj (d : Nd) : Obj := .cells #[.int .u8 d.k, .int .i64 d.n, .int .i64 d.a, .int .u8 d.o, .int .i64 d.x, .int .i64 d.y] 37
theorem rbox_facts {W w : World} {b : Nat} {d : Nd} (h : W.heap[b]? = some (refObj d)) (hk : Kept W w) :
    w.cell? ⟨b, 0, none⟩ = some (.int .u8 d.k) ∧ w.cell? ⟨b, 1, none⟩ = some (.int .i64 d.n) ∧ w.cell? ⟨b, 2, none⟩ = some (.int .i64 d.a) ∧ w.cell? ⟨b, 3, none⟩ = some (.int .u8 d.o) ∧ w.cell? ⟨b, 4, none⟩ = some (.int .i64 d.x) ∧ w.cell? ⟨b, 5, none⟩ = some (.int .i64 d.y) := by
  have h1 := hk.row h
  refine ⟨?_, ?_, ?_, ?_, ?_, ?_⟩ <;> (rw [cell_of_row _ _ _ _ _ _ h1]; rfl)
theorem infoRef : (Tryd.prog.info? 37).map (fun i => (i.zero, i.size, i.bytes)) = some (some (.agg #[.int .u8 0, .int .i64 0, .int .i64 0, .int .u8 0, .int .i64 0, .int .i64 0]), 6, 48) := by kernel_rfl
/-- Behind the append and its store. -/
theorem radd_end {N h c gg cap : Nat} {a : Option Addr} {L : List Nd} {d : Nd} {w w2 w4 : World} {o : Obj} (hr : RefAt N w h a c L) (hk : Kept w w2)
    (hown : w4.ownsRow N 37 6 (.slice (some ⟨gg, 0, none⟩) (L.length + 1) cap) (L.length + 1) (nodeCells L ++ d.cells))
    (hgrow : (w2.alloc o).grownBy w4 (Value.slice a L.length c).ownBlock) (hat : (Value.slice a L.length c).ownBlock = some gg ∨ gg = w2.heap.size + 1) :
    RefAt N (w4.setCell ⟨h, 0, none⟩ (.slice (some ⟨gg, 0, none⟩) (L.length + 1) cap)) h (some ⟨gg, 0, none⟩) cap (L ++ [d]) ∧ Turned (RTakes h a) w (w4.setCell ⟨h, 0, none⟩ (.slice (some ⟨gg, 0, none⟩) (L.length + 1) cap)) ∧
    (∀ q, RTakes h (some ⟨gg, 0, none⟩) q → RTakes h a q ∨ w.heap.size ≤ q) := by
  have h2 := (hr.kept hk).kept ((Kept.refl w2).alloc o)
  have hh2 : h < (w2.alloc o).heap.size := (Array.getElem?_eq_some_iff.1 h2.blk).1
  have hh3 : h < w2.heap.size := (Array.getElem?_eq_some_iff.1 (hr.kept hk).blk).1
  have hsz := hk.size
  have hro : ∀ q, (Value.slice a L.length c).ownBlock = some q → q ≠ h ∧ RTakes h a q := by
    intro q hq
    cases a with
    | none => cases hq
    | some x =>
      have hx : x.block = q := by simpa [Value.ownBlock] using hq
      exact ⟨hx ▸ hr.apart x rfl, Or.inr ⟨x, rfl, hx.symm⟩⟩
  have hgg : gg ≠ h := by
    rcases hat with e | e
    · exact (hro gg e).1
    · omega
  have hb4 : w4.heap[h]? = some (.cells #[.slice a L.length c] 29 (0, 0)) := (hgrow.block h hh2 (fun e => (hro h e.symm).1 rfl)).trans h2.blk
  have hlen : (L ++ [d]).length = L.length + 1 := by simp
  refine ⟨⟨?_, ?_, fun x hx => ?_, hr.low⟩, ?_, ?_⟩
  · rw [hlen]; exact setCell_row hb4 0 _
  · have hn : nodeCells (L ++ [d]) = nodeCells L ++ d.cells := by simp [nodeCells]
    rw [hlen, hn]
    refine ownsRow_block hown fun q hq => ?_
    have : gg = q := by simpa [Value.ownBlock] using hq
    subst this
    exact Below.heap_setCell _ _ _ _ hgg
  · have : x = ⟨gg, 0, none⟩ := by simpa using hx.symm
    rw [this]; exact hgg
  · have t1 : Turned (RTakes h a) w (w2.alloc o) := (hk.alloc o).turned _
    exact (t1.trans (Turned.grown hgrow fun k hk => (hro k hk).2)).trans (Turned.setCell _ _ _ (Or.inl rfl))
  · rintro q (rfl | ⟨x, hx, rfl⟩)
    · exact Or.inl (Or.inl rfl)
    · have : x = ⟨gg, 0, none⟩ := by simpa using hx.symm
      subst this
      rcases hat with e | e
      · exact Or.inl (hro gg e).2
      · right; show w.heap.size ≤ gg; omega

set_option maxRecDepth 100000 in
set_option maxHeartbeats 8000000 in
theorem radd_any {N h c : Nat} {a : Option Addr} {L : List Nd} {w : World} (hr : RefAt N w h a c L) (d : Nd) (hlen : L.length ≤ 900) :
    Calls Tryd.prog 13 #[.pointer (some ⟨h, 0, none⟩), d.val] w fun e w' => e = .returned (.int .i64 (addR L d)) ∧ ∃ a' c', RefAt N w' h a' c' (addL L d) ∧ Turned (RTakes h a) w w' ∧ (∀ q, RTakes h a' q → RTakes h a q ∨ w.heap.size ≤ q) := by
  have HR := Lib.hid hr
  have HKA := Lib.hid ((Kept.refl w).alloc (refObj d))
  have HBX := Lib.hid ((MapKept.heap_alloc w (refObj d)).1)
  clear hr
  simp only [Nd.val]
  go_enter Tryd.func13, Tryd.ntmps13
  go_wp2_with fail
  change Calls _ _ #[_, d.val] (w.alloc (refObj d)) _
  generalize w.alloc (refObj d) = W at *
  generalize hbb : w.heap.size = b at *
  have HBB := Lib.hid hbb; clear hbb
  refine (rmay_any (HR.out.kept HKA.out).cell0 d).mono ?_
  rintro e w1 ⟨rfl, hk⟩
  have HK1 := Lib.hid (HKA.out.trans hk)
  have HB1 := Lib.hid (hk.row HBX.out)
  clear hk
  cases hm : mayB L.length d with
  | false =>
    have e1 : addR L d = -1 := by unfold addR; rw [hm]; rfl
    have e2 : addL L d = L := by unfold addL; rw [hm]; rfl
    have E1 := Lib.hid e1; have E2 := Lib.hid e2; clear e1 e2 hm
    go_wp2
    go_ret
    rw [E1.out, E2.out]
    exact ⟨rfl, a, c, HR.out.kept HK1.out, HK1.out.turned _, fun q hq => Or.inl hq⟩
  | true =>
    have HM := Lib.hid hm; clear hm
    go_upto_region 4 with (fail)
    have hgu := guardRef
    go_loopw [5] (fun i wr => ∃ j : Nat, j ≤ L.length ∧ i = .int .i64 j ∧ Kept w1 wr ∧ ∀ k e, k < j → L[k]? = some e → e.eqb d = false) (fun i _ => L.length - (intOf i).toNat)
    case atStart => exact ⟨0, Nat.zero_le _, rfl, Kept.refl _, fun k e hk => absurd hk (Nat.not_lt_zero _)⟩
    case round =>
      obtain ⟨j, hj, rfl, hK, hP⟩ := hrel
      have HKr := Lib.hid hK; have HP := Lib.hid hP
      clear hK hP
      have HRr := Lib.hid ((HR.out.kept HK1.out).kept HKr.out)
      have c0 := HRr.out.cell0
      have hj0 : (0 : Int) ≤ (j : Int) := Int.natCast_nonneg _
      by_cases hlt : j < L.length
      · obtain ⟨e, he⟩ : ∃ e, L[j]? = some e := ⟨_, List.getElem?_eq_getElem hlt⟩
        obtain ⟨r, rfl, hrl, hcap, hmx, hcell⟩ := HRr.out.rowAt (by omega)
        have hce := hcell j e he
        have HE := Lib.hid he; clear he
        unfold maxLen at hmx
        have hj1 : (j : Int) < (L.length : Int) := by omega
        have SK : Hid (∀ w', Kept wr w' → w'.cell? ⟨h, 0, none⟩ = some (.slice (some ⟨r, 0, none⟩) L.length c) ∧
          w'.cell? ⟨r, j * 6, none⟩ = some (.int .u8 e.k) ∧ w'.cell? ⟨r, j * 6 + 1, none⟩ = some (.int .i64 e.n) ∧ w'.cell? ⟨r, j * 6 + 2, none⟩ = some (.int .i64 e.a) ∧ w'.cell? ⟨r, j * 6 + 3, none⟩ = some (.int .u8 e.o) ∧ w'.cell? ⟨r, j * 6 + 4, none⟩ = some (.int .i64 e.x) ∧ w'.cell? ⟨r, j * 6 + 5, none⟩ = some (.int .i64 e.y) ∧
          w'.cell? ⟨b, 0, none⟩ = some (.int .u8 d.k) ∧ w'.cell? ⟨b, 1, none⟩ = some (.int .i64 d.n) ∧ w'.cell? ⟨b, 2, none⟩ = some (.int .i64 d.a) ∧ w'.cell? ⟨b, 3, none⟩ = some (.int .u8 d.o) ∧ w'.cell? ⟨b, 4, none⟩ = some (.int .i64 d.x) ∧ w'.cell? ⟨b, 5, none⟩ = some (.int .i64 d.y)) := fun w' hk => by
          obtain ⟨x0, x1, x2, x3, x4, x5⟩ := rbox_facts HB1.out (HKr.out.trans hk)
          have y0 := hk.cell (hce 0 _ rfl)
          simp only [Nat.add_zero] at y0
          exact ⟨hk.cell HRr.out.cell0, y0, hk.cell (hce 1 _ rfl), hk.cell (hce 2 _ rfl), hk.cell (hce 3 _ rfl), hk.cell (hce 4 _ rfl), hk.cell (hce 5 _ rfl), x0, x1, x2, x3, x4, x5⟩
        clear hce hcell
        have hq := fun w => eq_ref e d w
        simp only [Nd.val] at hq
        cases hb : e.eqb d with
        | true =>
          rw [hb] at hq
          have HB := Lib.hid hb; clear hb
          go_wp2_with fail
          go_region_held3 (fun w' => w'.cell? ⟨h, 0, none⟩ = some (.slice (some ⟨r, 0, none⟩) L.length c) ∧
          w'.cell? ⟨r, j * 6, none⟩ = some (.int .u8 e.k) ∧ w'.cell? ⟨r, j * 6 + 1, none⟩ = some (.int .i64 e.n) ∧ w'.cell? ⟨r, j * 6 + 2, none⟩ = some (.int .i64 e.a) ∧ w'.cell? ⟨r, j * 6 + 3, none⟩ = some (.int .u8 e.o) ∧ w'.cell? ⟨r, j * 6 + 4, none⟩ = some (.int .i64 e.x) ∧ w'.cell? ⟨r, j * 6 + 5, none⟩ = some (.int .i64 e.y) ∧
          w'.cell? ⟨b, 0, none⟩ = some (.int .u8 d.k) ∧ w'.cell? ⟨b, 1, none⟩ = some (.int .i64 d.n) ∧ w'.cell? ⟨b, 2, none⟩ = some (.int .i64 d.a) ∧ w'.cell? ⟨b, 3, none⟩ = some (.int .u8 d.o) ∧ w'.cell? ⟨b, 4, none⟩ = some (.int .i64 d.x) ∧ w'.cell? ⟨b, 5, none⟩ = some (.int .i64 d.y))
            (first | exact SK.out _ (Kept.refl _) | exact SK.out _ (Kept.drew (Kept.refl _)))
            (fail)
          go_wp2
          go_ret
          obtain ⟨h1, h2⟩ := idx_found HE.out HB.out HP.out
          have e1 : addR L d = (j : Int) := by unfold addR; rw [HM.out, h1]; rfl
          have e2 : addL L d = L := by unfold addL; rw [HM.out, h2]; rfl
          rw [e1, e2]
          have hkk := HK1.out.trans HKr.out.drew
          exact ⟨rfl, _, c, HR.out.kept hkk, hkk.turned _, fun q hq => Or.inl hq⟩
        | false =>
          rw [hb] at hq
          have HB := Lib.hid hb; clear hb
          go_wp2_with fail
          go_region_held3 (fun w' => w'.cell? ⟨h, 0, none⟩ = some (.slice (some ⟨r, 0, none⟩) L.length c) ∧
          w'.cell? ⟨r, j * 6, none⟩ = some (.int .u8 e.k) ∧ w'.cell? ⟨r, j * 6 + 1, none⟩ = some (.int .i64 e.n) ∧ w'.cell? ⟨r, j * 6 + 2, none⟩ = some (.int .i64 e.a) ∧ w'.cell? ⟨r, j * 6 + 3, none⟩ = some (.int .u8 e.o) ∧ w'.cell? ⟨r, j * 6 + 4, none⟩ = some (.int .i64 e.x) ∧ w'.cell? ⟨r, j * 6 + 5, none⟩ = some (.int .i64 e.y) ∧
          w'.cell? ⟨b, 0, none⟩ = some (.int .u8 d.k) ∧ w'.cell? ⟨b, 1, none⟩ = some (.int .i64 d.n) ∧ w'.cell? ⟨b, 2, none⟩ = some (.int .i64 d.a) ∧ w'.cell? ⟨b, 3, none⟩ = some (.int .u8 d.o) ∧ w'.cell? ⟨b, 4, none⟩ = some (.int .i64 d.x) ∧ w'.cell? ⟨b, 5, none⟩ = some (.int .i64 d.y))
            (first | exact SK.out _ (Kept.refl _) | exact SK.out _ (Kept.drew (Kept.refl _)))
            (fail)
          go_wp2
          go_roundw
          case rel =>
            refine ⟨j + 1, by omega, by go_num, HKr.out.drew, fun k f hk hf => ?_⟩
            by_cases hkj : k = j
            · subst hkj
              have := HE.out.symm.trans hf
              cases this
              exact HB.out
            · exact HP.out k f (by omega) hf
          case measure => simp [intOf]; omega
      · obtain rfl : j = L.length := by omega
        have HI : Hid (inL L d = false) := inL_none HP.out
        go_upto_region 8 with (fail)
        have HF := Lib.hid (rbox_facts HB1.out HKr.out)
        have HKw := Lib.hid (HK1.out.trans HKr.out)
        obtain ⟨f0, f1, f2, f3, f4, f5⟩ := HF.out
        obtain ⟨ik, hik, hz0, hz1, hz2⟩ := info_parts infoRef
        have HIK := Lib.hid (And.intro hik (And.intro hz0 (And.intro hz1 hz2))); clear hik hz0 hz1 hz2
        have HV : Hid ((Value.slice a L.length c).ownBlock ≠ some h) := by
          intro e
          cases a with
          | none => cases e
          | some x => exact HRr.out.apart x rfl (by simpa [Value.ownBlock] using e)
        have HZ : Hid (∀ w', Kept wr w' → w'.cell? ⟨h, 0, none⟩ = some (.slice a L.length c) ∧ w'.frozen? ⟨h, 0, none⟩ = false ∧ h < w'.heap.size) := fun w' hk =>
          ⟨(HRr.out.kept hk).cell0, frozen_of_row (HRr.out.kept hk).blk 0, (Array.getElem?_eq_some_iff.1 (HRr.out.kept hk).blk).1⟩
        have hhl := (HZ.out wr (Kept.refl wr)).2.2
        have hhn : h ≠ wr.heap.size := Nat.ne_of_lt hhl
        have hbl := World.block_lt_of_cell? wr _ f0
        simp only at hbl
        have hbn : b ≠ wr.heap.size := Nat.ne_of_lt hbl
        go_region_law ((refine step_append_lies _ (by rfl) _ _ _ (by rfl) N 37 ik _ 6 48 Tryd.underlying27 HIK.out.1 HIK.out.2.1 HIK.out.2.2.1 HIK.out.2.2.2 rfl (by omega) (.slice a L.length c) L.length (nodeCells L) (by rfl) ((HRr.out.row.alloc _).drew) ⟨wr.heap.size, 0, none⟩ 1 1 [.int .u8 d.k, .int .i64 d.n, .int .i64 d.a, .int .u8 d.o, .int .i64 d.x, .int .i64 d.y] (by rfl) (by rfl) (World.news_of_block (cs := #[.int .u8 d.k, .int .i64 d.n, .int .i64 d.a, .int .u8 d.o, .int .i64 d.x, .int .i64 d.y]) (t := 37) (fr := (0, 0)) (heap_alloc_new wr _)) (by simp [Value.oneCell']) (by omega) (by unfold maxLen; omega) (by omega) (by have := HR.out.takes h (Or.inl rfl); have := HKw.out.size; have h9 := HBB.out; simp; omega) (wr.heap.size + 1) (by simp) ?_; intro gg cap w4 hown4 hgrow4 hat4 hlt4; have hz4 := HZ.out _ (((Kept.refl wr).alloc (refObj d)).drew); have c4 : w4.cell? ⟨h, 0, none⟩ = some (.slice a L.length c) := (hgrow4.cell_far ⟨h, 0, none⟩ hz4.2.2 (Ne.symm HV.out)).trans hz4.1; have z4 : w4.frozen? ⟨h, 0, none⟩ = false := (hgrow4.frozen_far ⟨h, 0, none⟩ hz4.2.2 (Ne.symm HV.out)).trans hz4.2.1; have HGR := Lib.hid hgrow4; have HOW := Lib.hid hown4; have HAT := Lib.hid hat4; clear hgrow4 hown4 hat4 hlt4 hz4))
        all_goals
          have hE := radd_end (d := d) HR.out HKw.out HOW.out ⟨HGR.out.os, HGR.out.tape, HGR.out.output, HGR.out.size, HGR.out.block⟩ HAT.out
          have HE := Lib.hid hE; clear hE
          have e1 : addR L d = (L.length : Int) := by unfold addR; rw [HM.out, idx_none HI.out]; rfl
          have e2 : addL L d = L ++ [d] := by unfold addL; rw [HM.out, HI.out]; rfl
          have E1 := Lib.hid e1; have E2 := Lib.hid e2; clear e1 e2 c4 z4 c0
          generalize w4.setCell ⟨h, 0, none⟩ (.slice (some ⟨gg, 0, none⟩) (L.length + 1) cap) = w5 at *
          have c5 : w5.cell? ⟨h, 0, none⟩ = some (.slice (some ⟨gg, 0, none⟩) (L.length + 1) cap) := by
            have := HE.out.1.cell0
            rwa [List.length_append, List.length_singleton] at this
          go_wp2
          go_ret
          rw [E1.out, E2.out]
          exact ⟨ret_i (by omega), _, _, HE.out⟩
end Go.Proofs.YtjhmbbioplhcgaaDoor
