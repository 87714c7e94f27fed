/-
  Layer 3, ValueBehind: what stands behind.
-/
import Derived.Test.YtjhmbbioplhcgaaDoorVNeedM
import Derived.Test.YtjhmbbioplhcgaaDoorVSpread
namespace Go.Proofs.YtjhmbbioplhcgaaDoor
open Go Go.RowKit

/-- An environment that is put together: its block, its two rows. -/
structure FB (W wr : World) (bF : Nat) (a1 : Option Addr) (n1 c1 : Nat) (a2 : Option Addr) (n2 c2 : Nat) (xs : List Int) (cs : List Cl) : Prop where
  blk : wr.heap[bF]? = some (.cells #[.slice a1 n1 c1, .slice a2 n2 c2] 61 (0, 0))
  r1 : wr.ownsRow (bF + 1) 2 1 (.slice a1 n1 c1) n1 (xs.map (Value.int .i64))
  r2 : wr.ownsRow (bF + 1) 68 4 (.slice a2 n2 c2) n2 (clCells cs)
  K : Kept W wr
  low : W.heap.size ≤ bF
section
variable {W wr w0 w4 : World} {bF n1 c1 n2 c2 n' c' : Nat} {a1 a2 a' : Option Addr} {xs ys : List Int} {cs ds : List Cl}
theorem FB.kept (h : FB W wr bF a1 n1 c1 a2 n2 c2 xs cs) (k : Kept wr w0) : FB W w0 bF a1 n1 c1 a2 n2 c2 xs cs :=
  ⟨k.row h.blk, ownsRow_block h.r1 fun b hb => k.block b (h.r1.lt b hb).2, ownsRow_block h.r2 fun b hb => k.block b (h.r2.lt b hb).2, h.K.trans k, h.low⟩
theorem FB.lt (h : FB W wr bF a1 n1 c1 a2 n2 c2 xs cs) : bF < wr.heap.size := (Array.getElem?_eq_some_iff.1 h.blk).1
theorem FB.cell0 (h : FB W wr bF a1 n1 c1 a2 n2 c2 xs cs) : wr.cell? ⟨bF, 0, none⟩ = some (.slice a1 n1 c1) := by rw [cell_of_row _ _ _ _ _ _ h.blk]; rfl
theorem FB.cell1 (h : FB W wr bF a1 n1 c1 a2 n2 c2 xs cs) : wr.cell? ⟨bF, 1, none⟩ = some (.slice a2 n2 c2) := by rw [cell_of_row _ _ _ _ _ _ h.blk]; rfl
theorem FB.grown {r : Option Nat} (h : FB W wr bF a1 n1 c1 a2 n2 c2 xs cs) (hg : wr.grownBy w4 r) (hr : ∀ q, r = some q → bF + 1 ≤ q) : w4.heap[bF]? = some (.cells #[.slice a1 n1 c1, .slice a2 n2 c2] 61 (0, 0)) ∧ Kept W w4 := by
  refine ⟨(hg.block bF h.lt (fun e => by have := hr bF e.symm; omega)).trans h.blk, ⟨hg.os.trans h.K.os, hg.tape.trans h.K.tape, hg.output.trans h.K.output, Nat.le_trans h.K.size hg.size, fun q hq => (hg.block q (Nat.lt_of_lt_of_le hq h.K.size) (fun e => ?_)).trans (h.K.block q hq)⟩⟩
  have := hr q e.symm
  have := h.low
  omega
/-- The first row has grown, and is stored. -/
theorem FB.step1 (h : FB W w0 bF a1 n1 c1 a2 n2 c2 xs cs) (hown : w4.ownsRow (bF + 1) 2 1 (.slice a' n' c') n' (xs.map (Value.int .i64) ++ ys.map (Value.int .i64))) (hg : w0.grownBy w4 (Value.slice a1 n1 c1).ownBlock) :
    FB W (w4.setCell ⟨bF, 0, none⟩ (.slice a' n' c')) bF a' n' c' a2 n2 c2 (xs ++ ys) cs ∧ w4.cell? ⟨bF, 0, none⟩ = some (.slice a1 n1 c1) ∧ w4.frozen? ⟨bF, 0, none⟩ = false := by
  obtain ⟨h4, hk4⟩ := h.grown hg (fun q hq => (h.r1.lt q hq).1)
  refine ⟨⟨setCell_row h4 0 _, ?_, ?_, hk4.setCell h.low _, h.low⟩, by rw [cell_of_row _ _ _ _ _ _ h4]; rfl, frozen_of_row h4 0⟩
  · rw [List.map_append]
    exact ownsRow_block hown fun q hq => Below.heap_setCell _ _ _ _ (fun e => by have h3 : q = bF := e; have := (hown.lt q hq).1; omega)
  · refine ownsRow_block h.r2 fun q hq => ?_
    rw [Below.heap_setCell _ _ _ _ (fun e => by have h3 : q = bF := e; have := (h.r2.lt q hq).1; omega)]
    exact hg.block q (h.r2.lt q hq).2 (fun e => rows_apart h.r1 h.r2 (by decide) q e.symm hq)
/-- The second one. -/
theorem FB.step2 (h : FB W w0 bF a1 n1 c1 a2 n2 c2 xs cs) (hown : w4.ownsRow (bF + 1) 68 4 (.slice a' n' c') n' (clCells cs ++ clCells ds)) (hg : w0.grownBy w4 (Value.slice a2 n2 c2).ownBlock) :
    FB W (w4.setCell ⟨bF, 1, none⟩ (.slice a' n' c')) bF a1 n1 c1 a' n' c' xs (cs ++ ds) ∧ w4.cell? ⟨bF, 1, none⟩ = some (.slice a2 n2 c2) ∧ w4.frozen? ⟨bF, 1, none⟩ = false := by
  obtain ⟨h4, hk4⟩ := h.grown hg (fun q hq => (h.r2.lt q hq).1)
  refine ⟨⟨setCell_row h4 1 _, ?_, ?_, hk4.setCell h.low _, h.low⟩, by rw [cell_of_row _ _ _ _ _ _ h4]; rfl, frozen_of_row h4 1⟩
  · refine ownsRow_block h.r1 fun q hq => ?_
    rw [Below.heap_setCell _ _ _ _ (fun e => by have h3 : q = bF := e; have := (h.r1.lt q hq).1; omega)]
    exact hg.block q (h.r1.lt q hq).2 (fun e => rows_apart h.r2 h.r1 (by decide) q e.symm hq)
  · have e : clCells (cs ++ ds) = clCells cs ++ clCells ds := by simp [clCells]
    rw [e]
    exact ownsRow_block hown fun q hq => Below.heap_setCell _ _ _ _ (fun e => by have h3 : q = bF := e; have := (hown.lt q hq).1; omega)
theorem FB.env (h : FB W wr bF a1 n1 c1 a2 n2 c2 xs cs) (h1 : xs.length = n1) (h2 : cs.length = n2) (hx : ∀ x ∈ xs, InR x) (hc : ∀ c ∈ cs, c.Ok) : EnvAt wr a1 n1 a2 n2 xs cs :=
  ⟨roots_of_row h.r1 h1 hx, cells_of_row h.r2 h2 hc⟩
end
theorem infoCell : (Tryd.prog.info? 68).map (fun i => (i.zero, i.size, i.bytes)) = some (some (.agg #[.int .i64 0, .int .i64 0, .int .i64 0, .int .i64 0]), 4, 32) := by kernel_rfl
/-- A cell of the same place, and another number. -/
def bump (c : Cl) : Cl := ⟨c.a, c.v, c.t, wrap64 (c.n + 1)⟩
theorem wrap64_in (n : Int) : InR (wrap64 n) := by rw [wrap64_bv]; exact InR.toInt _
theorem bump_ok {c : Cl} (h : c.Ok) : (bump c).Ok := ⟨h.1, h.2.1, h.2.2.1, wrap64_in _⟩
theorem hasC_bump (C : List Cl) (a v t : Int) : hasC (C.map bump) a v t = hasC C a v t := by
  unfold hasC
  rw [List.any_map]
  rfl
theorem cellI_bump (C : List Cl) (a v t : Int) : cellI (C ++ C.map bump) a v t = cellI C a v t := by
  rw [cellI_append]
  cases h : hasC C a v t with
  | true => rfl
  | false =>
    rw [cellI_none h, cellI_none (by rw [hasC_bump]; exact h)]; rfl
theorem symI_left {S M : List Int} {s : Int} (h0 : 0 ≤ s) (h : s < S.length) : symI (S ++ M) s = symI S s := by
  obtain ⟨k, rfl⟩ : ∃ k : Nat, s = k := ⟨s.toNat, by omega⟩
  have hk : k < S.length := by omega
  rw [symI_some (S := S) (List.getElem?_eq_getElem hk)]
  exact symI_some (by rw [List.getElem?_append_left hk]; exact List.getElem?_eq_getElem hk)

/-- The bool tells whether p holds. -/
def TellsB (b : Bool) (p : Prop) : Prop := b = true ↔ p
theorem TellsB.yes {p : Prop} (h : p) : TellsB true p := ⟨fun _ => h, fun _ => rfl⟩
theorem TellsB.no {p : Prop} (h : ¬ p) : TellsB false p := ⟨fun e => (by cases e), fun e => absurd e h⟩

set_option maxRecDepth 100000 in
set_option maxHeartbeats 32000000 in
theorem behind_few (la lb : Option Addr) (n lc k kc : Nat) (ds : List Nd) (s : Sl) (S : List Int) (C : List Cl) (os : List Int) (w : World) (hds : NodesAt w la n ds) (hE : EnvAt w s.sa s.sn s.ca s.cn S C) (hos : RootsAt w lb k os)
    (hns : s.sa = none → s.sn = 0 ∧ s.sc = 0) (hnc : s.ca = none → s.cn = 0 ∧ s.cc = 0) (hno : lb = none → k = 0 ∧ kc = 0) (hn : n ≤ 40) (hsn : s.sn ≤ 60) (hcn : s.cn ≤ 60) (hk : k ≤ 20) (hL : Laid w) :
    Calls Tryd.prog 9 #[.slice la n lc, .agg #[.slice s.sa s.sn s.sc, .slice s.ca s.cn s.cc], .slice lb k kc] w fun e w' => e = .returned (.bool true) ∧ Kept w w' := by
  have HK0 := Lib.hid ((Kept.refl w).alloc (.cells #[.slice s.sa s.sn s.sc, .slice s.ca s.cn s.cc] 61))
  have HB0 := Lib.hid ((MapKept.heap_alloc w (.cells #[.slice s.sa s.sn s.sc, .slice s.ca s.cn s.cc] 61)).1)
  have HDS := Lib.hid (hds.kept HK0.out)
  have HE := Lib.hid (hE.kept HK0.out)
  have HOS := Lib.hid (hos.kept HK0.out)
  have HL := Lib.hid (hL.kept HK0.out)
  have HFB : Hid (fewB s.sn s.cn = true) := by show _ = _; unfold fewB; simp [hsn, hcn]
  have HNS := Lib.hid hns; have HNC := Lib.hid hnc; have HNO := Lib.hid hno
  clear hds hE hos hL hns hnc hno
  obtain ⟨i6, hi, hz0, hz1, hz2⟩ := info_parts infoI64
  have HI6 := Lib.hid (And.intro hi (And.intro hz0 (And.intro hz1 hz2))); clear hi hz0 hz1 hz2
  obtain ⟨ic, hi, hz0, hz1, hz2⟩ := info_parts infoCell
  have HIC := Lib.hid (And.intro hi (And.intro hz0 (And.intro hz1 hz2))); clear hi hz0 hz1 hz2
  have h1 : ¬ (40 : Int) < (n : Int) := by omega
  have h2 : ¬ (20 : Int) < (k : Int) := by omega
  have d1 : decide ((40 : Int) < (n : Int)) = false := decide_eq_false h1
  have d2 : decide ((20 : Int) < (k : Int)) = false := decide_eq_false h2
  go_enter Tryd.func9, Tryd.ntmps9
  go_upto_region 1 with (fail)
  change Code.wp _ _ _ _ (w.alloc (.cells #[.slice s.sa s.sn s.sc, .slice s.ca s.cn s.cc] 61))
  generalize w.alloc (.cells #[.slice s.sa s.sn s.sc, .slice s.ca s.cn s.cc] 61) = W at *
  obtain ⟨b4, hb4⟩ : ∃ b4 : Nat, b4 = w.heap.size := ⟨_, rfl⟩
  rw [← hb4] at HB0 ⊢
  clear hb4
  have HEC : Hid (∀ w', Kept W w' → w'.cell? ⟨b4, 0, none⟩ = some (.slice s.sa s.sn s.sc) ∧ w'.cell? ⟨b4, 1, none⟩ = some (.slice s.ca s.cn s.cc)) := fun w' hk => by
    have q1 := hk.row HB0.out
    exact ⟨by rw [cell_of_row _ _ _ _ _ _ q1]; rfl, by rw [cell_of_row _ _ _ _ _ _ q1]; rfl⟩
  obtain ⟨e0, e1⟩ := HEC.out W (Kept.refl W)
  go_wp2_with fail
  refine (few_any s W).mono ?_
  rintro e w0 ⟨rfl, hk0⟩
  rw [HFB.out]
  have HKF := Lib.hid hk0; clear hk0 e0 e1
  go_wp2_with fail
  refine (made_any la n lc ds w0 (HDS.out.kept HKF.out) (by omega) (HL.out.kept HKF.out)).mono ?_
  rintro e w1 ⟨g, m, v, rfl, ⟨a, c, a', c', hG, rfl, _, _⟩, hk1⟩
  have hlen : (addsL (ds.take n)).length ≤ 40 := by
    have h2 := addsL_len (ds.take n)
    have h3 := List.length_take_le n ds
    omega
  generalize addsL (ds.take n) = L at *
  have HG := Lib.hid hG; have HK1 := Lib.hid (HKF.out.trans hk1)
  have HGD := Lib.hid hG.good
  clear hG hk1
  go_upto_region 5 with (fail)
  have HFB0 : Hid (FB w1 (w1.alloc (.cells #[.slice none 0 0, .slice none 0 0] 61)) w1.heap.size none 0 0 none 0 0 [] []) :=
    ⟨(MapKept.heap_alloc w1 _).1, World.ownsRow_nil _ _ _ _, World.ownsRow_nil _ _ _ _, (Kept.refl w1).alloc _, Nat.le_refl _⟩
  change Code.wp _ _ _ _ (w1.alloc (.cells #[.slice none 0 0, .slice none 0 0] 61))
  generalize w1.alloc (.cells #[.slice none 0 0, .slice none 0 0] 61) = w2 at *
  obtain ⟨bF, hbF⟩ : ∃ bF : Nat, bF = w1.heap.size := ⟨_, rfl⟩
  rw [← hbF] at HFB0 ⊢
  clear hbF
  obtain ⟨e0, e1⟩ := HEC.out w2 (HK1.out.trans HFB0.out.K)
  have f0 := HFB0.out.cell0
  have hfl := HFB0.out.lt
  go_upto_region 6 with (at_builtin; refine wpList_append_spread rfl _ _ _ rfl (bF + 1) 2 i6 _ 1 8 Tryd.underlying58 HI6.out.1 HI6.out.2.1 HI6.out.2.2.1 HI6.out.2.2.2 rfl (by decide) (.slice none 0 0) 0 _ rfl HFB0.out.r1 s.sa s.sn s.sc (S.map (Value.int .i64)) rfl HNS.out (by rw [List.length_map, HE.out.syms.len]; omega) ((HE.out.syms.kept (HK1.out.trans HFB0.out.K)).news) (ints_one S) (by unfold maxLen; omega) (by omega) (by omega) ?_; intro ag cg w4 hown4 hgrow4; simp only [Nat.zero_add] at hown4; have hst := HFB0.out.step1 (ys := S) hown4 hgrow4; have HST := Lib.hid hst.1; have y0 := hst.2.1; have y1 := hst.2.2; clear hown4 hgrow4 hst)
  have HF1 : Hid (FB w1 (w4.setCell ⟨bF, 0, none⟩ (.slice ag s.sn cg)) bF ag s.sn cg none 0 0 ([] ++ S) []) := HST.out
  rw [List.nil_append] at HF1
  change Code.wp _ _ _ _ (w4.setCell ⟨bF, 0, none⟩ (.slice ag s.sn cg))
  generalize w4.setCell ⟨bF, 0, none⟩ (.slice ag s.sn cg) = w5 at *
  clear y0 y1 e0 e1 f0 hfl HST
  have HSL : Hid (S.length = s.sn) := HE.out.syms.len
  have f0 := HF1.out.cell0
  have hfl := HF1.out.lt
  go_upto_region 7 with (at_builtin; refine wpList_append_spread rfl _ _ _ rfl (bF + 1) 2 i6 _ 1 8 Tryd.underlying58 HI6.out.1 HI6.out.2.1 HI6.out.2.2.1 HI6.out.2.2.2 rfl (by decide) (.slice ag s.sn cg) s.sn _ rfl HF1.out.r1 lb k kc (os.map (Value.int .i64)) rfl HNO.out (by rw [List.length_map, HOS.out.len]; omega) ((HOS.out.kept (HK1.out.trans HF1.out.K)).news) (ints_one os) (by unfold maxLen; omega) (by omega) (by omega) ?_; intro ah ch w6 hown4 hgrow4; have hst := HF1.out.step1 (ys := os) hown4 hgrow4; have HST := Lib.hid hst.1; have y0 := hst.2.1; have y1 := hst.2.2; clear hown4 hgrow4 hst)
  obtain ⟨nn, hnn⟩ : ∃ nn : Nat, nn = s.sn + k := ⟨_, rfl⟩
  have hnn80 : nn ≤ 80 := by omega
  have HNN := Lib.hid hnn
  rw [← hnn] at HST ⊢
  clear hnn
  change Code.wp _ _ _ _ (w6.setCell ⟨bF, 0, none⟩ (.slice ah nn ch))
  generalize w6.setCell ⟨bF, 0, none⟩ (.slice ah nn ch) = w7 at *
  clear y0 y1 f0 hfl
  have HF2 := HST; clear HST
  obtain ⟨e0, e1⟩ := HEC.out w7 (HK1.out.trans HF2.out.K)
  have f0 := HF2.out.cell0
  have f1 := HF2.out.cell1
  have hfl := HF2.out.lt
  go_upto_region 8 with (at_builtin; refine wpList_append_spread rfl _ _ _ rfl (bF + 1) 68 ic _ 4 32 Tryd.underlying59 HIC.out.1 HIC.out.2.1 HIC.out.2.2.1 HIC.out.2.2.2 rfl (by decide) (.slice none 0 0) 0 _ rfl HF2.out.r2 s.ca s.cn s.cc (clCells C) rfl HNC.out (by rw [clCells_len, HE.out.cells.len]) ((HE.out.cells.kept (HK1.out.trans HF2.out.K)).news) (clCells_one C) (by unfold maxLen; omega) (by omega) (by omega) ?_; intro ai ci w8 hown4 hgrow4; simp only [Nat.zero_add] at hown4; have hst := HF2.out.step2 (ds := C) hown4 hgrow4; have HST := Lib.hid hst.1; have y0 := hst.2.1; have y1 := hst.2.2; clear hown4 hgrow4 hst)
  have HF3 : Hid (FB w1 (w8.setCell ⟨bF, 1, none⟩ (.slice ai s.cn ci)) bF ah nn ch ai s.cn ci (S ++ os) ([] ++ C)) := HST.out
  rw [List.nil_append] at HF3
  change Code.wp _ _ _ _ (w8.setCell ⟨bF, 1, none⟩ (.slice ai s.cn ci))
  generalize w8.setCell ⟨bF, 1, none⟩ (.slice ai s.cn ci) = w9 at *
  clear y0 y1 e0 e1 f0 f1 hfl HST
  go_wp2
  go_loopw [10] (fun i wr => ∃ (j m2 : Nat) (a2 : Option Addr) (c2 : Nat), j ≤ s.cn ∧ i = .int .i64 j ∧ m2 = s.cn + j ∧ FB w1 wr bF ah nn ch a2 m2 c2 (S ++ os) (C ++ (C.take j).map bump)) (fun i _ => s.cn - (intOf i).toNat)
  case atStart => exact ⟨0, s.cn, ai, ci, Nat.zero_le _, rfl, rfl, by simpa using HF3.out⟩
  case round =>
    obtain ⟨j, m2, a2, c2, hj, rfl, hm2, hF⟩ := hrel
    have HF := Lib.hid hF; clear hF
    have hm120 : m2 ≤ 120 := by omega
    have HM2 := Lib.hid hm2; clear hm2
    have j0 : (0 : Int) ≤ (j : Int) := Int.natCast_nonneg _
    obtain ⟨e0, e1⟩ := HEC.out wr (HK1.out.trans HF.out.K)
    by_cases hjn : j < s.cn
    · have j1 : (j : Int) < (s.cn : Int) := by omega
      obtain ⟨cb, co, hcl, hcz⟩ := (HE.out.cells.kept (HK1.out.trans HF.out.K)).at_ (by omega)
      have hjl : j < C.length := by rw [HE.out.cells.len]; exact hjn
      obtain ⟨cv, hcv⟩ : ∃ c, C[j]? = some c := ⟨_, List.getElem?_eq_getElem hjl⟩
      have hcd := hcz j cv hcv
      have x0 := hcd 0 _ rfl
      have x1 := hcd 1 _ rfl
      have x2 := hcd 2 _ rfl
      have x3 := hcd 3 _ rfl
      simp only [Nat.add_zero] at x0
      have HTK : Hid ((C.take (j + 1)).map bump = (C.take j).map bump ++ [bump cv]) := by
        show _ = _
        rw [List.take_succ_eq_append_getElem hjl, (List.getElem?_eq_some_iff.1 hcv).2, List.map_append]; rfl
      rw [hcl] at e1
      clear hcz hcd hcv hjl hcl
      go_upto_region 13 with (fail)
      have HBN := Lib.hid (MapKept.heap_alloc wr (cellObj (bump cv))).1
      have HK1c := Lib.hid ((Kept.refl wr).alloc (cellObj (bump cv)))
      change Code.wp _ _ _ _ (wr.alloc (cellObj (bump cv)))
      generalize wr.alloc (cellObj (bump cv)) = wc at *
      generalize wr.heap.size = bC at *
      clear x0 x1 x2 x3 e0 e1
      have HFC := Lib.hid (HF.out.kept HK1c.out)
      have f1 := HFC.out.cell1
      have hfl := HFC.out.lt
      have hfne : bF ≠ wc.heap.size := Nat.ne_of_lt hfl
      obtain ⟨y0, y1, y2, y3⟩ := cbox_facts HBN.out (Kept.refl wc)
      generalize bump cv = cb2 at *
      have HFD := Lib.hid (HFC.out.kept ((Kept.refl wc).alloc (cellObj cb2)))
      go_wp2_with (at_builtin; refine wpList_append_lies _ rfl _ _ _ rfl (bF + 1) 68 ic _ 4 32 Tryd.underlying59 HIC.out.1 HIC.out.2.1 HIC.out.2.2.1 HIC.out.2.2.2 rfl (by decide) (.slice a2 m2 c2) m2 _ rfl HFD.out.r2 ⟨wc.heap.size, 0, none⟩ 1 1 [.int .i64 cb2.a, .int .i64 cb2.v, .int .i64 cb2.t, .int .i64 cb2.n] rfl rfl (World.news_of_block (cs := #[.int .i64 cb2.a, .int .i64 cb2.v, .int .i64 cb2.t, .int .i64 cb2.n]) (t := 68) (fr := (0, 0)) (heap_alloc_new wc _)) (by simp [Value.oneCell']) (by omega) (by unfold maxLen; omega) (by omega) (by simp; omega) (wc.heap.size + 1) (by simp) ?_; intro gg cap w10 hown10 hgrow10 hat10 hlt10; have hst := HFD.out.step2 (ds := [cb2]) hown10 hgrow10; have HST := Lib.hid hst.1; have v0 := hst.2.1; have v1 := hst.2.2; clear hown10 hgrow10 hat10 hlt10 hst)
      go_roundw
      case rel => exact ⟨j + 1, m2 + 1, some ⟨gg, 0, none⟩, cap, by omega, by go_num, by have := HM2.out; omega, by rw [HTK.out, ← List.append_assoc]; exact HST.out⟩
      case measure => simp [intOf]; omega
    · obtain rfl : j = s.cn := by omega
      have HFB9 : Hid (FB w1 wr bF ah nn ch a2 m2 c2 (S ++ os) (C ++ C.map bump)) := by
        have h3 := HF.out
        rwa [← HE.out.cells.len, List.take_length] at h3
      have HEF : Hid (EnvAt wr ah nn a2 m2 (S ++ os) (C ++ C.map bump)) := by
        refine HFB9.out.env (by rw [List.length_append, HSL.out, HOS.out.len, HNN.out]) (by rw [List.length_append, List.length_map, HE.out.cells.len, HM2.out]) (fun x hx => ?_) (fun c hc => ?_)
        · rcases List.mem_append.1 hx with hx | hx
          · exact HE.out.syms.inr x hx
          · exact HOS.out.inr x hx
        · rcases List.mem_append.1 hc with hc | hc
          · exact HE.out.cells.ok c hc
          · obtain ⟨d, hd, rfl⟩ := List.mem_map.1 hc
            exact bump_ok (HE.out.cells.ok d hd)
      have HKB := Lib.hid (HFB9.out.K)
      go_wp2_with fail
      clear e0 e1
      obtain ⟨wb, rfl⟩ : ∃ wb : World, wb = wr := ⟨_, rfl⟩
      go_loopw [12] (fun i wr => ∃ q : Nat, q ≤ L.length ∧ i = .int .i64 q ∧ Kept wb wr) (fun i _ => L.length - (intOf i).toNat)
      case atStart => exact ⟨0, Nat.zero_le _, rfl, Kept.refl _⟩
      case round =>
        obtain ⟨q, hq, rfl, hKq⟩ := hrel
        have HKQ := Lib.hid hKq; clear hKq
        have q0 : (0 : Int) ≤ (q : Int) := Int.natCast_nonneg _
        have HKW := Lib.hid (HK1.out.trans (HKB.out.trans HKQ.out))
        have gc := (HG.out.kept (HKB.out.trans HKQ.out)).cell0
        by_cases hql : q < L.length
        · have q1 : (q : Int) < (L.length : Int) := by omega
          have HB : Hid (hasB L.length (q : Int) = true) := (hasB_iff _ _).2 ⟨q0, q1⟩
          have hqr : InR (q : Int) := ⟨by omega, by omega⟩
          obtain ⟨wo, rfl⟩ : ∃ wo : World, wo = wr := ⟨_, rfl⟩
          go_wp2_with (go_at_call 15; refine (size_cell _ _ _ _ _ gc).mono ?_; rintro e w' ⟨rfl, rfl⟩)
          refine (needs_any (HG.out.kept ((HKB.out.trans HKQ.out).trans ((Kept.refl _).alloc _))) (by omega) _ 1 1 [(q : Int)] (one_root wo (q : Int) hqr 30) (by omega)).mono ?_
          rintro e w2 ⟨a1, c1, a3, c3, SS, CC, rfl, hN, hR1, hR2, hk2⟩
          have HN := Lib.hid hN; have HR1 := Lib.hid hR1
          have HQ2 := Lib.hid (HKQ.out.trans (((Kept.refl _).alloc _).trans hk2))
          clear hN hR1 hR2 hk2 gc
          have hss : SS.length ≤ 100000 := by
            obtain ⟨U, hU, rfl, _⟩ := HN.out
            have h3 : U.length ≤ L.length := by
              have h5 := nodup_len L.length (U.map Int.toNat) (by
                unfold List.Nodup
                rw [List.pairwise_map]
                have hp2 : ∀ x ∈ U, 0 ≤ x := fun x hx => by
                  obtain ⟨r, hr, hrb, hrx⟩ := (hU.2 x).1 hx
                  exact ((hasB_iff _ _).1 (hrx.le HGD.out hrb).2).1
                refine List.Pairwise.imp_of_mem (fun {a b} ha hb hab => ?_) hU.1
                have h6 := hp2 a ha
                have h7 := hp2 b hb
                omega) (fun x hx => by
                obtain ⟨y, hy, rfl⟩ := List.mem_map.1 hx
                obtain ⟨r, hr, hrb, hrx⟩ := (hU.2 y).1 hy
                obtain ⟨h6, h7⟩ := (hasB_iff _ _).1 (hrx.le HGD.out hrb).2
                omega)
              simpa using h5
            have h4 := symsOf_len L U
            rw [sortI_len]
            omega
          obtain ⟨nS, hnS⟩ : ∃ x : Nat, x = SS.length := ⟨_, rfl⟩
          have HNSS := Lib.hid hnS
          rw [← hnS] at HR1 hss ⊢
          clear hnS
          go_wp2
          go_loopw [16, 17] (fun fv i wr => ∃ (t : Nat) (b : Bool), t ≤ nS ∧ i = .int .i64 t ∧ fv = .bool b ∧ TellsB b (∃ z ∈ SS.take t, (s.sn : Int) ≤ z) ∧ Kept w2 wr) (fun _ i _ => nS - (intOf i).toNat)
          case atStart => exact ⟨0, false, Nat.zero_le _, rfl, rfl, TellsB.no (by simp), Kept.refl _⟩
          case round =>
            obtain ⟨t, b, ht, rfl, rfl, hT, hKt⟩ := hrel
            have HT := Lib.hid hT; have HKT := Lib.hid hKt
            clear hT hKt
            have t0 : (0 : Int) ≤ (t : Int) := Int.natCast_nonneg _
            by_cases htn : t < nS
            · have t1 : (t : Int) < (nS : Int) := by omega
              obtain ⟨rs, ro, rfl, hcr⟩ := HR1.out.at_ (by omega)
              have htl : t < SS.length := by have := HNSS.out; omega
              obtain ⟨z, hz⟩ : ∃ z, SS[t]? = some z := ⟨_, List.getElem?_eq_getElem htl⟩
              have HZC := Lib.hid (hcr t z hz)
              have hzr := HR1.out.inr z (List.mem_of_getElem? hz)
              have HTKE : Hid (SS.take (t + 1) = SS.take t ++ [z]) := by
                show _ = _
                rw [List.take_succ_eq_append_getElem htl, (List.getElem?_eq_some_iff.1 hz).2]
              clear hcr hz htl
              have z0 := HKT.out.cell HZC.out
              obtain ⟨e0, e1⟩ := HEC.out wr (HK1.out.trans (HKB.out.trans (HQ2.out.trans HKT.out)))
              cases b with
              | true =>
                have HNT : Hid (TellsB true (∃ z ∈ SS.take (t + 1), (s.sn : Int) ≤ z)) := TellsB.yes (by
                  obtain ⟨y, hy, hys⟩ := HT.out.1 rfl
                  exact ⟨y, by rw [HTKE.out]; exact List.mem_append_left _ hy, hys⟩)
                go_wp2_with fail
                go_quiet (fail)
                clear z0 e0 e1
                go_upto_region 24 with (fail)
                generalize hwx : wr.drewN _ = wx
                have HKX : Hid (Kept w2 wx) := by
                  show Kept w2 wx
                  rw [← hwx]
                  exact HKT.out.trans ⟨rfl, rfl, rfl, Nat.le_refl _, fun _ _ => rfl⟩
                clear hwx
                have HFX := Lib.hid (HFB9.out.kept (HQ2.out.trans HKX.out))
                have z0 := (HKX.out.cell HZC.out)
                have f0 := HFX.out.cell0
                have f1 := HFX.out.cell1
                by_cases hzn : (nn : Int) ≤ z
                · have dn : decide ((nn : Int) ≤ z) = true := decide_eq_true hzn
                  have HSZ : Hid (symI (S ++ os) z = 0) := symI_none (Or.inr (by rw [List.length_append, HSL.out, HOS.out.len, ← HNN.out]; exact hzn))
                  have SK : Hid (∀ w', Kept wx w' → Kept wx w' ∧ w'.cell? ⟨rs, ro + t, none⟩ = some (.int .i64 z) ∧ w'.cell? ⟨bF, 0, none⟩ = some (.slice ah nn ch) ∧ w'.cell? ⟨bF, 1, none⟩ = some (.slice a2 m2 c2)) := fun w' hk =>
                    ⟨hk, (HKX.out.trans hk).cell HZC.out, (HFX.out.kept hk).cell0, (HFX.out.kept hk).cell1⟩
                  clear z0 f0 f1
                  go_region_held3 (fun w' => Kept wx w' ∧ w'.cell? ⟨rs, ro + t, none⟩ = some (.int .i64 z) ∧ w'.cell? ⟨bF, 0, none⟩ = some (.slice ah nn ch) ∧ w'.cell? ⟨bF, 1, none⟩ = some (.slice a2 m2 c2))
                    (first | exact SK.out _ (Kept.refl _) | exact SK.out _ (Kept.drew (Kept.refl _)) | assumption | exact SK.out _ (Kept.trans (And.left ‹Kept wx _ ∧ _›) (by assumption)))
                    ((go_at_call 29; refine (sym_any (sa := ah) (ca := a2) (sc := ch) (cn := m2) (cc := c2) (by exact HEF.out.syms.kept (HQ2.out.trans (HKX.out.trans (And.left ‹Kept wx _ ∧ _›)))) (by omega) z hzr).mono ?_; rintro e w7 ⟨rfl, hk7⟩; rw [HSZ.out]))
                  all_goals
                    have HKE := Lib.hid (HKX.out.trans (And.left ‹Kept wx _ ∧ _›))
                    go_wp2
                    go_roundw
                    case rel => exact ⟨t + 1, true, by omega, by go_num, rfl, HNT.out, HKE.out⟩
                    case measure => simp [intOf]; omega
                · have dn : decide ((nn : Int) ≤ z) = false := decide_eq_false hzn
                  go_wp2_with fail
                  go_quiet (fail)
                  go_wp2
                  go_roundw
                  case rel => exact ⟨t + 1, true, by omega, by go_num, rfl, HNT.out, HKX.out.trans ⟨rfl, rfl, rfl, Nat.le_refl _, fun _ _ => rfl⟩⟩
                  case measure => simp [intOf]; omega
              | false =>
                have HNF : Hid (¬ ∃ z ∈ SS.take t, (s.sn : Int) ≤ z) := fun h => by have := HT.out.2 h; cases this
                by_cases hzs : (s.sn : Int) ≤ z
                · have ds : decide ((s.sn : Int) ≤ z) = true := decide_eq_true hzs
                  have HNT : Hid (TellsB true (∃ z ∈ SS.take (t + 1), (s.sn : Int) ≤ z)) := TellsB.yes ⟨z, by rw [HTKE.out]; simp, hzs⟩
                  go_wp2_with fail
                  go_quiet (fail)
                  clear z0 e0 e1
                  go_upto_region 24 with (fail)
                  generalize hwx : wr.drewN _ = wx
                  have HKX : Hid (Kept w2 wx) := by
                    show Kept w2 wx
                    rw [← hwx]
                    exact HKT.out.trans ⟨rfl, rfl, rfl, Nat.le_refl _, fun _ _ => rfl⟩
                  clear hwx
                  have HFX := Lib.hid (HFB9.out.kept (HQ2.out.trans HKX.out))
                  have z0 := (HKX.out.cell HZC.out)
                  have f0 := HFX.out.cell0
                  have f1 := HFX.out.cell1
                  by_cases hzn : (nn : Int) ≤ z
                  · have dn : decide ((nn : Int) ≤ z) = true := decide_eq_true hzn
                    have HSZ : Hid (symI (S ++ os) z = 0) := symI_none (Or.inr (by rw [List.length_append, HSL.out, HOS.out.len, ← HNN.out]; exact hzn))
                    have SK : Hid (∀ w', Kept wx w' → Kept wx w' ∧ w'.cell? ⟨rs, ro + t, none⟩ = some (.int .i64 z) ∧ w'.cell? ⟨bF, 0, none⟩ = some (.slice ah nn ch) ∧ w'.cell? ⟨bF, 1, none⟩ = some (.slice a2 m2 c2)) := fun w' hk =>
                      ⟨hk, (HKX.out.trans hk).cell HZC.out, (HFX.out.kept hk).cell0, (HFX.out.kept hk).cell1⟩
                    clear z0 f0 f1
                    go_region_held3 (fun w' => Kept wx w' ∧ w'.cell? ⟨rs, ro + t, none⟩ = some (.int .i64 z) ∧ w'.cell? ⟨bF, 0, none⟩ = some (.slice ah nn ch) ∧ w'.cell? ⟨bF, 1, none⟩ = some (.slice a2 m2 c2))
                      (first | exact SK.out _ (Kept.refl _) | exact SK.out _ (Kept.drew (Kept.refl _)) | assumption | exact SK.out _ (Kept.trans (And.left ‹Kept wx _ ∧ _›) (by assumption)))
                      ((go_at_call 29; refine (sym_any (sa := ah) (ca := a2) (sc := ch) (cn := m2) (cc := c2) (by exact HEF.out.syms.kept (HQ2.out.trans (HKX.out.trans (And.left ‹Kept wx _ ∧ _›)))) (by omega) z hzr).mono ?_; rintro e w7 ⟨rfl, hk7⟩; rw [HSZ.out]))
                    all_goals
                      have HKE := Lib.hid (HKX.out.trans (And.left ‹Kept wx _ ∧ _›))
                      go_wp2
                      go_roundw
                      case rel => exact ⟨t + 1, true, by omega, by go_num, rfl, HNT.out, HKE.out⟩
                      case measure => simp [intOf]; omega
                  · have dn : decide ((nn : Int) ≤ z) = false := decide_eq_false hzn
                    go_wp2_with fail
                    go_quiet (fail)
                    go_wp2
                    go_roundw
                    case rel => exact ⟨t + 1, true, by omega, by go_num, rfl, HNT.out, HKX.out.trans ⟨rfl, rfl, rfl, Nat.le_refl _, fun _ _ => rfl⟩⟩
                    case measure => simp [intOf]; omega
                · have ds : decide ((s.sn : Int) ≤ z) = false := decide_eq_false hzs
                  have HNT : Hid (TellsB false (∃ z ∈ SS.take (t + 1), (s.sn : Int) ≤ z)) := TellsB.no (by
                    rw [HTKE.out]
                    rintro ⟨y, hy, hys⟩
                    rcases List.mem_append.1 hy with hy | hy
                    · exact HNF.out ⟨y, hy, hys⟩
                    · rw [List.mem_singleton.1 hy] at hys; exact hzs hys)
                  go_wp2_with fail
                  go_quiet (fail)
                  clear z0 e0 e1
                  go_upto_region 24 with (fail)
                  generalize hwx : wr.drewN _ = wx
                  have HKX : Hid (Kept w2 wx) := by
                    show Kept w2 wx
                    rw [← hwx]
                    exact HKT.out.trans ⟨rfl, rfl, rfl, Nat.le_refl _, fun _ _ => rfl⟩
                  clear hwx
                  have HFX := Lib.hid (HFB9.out.kept (HQ2.out.trans HKX.out))
                  have z0 := (HKX.out.cell HZC.out)
                  have f0 := HFX.out.cell0
                  have f1 := HFX.out.cell1
                  by_cases hzn : (nn : Int) ≤ z
                  · have dn : decide ((nn : Int) ≤ z) = true := decide_eq_true hzn
                    have HSZ : Hid (symI (S ++ os) z = 0) := symI_none (Or.inr (by rw [List.length_append, HSL.out, HOS.out.len, ← HNN.out]; exact hzn))
                    have SK : Hid (∀ w', Kept wx w' → Kept wx w' ∧ w'.cell? ⟨rs, ro + t, none⟩ = some (.int .i64 z) ∧ w'.cell? ⟨bF, 0, none⟩ = some (.slice ah nn ch) ∧ w'.cell? ⟨bF, 1, none⟩ = some (.slice a2 m2 c2)) := fun w' hk =>
                      ⟨hk, (HKX.out.trans hk).cell HZC.out, (HFX.out.kept hk).cell0, (HFX.out.kept hk).cell1⟩
                    clear z0 f0 f1
                    go_region_held3 (fun w' => Kept wx w' ∧ w'.cell? ⟨rs, ro + t, none⟩ = some (.int .i64 z) ∧ w'.cell? ⟨bF, 0, none⟩ = some (.slice ah nn ch) ∧ w'.cell? ⟨bF, 1, none⟩ = some (.slice a2 m2 c2))
                      (first | exact SK.out _ (Kept.refl _) | exact SK.out _ (Kept.drew (Kept.refl _)) | assumption | exact SK.out _ (Kept.trans (And.left ‹Kept wx _ ∧ _›) (by assumption)))
                      ((go_at_call 29; refine (sym_any (sa := ah) (ca := a2) (sc := ch) (cn := m2) (cc := c2) (by exact HEF.out.syms.kept (HQ2.out.trans (HKX.out.trans (And.left ‹Kept wx _ ∧ _›)))) (by omega) z hzr).mono ?_; rintro e w7 ⟨rfl, hk7⟩; rw [HSZ.out]))
                    all_goals
                      have HKE := Lib.hid (HKX.out.trans (And.left ‹Kept wx _ ∧ _›))
                      go_wp2
                      go_roundw
                      case rel => exact ⟨t + 1, false, by omega, by go_num, rfl, HNT.out, HKE.out⟩
                      case measure => simp [intOf]; omega
                  · have dn : decide ((nn : Int) ≤ z) = false := decide_eq_false hzn
                    go_wp2_with fail
                    go_quiet (fail)
                    go_wp2
                    go_roundw
                    case rel => exact ⟨t + 1, false, by omega, by go_num, rfl, HNT.out, HKX.out.trans ⟨rfl, rfl, rfl, Nat.le_refl _, fun _ _ => rfl⟩⟩
                    case measure => simp [intOf]; omega
            · obtain rfl : t = nS := by omega
              have HTE : Hid (TellsB b (∃ z ∈ SS, (s.sn : Int) ≤ z)) := by
                have h3 := HT.out
                rwa [HNSS.out, List.take_length] at h3
              have HQ3 := Lib.hid (HQ2.out.trans HKT.out)
              have HKW3 := Lib.hid (HK1.out.trans (HKB.out.trans HQ3.out))
              obtain ⟨e0, e1⟩ := HEC.out wr HKW3.out
              obtain ⟨xv, hxv⟩ : ∃ x : Int, x = ofI S C L (q : Int) := ⟨_, rfl⟩
              have HXV := Lib.hid hxv
              go_wp2_with fail
              refine (of_any (s := s) (HG.out.kept (HKB.out.trans HQ3.out)) (by omega) (HE.out.kept HKW3.out) (by omega) (by omega) (q : Int) hqr).mono ?_
              rintro e w10 ⟨rfl, hk10⟩
              rw [HB.out, ← hxv]
              clear hxv
              have HQ10 := Lib.hid (HQ3.out.trans hk10); clear hk10 e0 e1
              have HF10 := Lib.hid (HFB9.out.kept HQ10.out)
              have f0 := HF10.out.cell0
              have f1 := HF10.out.cell1
              cases b with
              | true =>
                go_wp2_with fail
                refine (of_any (s := ⟨ah, nn, ch, a2, m2, c2⟩) (HG.out.kept (HKB.out.trans HQ10.out)) (by omega) (HEF.out.kept HQ10.out) (by simp; omega) (by simp; omega) (q : Int) hqr).mono ?_
                rintro e w11 ⟨rfl, hk11⟩
                have HQ11 := Lib.hid (HQ10.out.trans hk11); clear hk11 f0 f1
                go_wp2
                go_roundw
                case rel => exact ⟨q + 1, by omega, by go_num, HQ11.out⟩
                case measure => simp [intOf]; omega
              | false =>
                have HEQ : Hid (ofI (S ++ os) (C ++ C.map bump) L (q : Int) = xv) := by
                  show _ = _
                  rw [HXV.out]
                  unfold ofI
                  rw [if_pos HB.out, if_pos HB.out]
                  refine (needed_same HGD.out HB.out HN.out (fun z hz => ?_) (fun _ a v t => (cellI_bump C a v t).symm)).symm
                  have h0 := needs_sym HGD.out HN.out z hz
                  refine (symI_left h0 ?_).symm
                  rw [HSL.out]
                  by_cases h5 : (s.sn : Int) ≤ z
                  · have := HTE.out.2 ⟨z, hz, h5⟩; cases this
                  · omega
                go_wp2_with fail
                refine (of_any (s := ⟨ah, nn, ch, a2, m2, c2⟩) (HG.out.kept (HKB.out.trans HQ10.out)) (by omega) (HEF.out.kept HQ10.out) (by simp; omega) (by simp; omega) (q : Int) hqr).mono ?_
                rintro e w11 ⟨rfl, hk11⟩
                rw [HEQ.out]
                have HQ11 := Lib.hid (HQ10.out.trans hk11); clear hk11 f0 f1
                go_wp2
                go_roundw
                case rel => exact ⟨q + 1, by omega, by go_num, HQ11.out⟩
                case measure => simp [intOf]; omega
        · obtain rfl : q = L.length := by omega
          go_wp2_with (first
            | (go_at_call 15; refine (size_cell _ _ _ _ _ gc).mono ?_; rintro e w' ⟨rfl, rfl⟩)
            | (go_at_call 27; refine (vworks_any _ (HL.out.kept HKW.out)).mono ?_; rintro e w5 ⟨rfl, hk5⟩))
          go_ret
          exact ⟨rfl, HK0.out.trans (HKW.out.trans hk5)⟩
set_option maxRecDepth 100000 in
set_option maxHeartbeats 2000000 in
theorem behind_many (la lb : Option Addr) (n lc k kc : Nat) (s : Sl) (w : World) (h : 40 < n ∨ fewB s.sn s.cn = false ∨ 20 < k) (hL : Laid w) :
    Calls Tryd.prog 9 #[.slice la n lc, .agg #[.slice s.sa s.sn s.sc, .slice s.ca s.cn s.cc], .slice lb k kc] w fun e w' => e = .returned (.bool true) ∧ Kept w w' := by
  have HK0 := Lib.hid ((Kept.refl w).alloc (.cells #[.slice s.sa s.sn s.sc, .slice s.ca s.cn s.cc] 61))
  have HB0 := Lib.hid ((MapKept.heap_alloc w (.cells #[.slice s.sa s.sn s.sc, .slice s.ca s.cn s.cc] 61)).1)
  have HL := Lib.hid (hL.kept HK0.out)
  clear hL
  by_cases hn : 40 < n
  · have h1 : (40 : Int) < (n : Int) := by omega
    have d1 : decide ((40 : Int) < (n : Int)) = true := decide_eq_true h1
    clear h hn
    go_enter Tryd.func9, Tryd.ntmps9
    go_wp2_with (go_at_call 27; refine (vworks_any _ HL.out).mono ?_; rintro e w5 ⟨rfl, hk5⟩)
    go_ret
    exact ⟨rfl, HK0.out.trans hk5⟩
  · have h1 : ¬ (40 : Int) < (n : Int) := by omega
    have d1 : decide ((40 : Int) < (n : Int)) = false := decide_eq_false h1
    have hr : fewB s.sn s.cn = false ∨ fewB s.sn s.cn = true ∧ 20 < k := by
      rcases h with h | h | h
      · exact absurd h hn
      · exact Or.inl h
      · cases hf : fewB s.sn s.cn with
        | false => exact Or.inl rfl
        | true => exact Or.inr ⟨rfl, h⟩
    clear h hn
    rcases hr with hf | ⟨hf, hk⟩
    · have HF := Lib.hid hf; clear hf
      go_enter Tryd.func9, Tryd.ntmps9
      go_upto_region 1 with (fail)
      change Code.wp _ _ _ _ (w.alloc (.cells #[.slice s.sa s.sn s.sc, .slice s.ca s.cn s.cc] 61))
      generalize w.alloc (.cells #[.slice s.sa s.sn s.sc, .slice s.ca s.cn s.cc] 61) = W at *
      have e0 : W.cell? ⟨w.heap.size, 0, none⟩ = some (.slice s.sa s.sn s.sc) := by rw [cell_of_row _ _ _ _ _ _ HB0.out]; rfl
      have e1 : W.cell? ⟨w.heap.size, 1, none⟩ = some (.slice s.ca s.cn s.cc) := by rw [cell_of_row _ _ _ _ _ _ HB0.out]; rfl
      go_wp2_with fail
      refine (few_any s W).mono ?_
      rintro e w0 ⟨rfl, hk0⟩
      rw [HF.out]
      have HK1 := Lib.hid hk0; clear hk0 e0 e1
      go_wp2_with (go_at_call 27; refine (vworks_any _ (HL.out.kept HK1.out)).mono ?_; rintro e w5 ⟨rfl, hk5⟩)
      go_ret
      exact ⟨rfl, HK0.out.trans (HK1.out.trans hk5)⟩
    · have HF := Lib.hid hf; clear hf
      have h2 : (20 : Int) < (k : Int) := by omega
      have d2 : decide ((20 : Int) < (k : Int)) = true := decide_eq_true h2
      go_enter Tryd.func9, Tryd.ntmps9
      go_upto_region 1 with (fail)
      change Code.wp _ _ _ _ (w.alloc (.cells #[.slice s.sa s.sn s.sc, .slice s.ca s.cn s.cc] 61))
      generalize w.alloc (.cells #[.slice s.sa s.sn s.sc, .slice s.ca s.cn s.cc] 61) = W at *
      have e0 : W.cell? ⟨w.heap.size, 0, none⟩ = some (.slice s.sa s.sn s.sc) := by rw [cell_of_row _ _ _ _ _ _ HB0.out]; rfl
      have e1 : W.cell? ⟨w.heap.size, 1, none⟩ = some (.slice s.ca s.cn s.cc) := by rw [cell_of_row _ _ _ _ _ _ HB0.out]; rfl
      go_wp2_with fail
      refine (few_any s W).mono ?_
      rintro e w0 ⟨rfl, hk0⟩
      rw [HF.out]
      have HK1 := Lib.hid hk0; clear hk0 e0 e1
      go_wp2_with (go_at_call 27; refine (vworks_any _ (HL.out.kept HK1.out)).mono ?_; rintro e w5 ⟨rfl, hk5⟩)
      go_ret
      exact ⟨rfl, HK0.out.trans (HK1.out.trans hk5)⟩
theorem valuebehind_any (la lb : Option Addr) (n lc k kc : Nat) (ds : List Nd) (sa : Option Addr) (sn sc : Nat) (ca : Option Addr) (cn cc : Nat) (S : List Int) (C : List Cl) (os : List Int) (w : World) (hds : NodesAt w la n ds) (hE : EnvAt w sa sn ca cn S C) (hos : RootsAt w lb k os)
    (hns : sa = none → sn = 0 ∧ sc = 0) (hnc : ca = none → cn = 0 ∧ cc = 0) (hno : lb = none → k = 0 ∧ kc = 0) (hL : Laid w) :
    Calls Tryd.prog 9 #[.slice la n lc, .agg #[.slice sa sn sc, .slice ca cn cc], .slice lb k kc] w fun e w' => e = .returned (.bool true) ∧ Kept w w' := by
  by_cases h : n ≤ 40 ∧ (sn ≤ 60 ∧ cn ≤ 60) ∧ k ≤ 20
  · exact behind_few la lb n lc k kc ds ⟨sa, sn, sc, ca, cn, cc⟩ S C os w hds hE hos hns hnc hno h.1 h.2.1.1 h.2.1.2 h.2.2 hL
  · refine behind_many la lb n lc k kc ⟨sa, sn, sc, ca, cn, cc⟩ w ?_ hL
    by_cases h1 : 40 < n
    · exact Or.inl h1
    · by_cases h2 : 20 < k
      · exact Or.inr (Or.inr h2)
      · refine Or.inr (Or.inl ?_)
        show fewB sn cn = false
        unfold fewB
        rw [← Bool.not_eq_true]
        simp only [Bool.and_eq_true, decide_eq_true_eq]
        intro h3
        exact h ⟨by omega, h3, by omega⟩
end Go.Proofs.YtjhmbbioplhcgaaDoor
