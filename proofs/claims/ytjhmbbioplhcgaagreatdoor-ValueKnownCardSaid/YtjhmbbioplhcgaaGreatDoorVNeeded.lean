/-
  Layer 3, ValueNeeded: on nothing else.
-/
import Derived.Test.YtjhmbbioplhcgaaGreatDoorVNeedM
namespace Go.Proofs.YtjhmbbioplhcgaaGreatDoor
open Go Go.RowKit

theorem infoI6b : (Tryz.prog.info? 2).map (fun i => (i.zero, i.size, i.bytes)) = some (some (.int .i64 0), 1, 8) := by kernel_rfl
/-- The other environment as its symbols are put. -/
def Other (W : World) (wr : World) (bF : Nat) (ca : Option Addr) (cn cc : Nat) (xs : List Int) (t : Nat) : Prop :=
  ∃ a1 c1, wr.heap[bF]? = some (.cells #[.slice a1 t c1, .slice ca cn cc] 26 (0, 0)) ∧ wr.ownsRow (bF + 1) 2 1 (.slice a1 t c1) t (xs.map (Value.int .i64)) ∧ Kept W wr
/-- One symbol more. -/
theorem other_step {W wr w4 : World} {bF cn cc t gg cap c1 : Nat} {a1 ca : Option Addr} {xs : List Int} {v : Int} {o : Obj} (hb : wr.heap[bF]? = some (.cells #[.slice a1 t c1, .slice ca cn cc] 26 (0, 0))) (hrow : wr.ownsRow (bF + 1) 2 1 (.slice a1 t c1) t (xs.map (Value.int .i64))) (hk : Kept W wr) (hW : W.heap.size ≤ bF)
    (hown : w4.ownsRow (bF + 1) 2 1 (.slice (some ⟨gg, 0, none⟩) (t + 1) cap) (t + 1) (xs.map (Value.int .i64) ++ [.int .i64 v])) (hg : (wr.alloc o).grownBy w4 (Value.slice a1 t c1).ownBlock) :
    Other W (w4.setCell ⟨bF, 0, none⟩ (.slice (some ⟨gg, 0, none⟩) (t + 1) cap)) bF ca cn cc (xs ++ [v]) (t + 1) ∧ w4.cell? ⟨bF, 0, none⟩ = some (.slice a1 t c1) ∧ w4.frozen? ⟨bF, 0, none⟩ = false := by
  have hlt : bF < wr.heap.size := (Array.getElem?_eq_some_iff.1 hb).1
  have hne : ∀ q, (Value.slice a1 t c1).ownBlock = some q → q ≠ bF := fun q hq e => by have := (hrow.lt q hq).1; omega
  have h1 : (wr.alloc o).heap[bF]? = wr.heap[bF]? := Below.heap_alloc wr o bF hlt
  have h4 : w4.heap[bF]? = some (.cells #[.slice a1 t c1, .slice ca cn cc] 26 (0, 0)) := by
    rw [hg.block bF (by simp; omega) (fun e => hne bF e.symm rfl), h1, hb]
  have hgg : gg ≠ bF := by
    have := (hown.lt gg rfl).1
    omega
  refine ⟨⟨some ⟨gg, 0, none⟩, cap, setCell_row h4 0 _, ?_, ?_⟩, by rw [cell_of_row _ _ _ _ _ _ h4]; rfl, frozen_of_row h4 0⟩
  · rw [List.map_append]
    refine ownsRow_block hown fun q hq => ?_
    have : gg = q := by simpa [Value.ownBlock] using hq
    subst this
    exact Below.heap_setCell _ _ _ _ hgg
  · exact (grow_kept' hrow hk hW hg).setCell hW _

set_option maxRecDepth 100000 in
set_option maxHeartbeats 32000000 in
theorem needed_few (la lb : Option Addr) (n lc k kc : Nat) (ds : List Nd) (s : Sl) (S : List Int) (C : List Cl) (os : List Int) (w : World) (hds : NodesAt w la n ds) (hE : EnvAt w s.sa s.sn s.ca s.cn S C) (hos : RootsAt w lb k os) (hn : n ≤ 60) (hsn : s.sn ≤ 60) (hcn : s.cn ≤ 60) (hk : k ≤ 60) (hL : Laid w) :
    Calls Tryz.prog 20 #[.slice la n lc, .agg #[.slice s.sa s.sn s.sc, .slice s.ca s.cn s.cc], .slice lb k kc] w fun e w' => e = .returned (.bool true) ∧ Kept w w' := by
  have HK0 := Lib.hid ((Kept.refl w).alloc (.cells #[.slice s.sa s.sn s.sc, .slice s.ca s.cn s.cc] 26))
  have HB0 := Lib.hid ((MapKept.heap_alloc w (.cells #[.slice s.sa s.sn s.sc, .slice s.ca s.cn s.cc] 26)).1)
  have HDS := Lib.hid (hds.kept HK0.out)
  have HE := Lib.hid (hE.kept HK0.out)
  have HOS := Lib.hid (hos.kept HK0.out)
  have HL := Lib.hid (hL.kept HK0.out)
  have HFB : Hid (fewB s.sn s.cn = true) := by show _ = _; unfold fewB; simp [hsn, hcn]
  have HSL : Hid (S.length ≤ 60) := by show _ ≤ _; rw [hE.syms.len]; exact hsn
  clear hds hE hos hL
  obtain ⟨i6, hi, hz0, hz1, hz2⟩ := info_parts infoI6b
  have HI6 := Lib.hid (And.intro hi (And.intro hz0 (And.intro hz1 hz2))); clear hi hz0 hz1 hz2
  have h1 : ¬ (60 : Int) < (n : Int) := by omega
  have h2 : ¬ (60 : Int) < (k : Int) := by omega
  have d1 : decide ((60 : Int) < (n : Int)) = false := decide_eq_false h1
  have d2 : decide ((60 : Int) < (k : Int)) = false := decide_eq_false h2
  go_enter Tryz.func20, Tryz.ntmps20
  go_upto_region 1 with (fail)
  change Code.wp _ _ _ _ (w.alloc (.cells #[.slice s.sa s.sn s.sc, .slice s.ca s.cn s.cc] 26))
  generalize w.alloc (.cells #[.slice s.sa s.sn s.sc, .slice s.ca s.cn s.cc] 26) = W at *
  obtain ⟨b4, hb4⟩ : ∃ b4 : Nat, b4 = w.heap.size := ⟨_, rfl⟩
  rw [← hb4] at HB0 ⊢
  clear hb4
  have HEC : Hid (∀ w', Kept W w' → w'.cell? ⟨b4, 0, none⟩ = some (.slice s.sa s.sn s.sc) ∧ w'.cell? ⟨b4, 1, none⟩ = some (.slice s.ca s.cn s.cc)) := fun w' hk => by
    have q1 := hk.row HB0.out
    exact ⟨by rw [cell_of_row _ _ _ _ _ _ q1]; rfl, by rw [cell_of_row _ _ _ _ _ _ q1]; rfl⟩
  obtain ⟨e0, e1⟩ := HEC.out W (Kept.refl W)
  go_wp2_with fail
  refine (few_any s W).mono ?_
  rintro e w0 ⟨rfl, hk0⟩
  rw [HFB.out]
  have HKF := Lib.hid hk0; clear hk0 e0 e1
  go_wp2_with fail
  refine (made_any la n lc ds w0 (HDS.out.kept HKF.out) (by omega) (HL.out.kept HKF.out)).mono ?_
  rintro e w1 ⟨g, m, v, rfl, ⟨a, c, a', c', hG, rfl, _, _⟩, hk1⟩
  have hlen : (addsL (ds.take n)).length ≤ 60 := by
    have h2 := addsL_len (ds.take n)
    have h3 := List.length_take_le n ds
    omega
  generalize addsL (ds.take n) = L at *
  have HG := Lib.hid hG; have HK1 := Lib.hid (HKF.out.trans hk1)
  have HGD := Lib.hid hG.good
  clear hG hk1
  go_wp2_with fail
  go_loopw [9] (fun i wr => ∃ q : Nat, q ≤ L.length ∧ i = .int .i64 q ∧ Kept w1 wr) (fun i _ => L.length - (intOf i).toNat)
  case atStart => exact ⟨0, Nat.zero_le _, rfl, Kept.refl _⟩
  case round =>
    obtain ⟨q, hq, rfl, hKq⟩ := hrel
    have HKQ := Lib.hid hKq; clear hKq
    have q0 : (0 : Int) ≤ (q : Int) := Int.natCast_nonneg _
    have gc := (HG.out.kept HKQ.out).cell0
    by_cases hql : q < L.length
    · have q1 : (q : Int) < (L.length : Int) := by omega
      have HB : Hid (hasB L.length (q : Int) = true) := (hasB_iff _ _).2 ⟨q0, q1⟩
      have hqr : InR (q : Int) := ⟨by omega, by omega⟩
      obtain ⟨wo, rfl⟩ : ∃ wo : World, wo = wr := ⟨_, rfl⟩
      go_wp2_with (go_at_call 23; refine (size_cell _ _ _ _ _ gc).mono ?_; rintro e w' ⟨rfl, rfl⟩)
      refine (needs_any (HG.out.kept (HKQ.out.trans ((Kept.refl _).alloc _))) (by omega) _ 1 1 [(q : Int)] (one_root wo (q : Int) hqr 44) (by omega)).mono ?_
      rintro e w2 ⟨a1, c1, a2, c2, SS, CC, rfl, hN, hR1, hR2, hk2⟩
      have HN := Lib.hid hN; have HR1 := Lib.hid hR1; have HKW2 := Lib.hid (HK1.out.trans (HKQ.out.trans (((Kept.refl _).alloc _).trans hk2)))
      have HQ2 := Lib.hid (HKQ.out.trans (((Kept.refl _).alloc _).trans hk2))
      clear hN hR1 hR2 hk2 gc
      have hss : SS.length ≤ 100000 := by
        obtain ⟨U, hU, rfl, _⟩ := HN.out
        have h3 : U.length ≤ L.length := by
          have h5 := nodup_len L.length (U.map Int.toNat) (by
            unfold List.Nodup
            rw [List.pairwise_map]
            have hp2 : ∀ x ∈ U, 0 ≤ x := fun x hx => by
              obtain ⟨r, hr, hrb, hrx⟩ := (hU.2 x).1 hx
              exact ((hasB_iff _ _).1 (hrx.le HGD.out hrb).2).1
            refine List.Pairwise.imp_of_mem (fun {a b} ha hb hab => ?_) hU.1
            have h6 := hp2 a ha
            have h7 := hp2 b hb
            omega) (fun x hx => by
            obtain ⟨y, hy, rfl⟩ := List.mem_map.1 hx
            obtain ⟨r, hr, hrb, hrx⟩ := (hU.2 y).1 hy
            obtain ⟨h6, h7⟩ := (hasB_iff _ _).1 (hrx.le HGD.out hrb).2
            omega)
          simpa using h5
        have h4 := symsOf_len L U
        rw [sortI_len]
        omega
      obtain ⟨nC, hnC⟩ : ∃ x : Nat, x = CC.length := ⟨_, rfl⟩
      have HNC := Lib.hid hnC
      rw [← hnC]
      clear hnC
      have hnc : nC ≤ 100000 := by
        obtain ⟨U, hU, _, rfl⟩ := HN.out
        have h3 : U.length ≤ L.length := by
          have h5 := nodup_len L.length (U.map Int.toNat) (by
            unfold List.Nodup
            rw [List.pairwise_map]
            have hp2 : ∀ x ∈ U, 0 ≤ x := fun x hx => by
              obtain ⟨r, hr, hrb, hrx⟩ := (hU.2 x).1 hx
              exact ((hasB_iff _ _).1 (hrx.le HGD.out hrb).2).1
            refine List.Pairwise.imp_of_mem (fun {a b} ha hb hab => ?_) hU.1
            have h6 := hp2 a ha
            have h7 := hp2 b hb
            omega) (fun x hx => by
            obtain ⟨y, hy, rfl⟩ := List.mem_map.1 hx
            obtain ⟨r, hr, hrb, hrx⟩ := (hU.2 y).1 hy
            obtain ⟨h6, h7⟩ := (hasB_iff _ _).1 (hrx.le HGD.out hrb).2
            omega)
          simpa using h5
        have h4 := cellsOf_len L U
        have h5 := HNC.out
        omega
      obtain ⟨e0, e1⟩ := HEC.out w2 HKW2.out
      go_upto_region 10 with (fail)
      have HBF := Lib.hid (MapKept.heap_alloc w2 (.cells #[.slice none 0 0, .slice s.ca s.cn s.cc] 26)).1
      have HK3 := Lib.hid ((Kept.refl w2).alloc (.cells #[.slice none 0 0, .slice s.ca s.cn s.cc] 26))
      change Code.wp _ _ _ _ (w2.alloc (.cells #[.slice none 0 0, .slice s.ca s.cn s.cc] 26))
      generalize w2.alloc (.cells #[.slice none 0 0, .slice s.ca s.cn s.cc] 26) = w3 at *
      obtain ⟨bF, hbF⟩ : ∃ bF : Nat, bF = w2.heap.size := ⟨_, rfl⟩
      have HBFS := Lib.hid hbF
      rw [← hbF] at HBF ⊢
      clear hbF e0 e1
      go_wp2_with fail
      go_loopw [14] (fun i wr => ∃ t : Nat, t ≤ 60 ∧ i = .int .i64 t ∧ Other w2 wr bF s.ca s.cn s.cc (fsyms S SS os t) t) (fun i _ => 60 - (intOf i).toNat)
      case atStart => exact ⟨0, Nat.zero_le _, rfl, none, 0, HBF.out, World.ownsRow_nil _ _ _ _, HK3.out⟩
      case round =>
        obtain ⟨t, ht, rfl, af, cf, hbf, hrf, hKf⟩ := hrel
        have HBT := Lib.hid hbf; have HRT := Lib.hid hrf; have HKT := Lib.hid hKf
        clear hbf hrf hKf
        have t0 : (0 : Int) ≤ (t : Int) := Int.natCast_nonneg _
        obtain ⟨e0, e1⟩ := HEC.out wr (HKW2.out.trans HKT.out)
        by_cases htl : t < 60
        · have t1 : (t : Int) < 60 := by omega
          have htr : InR (t : Int) := ⟨by omega, by omega⟩
          have HKWT := Lib.hid (HKW2.out.trans HKT.out)
          go_wp2_with fail
          refine (sym_any (sa := s.sa) (ca := s.ca) (sc := s.sc) (cn := s.cn) (cc := s.cc) (HE.out.syms.kept HKWT.out) (by omega) (t : Int) htr).mono ?_
          rintro e w5 ⟨rfl, hk5⟩
          have HK5 := Lib.hid hk5; clear hk5 e0 e1
          obtain ⟨sv, hsv⟩ : ∃ x : Int, x = symI S (t : Int) := ⟨_, rfl⟩
          have HSV := Lib.hid hsv
          rw [← hsv]
          clear hsv
          have HB5 := Lib.hid (HK5.out.row HBT.out)
          have HR5 := Lib.hid (ownsRow_block HRT.out fun b hb => HK5.out.block b (HRT.out.lt b hb).2)
          have HK25 := Lib.hid (HKT.out.trans HK5.out)
          have hW2 : w2.heap.size ≤ bF := by have := HBFS.out; omega
          have f0 : w5.cell? ⟨bF, 0, none⟩ = some (.slice af t cf) := by rw [cell_of_row _ _ _ _ _ _ HB5.out]; rfl
          have hbl : bF < w5.heap.size := (Array.getElem?_eq_some_iff.1 HB5.out).1
          have hbne : bF ≠ w5.heap.size := Nat.ne_of_lt hbl
          cases hm : memB SS (t : Int) with
          | true =>
            have HM := Lib.hid hm; clear hm
            have HFS : Hid (fsyms S SS os (t + 1) = fsyms S SS os t ++ [sv]) := by
              show _ = _
              rw [fsyms_succ, HSV.out]
              unfold fsym
              rw [if_pos HM.out]
            go_wp2_with fail
            refine (vhas_any a1 SS.length c1 SS (t : Int) w5 (HR1.out.kept HK25.out) hss).mono ?_
            rintro e w' ⟨rfl, rfl⟩
            rw [HM.out]
            go_upto_region 16 with (fail)
            have HRA : Hid ((w5.alloc (.cells #[.int .i64 sv] 2)).ownsRow (bF + 1) 2 1 (.slice af t cf) t ((fsyms S SS os t).map (Value.int .i64))) := World.ownsRow.alloc HR5.out _
            go_wp2_with (at_builtin; refine wpList_append_lies _ rfl _ _ _ rfl (bF + 1) 2 i6 _ 1 8 Tryz.underlying23 HI6.out.1 HI6.out.2.1 HI6.out.2.2.1 HI6.out.2.2.2 rfl (by omega) (.slice af t cf) t _ rfl HRA.out ⟨w5.heap.size, 0, none⟩ 1 1 [.int .i64 sv] rfl rfl (World.news_of_block (cs := #[.int .i64 sv]) (t := 2) (fr := (0, 0)) (heap_alloc_new w5 _)) (by simp [Value.oneCell']) (by omega) (by unfold maxLen; omega) (by omega) (by simp; omega) (w5.heap.size + 1) (by simp) ?_; intro gg cap w9 hown9 hgrow9 hat9 hlt9; have hst := other_step HB5.out HR5.out HK25.out hW2 hown9 hgrow9; have HST := Lib.hid hst.1; have y0 := hst.2.1; have y1 := hst.2.2; clear hown9 hgrow9 hat9 hlt9 hst)
            go_roundw
            case rel => exact ⟨t + 1, by omega, by go_num, by rw [HFS.out]; exact HST.out⟩
            case measure => simp [intOf]; omega
          | false =>
            have HM := Lib.hid hm; clear hm
            by_cases htk : t < k
            · have d3 : (t : Int) < (k : Int) := by omega
              have d4 : decide ((t : Int) < (k : Int)) = true := decide_eq_true d3
              obtain ⟨bo, oo, rfl, hco⟩ := (HOS.out.kept (HKW2.out.trans HK25.out)).at_ (by omega)
              have hol : t < os.length := by rw [HOS.out.len]; exact htk
              obtain ⟨ov, hov⟩ : ∃ x, os[t]? = some x := ⟨_, List.getElem?_eq_getElem hol⟩
              have o0 := hco t ov hov
              have HFS : Hid (fsyms S SS os (t + 1) = fsyms S SS os t ++ [ov]) := by
                show _ = _
                rw [fsyms_succ]
                unfold fsym
                rw [if_neg (by rw [HM.out]; decide), if_pos hol, List.getD_eq_getElem?_getD, hov]; rfl
              clear hco hov hol
              go_wp2_with fail
              refine (vhas_any a1 SS.length c1 SS (t : Int) w5 (HR1.out.kept HK25.out) hss).mono ?_
              rintro e w' ⟨rfl, rfl⟩
              rw [HM.out]
              go_upto_region 16 with (fail)
              have HRA : Hid ((w5.alloc (.cells #[.int .i64 ov] 2)).ownsRow (bF + 1) 2 1 (.slice af t cf) t ((fsyms S SS os t).map (Value.int .i64))) := World.ownsRow.alloc HR5.out _
              go_wp2_with (at_builtin; refine wpList_append_lies _ rfl _ _ _ rfl (bF + 1) 2 i6 _ 1 8 Tryz.underlying23 HI6.out.1 HI6.out.2.1 HI6.out.2.2.1 HI6.out.2.2.2 rfl (by omega) (.slice af t cf) t _ rfl HRA.out ⟨w5.heap.size, 0, none⟩ 1 1 [.int .i64 ov] rfl rfl (World.news_of_block (cs := #[.int .i64 ov]) (t := 2) (fr := (0, 0)) (heap_alloc_new w5 _)) (by simp [Value.oneCell']) (by omega) (by unfold maxLen; omega) (by omega) (by simp; omega) (w5.heap.size + 1) (by simp) ?_; intro gg cap w9 hown9 hgrow9 hat9 hlt9; have hst := other_step HB5.out HR5.out HK25.out hW2 hown9 hgrow9; have HST := Lib.hid hst.1; have y0 := hst.2.1; have y1 := hst.2.2; clear hown9 hgrow9 hat9 hlt9 hst)
              go_roundw
              case rel => exact ⟨t + 1, by omega, by go_num, by rw [HFS.out]; exact HST.out⟩
              case measure => simp [intOf]; omega
            · have d3 : ¬ (t : Int) < (k : Int) := by omega
              have d4 : decide ((t : Int) < (k : Int)) = false := decide_eq_false d3
              have HFS : Hid (fsyms S SS os (t + 1) = fsyms S SS os t ++ [sv]) := by
                show _ = _
                rw [fsyms_succ, HSV.out]
                unfold fsym
                rw [if_neg (by rw [HM.out]; decide), if_neg (by have := HOS.out.len; omega)]
              go_wp2_with fail
              refine (vhas_any a1 SS.length c1 SS (t : Int) w5 (HR1.out.kept HK25.out) hss).mono ?_
              rintro e w' ⟨rfl, rfl⟩
              rw [HM.out]
              go_upto_region 16 with (fail)
              have HRA : Hid ((w5.alloc (.cells #[.int .i64 sv] 2)).ownsRow (bF + 1) 2 1 (.slice af t cf) t ((fsyms S SS os t).map (Value.int .i64))) := World.ownsRow.alloc HR5.out _
              go_wp2_with (at_builtin; refine wpList_append_lies _ rfl _ _ _ rfl (bF + 1) 2 i6 _ 1 8 Tryz.underlying23 HI6.out.1 HI6.out.2.1 HI6.out.2.2.1 HI6.out.2.2.2 rfl (by omega) (.slice af t cf) t _ rfl HRA.out ⟨w5.heap.size, 0, none⟩ 1 1 [.int .i64 sv] rfl rfl (World.news_of_block (cs := #[.int .i64 sv]) (t := 2) (fr := (0, 0)) (heap_alloc_new w5 _)) (by simp [Value.oneCell']) (by omega) (by unfold maxLen; omega) (by omega) (by simp; omega) (w5.heap.size + 1) (by simp) ?_; intro gg cap w9 hown9 hgrow9 hat9 hlt9; have hst := other_step HB5.out HR5.out HK25.out hW2 hown9 hgrow9; have HST := Lib.hid hst.1; have y0 := hst.2.1; have y1 := hst.2.2; clear hown9 hgrow9 hat9 hlt9 hst)
              go_roundw
              case rel => exact ⟨t + 1, by omega, by go_num, by rw [HFS.out]; exact HST.out⟩
              case measure => simp [intOf]; omega
        · obtain rfl : t = 60 := by omega
          clear e0 e1
          have HKWR := Lib.hid (HKW2.out.trans HKT.out)
          have hW2 : w2.heap.size ≤ bF := by have := HBFS.out; omega
          have hbl : bF < wr.heap.size := (Array.getElem?_eq_some_iff.1 HBT.out).1
          have HRTS : Hid (RootsAt wr af 60 (fsyms S SS os 60)) := roots_of_row HRT.out (fsyms_len _ _ _ _) (fsyms_in HE.out.syms.inr HOS.out.inr 60)
          have HSAME : Hid (∀ z ∈ SS, symI S z = symI (fsyms S SS os 60) z) := fun z hz => fsyms_same HSL.out hz (needs_sym HGD.out HN.out z hz)
          by_cases hz0 : nC = 0
          · have HCE : Hid (CC = []) := List.eq_nil_of_length_eq_zero (by have := HNC.out; omega)
            subst hz0
            have f0 : wr.cell? ⟨bF, 1, none⟩ = some (.slice s.ca s.cn s.cc) := by rw [cell_of_row _ _ _ _ _ _ HBT.out]; rfl
            have f1 : wr.frozen? ⟨bF, 1, none⟩ = false := frozen_of_row HBT.out 1
            have hbne : bF ≠ wr.heap.size := Nat.ne_of_lt hbl
            have hszs : (wr.setCell ⟨bF, 1, none⟩ (.slice (some ⟨wr.heap.size, 0, none⟩) 2 2)).heap.size = wr.heap.size := by simp [World.setCell]
            have HKZ := Lib.hid ((HKT.out.setCell (p := ⟨bF, 1, none⟩) hW2 (.slice (some ⟨wr.heap.size, 0, none⟩) 2 2)).alloc (.cells #[.int .i64 0, .int .i64 0, .int .i64 0, .int .i64 77, .int .i64 1, .int .i64 0, .int .i64 0, .int .i64 78] 58))
            have HBZ : Hid (((wr.setCell ⟨bF, 1, none⟩ (.slice (some ⟨wr.heap.size, 0, none⟩) 2 2)).alloc (.cells #[.int .i64 0, .int .i64 0, .int .i64 0, .int .i64 77, .int .i64 1, .int .i64 0, .int .i64 0, .int .i64 78] 58)).heap[bF]? = some (.cells #[.slice af 60 cf, .slice (some ⟨wr.heap.size, 0, none⟩) 2 2] 26 (0, 0))) := (Below.heap_alloc _ _ bF (by rw [hszs]; exact hbl)).trans (setCell_row HBT.out 1 _)
            have HTZ := Lib.hid ((Turned.setCell (T := fun q => q = bF) wr ⟨bF, 1, none⟩ (.slice (some ⟨wr.heap.size, 0, none⟩) 2 2) rfl).trans (((Kept.refl _).alloc (.cells #[.int .i64 0, .int .i64 0, .int .i64 0, .int .i64 77, .int .i64 1, .int .i64 0, .int .i64 0, .int .i64 78] 58)).turned (fun q => q = bF)))
            have HCZ : Hid (((wr.setCell ⟨bF, 1, none⟩ (.slice (some ⟨wr.heap.size, 0, none⟩) 2 2)).alloc (.cells #[.int .i64 0, .int .i64 0, .int .i64 0, .int .i64 77, .int .i64 1, .int .i64 0, .int .i64 0, .int .i64 78] 58)).heap[wr.heap.size]? = some (.cells #[.int .i64 0, .int .i64 0, .int .i64 0, .int .i64 77, .int .i64 1, .int .i64 0, .int .i64 0, .int .i64 78] 58 (0, 0))) := by
              have h9 := (MapKept.heap_alloc (wr.setCell ⟨bF, 1, none⟩ (.slice (some ⟨wr.heap.size, 0, none⟩) 2 2)) (.cells #[.int .i64 0, .int .i64 0, .int .i64 0, .int .i64 77, .int .i64 1, .int .i64 0, .int .i64 0, .int .i64 78] 58)).1
              rw [hszs] at h9
              exact h9
            clear hszs
            go_upto_region 19 with (fail)
            change Code.wp _ _ _ _ ((wr.setCell ⟨bF, 1, none⟩ (.slice (some ⟨wr.heap.size, 0, none⟩) 2 2)).alloc (.cells #[.int .i64 0, .int .i64 0, .int .i64 0, .int .i64 77, .int .i64 1, .int .i64 0, .int .i64 0, .int .i64 78] 58))
            generalize (wr.setCell ⟨bF, 1, none⟩ (.slice (some ⟨wr.heap.size, 0, none⟩) 2 2)).alloc (.cells #[.int .i64 0, .int .i64 0, .int .i64 0, .int .i64 77, .int .i64 1, .int .i64 0, .int .i64 0, .int .i64 78] 58) = w8 at *
            generalize wr.heap.size = bC at *
            have HE8 : Hid (EnvAt w8 af 60 (some ⟨bC, 0, none⟩) 2 (fsyms S SS os 60) [⟨0, 0, 0, 77⟩, ⟨1, 0, 0, 78⟩]) := by
              refine ⟨HRTS.out.turned HTZ.out (fun _ q hq e => ?_), ⟨rfl, by simp [Cl.Ok, InR], fun _ => ⟨bC, 0, rfl, fun j c hc i v hv => ?_⟩⟩⟩
              · have h3 := (HRT.out.lt q.block (by rw [hq]; rfl)).1
                have h4 : q.block = bF := e
                omega
              · rw [cell_of_row _ _ _ _ _ _ HCZ.out]
                match j, hc with
                | 0, hc =>
                  cases hc
                  match i, hv with
                  | 0, hv => cases hv; rfl
                  | 1, hv => cases hv; rfl
                  | 2, hv => cases hv; rfl
                  | 3, hv => cases hv; rfl
                  | i + 4, hv => cases hv
                | 1, hc =>
                  cases hc
                  match i, hv with
                  | 0, hv => cases hv; rfl
                  | 1, hv => cases hv; rfl
                  | 2, hv => cases hv; rfl
                  | 3, hv => cases hv; rfl
                  | i + 4, hv => cases hv
            have HSM : Hid (valI S C L (q : Int) = valI (fsyms S SS os 60) [⟨0, 0, 0, 77⟩, ⟨1, 0, 0, 78⟩] L (q : Int)) := needed_same HGD.out HB.out HN.out HSAME.out (fun h => absurd HCE.out h)
            have HB8 := Lib.hid HBZ.out
            have HK8 := Lib.hid HKZ.out
            clear f0 f1 hbne HBZ HKZ HTZ HCZ
            have HKW8 := Lib.hid (HKW2.out.trans HK8.out)
            have HQ8 := Lib.hid (HQ2.out.trans HK8.out)
            obtain ⟨e0, e1⟩ := HEC.out w8 HKW8.out
            obtain ⟨xv, hxv⟩ : ∃ x : Int, x = valI S C L (q : Int) := ⟨_, rfl⟩
            have HXV := Lib.hid hxv; clear hxv
            have HO1 : Hid (ofI S C L (q : Int) = xv) := by show _ = _; unfold ofI; rw [if_pos HB.out, HXV.out]
            have HO2 : Hid (ofI (fsyms S SS os 60) [⟨0, 0, 0, 77⟩, ⟨1, 0, 0, 78⟩] L (q : Int) = xv) := by show _ = _; unfold ofI; rw [if_pos HB.out, HXV.out, HSM.out]
            go_wp2_with fail
            refine (of_any (s := s) (HG.out.kept HQ8.out) (by omega) (HE.out.kept HKW8.out) (by omega) (by omega) (q : Int) hqr).mono ?_
            rintro e w10 ⟨rfl, hk10⟩
            rw [HB.out, HO1.out]
            have HK10 := Lib.hid hk10; clear hk10 e0 e1
            have f0 : w10.cell? ⟨bF, 0, none⟩ = some (.slice af 60 cf) := by rw [cell_of_row _ _ _ _ _ _ (HK10.out.row HB8.out)]; rfl
            have f1 : w10.cell? ⟨bF, 1, none⟩ = some (.slice (some ⟨bC, 0, none⟩) 2 2) := by rw [cell_of_row _ _ _ _ _ _ (HK10.out.row HB8.out)]; rfl
            go_wp2_with fail
            refine (of_any (s := ⟨af, 60, cf, some ⟨bC, 0, none⟩, 2, 2⟩) (HG.out.kept (HQ8.out.trans HK10.out)) (by omega) (HE8.out.kept HK10.out) (by simp) (by simp; try omega) (q : Int) hqr).mono ?_
            rintro e w11 ⟨rfl, hk11⟩
            rw [HB.out, HO2.out]
            have HK11 := Lib.hid (HK10.out.trans hk11); clear hk11 f0 f1
            obtain ⟨d, hd⟩ : ∃ d, L[q] = d := ⟨_, rfl⟩
            have HND : Hid (nodeAt L (q : Int) = d) := by
              show _ = _
              unfold nodeAt
              rw [HB.out, Int.toNat_natCast, List.getD_eq_getElem?_getD, List.getElem?_eq_getElem hql, hd]
              rfl
            have HP : Hid (∀ p ∈ partsOf d, hasB L.length p = true) := fun p hp => (part_lt HGD.out HB.out (p := p) (by rw [ndAt_get hql, hd]; exact hp)).2.2
            have H4 : Hid (d.k = 4 → xv = opI d.o (valI S C L d.x) (valI S C L d.y)) := fun h4 => by
              have h5 := valI_4 (S := S) (C := C) HGD.out hql (by rw [hd]; exact h4)
              rw [hd] at h5
              rw [HXV.out]; exact h5
            clear hd
            go_wp2_with fail
            refine (node_any (HG.out.kept (HQ8.out.trans HK11.out)) (q : Int)).mono ?_
            rintro e w12 ⟨rfl, hk12⟩
            rw [HB.out, HND.out]
            simp only [Nd.val]
            have HK12 := Lib.hid (HK11.out.trans hk12); clear hk12
            go_upto_region 24 with (fail)
            have HBN := Lib.hid (MapKept.heap_alloc w12 (nodeObj d)).1
            have HK13 := Lib.hid (HK12.out.trans ((Kept.refl w12).alloc (nodeObj d)))
            change Code.wp _ _ _ _ (w12.alloc (nodeObj d))
            generalize w12.alloc (nodeObj d) = w13 at *
            generalize w12.heap.size = bn at *
            obtain ⟨dk, dn, da, dp, dx, dy⟩ := d
            simp only at *
            obtain ⟨z0, z1, z2, z3, z4, z5⟩ := box_facts HBN.out (Kept.refl w13)
            simp only at z0 z1 z2 z3 z4 z5
            by_cases k4 : dk = 4
            · have HX4 := Lib.hid (H4.out k4)
              clear H4
              subst k4
              have HX : Hid (hasB L.length dx = true) := HP.out dx (by simp [partsOf])
              have HY : Hid (hasB L.length dy = true) := HP.out dy (by simp [partsOf])
              have HOX : Hid (ofI S C L dx = valI S C L dx) := by show _ = _; unfold ofI; rw [if_pos HX.out]
              have HOY : Hid (ofI S C L dy = valI S C L dy) := by show _ = _; unfold ofI; rw [if_pos HY.out]
              obtain ⟨e0, e1⟩ := HEC.out w13 (HKW8.out.trans HK13.out)
              go_wp2_with fail
              refine (of_any (s := s) (HG.out.kept (HQ8.out.trans HK13.out)) (by omega) (HE.out.kept (HKW8.out.trans HK13.out)) (by omega) (by omega) dx (has_inR HX.out (by omega))).mono ?_
              rintro e w14 ⟨rfl, hk14⟩
              rw [HX.out, HOX.out]
              have HK14 := Lib.hid (HK13.out.trans hk14)
              clear e0 e1 z0 z1 z2 z3 z4 z5
              obtain ⟨z0, z1, z2, z3, z4, z5⟩ := box_facts HBN.out hk14
              have HBN2 := Lib.hid (hk14.row HBN.out)
              simp only at z0 z1 z2 z3 z4 z5
              clear hk14
              obtain ⟨e0, e1⟩ := HEC.out w14 (HKW8.out.trans HK14.out)
              go_wp2_with fail
              refine (of_any (s := s) (HG.out.kept (HQ8.out.trans HK14.out)) (by omega) (HE.out.kept (HKW8.out.trans HK14.out)) (by omega) (by omega) dy (has_inR HY.out (by omega))).mono ?_
              rintro e w15 ⟨rfl, hk15⟩
              rw [HY.out, HOY.out]
              have HK15 := Lib.hid (HK14.out.trans hk15)
              clear e0 e1 z0 z1 z2 z3 z4 z5
              obtain ⟨z0, z1, z2, z3, z4, z5⟩ := box_facts HBN2.out hk15
              simp only at z0 z1 z2 z3 z4 z5
              clear hk15
              have HIN := Lib.hid (fun x => valI_in HE.out.syms.inr HE.out.cells.ok HGD.out x : ∀ x, InR (valI S C L x))
              go_wp2_with fail
              refine (do_any dp (valI S C L dx) (valI S C L dy) w15 (HIN.out dx) (HIN.out dy)).mono ?_
              rintro e w16 ⟨rfl, hk16⟩
              rw [← HX4.out]
              have HK16 : Hid (Kept w8 w16) := HK15.out.trans hk16
              clear hk16 z0 z1 z2 z3 z4 z5
              go_wp2
              go_roundw
              case rel => exact ⟨q + 1, by omega, by go_num, HQ8.out.trans HK16.out⟩
              case measure => simp [intOf]; omega
            · have e4 : (dk == 4) = false := by simpa using k4
              clear H4
              go_wp2
              go_roundw
              case rel => exact ⟨q + 1, by omega, by go_num, HQ8.out.trans HK13.out⟩
              case measure => simp [intOf]; omega
          · have hz1 : ((nC : Int) == 0) = false := by
              rw [beq_eq_false_iff_ne]; omega
            obtain ⟨w8, rfl⟩ : ∃ w8 : World, w8 = wr := ⟨_, rfl⟩
            have HE8 : Hid (EnvAt w8 af 60 s.ca s.cn (fsyms S SS os 60) C) := ⟨HRTS.out, HE.out.cells.kept HKWR.out⟩
            have HSM : Hid (valI S C L (q : Int) = valI (fsyms S SS os 60) C L (q : Int)) := needed_same HGD.out HB.out HN.out HSAME.out (fun _ _ _ _ => rfl)
            have HB8 := Lib.hid HBT.out
            have HK8 := Lib.hid HKT.out
            have HKW8 := Lib.hid (HKW2.out.trans HK8.out)
            have HQ8 := Lib.hid (HQ2.out.trans HK8.out)
            obtain ⟨e0, e1⟩ := HEC.out w8 HKW8.out
            obtain ⟨xv, hxv⟩ : ∃ x : Int, x = valI S C L (q : Int) := ⟨_, rfl⟩
            have HXV := Lib.hid hxv; clear hxv
            have HO1 : Hid (ofI S C L (q : Int) = xv) := by show _ = _; unfold ofI; rw [if_pos HB.out, HXV.out]
            have HO2 : Hid (ofI (fsyms S SS os 60) C L (q : Int) = xv) := by show _ = _; unfold ofI; rw [if_pos HB.out, HXV.out, HSM.out]
            go_wp2_with fail
            refine (of_any (s := s) (HG.out.kept HQ8.out) (by omega) (HE.out.kept HKW8.out) (by omega) (by omega) (q : Int) hqr).mono ?_
            rintro e w10 ⟨rfl, hk10⟩
            rw [HB.out, HO1.out]
            have HK10 := Lib.hid hk10; clear hk10 e0 e1
            have f0 : w10.cell? ⟨bF, 0, none⟩ = some (.slice af 60 cf) := by rw [cell_of_row _ _ _ _ _ _ (HK10.out.row HB8.out)]; rfl
            have f1 : w10.cell? ⟨bF, 1, none⟩ = some (.slice (s.ca) s.cn s.cc) := by rw [cell_of_row _ _ _ _ _ _ (HK10.out.row HB8.out)]; rfl
            go_wp2_with fail
            refine (of_any (s := ⟨af, 60, cf, s.ca, s.cn, s.cc⟩) (HG.out.kept (HQ8.out.trans HK10.out)) (by omega) (HE8.out.kept HK10.out) (by simp) (by simp; try omega) (q : Int) hqr).mono ?_
            rintro e w11 ⟨rfl, hk11⟩
            rw [HB.out, HO2.out]
            have HK11 := Lib.hid (HK10.out.trans hk11); clear hk11 f0 f1
            obtain ⟨d, hd⟩ : ∃ d, L[q] = d := ⟨_, rfl⟩
            have HND : Hid (nodeAt L (q : Int) = d) := by
              show _ = _
              unfold nodeAt
              rw [HB.out, Int.toNat_natCast, List.getD_eq_getElem?_getD, List.getElem?_eq_getElem hql, hd]
              rfl
            have HP : Hid (∀ p ∈ partsOf d, hasB L.length p = true) := fun p hp => (part_lt HGD.out HB.out (p := p) (by rw [ndAt_get hql, hd]; exact hp)).2.2
            have H4 : Hid (d.k = 4 → xv = opI d.o (valI S C L d.x) (valI S C L d.y)) := fun h4 => by
              have h5 := valI_4 (S := S) (C := C) HGD.out hql (by rw [hd]; exact h4)
              rw [hd] at h5
              rw [HXV.out]; exact h5
            clear hd
            go_wp2_with fail
            refine (node_any (HG.out.kept (HQ8.out.trans HK11.out)) (q : Int)).mono ?_
            rintro e w12 ⟨rfl, hk12⟩
            rw [HB.out, HND.out]
            simp only [Nd.val]
            have HK12 := Lib.hid (HK11.out.trans hk12); clear hk12
            go_upto_region 24 with (fail)
            have HBN := Lib.hid (MapKept.heap_alloc w12 (nodeObj d)).1
            have HK13 := Lib.hid (HK12.out.trans ((Kept.refl w12).alloc (nodeObj d)))
            change Code.wp _ _ _ _ (w12.alloc (nodeObj d))
            generalize w12.alloc (nodeObj d) = w13 at *
            generalize w12.heap.size = bn at *
            obtain ⟨dk, dn, da, dp, dx, dy⟩ := d
            simp only at *
            obtain ⟨z0, z1, z2, z3, z4, z5⟩ := box_facts HBN.out (Kept.refl w13)
            simp only at z0 z1 z2 z3 z4 z5
            by_cases k4 : dk = 4
            · have HX4 := Lib.hid (H4.out k4)
              clear H4
              subst k4
              have HX : Hid (hasB L.length dx = true) := HP.out dx (by simp [partsOf])
              have HY : Hid (hasB L.length dy = true) := HP.out dy (by simp [partsOf])
              have HOX : Hid (ofI S C L dx = valI S C L dx) := by show _ = _; unfold ofI; rw [if_pos HX.out]
              have HOY : Hid (ofI S C L dy = valI S C L dy) := by show _ = _; unfold ofI; rw [if_pos HY.out]
              obtain ⟨e0, e1⟩ := HEC.out w13 (HKW8.out.trans HK13.out)
              go_wp2_with fail
              refine (of_any (s := s) (HG.out.kept (HQ8.out.trans HK13.out)) (by omega) (HE.out.kept (HKW8.out.trans HK13.out)) (by omega) (by omega) dx (has_inR HX.out (by omega))).mono ?_
              rintro e w14 ⟨rfl, hk14⟩
              rw [HX.out, HOX.out]
              have HK14 := Lib.hid (HK13.out.trans hk14)
              clear e0 e1 z0 z1 z2 z3 z4 z5
              obtain ⟨z0, z1, z2, z3, z4, z5⟩ := box_facts HBN.out hk14
              have HBN2 := Lib.hid (hk14.row HBN.out)
              simp only at z0 z1 z2 z3 z4 z5
              clear hk14
              obtain ⟨e0, e1⟩ := HEC.out w14 (HKW8.out.trans HK14.out)
              go_wp2_with fail
              refine (of_any (s := s) (HG.out.kept (HQ8.out.trans HK14.out)) (by omega) (HE.out.kept (HKW8.out.trans HK14.out)) (by omega) (by omega) dy (has_inR HY.out (by omega))).mono ?_
              rintro e w15 ⟨rfl, hk15⟩
              rw [HY.out, HOY.out]
              have HK15 := Lib.hid (HK14.out.trans hk15)
              clear e0 e1 z0 z1 z2 z3 z4 z5
              obtain ⟨z0, z1, z2, z3, z4, z5⟩ := box_facts HBN2.out hk15
              simp only at z0 z1 z2 z3 z4 z5
              clear hk15
              have HIN := Lib.hid (fun x => valI_in HE.out.syms.inr HE.out.cells.ok HGD.out x : ∀ x, InR (valI S C L x))
              go_wp2_with fail
              refine (do_any dp (valI S C L dx) (valI S C L dy) w15 (HIN.out dx) (HIN.out dy)).mono ?_
              rintro e w16 ⟨rfl, hk16⟩
              rw [← HX4.out]
              have HK16 : Hid (Kept w8 w16) := HK15.out.trans hk16
              clear hk16 z0 z1 z2 z3 z4 z5
              go_wp2
              go_roundw
              case rel => exact ⟨q + 1, by omega, by go_num, HQ8.out.trans HK16.out⟩
              case measure => simp [intOf]; omega
            · have e4 : (dk == 4) = false := by simpa using k4
              clear H4
              go_wp2
              go_roundw
              case rel => exact ⟨q + 1, by omega, by go_num, HQ8.out.trans HK13.out⟩
              case measure => simp [intOf]; omega
    · obtain rfl : q = L.length := by omega
      go_wp2_with (first
        | (go_at_call 23; refine (size_cell _ _ _ _ _ gc).mono ?_; rintro e w' ⟨rfl, rfl⟩)
        | (go_at_call 7; refine (vworks_any _ (HL.out.kept (HK1.out.trans HKQ.out))).mono ?_; rintro e w5 ⟨rfl, hk5⟩))
      go_ret
      exact ⟨rfl, HK0.out.trans (HK1.out.trans (HKQ.out.trans hk5))⟩

set_option maxRecDepth 100000 in
set_option maxHeartbeats 2000000 in
theorem needed_many (la lb : Option Addr) (n lc k kc : Nat) (s : Sl) (w : World) (h : 60 < n ∨ fewB s.sn s.cn = false ∨ 60 < k) (hL : Laid w) :
    Calls Tryz.prog 20 #[.slice la n lc, .agg #[.slice s.sa s.sn s.sc, .slice s.ca s.cn s.cc], .slice lb k kc] w fun e w' => e = .returned (.bool true) ∧ Kept w w' := by
  have HK0 := Lib.hid ((Kept.refl w).alloc (.cells #[.slice s.sa s.sn s.sc, .slice s.ca s.cn s.cc] 26))
  have HB0 := Lib.hid ((MapKept.heap_alloc w (.cells #[.slice s.sa s.sn s.sc, .slice s.ca s.cn s.cc] 26)).1)
  have HL := Lib.hid (hL.kept HK0.out)
  clear hL
  by_cases hn : 60 < n
  · have h1 : (60 : Int) < (n : Int) := by omega
    have d1 : decide ((60 : Int) < (n : Int)) = true := decide_eq_true h1
    clear h hn
    go_enter Tryz.func20, Tryz.ntmps20
    go_wp2_with (go_at_call 7; refine (vworks_any _ HL.out).mono ?_; rintro e w5 ⟨rfl, hk5⟩)
    go_ret
    exact ⟨rfl, HK0.out.trans hk5⟩
  · have h1 : ¬ (60 : Int) < (n : Int) := by omega
    have d1 : decide ((60 : Int) < (n : Int)) = false := decide_eq_false h1
    have hr : fewB s.sn s.cn = false ∨ fewB s.sn s.cn = true ∧ 60 < k := by
      rcases h with h | h | h
      · exact absurd h hn
      · exact Or.inl h
      · cases hf : fewB s.sn s.cn with
        | false => exact Or.inl rfl
        | true => exact Or.inr ⟨rfl, h⟩
    clear h hn
    rcases hr with hf | ⟨hf, hk⟩
    · have HF := Lib.hid hf; clear hf
      go_enter Tryz.func20, Tryz.ntmps20
      go_upto_region 1 with (fail)
      change Code.wp _ _ _ _ (w.alloc (.cells #[.slice s.sa s.sn s.sc, .slice s.ca s.cn s.cc] 26))
      generalize w.alloc (.cells #[.slice s.sa s.sn s.sc, .slice s.ca s.cn s.cc] 26) = W at *
      have e0 : W.cell? ⟨w.heap.size, 0, none⟩ = some (.slice s.sa s.sn s.sc) := by rw [cell_of_row _ _ _ _ _ _ HB0.out]; rfl
      have e1 : W.cell? ⟨w.heap.size, 1, none⟩ = some (.slice s.ca s.cn s.cc) := by rw [cell_of_row _ _ _ _ _ _ HB0.out]; rfl
      go_wp2_with fail
      refine (few_any s W).mono ?_
      rintro e w0 ⟨rfl, hk0⟩
      rw [HF.out]
      have HK1 := Lib.hid hk0; clear hk0 e0 e1
      go_wp2_with (go_at_call 7; refine (vworks_any _ (HL.out.kept HK1.out)).mono ?_; rintro e w5 ⟨rfl, hk5⟩)
      go_ret
      exact ⟨rfl, HK0.out.trans (HK1.out.trans hk5)⟩
    · have HF := Lib.hid hf; clear hf
      have h2 : (60 : Int) < (k : Int) := by omega
      have d2 : decide ((60 : Int) < (k : Int)) = true := decide_eq_true h2
      go_enter Tryz.func20, Tryz.ntmps20
      go_upto_region 1 with (fail)
      change Code.wp _ _ _ _ (w.alloc (.cells #[.slice s.sa s.sn s.sc, .slice s.ca s.cn s.cc] 26))
      generalize w.alloc (.cells #[.slice s.sa s.sn s.sc, .slice s.ca s.cn s.cc] 26) = W at *
      have e0 : W.cell? ⟨w.heap.size, 0, none⟩ = some (.slice s.sa s.sn s.sc) := by rw [cell_of_row _ _ _ _ _ _ HB0.out]; rfl
      have e1 : W.cell? ⟨w.heap.size, 1, none⟩ = some (.slice s.ca s.cn s.cc) := by rw [cell_of_row _ _ _ _ _ _ HB0.out]; rfl
      go_wp2_with fail
      refine (few_any s W).mono ?_
      rintro e w0 ⟨rfl, hk0⟩
      rw [HF.out]
      have HK1 := Lib.hid hk0; clear hk0 e0 e1
      go_wp2_with (go_at_call 7; refine (vworks_any _ (HL.out.kept HK1.out)).mono ?_; rintro e w5 ⟨rfl, hk5⟩)
      go_ret
      exact ⟨rfl, HK0.out.trans (HK1.out.trans hk5)⟩
theorem valueneeded_any (la lb : Option Addr) (n lc k kc : Nat) (ds : List Nd) (sa : Option Addr) (sn sc : Nat) (ca : Option Addr) (cn cc : Nat) (S : List Int) (C : List Cl) (os : List Int) (w : World) (hds : NodesAt w la n ds) (hE : EnvAt w sa sn ca cn S C) (hos : RootsAt w lb k os) (hL : Laid w) :
    Calls Tryz.prog 20 #[.slice la n lc, .agg #[.slice sa sn sc, .slice ca cn cc], .slice lb k kc] w fun e w' => e = .returned (.bool true) ∧ Kept w w' := by
  by_cases h : n ≤ 60 ∧ (sn ≤ 60 ∧ cn ≤ 60) ∧ k ≤ 60
  · exact needed_few la lb n lc k kc ds ⟨sa, sn, sc, ca, cn, cc⟩ S C os w hds hE hos h.1 h.2.1.1 h.2.1.2 h.2.2 hL
  · refine needed_many la lb n lc k kc ⟨sa, sn, sc, ca, cn, cc⟩ w ?_ hL
    by_cases h1 : 60 < n
    · exact Or.inl h1
    · by_cases h2 : 60 < k
      · exact Or.inr (Or.inr h2)
      · refine Or.inr (Or.inl ?_)
        show fewB sn cn = false
        unfold fewB
        rw [← Bool.not_eq_true]
        simp only [Bool.and_eq_true, decide_eq_true_eq]
        intro h3
        exact h ⟨by omega, h3, by omega⟩
end Go.Proofs.YtjhmbbioplhcgaaGreatDoor
