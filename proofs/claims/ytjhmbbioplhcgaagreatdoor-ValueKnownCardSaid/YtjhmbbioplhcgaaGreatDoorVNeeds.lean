/-
  Layer 3: the contract of Needs.
-/
import Derived.Test.YtjhmbbioplhcgaaGreatDoorVAllY
namespace Go.Proofs.YtjhmbbioplhcgaaGreatDoor
open Go Go.RowKit Go.Sort

theorem rows_apart {N s1 s2 n1 n2 : Nat} {e1 e2 : TypeId} {v1 v2 : Value} {xs ys : List Value} {w : World} (h1 : w.ownsRow N e1 s1 v1 n1 xs) (h2 : w.ownsRow N e2 s2 v2 n2 ys) (he : e1 ≠ e2) (q : Nat) (hq : v1.ownBlock = some q) : v2.ownBlock ≠ some q := by
  intro hq2
  rcases h1.2 with ⟨rfl, _⟩ | ⟨r, _, cur, rfl, _, hb, _⟩
  · cases hq
  rcases h2.2 with ⟨rfl, _⟩ | ⟨r2, _, cur2, rfl, _, hb2, _⟩
  · cases hq2
  have e1 : r = q := by simpa [Value.ownBlock] using hq
  have e2 : r2 = q := by simpa [Value.ownBlock] using hq2
  subst e1
  subst e2
  rw [hb] at hb2
  cases hb2
  exact he rfl
/-- One row grows; the other, and all that was there, is as it was. -/
theorem grow_other {N s1 s2 n1 n2 : Nat} {e1 e2 : TypeId} {v1 v2 : Value} {xs ys : List Value} {w1 wr w4 : World} {o : Obj} (h1 : wr.ownsRow N e1 s1 v1 n1 xs) (h2 : wr.ownsRow N e2 s2 v2 n2 ys) (he : e1 ≠ e2) (hk : Kept w1 wr) (hN : w1.heap.size ≤ N) (hg : (wr.alloc o).grownBy w4 v1.ownBlock) :
    Kept w1 w4 ∧ w4.ownsRow N e2 s2 v2 n2 ys := by
  have tg : Turned (fun q => v1.ownBlock = some q) (wr.alloc o) w4 := Turned.grown hg fun k hk => hk
  have k2 := hk.alloc o
  refine ⟨⟨tg.os.trans k2.os, tg.tape.trans k2.tape, tg.output.trans k2.output, Nat.le_trans k2.size tg.size, fun q hq => (tg.block q (Nat.lt_of_lt_of_le hq k2.size) fun e => ?_).trans (k2.block q hq)⟩, ?_⟩
  · have := (h1.lt q e).1; omega
  · refine ownsRow_block (World.ownsRow.alloc h2 o) fun q hq => tg.block q ?_ fun e => rows_apart h1 h2 he q e hq
    exact ((World.ownsRow.alloc h2 o).lt q hq).2
theorem sorted_any {e : TypeId} {N ur c n : Nat} {W : World} {U S : List Int} {os : Array Obj} (hrow : W.ownsRow N e 1 (.slice (some ⟨ur, 0, none⟩) U.length c) U.length (U.map (Value.int .i64))) (hS : S.length = U.length) :
    (grow (putRow (Value.int .i64) (Sort.ahead W n) ur 0 S.toArray) os).ownsRow N e 1 (.slice (some ⟨ur, 0, none⟩) U.length c) U.length (S.map (Value.int .i64)) ∧
    Turned (fun q => q = ur) W (grow (putRow (Value.int .i64) (Sort.ahead W n) ur 0 S.toArray) os) := by
  have hb : ∀ q, q < W.heap.size → (grow (putRow (Value.int .i64) (Sort.ahead W n) ur 0 S.toArray) os).heap[q]? = (W.heap.modify ur (onCells (putCells (Value.int .i64) 0 S.toArray)))[q]? := by
    intro q hq
    show ((W.heap.modify ur (onCells (putCells (Value.int .i64) 0 S.toArray))) ++ os)[q]? = _
    rw [Array.getElem?_append_left (by simpa using hq)]
  obtain ⟨h1, h2⟩ := hrow
  rcases h2 with ⟨h2, _⟩ | ⟨r, cap, cur, hv, hN, hblk, hle, hmx, hsz, htk⟩
  · cases h2
  · have hr : ur = r := by injection hv with h1 _ _; injection h1 with h1; injection h1
    have hc : c = cap := by injection hv with _ _ h3
    subst hr; subst hc
    have hlt : ur < W.heap.size := (Array.getElem?_eq_some_iff.1 hblk).1
    refine ⟨⟨by simp [hS], Or.inr ⟨ur, c, putCells (Value.int .i64) 0 S.toArray cur, rfl, hN, ?_, hle, hmx, ?_, ?_⟩⟩, ⟨rfl, rfl, rfl, ?_, ?_⟩⟩
    · rw [hb ur hlt, Array.getElem?_modify, if_pos rfl, hblk]; rfl
    · simp [putCells, hsz]
    · apply List.ext_getElem?
      intro i
      rw [List.getElem?_take]
      split
      · rename_i hi
        have hic : i < cur.size := by omega
        simp only [putCells, Array.getElem?_toList, Array.getElem?_mapIdx, Array.getElem?_eq_getElem hic, Option.map_some]
        rw [if_pos ⟨Nat.zero_le _, by simp; omega⟩]
        have hiS : i < S.length := by omega
        simp [List.getElem?_map, List.getElem?_eq_getElem hiS]
      · rename_i hi
        rw [List.getElem?_eq_none (by simp; omega)]
    · show W.heap.size ≤ ((W.heap.modify ur (onCells (putCells (Value.int .i64) 0 S.toArray))) ++ os).size
      simp
    · intro q hq hne
      rw [hb q hq, Array.getElem?_modify, if_neg (fun e => hne e.symm)]
theorem sort_holds_any {e : TypeId} {N ur c : Nat} {W : World} {U : List Int} (hrow : W.ownsRow N e 1 (.slice (some ⟨ur, 0, none⟩) U.length c) U.length (U.map (Value.int .i64))) : Holds (Value.int .i64) W ur 0 U.toArray := by
  intro j hj
  have hj' : j < U.length := by simpa using hj
  rcases hrow.2 with ⟨h2, _⟩ | ⟨r, cap, cur, hv, hN, hblk, hle, hmx, hsz, htk⟩
  · cases h2
  · have hr : ur = r := by injection hv with h1 _ _; injection h1 with h1; injection h1
    subst hr
    refine ⟨?_, frozen_of_row hblk _⟩
    rw [Nat.zero_add, cell_of_row _ _ _ _ _ _ hblk]
    have h2 : (U.map (Value.int .i64))[j]? = some (.int .i64 (U.toArray[j]!)) := by
      rw [List.getElem?_map, List.getElem?_eq_getElem hj']
      simp [getElem!_pos, hj']
    rw [← htk, List.getElem?_take, if_pos (by omega)] at h2
    simpa using h2

def sortI (l : List Int) : List Int := l.mergeSort fun x y => decide (x ≤ y)
theorem sortI_mem {l : List Int} {x : Int} : x ∈ sortI l ↔ x ∈ l := List.mem_mergeSort
theorem sortI_len (l : List Int) : (sortI l).length = l.length := List.length_mergeSort _
/-- What Needs answers. -/
def NeedSpec (L : List Nd) (ids SS CC : List Int) : Prop := ∃ U, UsesSpec L ids U ∧ SS = sortI (symsOf L U) ∧ CC = cellsOf L U

set_option maxRecDepth 100000 in
set_option maxHeartbeats 8000000 in
theorem needs_any {B g m c : Nat} {sa : Option Addr} {L : List Nd} {w : World} (hG : GraphAt B w g m sa c L) (hlen : L.length ≤ 900)
    (la : Option Addr) (n lc : Nat) (ids : List Int) (hz : RootsAt w la n ids) (hn : n ≤ 100000) :
    Calls Tryz.prog 18 #[.pointer (some ⟨g, 0, none⟩), .slice la n lc] w fun e w' => ∃ a1 c1 a2 c2 SS CC, e = .returned (.tuple #[.slice a1 SS.length c1, .slice a2 CC.length c2]) ∧ NeedSpec L ids SS CC ∧ RootsAt w' a1 SS.length SS ∧ RootsAt w' a2 CC.length CC ∧ Kept w w' := by
  have HG := Lib.hid hG
  have HGD := Lib.hid hG.good
  have HZ := Lib.hid hz
  clear hG hz
  obtain ⟨i6, hi, hz0, hz1, hz2⟩ := info_parts infoI64
  have HI6 := Lib.hid (And.intro hi (And.intro hz0 (And.intro hz1 hz2))); clear hi hz0 hz1 hz2
  obtain ⟨ii, hi, hz0, hz1, hz2⟩ := info_parts infoId
  have HII := Lib.hid (And.intro hi (And.intro hz0 (And.intro hz1 hz2))); clear hi hz0 hz1 hz2
  go_enter Tryz.func18, Tryz.ntmps18
  go_wp2_with fail
  refine (uses_any HG.out hlen la n lc ids HZ.out hn).mono ?_
  rintro e w3 ⟨a3, c3, U, rfl, hU, hrow3, hk3⟩
  have HU := Lib.hid hU
  have HUH : Hid (∀ u ∈ U, hasB L.length u = true) := fun u hu => by
    obtain ⟨r, _, hrb, hr⟩ := (hU.2 u).1 hu
    exact (hr.le HGD.out hrb).2
  have HUL : Hid (U.length ≤ 900) := by
    have h5 := nodup_len L.length (U.map Int.toNat) (by
      unfold List.Nodup
      rw [List.pairwise_map]
      refine List.Pairwise.imp_of_mem (fun {a b} ha hb hab => ?_) hU.1
      have h6 := ((hasB_iff _ _).1 (HUH.out a ha)).1
      have h7 := ((hasB_iff _ _).1 (HUH.out b hb)).1
      omega) (fun x hx => by
      obtain ⟨v, hv, rfl⟩ := List.mem_map.1 hx
      obtain ⟨h6, h7⟩ := (hasB_iff _ _).1 (HUH.out v hv)
      omega)
    have h8 : U.length ≤ L.length := by simpa using h5
    show _ ≤ _
    omega
  have HUR : Hid (∀ u ∈ U, InR u) := fun u hu => has_inR (HUH.out u hu) hlen
  have HR3 : Hid (RootsAt w3 a3 U.length U) := roots_of_row hrow3 rfl HUR.out
  have HSR : Hid (∀ x ∈ symsOf L U, InR x) := fun x hx => by
    obtain ⟨i, hi, _, rfl⟩ := mem_symsOf.1 hx
    obtain ⟨h0, h1⟩ := (hasB_iff _ _).1 (HUH.out i hi)
    obtain ⟨k, rfl⟩ : ∃ k : Nat, i = k := ⟨i.toNat, by omega⟩
    rw [ndAt_get (by omega)]
    exact (HGD.out.ok _ (List.getElem_mem _)).2.1
  have HK3 := Lib.hid hk3
  clear hU hrow3 hk3
  have hul := HUL.out
  obtain ⟨q, hq⟩ : ∃ q : Nat, q = U.length := ⟨_, rfl⟩
  have HQ := Lib.hid hq
  rw [← hq] at HR3 hul ⊢
  clear hq
  go_wp2
  go_loopw [4, 5, 14] (fun v1 v2 i wr => ∃ (t : Nat) (a1 : Option Addr) (c1 : Nat) (a2 : Option Addr) (c2 : Nat) (n1 n2 : Nat), t ≤ q ∧ v1 = .slice a1 n1 c1 ∧ v2 = .slice a2 n2 c2 ∧ i = .int .i64 t ∧ n1 ≤ t ∧ n2 ≤ t ∧
      (symsOf L (U.take t)).length = n1 ∧ (cellsOf L (U.take t)).length = n2 ∧ wr.ownsRow w3.heap.size 2 1 (.slice a1 n1 c1) n1 ((symsOf L (U.take t)).map (Value.int .i64)) ∧ wr.ownsRow w3.heap.size 44 1 (.slice a2 n2 c2) n2 ((cellsOf L (U.take t)).map (Value.int .i64)) ∧ Kept w3 wr) (fun _ _ i _ => q - (intOf i).toNat)
  case atStart => exact ⟨0, none, 0, none, 0, 0, 0, Nat.zero_le _, rfl, rfl, rfl, Nat.le_refl _, Nat.le_refl _, rfl, rfl, World.ownsRow_nil _ _ _ _, World.ownsRow_nil _ _ _ _, Kept.refl _⟩
  case round =>
    obtain ⟨t, a1, c1, a2, c2, n1, n2, ht, rfl, rfl, rfl, hn1, hn2, hl1, hl2, hr1, hr2, hKt⟩ := hrel
    have HL1 := Lib.hid hl1; have HL2 := Lib.hid hl2; have HR1 := Lib.hid hr1; have HR2 := Lib.hid hr2; have HKT := Lib.hid hKt
    clear hl1 hl2 hr1 hr2 hKt
    have t0 : (0 : Int) ≤ (t : Int) := Int.natCast_nonneg _
    by_cases htq : t < q
    · have t1 : (t : Int) < (q : Int) := by omega
      obtain ⟨ub, uo, rfl, hcu⟩ := (HR3.out.kept HKT.out).at_ (by omega)
      have htl : t < U.length := by have := HQ.out; omega
      obtain ⟨u, hu⟩ : ∃ u, U[t]? = some u := ⟨_, List.getElem?_eq_getElem htl⟩
      have x0 := hcu t u hu
      have hum : u ∈ U := List.mem_of_getElem? hu
      have HBU := Lib.hid (HUH.out u hum)
      have HINU := Lib.hid (HUR.out u hum)
      obtain ⟨h0, h1⟩ := (hasB_iff _ _).1 HBU.out
      obtain ⟨k, rfl⟩ : ∃ k : Nat, u = k := ⟨u.toNat, by omega⟩
      have hk : k < L.length := by omega
      obtain ⟨d, hd⟩ : ∃ d, ndAt L (k : Int) = d := ⟨_, rfl⟩
      have HN : Hid (nodeAt L (k : Int) = d) := by
        show _ = _
        rw [← hd, ndAt_get hk]
        unfold nodeAt
        rw [HBU.out, Int.toNat_natCast, List.getD_eq_getElem?_getD, List.getElem?_eq_getElem hk]
        rfl
      have HTK : Hid (U.take (t + 1) = U.take t ++ [(k : Int)]) := by
        show _ = _
        rw [List.take_succ_eq_append_getElem htl, (List.getElem?_eq_some_iff.1 hu).2]
      have HSY : Hid (symsOf L (U.take (t + 1)) = if d.k = 2 then symsOf L (U.take t) ++ [d.n] else symsOf L (U.take t)) := by
        show _ = _
        rw [HTK.out, symsOf_snoc, hd]
      have HCY : Hid (cellsOf L (U.take (t + 1)) = if d.k = 3 then cellsOf L (U.take t) ++ [(k : Int)] else cellsOf L (U.take t)) := by
        show _ = _
        rw [HTK.out, cellsOf_snoc, hd]
      clear hcu hu hum h0 h1 hd htl
      go_wp2_with fail
      refine (node_any (HG.out.kept (HK3.out.trans HKT.out)) (k : Int)).mono ?_
      rintro e w6 ⟨rfl, hk6⟩
      rw [HBU.out, HN.out]
      simp only [Nd.val]
      have HK6 := Lib.hid hk6; clear hk6
      go_upto_region 5 with (fail)
      have HBN := Lib.hid (MapKept.heap_alloc w6 (nodeObj d)).1
      have HK7 := Lib.hid (HK6.out.trans ((Kept.refl w6).alloc (nodeObj d)))
      change Code.wp _ _ _ _ (w6.alloc (nodeObj d))
      generalize w6.alloc (nodeObj d) = w7 at *
      generalize w6.heap.size = bn at *
      obtain ⟨f0, f1, f2, f3, f4, f5⟩ := box_facts HBN.out (Kept.refl w7)
      have HR1b := Lib.hid (ownsRow_block HR1.out fun b hb => HK7.out.block b (HR1.out.lt b hb).2)
      have HR2b := Lib.hid (ownsRow_block HR2.out fun b hb => HK7.out.block b (HR2.out.lt b hb).2)
      have HKW := Lib.hid (HKT.out.trans HK7.out)
      obtain ⟨dk, dn, da, dp, dx, dy⟩ := d
      simp only at *
      by_cases k2 : dk = 2
      · have HS1 := Lib.hid (HSY.out.trans (if_pos k2))
        have HC1 := Lib.hid (HCY.out.trans (if_neg (by omega)))
        clear HSY HCY
        subst k2
        have HRA : Hid ((w7.alloc (.cells #[.int .i64 dn] 2)).ownsRow w3.heap.size 2 1 (.slice a1 n1 c1) n1 ((symsOf L (U.take t)).map (Value.int .i64))) := World.ownsRow.alloc HR1b.out _
        go_wp2_with (at_builtin; refine wpList_append_lies _ rfl _ _ _ rfl w3.heap.size 2 i6 _ 1 8 Tryz.underlying23 HI6.out.1 HI6.out.2.1 HI6.out.2.2.1 HI6.out.2.2.2 rfl (by omega) (.slice a1 n1 c1) n1 _ rfl HRA.out ⟨w7.heap.size, 0, none⟩ 1 1 [.int .i64 dn] rfl rfl (World.news_of_block (cs := #[.int .i64 dn]) (t := 2) (fr := (0, 0)) (heap_alloc_new w7 _)) (by simp [Value.oneCell']) (by omega) (by unfold maxLen; omega) (by omega) (by have := HKW.out.size; simp; omega) (w7.heap.size + 1) (by simp) ?_; intro gg cap w9 hown9 hgrow9 hat9 hlt9; have HOW9 := Lib.hid hown9; have HGR9 := Lib.hid hgrow9; clear hown9 hgrow9 hat9 hlt9)
        have HO9 := Lib.hid (grow_other HR1b.out HR2b.out (by decide) HKW.out (Nat.le_refl _) HGR9.out)
        go_roundw
        case rel =>
          refine ⟨t + 1, some ⟨gg, 0, none⟩, cap, a2, c2, n1 + 1, n2, by omega, by go_num, rfl, by go_num, by omega, by omega, ?_, ?_, ?_, ?_, HO9.out.1⟩
          · rw [HS1.out, List.length_append, HL1.out]; rfl
          · rw [HC1.out]; exact HL2.out
          · rw [HS1.out, List.map_append]; exact HOW9.out
          · rw [HC1.out]; exact HO9.out.2
        case measure => simp [intOf]; omega
      · have e2 : (dk == 2) = false := by simpa using k2
        by_cases k3 : dk = 3
        · have HS1 := Lib.hid (HSY.out.trans (if_neg k2))
          have HC1 := Lib.hid (HCY.out.trans (if_pos k3))
          clear HSY HCY e2
          subst k3
          have HRA : Hid ((w7.alloc (.cells #[.int .i64 (k : Int)] 44)).ownsRow w3.heap.size 44 1 (.slice a2 n2 c2) n2 ((cellsOf L (U.take t)).map (Value.int .i64))) := World.ownsRow.alloc HR2b.out _
          go_wp2_with (at_builtin; refine wpList_append_lies _ rfl _ _ _ rfl w3.heap.size 44 ii _ 1 8 Tryz.underlying30 HII.out.1 HII.out.2.1 HII.out.2.2.1 HII.out.2.2.2 rfl (by omega) (.slice a2 n2 c2) n2 _ rfl HRA.out ⟨w7.heap.size, 0, none⟩ 1 1 [.int .i64 (k : Int)] rfl rfl (World.news_of_block (cs := #[.int .i64 (k : Int)]) (t := 44) (fr := (0, 0)) (heap_alloc_new w7 _)) (by simp [Value.oneCell']) (by omega) (by unfold maxLen; omega) (by omega) (by have := HKW.out.size; simp; omega) (w7.heap.size + 1) (by simp) ?_; intro gg cap w9 hown9 hgrow9 hat9 hlt9; have HOW9 := Lib.hid hown9; have HGR9 := Lib.hid hgrow9; clear hown9 hgrow9 hat9 hlt9)
          have HO9 := Lib.hid (grow_other HR2b.out HR1b.out (by decide) HKW.out (Nat.le_refl _) HGR9.out)
          go_roundw
          case rel =>
            refine ⟨t + 1, a1, c1, some ⟨gg, 0, none⟩, cap, n1, n2 + 1, by omega, rfl, by go_num, by go_num, by omega, by omega, ?_, ?_, ?_, ?_, HO9.out.1⟩
            · rw [HS1.out]; exact HL1.out
            · rw [HC1.out, List.length_append, HL2.out]; rfl
            · rw [HS1.out]; exact HO9.out.2
            · rw [HC1.out, List.map_append]; exact HOW9.out
          case measure => simp [intOf]; omega
        · have e3 : (dk == 3) = false := by simpa using k3
          have HS1 := Lib.hid (HSY.out.trans (if_neg k2))
          have HC1 := Lib.hid (HCY.out.trans (if_neg k3))
          clear HSY HCY
          go_wp2
          go_roundw
          case rel =>
            refine ⟨t + 1, a1, c1, a2, c2, n1, n2, by omega, rfl, rfl, by go_num, by omega, by omega, ?_, ?_, ?_, ?_, HKW.out⟩
            · rw [HS1.out]; exact HL1.out
            · rw [HC1.out]; exact HL2.out
            · rw [HS1.out]; exact HR1b.out
            · rw [HC1.out]; exact HR2b.out
          case measure => simp [intOf]; omega
    · obtain rfl : t = q := by omega
      have HTU : Hid (U.take t = U) := by show _ = _; rw [HQ.out, List.take_length]
      rw [HTU.out] at HL1 HL2 HR1 HR2
      have HCR : Hid (∀ x ∈ cellsOf L U, InR x) := fun x hx => HUR.out x (mem_cellsOf.1 hx).1
      have HKE := Lib.hid (HK3.out.trans HKT.out)
      by_cases hz0 : n1 = 0
      · subst hz0
        have hsy : symsOf L U = [] := List.eq_nil_of_length_eq_zero HL1.out
        have HSY := Lib.hid hsy; clear hsy
        go_wp2_with fail
        refine (Tryz.slices_Sort_int_none _ _ _).mono ?_
        rintro e w9 ⟨rfl, hw9⟩
        subst hw9
        go_wp2
        go_ret2
        have hso : sortI (symsOf L U) = [] := by rw [HSY.out]; simp [sortI]
        refine ⟨a1, c1, a2, c2, [], cellsOf L U, by rw [HL2.out]; rfl, ⟨U, HU.out, hso.symm, rfl⟩, ⟨rfl, by simp, fun h => absurd h (Nat.lt_irrefl 0)⟩, ?_, HKE.out⟩
        rw [HL2.out]
        exact roots_of_row HR2.out HL2.out HCR.out
      · obtain ⟨ur, rfl⟩ : ∃ ur, a1 = some ⟨ur, 0, none⟩ := by
          rcases HR1.out.2 with ⟨_, h0⟩ | ⟨r, cap', cur, hv, _⟩
          · exact absurd h0 hz0
          · injection hv with ha _ _
            exact ⟨r, ha⟩
        have hr1 := HR1.out
        rw [← HL1.out] at hr1
        have HRS := Lib.hid hr1; clear hr1
        have hne : ¬ (Value.slice a2 n2 c2).ownBlock = some ur := rows_apart HR1.out HR2.out (by decide) ur rfl
        have HNE := Lib.hid hne; clear hne
        go_wp2_with fail
        have hcall := Tryz.slices_Sort_int ur 0 c1 (symsOf L U) wr (sort_holds_any HRS.out) (HRS.out.lt ur rfl).2 (by have := HL1.out; omega)
        rw [HL1.out] at hcall
        refine hcall.mono ?_
        rintro e w9 ⟨rfl, nn, os, hw9⟩
        have hsr := sorted_any (n := nn) (os := os) HRS.out (sortI_len (symsOf L U))
        rw [show grow (putRow (Value.int .i64) (Sort.ahead wr nn) ur 0 (sortI (symsOf L U)).toArray) os = w9 from hw9.symm] at hsr
        have HSR9 := Lib.hid hsr
        have HR29 := Lib.hid (ownsRow_block HR2.out fun b hb => hsr.2.block b (HR2.out.lt b hb).2 (fun e => HNE.out (by rw [← e]; exact hb)))
        have HK9 : Hid (Kept w w9) := by
          have h1 := HKE.out
          refine ⟨hsr.2.os.trans h1.os, hsr.2.tape.trans h1.tape, hsr.2.output.trans h1.output, Nat.le_trans h1.size hsr.2.size, fun b hb => (hsr.2.block b (Nat.lt_of_lt_of_le hb h1.size) fun e => ?_).trans (h1.block b hb)⟩
          have h2 := (HR1.out.lt ur rfl).1
          have h3 := HK3.out.size
          omega
        clear hsr hw9
        go_wp2
        go_ret2
        refine ⟨some ⟨ur, 0, none⟩, c1, a2, c2, sortI (symsOf L U), cellsOf L U, by rw [sortI_len, HL1.out, HL2.out]; rfl, ⟨U, HU.out, rfl, rfl⟩, ?_, ?_, HK9.out⟩
        · have h1 := HSR9.out.1
          rw [← sortI_len] at h1
          exact roots_of_row h1 rfl (fun x hx => HSR.out x (sortI_mem.1 hx))
        · rw [HL2.out]
          exact roots_of_row HR29.out HL2.out HCR.out
end Go.Proofs.YtjhmbbioplhcgaaGreatDoor
