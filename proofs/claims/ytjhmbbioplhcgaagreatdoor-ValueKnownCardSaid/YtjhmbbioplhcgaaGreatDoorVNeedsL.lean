/-
  VNeedsL: VRNeeds, VNeedsL in one text.
-/
import Derived.Test.YtjhmbbioplhcgaaGreatDoorTRUsesL
import Derived.Test.YtjhmbbioplhcgaaGreatDoorVNeedM
import Derived.StillTailTactics
import Derived.OneCell
import Derived.Laws.OwnMore
import Derived.BigRegion
import Derived.Test.YtjhmbbioplhcgaaGreatDoorTRPlain
import Derived.Test.YtjhmbbioplhcgaaGreatDoorVWorks
namespace Go.Proofs.YtjhmbbioplhcgaaGreatDoor
open Go Go.RowKit

/-- A number put at its place k of a row. -/
def insI (P : List Int) (x : Int) (k : Nat) : List Int := P.take k ++ x :: P.drop k
theorem insI_len (P : List Int) (x : Int) (k : Nat) : (insI P x k).length = P.length + 1 := by
  unfold insI; simp; omega
theorem insI_end (P : List Int) (x : Int) : insI P x P.length = P ++ [x] := by simp [insI]
theorem insI_perm (P : List Int) (x : Int) (k : Nat) : (insI P x k).Perm (P ++ [x]) := by
  unfold insI
  refine List.perm_middle.trans ?_
  rw [List.take_append_drop]
  exact (List.perm_append_singleton x P).symm
theorem insI_at {P : List Int} {x : Int} {k : Nat} (hk : k ≤ P.length) : (insI P x k)[k]? = some x := by
  unfold insI
  rw [List.getElem?_append_right (by simp; omega)]
  have : k - (P.take k).length = 0 := by simp; omega
  rw [this]; rfl
theorem insI_before {P : List Int} {x p : Int} {k : Nat} (hp : P[k]? = some p) : (insI P x (k + 1))[k]? = some p := by
  have hk := (List.getElem?_eq_some_iff.1 hp).1
  unfold insI
  rw [List.getElem?_append_left (by simp; omega), List.getElem?_take, if_pos (by omega)]
  exact hp
theorem insI_step {P : List Int} {x p : Int} {k : Nat} (hp : P[k]? = some p) : ((insI P x (k + 1)).set (k + 1) p).set k x = insI P x k := by
  obtain ⟨hk, hp'⟩ := List.getElem?_eq_some_iff.1 hp
  have e1 : P.take (k + 1) = P.take k ++ [p] := by rw [List.take_succ_eq_append_getElem hk, hp']
  have e2 : P.drop k = p :: P.drop (k + 1) := by rw [← hp']; exact List.drop_eq_getElem_cons hk
  have l1 : (P.take k).length = k := by simp; omega
  unfold insI
  rw [e1, e2]
  apply List.ext_getElem?
  intro i
  simp only [List.getElem?_set, List.append_assoc, List.singleton_append, List.length_append, List.length_set, List.length_cons, l1, List.getElem?_append]
  rcases Nat.lt_trichotomy i k with h | h | h
  · simp [show ¬ k = i by omega, show ¬ k + 1 = i by omega, h]
  · subst h; simp
  · obtain ⟨j, rfl⟩ : ∃ j, i = k + 1 + j := ⟨i - (k + 1), by omega⟩
    have : k + 1 + j - k = j + 1 := by omega
    simp [show ¬ k = k + 1 + j by omega, show ¬ k + 1 + j < k by omega, this]
    cases j with
    | zero => simp
    | succ j => simp
theorem insI_sorted {P : List Int} {x : Int} {k : Nat} (hP : P.Pairwise (· ≤ ·)) (h1 : ∀ y ∈ P.drop k, x ≤ y) (h2 : ∀ y ∈ P.take k, y ≤ x) : (insI P x k).Pairwise (· ≤ ·) := by
  unfold insI
  rw [← List.take_append_drop k P, List.pairwise_append] at hP
  rw [List.pairwise_append]
  refine ⟨hP.1, List.pairwise_cons.2 ⟨h1, hP.2.1⟩, fun a ha b hb => ?_⟩
  rcases List.mem_cons.1 hb with rfl | hb
  · exact h2 a ha
  · exact hP.2.2 a ha b hb
theorem take_le_of {P : List Int} {x p : Int} {k : Nat} (hP : P.Pairwise (· ≤ ·)) (hp : P[k]? = some p) (hx : p ≤ x) : ∀ y ∈ P.take (k + 1), y ≤ x := by
  intro y hy
  obtain ⟨i, hi, rfl⟩ := List.mem_iff_getElem.1 hy
  obtain ⟨hk, hp'⟩ := List.getElem?_eq_some_iff.1 hp
  rw [List.length_take] at hi
  rw [List.getElem_take]
  by_cases e : i = k
  · subst e; rw [hp']; exact hx
  · have := List.pairwise_iff_getElem.1 hP i k (by omega) hk (by omega)
    rw [hp'] at this; omega
theorem drop_lt_of {P : List Int} {x p : Int} {k : Nat} (h : ∀ y ∈ P.drop (k + 1), x ≤ y) (hp : P[k]? = some p) (hx : x < p) : ∀ y ∈ P.drop k, x ≤ y := by
  obtain ⟨hk, hp'⟩ := List.getElem?_eq_some_iff.1 hp
  intro y hy
  rw [List.drop_eq_getElem_cons hk, hp'] at hy
  rcases List.mem_cons.1 hy with rfl | hy
  · omega
  · exact h y hy
theorem sortI_uniq {l S : List Int} (hp : S.Perm l) (hs : S.Pairwise (· ≤ ·)) : S = sortI l := by
  have h1 : (sortI l).Perm l := List.mergeSort_perm _ _
  have h2 : (sortI l).Pairwise (· ≤ ·) := by
    have := List.pairwise_mergeSort (le := fun x y : Int => decide (x ≤ y)) (fun a b c h1 h2 => by simp at *; omega) (fun a b => by simp; omega) l
    exact this.imp (fun h => by simpa using h)
  exact List.Perm.eq_of_pairwise (fun a b _ _ h1 h2 => by omega) hs h2 (hp.trans h1.symm)

set_option maxRecDepth 100000 in
set_option maxHeartbeats 8000000 in
theorem rneeds_any {N h c : Nat} {a : Option Addr} {L : List Nd} {w : World} (hR : RefAt N w h a c L) (hG : Good L) (hl : L.length ≤ 900) (la : Option Addr) (n lc : Nat) (roots : List Int) (hz : RootsAt w la n roots) (hn : n ≤ 1000) :
    Calls Tryz.prog 19 #[.pointer (some ⟨h, 0, none⟩), .slice la n lc] w fun e w' => ∃ a1 c1 a2 c2 SS CC, e = .returned (.tuple #[.slice a1 SS.length c1, .slice a2 CC.length c2]) ∧ NeedSpec L roots SS CC ∧ RootsAt w' a1 SS.length SS ∧ RootsAt w' a2 CC.length CC ∧ Kept w w' := by
  have HR := Lib.hid hR
  have HZ := Lib.hid hz
  have HGD := Lib.hid hG
  clear hR hz hG
  obtain ⟨i6, hi, hz0, hz1, hz2⟩ := info_parts infoI64
  have HI6 := Lib.hid (And.intro hi (And.intro hz0 (And.intro hz1 hz2))); clear hi hz0 hz1 hz2
  obtain ⟨ii, hi, hz0, hz1, hz2⟩ := info_parts infoInt
  have HII := Lib.hid (And.intro hi (And.intro hz0 (And.intro hz1 hz2))); clear hi hz0 hz1 hz2
  go_enter Tryz.func19, Tryz.ntmps19
  go_wp2_with fail
  refine (ruses_any HR.out HGD.out hl la n lc roots HZ.out hn).mono ?_
  rintro e w3 ⟨a3, c3, U, rfl, hV, hrow3, hk3⟩
  have HUH : Hid (∀ u ∈ U, hasB L.length u = true) := fun u hu => (hasB_iff _ _).2 ((hV.2.1 u).1 hu).1
  have HU : Hid (UsesSpec L roots U) := by
    refine ⟨hV.1, fun i => ?_⟩
    rw [hV.2.1]
    constructor
    · rintro ⟨_, h2⟩
      exact h2
    · intro h2
      have h3 := h2
      obtain ⟨r, hr, hrb, hrr⟩ := h3
      exact ⟨(hasB_iff _ _).1 (hrr.le HGD.out hrb).2, h2⟩
  have HUL : Hid (U.length ≤ 900) := by
    have h5 := hV.2.2
    show _ ≤ _
    omega
  have HUR : Hid (∀ u ∈ U, InR u) := fun u hu => has_inR (HUH.out u hu) hl
  have HR3 : Hid (RootsAt w3 a3 U.length U) := roots_of_row hrow3 rfl HUR.out
  have HSR : Hid (∀ x ∈ symsOf L U, InR x) := fun x hx => by
    obtain ⟨i, hi, _, rfl⟩ := mem_symsOf.1 hx
    obtain ⟨h0, h1⟩ := (hasB_iff _ _).1 (HUH.out i hi)
    obtain ⟨k, rfl⟩ : ∃ k : Nat, i = k := ⟨i.toNat, by omega⟩
    rw [ndAt_get (by omega)]
    exact (HGD.out.ok _ (List.getElem_mem _)).2.1
  have HK3 := Lib.hid hk3
  clear hV hrow3 hk3
  have hul := HUL.out
  obtain ⟨q, hq⟩ : ∃ q : Nat, q = U.length := ⟨_, rfl⟩
  have HQ := Lib.hid hq
  rw [← hq] at HR3 hul ⊢
  clear hq
  go_wp2
  go_loopw [6, 7, 9] (fun v1 v2 i wr => ∃ (t : Nat) (a1 : Option Addr) (c1 : Nat) (a2 : Option Addr) (c2 : Nat) (n1 n2 : Nat) (SS : List Int), t ≤ q ∧ v1 = .slice a1 n1 c1 ∧ v2 = .slice a2 n2 c2 ∧ i = .int .i64 t ∧ n1 ≤ t ∧ n2 ≤ t ∧
      SS.Perm (symsOf L (U.take t)) ∧ SS.Pairwise (· ≤ ·) ∧ SS.length = n1 ∧ (cellsOf L (U.take t)).length = n2 ∧ wr.ownsRow w3.heap.size 2 1 (.slice a1 n1 c1) n1 (SS.map (Value.int .i64)) ∧ wr.ownsRow w3.heap.size 3 1 (.slice a2 n2 c2) n2 ((cellsOf L (U.take t)).map (Value.int .i64)) ∧ Kept w3 wr) (fun _ _ i _ => q - (intOf i).toNat)
  case atStart => exact ⟨0, none, 0, none, 0, 0, 0, [], Nat.zero_le _, rfl, rfl, rfl, Nat.le_refl _, Nat.le_refl _, .refl _, .nil, rfl, rfl, World.ownsRow_nil _ _ _ _, World.ownsRow_nil _ _ _ _, Kept.refl _⟩
  case round =>
    obtain ⟨t, a1, c1, a2, c2, n1, n2, SS, ht, rfl, rfl, rfl, hn1, hn2, hP, hS, hl1, hl2, hr1, hr2, hKt⟩ := hrel
    have HP := Lib.hid hP; have HS := Lib.hid hS
    have HL1 := Lib.hid hl1; have HL2 := Lib.hid hl2; have HR1 := Lib.hid hr1; have HR2 := Lib.hid hr2; have HKT := Lib.hid hKt
    clear hP hS hl1 hl2 hr1 hr2 hKt
    have t0 : (0 : Int) ≤ (t : Int) := Int.natCast_nonneg _
    by_cases htq : t < q
    · have t1 : (t : Int) < (q : Int) := by omega
      obtain ⟨ub, uo, rfl, hcu⟩ := (HR3.out.kept HKT.out).at_ (by omega)
      have htl : t < U.length := by have := HQ.out; omega
      obtain ⟨u, hu⟩ : ∃ u, U[t]? = some u := ⟨_, List.getElem?_eq_getElem htl⟩
      have x0 := hcu t u hu
      have hum : u ∈ U := List.mem_of_getElem? hu
      have HBU := Lib.hid (HUH.out u hum)
      have HINU := Lib.hid (HUR.out u hum)
      obtain ⟨h0, h1⟩ := (hasB_iff _ _).1 HBU.out
      obtain ⟨k, rfl⟩ : ∃ k : Nat, u = k := ⟨u.toNat, by omega⟩
      have hk : k < L.length := by omega
      obtain ⟨rb, rfl, hC⟩ := (HR.out.kept (HK3.out.trans HKT.out)).nodeCells hl hk
      have hndk : ndAt L (k : Int) = L[k] := ndAt_get hk
      obtain ⟨d, hd⟩ : ∃ d, L[k] = d := ⟨_, rfl⟩
      rw [hd] at hC hndk
      have HTK : Hid (U.take (t + 1) = U.take t ++ [(k : Int)]) := by
        show _ = _
        rw [List.take_succ_eq_append_getElem htl, (List.getElem?_eq_some_iff.1 hu).2]
      have HSY : Hid (symsOf L (U.take (t + 1)) = if d.k = 2 then symsOf L (U.take t) ++ [d.n] else symsOf L (U.take t)) := by
        show _ = _
        rw [HTK.out, symsOf_snoc, hndk]
      have HCY : Hid (cellsOf L (U.take (t + 1)) = if d.k = 3 then cellsOf L (U.take t) ++ [(k : Int)] else cellsOf L (U.take t)) := by
        show _ = _
        rw [HTK.out, cellsOf_snoc, hndk]
      have HDN : Hid (InR d.n) := by
        have h9 := (HGD.out.ok _ (List.getElem_mem hk)).2.1
        rw [hd] at h9
        exact h9
      clear hcu hu hum hd hndk htl
      obtain ⟨g0, m0, m1, m2, m3, m4, m5, hk', _⟩ := hC
      have k1 : (k : Int) < (L.length : Int) := by omega
      obtain ⟨dk, dn, da, dp, dx, dy⟩ := d
      simp only at *
      obtain ⟨wo, rfl⟩ : ∃ wo : World, wo = wr := ⟨_, rfl⟩
      have hz9 := (Kept.refl wo).alloc (.cells #[.int .u8 0, .int .i64 0, .int .i64 0, .int .u8 0, .int .i64 0, .int .i64 0] 69)
      have g0' := hz9.cell g0
      have x0' := hz9.cell x0
      have m0' := hz9.cell m0
      have m1' := hz9.cell m1
      have m2' := hz9.cell m2
      have m3' := hz9.cell m3
      have m4' := hz9.cell m4
      have m5' := hz9.cell m5
      clear hz9
      go_wp2_with fail
      go_region
      clear g0' x0' m0' m1' m2' m3' m4' m5' g0 x0 m0 m1 m2 m3 m4 m5
      have HBN := Lib.hid (MapKept.heap_alloc wo (refObj ⟨dk, dn, da, dp, dx, dy⟩)).1
      have HK7a := Lib.hid (Kept.drew ((Kept.refl wo).alloc (refObj ⟨dk, dn, da, dp, dx, dy⟩)))
      have HQ1 : Hid (∀ z, (Value.slice a1 n1 c1).ownBlock = some z → z ≠ wo.heap.size) := fun z hz => Nat.ne_of_lt (HR1.out.lt z hz).2
      have HQ2 : Hid (∀ z, (Value.slice a2 n2 c2).ownBlock = some z → z ≠ wo.heap.size) := fun z hz => Nat.ne_of_lt (HR2.out.lt z hz).2
      have HBN2 : Hid ((World.alloc wo (refObj ⟨dk, dn, da, dp, dx, dy⟩)).drew.heap[wo.heap.size]? = some (refObj ⟨dk, dn, da, dp, dx, dy⟩)) := HBN.out
      clear HBN
      change Exit.then _ _ _ _ (World.alloc wo (refObj ⟨dk, dn, da, dp, dx, dy⟩)).drew
      generalize (World.alloc wo (refObj ⟨dk, dn, da, dp, dx, dy⟩)).drew = w7 at *
      generalize wo.heap.size = bn at *
      obtain ⟨b0, b1, b2, b3, b4, b5⟩ := rbox_facts HBN2.out (Kept.refl w7)
      have HR1b := Lib.hid (ownsRow_block HR1.out fun b hb => HK7a.out.block b (HR1.out.lt b hb).2)
      have HR2b := Lib.hid (ownsRow_block HR2.out fun b hb => HK7a.out.block b (HR2.out.lt b hb).2)
      have HKW := Lib.hid (HKT.out.trans HK7a.out)
      clear HR1 HR2
      by_cases k2 : dk = 2
      · have HS1 := Lib.hid (HSY.out.trans (if_pos k2))
        have HC1 := Lib.hid (HCY.out.trans (if_neg (by omega)))
        clear HSY HCY
        subst k2
        have HRA : Hid ((w7.alloc (.cells #[.int .i64 dn] 2)).ownsRow w3.heap.size 2 1 (.slice a1 n1 c1) n1 (SS.map (Value.int .i64))) := World.ownsRow.alloc HR1b.out _
        go_wp2_with (at_builtin; refine wpList_append_lies _ rfl _ _ _ rfl w3.heap.size 2 i6 _ 1 8 Tryz.underlying23 HI6.out.1 HI6.out.2.1 HI6.out.2.2.1 HI6.out.2.2.2 rfl (by omega) (.slice a1 n1 c1) n1 _ rfl HRA.out ⟨w7.heap.size, 0, none⟩ 1 1 [.int .i64 dn] rfl rfl (World.news_of_block (cs := #[.int .i64 dn]) (t := 2) (fr := (0, 0)) (heap_alloc_new w7 _)) (by simp [Value.oneCell']) (by omega) (by unfold maxLen; omega) (by omega) (by have := HKW.out.size; simp; omega) (w7.heap.size + 1) (by simp) ?_; intro gg cap w9 hown9 hgrow9 hat9 hlt9; have HOW9 := Lib.hid hown9; have HGR9 := Lib.hid hgrow9; clear hown9 hgrow9 hat9 hlt9)
        have HO9 := Lib.hid (grow_other HR1b.out HR2b.out (by decide) HKW.out (Nat.le_refl _) HGR9.out)
        have HROW : Hid (w9.ownsRow w3.heap.size 2 1 (.slice (some ⟨gg, 0, none⟩) (n1 + 1) cap) (n1 + 1) ((insI SS dn n1).map (Value.int .i64))) := by
          have h9 := HOW9.out
          have e : insI SS dn n1 = SS ++ [dn] := by rw [← HL1.out]; exact insI_end _ _
          rw [e, List.map_append]
          exact h9
        clear b0 b1 b2 b3 b4 b5 HRA HOW9 HGR9
        go_loopw [11] (fun kv wr => ∃ (k2 : Nat), k2 ≤ n1 ∧ kv = .int .i64 k2 ∧ (∀ y ∈ SS.drop k2, dn ≤ y) ∧ wr.ownsRow w3.heap.size 2 1 (.slice (some ⟨gg, 0, none⟩) (n1 + 1) cap) (n1 + 1) ((insI SS dn k2).map (Value.int .i64)) ∧ wr.ownsRow w3.heap.size 3 1 (.slice a2 n2 c2) n2 ((cellsOf L (U.take t)).map (Value.int .i64)) ∧ Kept w3 wr) (fun kv _ => (intOf kv).toNat)
        case atStart => exact ⟨n1, Nat.le_refl _, rfl, (fun y hy => by rw [List.drop_eq_nil_of_le (by rw [HL1.out]; exact Nat.le_refl _)] at hy; cases hy), HROW.out, HO9.out.2, HO9.out.1⟩
        case round =>
          obtain ⟨k2, hk2, rfl, hge, hrx, hry, hKx⟩ := hrel
          have HGE := Lib.hid hge; have HRX := Lib.hid hrx; have HRY := Lib.hid hry; have HKX := Lib.hid hKx
          clear hge hrx hry hKx
          have k20 : (0 : Int) ≤ (k2 : Int) := Int.natCast_nonneg _
          have HNEW : Hid ((∀ y ∈ SS.take k2, y ≤ dn) → (insI SS dn k2).Perm (symsOf L (U.take (t + 1))) ∧ (insI SS dn k2).Pairwise (· ≤ ·) ∧ (insI SS dn k2).length = n1 + 1) := fun h9 =>
            ⟨(insI_perm SS dn k2).trans (by rw [HS1.out]; exact HP.out.append_right _), insI_sorted HS.out HGE.out h9, by rw [insI_len, HL1.out]⟩
          rcases Nat.eq_zero_or_pos k2 with hz | hz
          · subst hz
            have HN := Lib.hid (HNEW.out (fun y hy => by simp at hy))
            go_wp2_with fail
            go_quiet (fail)
            go_wp2
            go_roundw
            case rel =>
              refine ⟨t + 1, some ⟨gg, 0, none⟩, cap, a2, c2, n1 + 1, n2, _, by omega, rfl, rfl, by go_num, by omega, by omega, HN.out.1, HN.out.2.1, HN.out.2.2, ?_, HRX.out, ?_, HKX.out.trans ⟨rfl, rfl, rfl, Nat.le_refl _, fun _ _ => rfl⟩⟩
              · rw [HC1.out]; exact HL2.out
              · rw [HC1.out]; exact HRY.out
            case measure => simp [intOf]; omega
          · obtain ⟨m, hm⟩ : ∃ m : Nat, k2 = m + 1 := ⟨k2 - 1, by omega⟩
            have HM := Lib.hid hm
            have hml : m < SS.length := by have := HL1.out; omega
            obtain ⟨pv, hp⟩ : ∃ pv, SS[m]? = some pv := ⟨_, List.getElem?_eq_getElem hml⟩
            have HPV := Lib.hid hp
            have HCK : Hid (∀ (j : Nat) (z : Int), (insI SS dn k2)[j]? = some z → wr.cell? ⟨gg, j, none⟩ = some (.int .i64 z)) := fun j z hj => by
              rw [HRX.out.cellAt j (by have := (List.getElem?_eq_some_iff.1 hj).1; rw [insI_len, HL1.out] at this; omega), List.getElem?_map, hj]; rfl
            have i1 := HCK.out k2 dn (insI_at (by omega))
            have i2 := HCK.out m pv (by rw [hm]; exact insI_before hp)
            have hw1 : IntKind.i64.wrap ((k2 : Int) - 1) = (m : Int) := by rw [IntWalk.i64_in _ (by omega)]; omega
            have q1 : (0 : Int) < (k2 : Int) := by omega
            have q2 : (k2 : Int) < ((n1 + 1 : Nat) : Int) := by omega
            have q3 : (0 : Int) ≤ (m : Int) := Int.natCast_nonneg _
            have q4 : (m : Int) < ((n1 + 1 : Nat) : Int) := by omega
            obtain ⟨nn, hnn⟩ : ∃ nn : Nat, nn = n1 + 1 := ⟨_, rfl⟩
            have HNN := Lib.hid hnn
            rw [← hnn] at q2 q4 HRX HNEW ⊢
            clear hnn hm hml hp
            by_cases hlt : dn < pv
            · have dl : decide (dn < pv) = true := decide_eq_true hlt
              have HNX : Hid (∀ w' : World, w'.ownsRow w3.heap.size 2 1 (.slice (some ⟨gg, 0, none⟩) nn cap) nn ((((insI SS dn k2).set k2 pv).set m dn).map (Value.int .i64)) → w'.ownsRow w3.heap.size 2 1 (.slice (some ⟨gg, 0, none⟩) nn cap) nn ((insI SS dn m).map (Value.int .i64))) := fun w' h9 => by
                have h10 := insI_step (x := dn) HPV.out
                rw [← HM.out] at h10
                rwa [h10] at h9
              have HGM : Hid (∀ y ∈ SS.drop m, dn ≤ y) := drop_lt_of (by rw [← HM.out]; exact HGE.out) HPV.out hlt
              have hs1 := HRX.out.stored k2 (.int .i64 pv)
              have hs2 := HRX.out.stored m (.int .i64 dn)
              have hkm : k2 ≠ m := by have := HM.out; omega
              have c1' : (wr.setCell ⟨gg, k2, none⟩ (.int .i64 pv)).cell? ⟨gg, m, none⟩ = some (.int .i64 pv) := by
                rw [hs1.1.cellAt m (by have := HM.out; have := HNN.out; omega), List.getElem?_set_ne hkm, ← HRX.out.cellAt m (by have := HM.out; have := HNN.out; omega)]; exact i2
              have c2' : (wr.setCell ⟨gg, m, none⟩ (.int .i64 dn)).cell? ⟨gg, k2, none⟩ = some (.int .i64 dn) := by
                rw [hs2.1.cellAt k2 (by have := HM.out; have := HNN.out; omega), List.getElem?_set_ne (Ne.symm hkm), ← HRX.out.cellAt k2 (by have := HM.out; have := HNN.out; omega)]; exact i1
              have f1 := HRX.out.frozenAt k2
              have f2 := HRX.out.frozenAt m
              have f1' := hs2.1.frozenAt k2
              have f2' := hs1.1.frozenAt m
              clear hs1 hs2
              go_wp2_with fail
              go_quiet (fail)
              go_wp2_with fail
              go_region
              clear i1 i2 c1' c2' f1 f2 f1' f2'
              generalize hwx : wr.drewN _ = wx
              have HKX2 : Hid (Kept w3 wx) := by
                show Kept w3 wx
                rw [← hwx]
                exact HKX.out.trans ⟨rfl, rfl, rfl, Nat.le_refl _, fun _ _ => rfl⟩
              have HRX2 : Hid (wx.ownsRow w3.heap.size 2 1 (.slice (some ⟨gg, 0, none⟩) nn cap) nn ((insI SS dn k2).map (Value.int .i64))) := by
                show wx.ownsRow _ _ _ _ _ _
                rw [← hwx]
                exact HRX.out
              have HRY2 : Hid (wx.ownsRow w3.heap.size 3 1 (.slice a2 n2 c2) n2 ((cellsOf L (U.take t)).map (Value.int .i64))) := by
                show wx.ownsRow _ _ _ _ _ _
                rw [← hwx]
                exact HRY.out
              clear hwx
              have hne : (Value.slice a2 n2 c2).ownBlock ≠ some gg := rows_apart HRX2.out HRY2.out (by decide) gg rfl
              have hgl : w3.heap.size ≤ gg := (HRX2.out.lt gg rfl).1
              have HEND := Lib.hid (HNX.out _ (by rw [List.map_set, List.map_set]; exact ((HRX2.out.stored k2 (.int .i64 pv)).1.stored m (.int .i64 dn)).1))
              have HEND2 := Lib.hid (ownsRow_setCell_other (ownsRow_setCell_other HRY2.out (a := ⟨gg, k2, none⟩) hne (.int .i64 pv)) (a := ⟨gg, m, none⟩) hne (.int .i64 dn))
              have HEND3 := Lib.hid ((HKX2.out.setCell (p := ⟨gg, k2, none⟩) hgl (.int .i64 pv)).setCell (p := ⟨gg, m, none⟩) hgl (.int .i64 dn))
              go_wp2
              go_roundw
              case rel => exact ⟨m, by have := HM.out; omega, by go_num, HGM.out, HEND.out, HEND2.out, HEND3.out⟩
              case measure => have := HM.out; simp [intOf]; omega
            · have dl : decide (dn < pv) = false := decide_eq_false hlt
              have HN := Lib.hid (HNEW.out (by rw [HM.out]; exact take_le_of HS.out HPV.out (by omega)))
              go_wp2_with fail
              go_quiet (fail)
              go_wp2
              go_roundw
              case rel =>
                refine ⟨t + 1, some ⟨gg, 0, none⟩, cap, a2, c2, nn, n2, _, by omega, rfl, rfl, by go_num, by have := HNN.out; omega, by omega, HN.out.1, HN.out.2.1, HN.out.2.2, ?_, HRX.out, ?_, HKX.out.trans ⟨rfl, rfl, rfl, Nat.le_refl _, fun _ _ => rfl⟩⟩
                · rw [HC1.out]; exact HL2.out
                · rw [HC1.out]; exact HRY.out
              case measure => simp [intOf]; omega
      · have e2 : (dk == 2) = false := by simpa using k2
        by_cases k3 : dk = 3
        · have HS1 := Lib.hid (HSY.out.trans (if_neg k2))
          have HC1 := Lib.hid (HCY.out.trans (if_pos k3))
          clear HSY HCY e2
          subst k3
          have HRA : Hid ((w7.alloc (.cells #[.int .i64 (k : Int)] 3)).ownsRow w3.heap.size 3 1 (.slice a2 n2 c2) n2 ((cellsOf L (U.take t)).map (Value.int .i64))) := World.ownsRow.alloc HR2b.out _
          obtain ⟨ub', uo', heq, hcu⟩ := (HR3.out.kept HKW.out).at_ (by omega)
          have x0 := hcu t (k : Int) (by
            have htl : t < U.length := by have := HQ.out; omega
            have h9 := HTK.out
            rw [List.take_succ_eq_append_getElem htl] at h9
            have h10 := List.append_cancel_left h9
            rw [List.getElem?_eq_getElem htl]
            simpa using h10)
          injection heq with heq
          injection heq with e1 e2
          subst e1; subst e2
          clear hcu
          go_wp2_with (at_builtin; refine wpList_append_lies _ rfl _ _ _ rfl w3.heap.size 3 ii _ 1 8 Tryz.underlying48 HII.out.1 HII.out.2.1 HII.out.2.2.1 HII.out.2.2.2 rfl (by omega) (.slice a2 n2 c2) n2 _ rfl HRA.out ⟨w7.heap.size, 0, none⟩ 1 1 [.int .i64 (k : Int)] rfl rfl (World.news_of_block (cs := #[.int .i64 (k : Int)]) (t := 3) (fr := (0, 0)) (heap_alloc_new w7 _)) (by simp [Value.oneCell']) (by omega) (by unfold maxLen; omega) (by omega) (by have := HKW.out.size; simp; omega) (w7.heap.size + 1) (by simp) ?_; intro gg cap w9 hown9 hgrow9 hat9 hlt9; have HOW9 := Lib.hid hown9; have HGR9 := Lib.hid hgrow9; clear hown9 hgrow9 hat9 hlt9 x0 b0 b1 b2 b3 b4 b5; obtain ⟨b0, b1, b2, b3, b4, b5⟩ := rbox_facts (w := w9) (b := bn) ((HGR9.out.block bn (Nat.lt_succ_of_lt (Array.getElem?_eq_some_iff.1 HBN2.out).1 |> fun h => by simpa using h) (fun e => HQ2.out _ e.symm rfl)).trans ((((Kept.refl w7).alloc _).row HBN2.out))) (Kept.refl w9))
          have HO9 := Lib.hid (grow_other HR2b.out HR1b.out (by decide) HKW.out (Nat.le_refl _) HGR9.out)
          go_roundw
          case rel =>
            refine ⟨t + 1, a1, c1, some ⟨gg, 0, none⟩, cap, n1, n2 + 1, SS, by omega, rfl, by go_num, by go_num, by omega, by omega, ?_, HS.out, HL1.out, ?_, HO9.out.2, ?_, HO9.out.1⟩
            · rw [HS1.out]; exact HP.out
            · rw [HC1.out, List.length_append, HL2.out]; rfl
            · rw [HC1.out, List.map_append]; exact HOW9.out
          case measure => simp [intOf]; omega
        · have e3 : (dk == 3) = false := by simpa using k3
          have HS1 := Lib.hid (HSY.out.trans (if_neg k2))
          have HC1 := Lib.hid (HCY.out.trans (if_neg k3))
          clear HSY HCY
          go_wp2
          go_roundw
          case rel =>
            refine ⟨t + 1, a1, c1, a2, c2, n1, n2, SS, by omega, rfl, rfl, by go_num, by omega, by omega, ?_, HS.out, HL1.out, ?_, HR1b.out, ?_, HKW.out⟩
            · rw [HS1.out]; exact HP.out
            · rw [HC1.out]; exact HL2.out
            · rw [HC1.out]; exact HR2b.out
          case measure => simp [intOf]; omega
    · obtain rfl : t = q := by omega
      have HTU : Hid (U.take t = U) := by show _ = _; rw [HQ.out, List.take_length]
      rw [HTU.out] at HP HL2 HR2
      have HCR : Hid (∀ x ∈ cellsOf L U, InR x) := fun x hx => HUR.out x (mem_cellsOf.1 hx).1
      have HKE := Lib.hid (HK3.out.trans HKT.out)
      go_wp2
      go_ret2
      refine ⟨a1, c1, a2, c2, SS, cellsOf L U, by rw [HL1.out, HL2.out]; rfl, ⟨U, HU.out, sortI_uniq HP.out HS.out, rfl⟩, ?_, ?_, HKE.out⟩
      · rw [HL1.out]; exact roots_of_row HR1.out HL1.out fun x hx => HSR.out x (HP.out.mem_iff.1 hx)
      · rw [HL2.out]; exact roots_of_row HR2.out HL2.out HCR.out
end Go.Proofs.YtjhmbbioplhcgaaGreatDoor

namespace Go.Proofs.YtjhmbbioplhcgaaGreatDoor
open Go Go.RowKit

theorem needSpec_eq {L : List Nd} {ids S1 C1 S2 C2 : List Int} (h1 : NeedSpec L ids S1 C1) (h2 : NeedSpec L ids S2 C2) : S2 = S1 ∧ C2 = C1 := by
  obtain ⟨U, hU, rfl, rfl⟩ := h1
  obtain ⟨V, hV, rfl, rfl⟩ := h2
  obtain rfl := hU.eq hV
  exact ⟨rfl, rfl⟩
theorem needSpec_len {L : List Nd} {ids SS CC : List Int} (hG : Good L) (hN : NeedSpec L ids SS CC) : SS.length ≤ L.length ∧ CC.length ≤ L.length := by
  obtain ⟨U, hU, rfl, rfl⟩ := hN
  have h5 := nodup_len L.length (U.map Int.toNat) (by
    unfold List.Nodup
    rw [List.pairwise_map]
    have hp2 : ∀ x ∈ U, 0 ≤ x := fun x hx => by
      obtain ⟨r, hr, hrb, hrx⟩ := (hU.2 x).1 hx
      exact ((hasB_iff _ _).1 (hrx.le hG hrb).2).1
    refine List.Pairwise.imp_of_mem (fun {a b} ha hb hab => ?_) hU.1
    have h6 := hp2 a ha
    have h7 := hp2 b hb
    omega) (fun x hx => by
    obtain ⟨y, hy, rfl⟩ := List.mem_map.1 hx
    obtain ⟨r, hr, hrb, hrx⟩ := (hU.2 y).1 hy
    obtain ⟨h6, h7⟩ := (hasB_iff _ _).1 (hrx.le hG hrb).2
    omega)
  have h3 : U.length ≤ L.length := by simpa using h5
  have h4 := symsOf_len L U
  have h5 := cellsOf_len L U
  rw [sortI_len]
  omega

set_option maxRecDepth 100000 in
set_option maxHeartbeats 8000000 in
theorem needs_few (la lb : Option Addr) (n lc k kc : Nat) (ds : List Nd) (rs : List Int) (w : World) (hds : NodesAt w la n ds) (hrs : RootsAt w lb k rs) (hn : n ≤ 60) (hk : k ≤ 20) (hL : Laid w) :
    Calls Tryz.prog 4 #[.slice la n lc, .slice lb k kc] w fun e w' => e = .returned (.bool true) ∧ Kept w w' := by
  have HDS := Lib.hid hds
  have HRS := Lib.hid hrs
  have HL := Lib.hid hL
  clear hds hrs hL
  obtain ⟨ii, hi, hz0, hz1, hz2⟩ := info_parts infoInt
  have HI := Lib.hid (And.intro hi (And.intro hz0 (And.intro hz1 hz2))); clear hi hz0 hz1 hz2
  have h1 : ¬ (60 : Int) < (n : Int) := by omega
  have h2 : ¬ (20 : Int) < (k : Int) := by omega
  have d1 : decide ((60 : Int) < (n : Int)) = false := decide_eq_false h1
  have d2 : decide ((20 : Int) < (k : Int)) = false := decide_eq_false h2
  go_enter Tryz.func4, Tryz.ntmps4
  go_wp2_with fail
  refine (made_any la n lc ds w HDS.out (by omega) HL.out).mono ?_
  rintro e w1 ⟨g, m, v, rfl, ⟨a, c, a', c', hG, rfl, _, _⟩, hk1⟩
  have hlen : (addsL (ds.take n)).length ≤ 60 := by
    have h2 := addsL_len (ds.take n)
    have h3 := List.length_take_le n ds
    omega
  generalize addsL (ds.take n) = L at *
  have HG := Lib.hid hG; have HK1 := Lib.hid hk1
  have HGD := Lib.hid hG.good
  clear hG hk1
  go_wp2
  obtain ⟨wa, rfl⟩ : ∃ wa : World, wa = w1 := ⟨_, rfl⟩
  have HRS2 := Lib.hid (HRS.out.kept HK1.out)
  go_loopw [7, 8] (fun v i wr => ∃ (j : Nat) (a' : Option Addr) (c' : Nat), j ≤ k ∧ i = .int .i64 j ∧ v = .slice a' j c' ∧ wr.ownsRow wa.heap.size 3 1 (.slice a' j c') j ((rs.take j).map (Value.int .i64)) ∧ Kept wa wr) (fun _ i _ => k - (intOf i).toNat)
  case atStart => exact ⟨0, none, 0, Nat.zero_le _, rfl, rfl, World.ownsRow_nil _ _ _ _, Kept.refl _⟩
  case round =>
    obtain ⟨j, a2, c2, hj, rfl, rfl, hrow, hKj⟩ := hrel
    have HROW := Lib.hid hrow; have HKJ := Lib.hid hKj
    clear hrow hKj
    have j0 : (0 : Int) ≤ (j : Int) := Int.natCast_nonneg _
    by_cases hjk : j < k
    · obtain ⟨b, off, rfl, hc⟩ := (HRS2.out.kept HKJ.out).at_ (by omega)
      have hjl : j < rs.length := by rw [HRS.out.len]; exact hjk
      obtain ⟨r, hr⟩ : ∃ r, rs[j]? = some r := ⟨_, List.getElem?_eq_getElem hjl⟩
      have x0 := hc j r hr
      have HTK : Hid (rs.take (j + 1) = rs.take j ++ [r]) := by
        show _ = _
        rw [List.take_succ_eq_append_getElem hjl, (List.getElem?_eq_some_iff.1 hr).2]
      clear hc hr hjl
      have j1 : (j : Int) < (k : Int) := by omega
      have HROW2 : Hid ((wr.alloc (.cells #[.int .i64 r] 3)).ownsRow wa.heap.size 3 1 (.slice a2 j c2) j ((rs.take j).map (Value.int .i64))) := World.ownsRow.alloc HROW.out _
      go_wp2_with (at_builtin; refine wpList_append_lies _ rfl _ _ _ rfl wa.heap.size 3 ii _ 1 8 Tryz.underlying48 HI.out.1 HI.out.2.1 HI.out.2.2.1 HI.out.2.2.2 rfl (by omega) (.slice a2 j c2) j _ rfl HROW2.out ⟨wr.heap.size, 0, none⟩ 1 1 [.int .i64 r] rfl rfl (World.news_of_block (cs := #[.int .i64 r]) (t := 3) (fr := (0, 0)) (heap_alloc_new wr _)) (by simp [Value.oneCell']) (by omega) (by unfold maxLen; omega) (by omega) (by have := HKJ.out.size; simp; omega) (wr.heap.size + 1) (by simp) ?_; intro gg cap w4 hown4 hgrow4 hat4 hlt4; have HOW4 := Lib.hid hown4; have HGR4 := Lib.hid hgrow4; clear hown4 hgrow4 hat4 hlt4)
      have HKE := Lib.hid (grow_kept HROW.out HKJ.out (Nat.le_refl _) HGR4.out)
      go_roundw
      case rel =>
        refine ⟨j + 1, some ⟨gg, 0, none⟩, cap, by omega, by go_num, rfl, ?_, HKE.out⟩
        rw [HTK.out, List.map_append]
        exact HOW4.out
      case measure => simp [intOf]; omega
    · obtain rfl : j = k := by omega
      have HROW1 : Hid (wr.ownsRow wa.heap.size 3 1 (.slice a2 j c2) j (rs.map (Value.int .i64))) := by
        have h3 := HROW.out
        rwa [← HRS.out.len, List.take_length, HRS.out.len] at h3
      have HRA : Hid (RootsAt wr a2 j rs) := roots_of_row HROW1.out HRS.out.len HRS.out.inr
      go_wp2_with fail
      refine (needs_any (HG.out.kept HKJ.out) (by omega) lb j kc rs (HRS2.out.kept HKJ.out) (by omega)).mono ?_
      rintro e w5 ⟨a3, c3, a4, c4, SS, CC, rfl, hN, hR1, hR2, hk5⟩
      have HN := Lib.hid hN; have HR1 := Lib.hid hR1; have HR2 := Lib.hid hR2; have HK5 := Lib.hid hk5
      clear hN hR1 hR2 hk5
      have HLN := needSpec_len HGD.out HN.out
      go_wp2_with fail
      refine (rplain_any (HG.out.kept (HKJ.out.trans HK5.out)) (by omega)).mono ?_
      rintro e w6 ⟨h, ra, rc, rfl, hR, hk6⟩
      have HR := Lib.hid hR; have HK6 := Lib.hid hk6
      clear hR hk6
      go_wp2_with fail
      refine (rneeds_any HR.out HGD.out (by omega) a2 j c2 rs (HRA.out.kept (HK5.out.trans HK6.out)) (by omega)).mono ?_
      rintro e w7 ⟨a5, c5, a6, c6, SS2, CC2, rfl, hN2, hR3, hR4, hk7⟩
      obtain ⟨rfl, rfl⟩ := needSpec_eq HN.out hN2
      have HR3 := Lib.hid hR3; have HR4 := Lib.hid hR4
      have HR1b := Lib.hid (HR1.out.kept (HK6.out.trans hk7)); have HR2b := Lib.hid (HR2.out.kept (HK6.out.trans hk7))
      have HK7 := Lib.hid (HK1.out.trans (HKJ.out.trans (HK5.out.trans (HK6.out.trans hk7))))
      clear hN2 hR3 hR4 hk7 HR1 HR2
      obtain ⟨q1, hq1⟩ : ∃ q : Nat, q = SS2.length := ⟨_, rfl⟩
      obtain ⟨q2, hq2⟩ : ∃ q : Nat, q = CC2.length := ⟨_, rfl⟩
      have HQ1 := Lib.hid hq1; have HQ2 := Lib.hid hq2
      have hq1l : q1 ≤ 60 := by omega
      have hq2l : q2 ≤ 60 := by omega
      rw [← hq1] at HR1b HR3 ⊢
      rw [← hq2] at HR2b HR4 ⊢
      clear hq1 hq2 HLN
      go_wp2
      go_loopw [13] (fun i wr => ∃ t : Nat, t ≤ q1 ∧ i = .int .i64 t ∧ Kept w7 wr) (fun i _ => q1 - (intOf i).toNat)
      case atStart => exact ⟨0, Nat.zero_le _, rfl, Kept.refl _⟩
      case round =>
        obtain ⟨t, ht, rfl, hKt⟩ := hrel
        have HKT := Lib.hid hKt; clear hKt
        have t0 : (0 : Int) ≤ (t : Int) := Int.natCast_nonneg _
        by_cases htq : t < q1
        · have t1 : (t : Int) < (q1 : Int) := by omega
          obtain ⟨b5, o5, rfl, hc5⟩ := (HR1b.out.kept HKT.out).at_ (by omega)
          obtain ⟨b6, o6, rfl, hc6⟩ := (HR3.out.kept HKT.out).at_ (by omega)
          obtain ⟨x, hx⟩ : ∃ x, SS2[t]? = some x := ⟨_, List.getElem?_eq_getElem (by have := HQ1.out; omega)⟩
          have x5 := hc5 t x hx
          have x6 := hc6 t x hx
          clear hc5 hc6 hx
          go_wp2_with fail
          go_quiet (fail)
          go_wp2
          go_roundw
          case rel => exact ⟨t + 1, by omega, by go_num, HKT.out.trans ⟨rfl, rfl, rfl, Nat.le_refl _, fun _ _ => rfl⟩⟩
          case measure => simp [intOf]; omega
        · obtain rfl : t = q1 := by omega
          obtain ⟨w8, rfl⟩ : ∃ w8 : World, w8 = wr := ⟨_, rfl⟩
          go_wp2
          go_loopw [14] (fun i wr => ∃ t : Nat, t ≤ q2 ∧ i = .int .i64 t ∧ Kept w8 wr) (fun i _ => q2 - (intOf i).toNat)
          case atStart => exact ⟨0, Nat.zero_le _, rfl, Kept.refl _⟩
          case round =>
            obtain ⟨z, hz, rfl, hKz⟩ := hrel
            have HKZ := Lib.hid hKz; clear hKz
            have z0 : (0 : Int) ≤ (z : Int) := Int.natCast_nonneg _
            by_cases hzq : z < q2
            · have z1 : (z : Int) < (q2 : Int) := by omega
              obtain ⟨b5, o5, rfl, hc5⟩ := (HR2b.out.kept (HKT.out.trans HKZ.out)).at_ (by omega)
              obtain ⟨b6, o6, rfl, hc6⟩ := (HR4.out.kept (HKT.out.trans HKZ.out)).at_ (by omega)
              obtain ⟨x, hx⟩ : ∃ x, CC2[z]? = some x := ⟨_, List.getElem?_eq_getElem (by have := HQ2.out; omega)⟩
              have x5 := hc5 z x hx
              have x6 := hc6 z x hx
              clear hc5 hc6 hx
              go_wp2_with fail
              go_quiet (fail)
              go_wp2
              go_roundw
              case rel => exact ⟨z + 1, by omega, by go_num, HKZ.out.trans ⟨rfl, rfl, rfl, Nat.le_refl _, fun _ _ => rfl⟩⟩
              case measure => simp [intOf]; omega
            · obtain rfl : z = q2 := by omega
              go_wp2_with (go_at_call 7; refine (vworks_any _ (HL.out.kept (HK7.out.trans (HKT.out.trans HKZ.out)))).mono ?_; rintro e w9 ⟨rfl, hk9⟩)
              go_ret
              exact ⟨rfl, HK7.out.trans (HKT.out.trans (HKZ.out.trans hk9))⟩

set_option maxRecDepth 100000 in
set_option maxHeartbeats 1000000 in
theorem needs_many (la lb : Option Addr) (n lc k kc : Nat) (w : World) (h : 60 < n ∨ 20 < k) (hL : Laid w) :
    Calls Tryz.prog 4 #[.slice la n lc, .slice lb k kc] w fun e w' => e = .returned (.bool true) ∧ Kept w w' := by
  by_cases hn : 60 < n
  · have h1 : (60 : Int) < (n : Int) := by omega
    have d1 : decide ((60 : Int) < (n : Int)) = true := decide_eq_true h1
    clear h hn
    go_enter Tryz.func4, Tryz.ntmps4
    go_wp2_with (go_at_call 7; refine (vworks_any _ hL).mono ?_; rintro e w5 ⟨rfl, hk5⟩)
    go_ret
    exact ⟨rfl, hk5⟩
  · have h1 : ¬ (60 : Int) < (n : Int) := by omega
    have h2 : (20 : Int) < (k : Int) := by omega
    have d1 : decide ((60 : Int) < (n : Int)) = false := decide_eq_false h1
    have d2 : decide ((20 : Int) < (k : Int)) = true := decide_eq_true h2
    clear h hn
    go_enter Tryz.func4, Tryz.ntmps4
    go_wp2_with (go_at_call 7; refine (vworks_any _ hL).mono ?_; rintro e w5 ⟨rfl, hk5⟩)
    go_ret
    exact ⟨rfl, hk5⟩
theorem valueneeds_any (la lb : Option Addr) (n lc k kc : Nat) (ds : List Nd) (rs : List Int) (w : World) (hds : NodesAt w la n ds) (hrs : RootsAt w lb k rs) (hL : Laid w) :
    Calls Tryz.prog 4 #[.slice la n lc, .slice lb k kc] w fun e w' => e = .returned (.bool true) ∧ Kept w w' := by
  by_cases h : n ≤ 60 ∧ k ≤ 20
  · exact needs_few la lb n lc k kc ds rs w hds hrs h.1 h.2 hL
  · exact needs_many la lb n lc k kc w (by omega) hL
end Go.Proofs.YtjhmbbioplhcgaaGreatDoor
