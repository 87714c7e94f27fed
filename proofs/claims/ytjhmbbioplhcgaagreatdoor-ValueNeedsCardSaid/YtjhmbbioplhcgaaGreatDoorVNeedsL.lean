/-
  Layer 3, ValueNeeds: what terms need.
-/
import Derived.Test.YtjhmbbioplhcgaaGreatDoorVRNeeds
import Derived.Test.YtjhmbbioplhcgaaGreatDoorTRPlain
import Derived.Test.YtjhmbbioplhcgaaGreatDoorVWorks
namespace Go.Proofs.YtjhmbbioplhcgaaGreatDoor
open Go Go.RowKit

theorem needSpec_eq {L : List Nd} {ids S1 C1 S2 C2 : List Int} (h1 : NeedSpec L ids S1 C1) (h2 : NeedSpec L ids S2 C2) : S2 = S1 ∧ C2 = C1 := by
  obtain ⟨U, hU, rfl, rfl⟩ := h1
  obtain ⟨V, hV, rfl, rfl⟩ := h2
  obtain rfl := hU.eq hV
  exact ⟨rfl, rfl⟩
theorem needSpec_len {L : List Nd} {ids SS CC : List Int} (hG : Good L) (hN : NeedSpec L ids SS CC) : SS.length ≤ L.length ∧ CC.length ≤ L.length := by
  obtain ⟨U, hU, rfl, rfl⟩ := hN
  have h5 := nodup_len L.length (U.map Int.toNat) (by
    unfold List.Nodup
    rw [List.pairwise_map]
    have hp2 : ∀ x ∈ U, 0 ≤ x := fun x hx => by
      obtain ⟨r, hr, hrb, hrx⟩ := (hU.2 x).1 hx
      exact ((hasB_iff _ _).1 (hrx.le hG hrb).2).1
    refine List.Pairwise.imp_of_mem (fun {a b} ha hb hab => ?_) hU.1
    have h6 := hp2 a ha
    have h7 := hp2 b hb
    omega) (fun x hx => by
    obtain ⟨y, hy, rfl⟩ := List.mem_map.1 hx
    obtain ⟨r, hr, hrb, hrx⟩ := (hU.2 y).1 hy
    obtain ⟨h6, h7⟩ := (hasB_iff _ _).1 (hrx.le hG hrb).2
    omega)
  have h3 : U.length ≤ L.length := by simpa using h5
  have h4 := symsOf_len L U
  have h5 := cellsOf_len L U
  rw [sortI_len]
  omega

set_option maxRecDepth 100000 in
set_option maxHeartbeats 8000000 in
theorem needs_few (la lb : Option Addr) (n lc k kc : Nat) (ds : List Nd) (rs : List Int) (w : World) (hds : NodesAt w la n ds) (hrs : RootsAt w lb k rs) (hn : n ≤ 60) (hk : k ≤ 20) (hL : Laid w) :
    Calls Tryz.prog 4 #[.slice la n lc, .slice lb k kc] w fun e w' => e = .returned (.bool true) ∧ Kept w w' := by
  have HDS := Lib.hid hds
  have HRS := Lib.hid hrs
  have HL := Lib.hid hL
  clear hds hrs hL
  obtain ⟨ii, hi, hz0, hz1, hz2⟩ := info_parts infoInt
  have HI := Lib.hid (And.intro hi (And.intro hz0 (And.intro hz1 hz2))); clear hi hz0 hz1 hz2
  have h1 : ¬ (60 : Int) < (n : Int) := by omega
  have h2 : ¬ (20 : Int) < (k : Int) := by omega
  have d1 : decide ((60 : Int) < (n : Int)) = false := decide_eq_false h1
  have d2 : decide ((20 : Int) < (k : Int)) = false := decide_eq_false h2
  go_enter Tryz.func4, Tryz.ntmps4
  go_wp2_with fail
  refine (made_any la n lc ds w HDS.out (by omega) HL.out).mono ?_
  rintro e w1 ⟨g, m, v, rfl, ⟨a, c, a', c', hG, rfl, _, _⟩, hk1⟩
  have hlen : (addsL (ds.take n)).length ≤ 60 := by
    have h2 := addsL_len (ds.take n)
    have h3 := List.length_take_le n ds
    omega
  generalize addsL (ds.take n) = L at *
  have HG := Lib.hid hG; have HK1 := Lib.hid hk1
  have HGD := Lib.hid hG.good
  clear hG hk1
  go_wp2
  obtain ⟨wa, rfl⟩ : ∃ wa : World, wa = w1 := ⟨_, rfl⟩
  have HRS2 := Lib.hid (HRS.out.kept HK1.out)
  go_loopw [7, 8] (fun v i wr => ∃ (j : Nat) (a' : Option Addr) (c' : Nat), j ≤ k ∧ i = .int .i64 j ∧ v = .slice a' j c' ∧ wr.ownsRow wa.heap.size 3 1 (.slice a' j c') j ((rs.take j).map (Value.int .i64)) ∧ Kept wa wr) (fun _ i _ => k - (intOf i).toNat)
  case atStart => exact ⟨0, none, 0, Nat.zero_le _, rfl, rfl, World.ownsRow_nil _ _ _ _, Kept.refl _⟩
  case round =>
    obtain ⟨j, a2, c2, hj, rfl, rfl, hrow, hKj⟩ := hrel
    have HROW := Lib.hid hrow; have HKJ := Lib.hid hKj
    clear hrow hKj
    have j0 : (0 : Int) ≤ (j : Int) := Int.natCast_nonneg _
    by_cases hjk : j < k
    · obtain ⟨b, off, rfl, hc⟩ := (HRS2.out.kept HKJ.out).at_ (by omega)
      have hjl : j < rs.length := by rw [HRS.out.len]; exact hjk
      obtain ⟨r, hr⟩ : ∃ r, rs[j]? = some r := ⟨_, List.getElem?_eq_getElem hjl⟩
      have x0 := hc j r hr
      have HTK : Hid (rs.take (j + 1) = rs.take j ++ [r]) := by
        show _ = _
        rw [List.take_succ_eq_append_getElem hjl, (List.getElem?_eq_some_iff.1 hr).2]
      clear hc hr hjl
      have j1 : (j : Int) < (k : Int) := by omega
      have HROW2 : Hid ((wr.alloc (.cells #[.int .i64 r] 3)).ownsRow wa.heap.size 3 1 (.slice a2 j c2) j ((rs.take j).map (Value.int .i64))) := World.ownsRow.alloc HROW.out _
      go_wp2_with (at_builtin; refine wpList_append_lies _ rfl _ _ _ rfl wa.heap.size 3 ii _ 1 8 Tryz.underlying48 HI.out.1 HI.out.2.1 HI.out.2.2.1 HI.out.2.2.2 rfl (by omega) (.slice a2 j c2) j _ rfl HROW2.out ⟨wr.heap.size, 0, none⟩ 1 1 [.int .i64 r] rfl rfl (World.news_of_block (cs := #[.int .i64 r]) (t := 3) (fr := (0, 0)) (heap_alloc_new wr _)) (by simp [Value.oneCell']) (by omega) (by unfold maxLen; omega) (by omega) (by have := HKJ.out.size; simp; omega) (wr.heap.size + 1) (by simp) ?_; intro gg cap w4 hown4 hgrow4 hat4 hlt4; have HOW4 := Lib.hid hown4; have HGR4 := Lib.hid hgrow4; clear hown4 hgrow4 hat4 hlt4)
      have HKE := Lib.hid (grow_kept HROW.out HKJ.out (Nat.le_refl _) HGR4.out)
      go_roundw
      case rel =>
        refine ⟨j + 1, some ⟨gg, 0, none⟩, cap, by omega, by go_num, rfl, ?_, HKE.out⟩
        rw [HTK.out, List.map_append]
        exact HOW4.out
      case measure => simp [intOf]; omega
    · obtain rfl : j = k := by omega
      have HROW1 : Hid (wr.ownsRow wa.heap.size 3 1 (.slice a2 j c2) j (rs.map (Value.int .i64))) := by
        have h3 := HROW.out
        rwa [← HRS.out.len, List.take_length, HRS.out.len] at h3
      have HRA : Hid (RootsAt wr a2 j rs) := roots_of_row HROW1.out HRS.out.len HRS.out.inr
      go_wp2_with fail
      refine (needs_any (HG.out.kept HKJ.out) (by omega) lb j kc rs (HRS2.out.kept HKJ.out) (by omega)).mono ?_
      rintro e w5 ⟨a3, c3, a4, c4, SS, CC, rfl, hN, hR1, hR2, hk5⟩
      have HN := Lib.hid hN; have HR1 := Lib.hid hR1; have HR2 := Lib.hid hR2; have HK5 := Lib.hid hk5
      clear hN hR1 hR2 hk5
      have HLN := needSpec_len HGD.out HN.out
      go_wp2_with fail
      refine (rplain_any (HG.out.kept (HKJ.out.trans HK5.out)) (by omega)).mono ?_
      rintro e w6 ⟨h, ra, rc, rfl, hR, hk6⟩
      have HR := Lib.hid hR; have HK6 := Lib.hid hk6
      clear hR hk6
      go_wp2_with fail
      refine (rneeds_any HR.out HGD.out (by omega) a2 j c2 rs (HRA.out.kept (HK5.out.trans HK6.out)) (by omega)).mono ?_
      rintro e w7 ⟨a5, c5, a6, c6, SS2, CC2, rfl, hN2, hR3, hR4, hk7⟩
      obtain ⟨rfl, rfl⟩ := needSpec_eq HN.out hN2
      have HR3 := Lib.hid hR3; have HR4 := Lib.hid hR4
      have HR1b := Lib.hid (HR1.out.kept (HK6.out.trans hk7)); have HR2b := Lib.hid (HR2.out.kept (HK6.out.trans hk7))
      have HK7 := Lib.hid (HK1.out.trans (HKJ.out.trans (HK5.out.trans (HK6.out.trans hk7))))
      clear hN2 hR3 hR4 hk7 HR1 HR2
      obtain ⟨q1, hq1⟩ : ∃ q : Nat, q = SS2.length := ⟨_, rfl⟩
      obtain ⟨q2, hq2⟩ : ∃ q : Nat, q = CC2.length := ⟨_, rfl⟩
      have HQ1 := Lib.hid hq1; have HQ2 := Lib.hid hq2
      have hq1l : q1 ≤ 60 := by omega
      have hq2l : q2 ≤ 60 := by omega
      rw [← hq1] at HR1b HR3 ⊢
      rw [← hq2] at HR2b HR4 ⊢
      clear hq1 hq2 HLN
      go_wp2
      go_loopw [13] (fun i wr => ∃ t : Nat, t ≤ q1 ∧ i = .int .i64 t ∧ Kept w7 wr) (fun i _ => q1 - (intOf i).toNat)
      case atStart => exact ⟨0, Nat.zero_le _, rfl, Kept.refl _⟩
      case round =>
        obtain ⟨t, ht, rfl, hKt⟩ := hrel
        have HKT := Lib.hid hKt; clear hKt
        have t0 : (0 : Int) ≤ (t : Int) := Int.natCast_nonneg _
        by_cases htq : t < q1
        · have t1 : (t : Int) < (q1 : Int) := by omega
          obtain ⟨b5, o5, rfl, hc5⟩ := (HR1b.out.kept HKT.out).at_ (by omega)
          obtain ⟨b6, o6, rfl, hc6⟩ := (HR3.out.kept HKT.out).at_ (by omega)
          obtain ⟨x, hx⟩ : ∃ x, SS2[t]? = some x := ⟨_, List.getElem?_eq_getElem (by have := HQ1.out; omega)⟩
          have x5 := hc5 t x hx
          have x6 := hc6 t x hx
          clear hc5 hc6 hx
          go_wp2_with fail
          go_quiet (fail)
          go_wp2
          go_roundw
          case rel => exact ⟨t + 1, by omega, by go_num, HKT.out.trans ⟨rfl, rfl, rfl, Nat.le_refl _, fun _ _ => rfl⟩⟩
          case measure => simp [intOf]; omega
        · obtain rfl : t = q1 := by omega
          obtain ⟨w8, rfl⟩ : ∃ w8 : World, w8 = wr := ⟨_, rfl⟩
          go_wp2
          go_loopw [14] (fun i wr => ∃ t : Nat, t ≤ q2 ∧ i = .int .i64 t ∧ Kept w8 wr) (fun i _ => q2 - (intOf i).toNat)
          case atStart => exact ⟨0, Nat.zero_le _, rfl, Kept.refl _⟩
          case round =>
            obtain ⟨z, hz, rfl, hKz⟩ := hrel
            have HKZ := Lib.hid hKz; clear hKz
            have z0 : (0 : Int) ≤ (z : Int) := Int.natCast_nonneg _
            by_cases hzq : z < q2
            · have z1 : (z : Int) < (q2 : Int) := by omega
              obtain ⟨b5, o5, rfl, hc5⟩ := (HR2b.out.kept (HKT.out.trans HKZ.out)).at_ (by omega)
              obtain ⟨b6, o6, rfl, hc6⟩ := (HR4.out.kept (HKT.out.trans HKZ.out)).at_ (by omega)
              obtain ⟨x, hx⟩ : ∃ x, CC2[z]? = some x := ⟨_, List.getElem?_eq_getElem (by have := HQ2.out; omega)⟩
              have x5 := hc5 z x hx
              have x6 := hc6 z x hx
              clear hc5 hc6 hx
              go_wp2_with fail
              go_quiet (fail)
              go_wp2
              go_roundw
              case rel => exact ⟨z + 1, by omega, by go_num, HKZ.out.trans ⟨rfl, rfl, rfl, Nat.le_refl _, fun _ _ => rfl⟩⟩
              case measure => simp [intOf]; omega
            · obtain rfl : z = q2 := by omega
              go_wp2_with (go_at_call 7; refine (vworks_any _ (HL.out.kept (HK7.out.trans (HKT.out.trans HKZ.out)))).mono ?_; rintro e w9 ⟨rfl, hk9⟩)
              go_ret
              exact ⟨rfl, HK7.out.trans (HKT.out.trans (HKZ.out.trans hk9))⟩

set_option maxRecDepth 100000 in
set_option maxHeartbeats 1000000 in
theorem needs_many (la lb : Option Addr) (n lc k kc : Nat) (w : World) (h : 60 < n ∨ 20 < k) (hL : Laid w) :
    Calls Tryz.prog 4 #[.slice la n lc, .slice lb k kc] w fun e w' => e = .returned (.bool true) ∧ Kept w w' := by
  by_cases hn : 60 < n
  · have h1 : (60 : Int) < (n : Int) := by omega
    have d1 : decide ((60 : Int) < (n : Int)) = true := decide_eq_true h1
    clear h hn
    go_enter Tryz.func4, Tryz.ntmps4
    go_wp2_with (go_at_call 7; refine (vworks_any _ hL).mono ?_; rintro e w5 ⟨rfl, hk5⟩)
    go_ret
    exact ⟨rfl, hk5⟩
  · have h1 : ¬ (60 : Int) < (n : Int) := by omega
    have h2 : (20 : Int) < (k : Int) := by omega
    have d1 : decide ((60 : Int) < (n : Int)) = false := decide_eq_false h1
    have d2 : decide ((20 : Int) < (k : Int)) = true := decide_eq_true h2
    clear h hn
    go_enter Tryz.func4, Tryz.ntmps4
    go_wp2_with (go_at_call 7; refine (vworks_any _ hL).mono ?_; rintro e w5 ⟨rfl, hk5⟩)
    go_ret
    exact ⟨rfl, hk5⟩
theorem valueneeds_any (la lb : Option Addr) (n lc k kc : Nat) (ds : List Nd) (rs : List Int) (w : World) (hds : NodesAt w la n ds) (hrs : RootsAt w lb k rs) (hL : Laid w) :
    Calls Tryz.prog 4 #[.slice la n lc, .slice lb k kc] w fun e w' => e = .returned (.bool true) ∧ Kept w w' := by
  by_cases h : n ≤ 60 ∧ k ≤ 20
  · exact needs_few la lb n lc k kc ds rs w hds hrs h.1 h.2 hL
  · exact needs_many la lb n lc k kc w (by omega) hL
end Go.Proofs.YtjhmbbioplhcgaaGreatDoor
