/-
  Layer 2, TermTells: what terms use, how deep they are, and their texts, is the document's.
-/
import Derived.Test.YtjhmbbioplhcgaaDoorTRLong
import Derived.Test.YtjhmbbioplhcgaaDoorTRUsesL
import Derived.Test.YtjhmbbioplhcgaaDoorTRPlain
import Derived.Test.YtjhmbbioplhcgaaDoorTRow
namespace Go.Proofs.YtjhmbbioplhcgaaDoor
open Go Go.RowKit

theorem neq_str_same (s : List UInt8) (w : World) : (binOp .neq 9 (str s) (str s)).run Tryd.prog w = .ok (.bool false) w := by
  simp [binOp, go_sem, Op.stringOp]

set_option maxRecDepth 100000 in
set_option maxHeartbeats 16000000 in
theorem tells_few (la lb : Option Addr) (n lc k kc : Nat) (ds : List Nd) (rs : List Int) (w : World) (hds : NodesAt w la n ds) (hrs : RootsAt w lb k rs) (hn : n ≤ 40) (hk : k ≤ 20) (hL : Laid w) :
    Calls Tryd.prog 4 #[.slice la n lc, .slice lb k kc] w fun e w' => e = .returned (.bool true) ∧ Kept w w' := by
  have HDS := Lib.hid hds
  have HRS := Lib.hid hrs
  have HL := Lib.hid hL
  clear hds hrs hL
  obtain ⟨ii, hi, hz0, hz1, hz2⟩ := info_parts infoInt
  have HI := Lib.hid (And.intro hi (And.intro hz0 (And.intro hz1 hz2))); clear hi hz0 hz1 hz2
  have h1 : ¬ (40 : Int) < (n : Int) := by omega
  have h2 : ¬ (20 : Int) < (k : Int) := by omega
  have d1 : decide ((40 : Int) < (n : Int)) = false := decide_eq_false h1
  have d2 : decide ((20 : Int) < (k : Int)) = false := decide_eq_false h2
  go_enter Tryd.func4, Tryd.ntmps4
  go_wp2_with fail
  refine (made_any la n lc ds w HDS.out (by omega) HL.out).mono ?_
  rintro e w1 ⟨g, m, v, rfl, ⟨a, c, a', c', hG, rfl, _, _⟩, hk1⟩
  have hlen : (addsL (ds.take n)).length ≤ 40 := by
    have h2 := addsL_len (ds.take n)
    have h3 := List.length_take_le n ds
    omega
  generalize addsL (ds.take n) = L at *
  have HG := Lib.hid hG; have HK1 := Lib.hid hk1
  have HGD := Lib.hid hG.good
  clear hG hk1
  go_wp2_with fail
  refine (rplain_any HG.out (by omega)).mono ?_
  rintro e w2 ⟨h, ra, rc, rfl, hR, hk2⟩
  have HR := Lib.hid hR; have HK2 := Lib.hid (HK1.out.trans hk2); have HG2 := Lib.hid (HG.out.kept hk2); have HL2 := Lib.hid (HL.out.kept HK2.out)
  clear hR hk2
  go_wp2
  go_loopw [8] (fun i wr => ∃ z : Int, -1 ≤ z ∧ z ≤ L.length + 1 ∧ i = .int .i64 z ∧ Kept w2 wr) (fun i _ => ((L.length : Int) + 1 - intOf i).toNat)
  case atStart => exact ⟨-1, by omega, by omega, rfl, Kept.refl _⟩
  case round =>
    obtain ⟨z, hz0, hz1, rfl, hK⟩ := hrel
    have HK := Lib.hid hK; clear hK
    have gc := (HG2.out.kept HK.out).cell0
    by_cases hz : z ≤ L.length
    · by_cases hd : 12 < deepI L z
      · go_wp2_with (first
          | (go_at_call 15; refine (size_cell _ _ _ _ _ gc).mono ?_; rintro e w' ⟨rfl, rfl⟩)
          | (go_at_call 19; refine (deep_any (HG2.out.kept HK.out) z).mono ?_; rintro e w' ⟨rfl, rfl⟩)
          | (go_at_call 10; refine (works_any _ (HL2.out.kept HK.out)).mono ?_; rintro e w5 ⟨rfl, hk5⟩))
        go_ret
        exact ⟨rfl, HK2.out.trans (HK.out.trans hk5)⟩
      · have hs := neq_str_same (textI L z)
        go_wp2_with (first
          | (go_at_call 15; refine (size_cell _ _ _ _ _ gc).mono ?_; rintro e w' ⟨rfl, rfl⟩)
          | (go_at_call 19; refine (deep_any (HG2.out.kept HK.out) z).mono ?_; rintro e w' ⟨rfl, rfl⟩)
          | (go_at_call 20; refine (rdeep_any (HR.out.kept HK.out) HGD.out (by omega) z).mono ?_; rintro e w3 ⟨rfl, hk3⟩; have HK3 := Lib.hid (HK.out.trans hk3); clear hk3)
          | (go_at_call 21; refine (text_any (HG2.out.kept HK3.out) (HL2.out.kept HK3.out) (by omega) z).mono ?_; rintro e w4 ⟨rfl, hk4⟩; have HK4 := Lib.hid (HK3.out.trans hk4); clear hk4)
          | (go_at_call 22; refine (rtext_any (HR.out.kept HK4.out) HGD.out (by omega) (HL2.out.kept HK4.out) z).mono ?_; rintro e w5 ⟨rfl, hk5⟩; have HK5 := Lib.hid (HK4.out.trans hk5); clear hk5))
        go_roundw
        case rel => exact ⟨z + 1, by omega, by omega, rfl, HK5.out⟩
        case measure => simp [intOf]; omega
    · go_wp2_with (go_at_call 15; refine (size_cell _ _ _ _ _ gc).mono ?_; rintro e w' ⟨rfl, rfl⟩)
      clear gc
      obtain ⟨wa, rfl⟩ : ∃ wa : World, wa = wr := ⟨_, rfl⟩
      have HKA := Lib.hid (HK2.out.trans HK.out)
      have HRS2 := Lib.hid (HRS.out.kept HKA.out)
      go_loopw [10, 11] (fun v i wr => ∃ (j : Nat) (a' : Option Addr) (c' : Nat), j ≤ k ∧ i = .int .i64 j ∧ v = .slice a' j c' ∧ wr.ownsRow wa.heap.size 3 1 (.slice a' j c') j ((rs.take j).map (Value.int .i64)) ∧ Kept wa wr) (fun _ i _ => k - (intOf i).toNat)
      case atStart => exact ⟨0, none, 0, Nat.zero_le _, rfl, rfl, World.ownsRow_nil _ _ _ _, Kept.refl _⟩
      case round =>
        obtain ⟨j, a2, c2, hj, rfl, rfl, hrow, hKj⟩ := hrel
        have HROW := Lib.hid hrow; have HKJ := Lib.hid hKj
        clear hrow hKj
        have j0 : (0 : Int) ≤ (j : Int) := Int.natCast_nonneg _
        by_cases hjk : j < k
        · obtain ⟨b, off, rfl, hc⟩ := (HRS2.out.kept HKJ.out).at_ (by omega)
          have hjl : j < rs.length := by rw [HRS.out.len]; exact hjk
          obtain ⟨r, hr⟩ : ∃ r, rs[j]? = some r := ⟨_, List.getElem?_eq_getElem hjl⟩
          have x0 := hc j r hr
          have HTK : Hid (rs.take (j + 1) = rs.take j ++ [r]) := by
            show _ = _
            rw [List.take_succ_eq_append_getElem hjl, (List.getElem?_eq_some_iff.1 hr).2]
          clear hc hr hjl
          have j1 : (j : Int) < (k : Int) := by omega
          have HROW2 : Hid ((wr.alloc (.cells #[.int .i64 r] 3)).ownsRow wa.heap.size 3 1 (.slice a2 j c2) j ((rs.take j).map (Value.int .i64))) := World.ownsRow.alloc HROW.out _
          go_wp2_with (at_builtin; refine wpList_append_lies _ rfl _ _ _ rfl wa.heap.size 3 ii _ 1 8 Tryd.underlying51 HI.out.1 HI.out.2.1 HI.out.2.2.1 HI.out.2.2.2 rfl (by omega) (.slice a2 j c2) j _ rfl HROW2.out ⟨wr.heap.size, 0, none⟩ 1 1 [.int .i64 r] rfl rfl (World.news_of_block (cs := #[.int .i64 r]) (t := 3) (fr := (0, 0)) (heap_alloc_new wr _)) (by simp [Value.oneCell']) (by omega) (by unfold maxLen; omega) (by omega) (by have := HKJ.out.size; simp; omega) (wr.heap.size + 1) (by simp) ?_; intro gg cap w4 hown4 hgrow4 hat4 hlt4; have HOW4 := Lib.hid hown4; have HGR4 := Lib.hid hgrow4; clear hown4 hgrow4 hat4 hlt4)
          have HKE := Lib.hid (grow_kept HROW.out HKJ.out (Nat.le_refl _) HGR4.out)
          go_roundw
          case rel =>
            refine ⟨j + 1, some ⟨gg, 0, none⟩, cap, by omega, by go_num, rfl, ?_, HKE.out⟩
            rw [HTK.out, List.map_append]
            exact HOW4.out
          case measure => simp [intOf]; omega
        · obtain rfl : j = k := by omega
          have HROW1 : Hid (wr.ownsRow wa.heap.size 3 1 (.slice a2 j c2) j (rs.map (Value.int .i64))) := by
            have h3 := HROW.out
            rwa [← HRS.out.len, List.take_length, HRS.out.len] at h3
          have HRA : Hid (RootsAt wr a2 j rs) := roots_of_row HROW1.out HRS.out.len HRS.out.inr
          have HKB := Lib.hid (HK.out.trans HKJ.out)
          go_wp2_with fail
          refine (uses_any (HG2.out.kept HKB.out) (by omega) lb j kc rs (HRS2.out.kept HKJ.out) (by omega)).mono ?_
          rintro e w5 ⟨a5, c5, U, rfl, hU, hrow5, hk5⟩
          have HU := Lib.hid hU; have HR5 := Lib.hid hrow5; have HK5 := Lib.hid hk5
          clear hU hrow5 hk5
          go_wp2_with fail
          refine (ruses_any (HR.out.kept (HKB.out.trans HK5.out)) HGD.out (by omega) a2 j c2 rs (HRA.out.kept HK5.out) (by omega)).mono ?_
          rintro e w6 ⟨a6, c6, V, rfl, hV, hrow6, hk6⟩
          obtain rfl : U = V := uses_filter HGD.out HU.out hV.1 hV.2.1
          have hul : U.length ≤ 40 := by have := hV.2.2; omega
          have HUR : Hid (∀ x ∈ U, InR x) := fun x hx => by
            have := ((hV.2.1 x).1 hx).1
            exact ⟨by omega, by omega⟩
          have HA5 : Hid (RootsAt w6 a5 U.length U) := (roots_of_row HR5.out rfl HUR.out).kept hk6
          have HA6 : Hid (RootsAt w6 a6 U.length U) := roots_of_row hrow6 rfl HUR.out
          have HK6 := Lib.hid (HKB.out.trans (HK5.out.trans hk6))
          clear hV hrow6 hk6
          obtain ⟨q, hq⟩ : ∃ q : Nat, q = U.length := ⟨_, rfl⟩
          have HQ := Lib.hid hq
          rw [← hq] at HA5 HA6 hul ⊢
          clear hq
          go_wp2
          go_loopw [14] (fun i wr => ∃ t : Nat, t ≤ q ∧ i = .int .i64 t ∧ Kept w6 wr) (fun i _ => q - (intOf i).toNat)
          case atStart => exact ⟨0, Nat.zero_le _, rfl, Kept.refl _⟩
          case round =>
            obtain ⟨t, ht, rfl, hKt⟩ := hrel
            have HKT := Lib.hid hKt; clear hKt
            have t0 : (0 : Int) ≤ (t : Int) := Int.natCast_nonneg _
            by_cases htq : t < q
            · have t1 : (t : Int) < (q : Int) := by omega
              obtain ⟨b5, o5, rfl, hc5⟩ := (HA5.out.kept HKT.out).at_ (by omega)
              obtain ⟨b6, o6, rfl, hc6⟩ := (HA6.out.kept HKT.out).at_ (by omega)
              obtain ⟨x, hx⟩ : ∃ x, U[t]? = some x := ⟨_, List.getElem?_eq_getElem (by have := HQ.out; omega)⟩
              have x5 := hc5 t x hx
              have x6 := hc6 t x hx
              clear hc5 hc6 hx
              go_wp2_with fail
              go_quiet (fail)
              go_wp2
              go_roundw
              case rel => exact ⟨t + 1, by omega, by go_num, HKT.out.trans ⟨rfl, rfl, rfl, Nat.le_refl _, fun _ _ => rfl⟩⟩
              case measure => simp [intOf]; omega
            · obtain rfl : t = q := by omega
              go_wp2_with (go_at_call 10; refine (works_any _ (HL2.out.kept (HK6.out.trans HKT.out))).mono ?_; rintro e w7 ⟨rfl, hk7⟩)
              go_ret
              exact ⟨rfl, HK2.out.trans (HK6.out.trans (HKT.out.trans hk7))⟩

set_option maxRecDepth 100000 in
set_option maxHeartbeats 1000000 in
theorem tells_many (la lb : Option Addr) (n lc k kc : Nat) (w : World) (h : 40 < n ∨ 20 < k) (hL : Laid w) :
    Calls Tryd.prog 4 #[.slice la n lc, .slice lb k kc] w fun e w' => e = .returned (.bool true) ∧ Kept w w' := by
  by_cases hn : 40 < n
  · have h1 : (40 : Int) < (n : Int) := by omega
    have d1 : decide ((40 : Int) < (n : Int)) = true := decide_eq_true h1
    clear h hn
    go_enter Tryd.func4, Tryd.ntmps4
    go_wp2_with (go_at_call 10; refine (works_any _ hL).mono ?_; rintro e w5 ⟨rfl, hk5⟩)
    go_ret
    exact ⟨rfl, hk5⟩
  · have h1 : ¬ (40 : Int) < (n : Int) := by omega
    have h2 : (20 : Int) < (k : Int) := by omega
    have d1 : decide ((40 : Int) < (n : Int)) = false := decide_eq_false h1
    have d2 : decide ((20 : Int) < (k : Int)) = true := decide_eq_true h2
    clear h hn
    go_enter Tryd.func4, Tryd.ntmps4
    go_wp2_with (go_at_call 10; refine (works_any _ hL).mono ?_; rintro e w5 ⟨rfl, hk5⟩)
    go_ret
    exact ⟨rfl, hk5⟩
theorem termtells_any (la lb : Option Addr) (n lc k kc : Nat) (ds : List Nd) (rs : List Int) (w : World) (hds : NodesAt w la n ds) (hrs : RootsAt w lb k rs) (hL : Laid w) :
    Calls Tryd.prog 4 #[.slice la n lc, .slice lb k kc] w fun e w' => e = .returned (.bool true) ∧ Kept w w' := by
  by_cases h : n ≤ 40 ∧ k ≤ 20
  · exact tells_few la lb n lc k kc ds rs w hds hrs h.1 h.2 hL
  · exact tells_many la lb n lc k kc w (by omega) hL
end Go.Proofs.YtjhmbbioplhcgaaDoor
