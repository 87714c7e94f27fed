/-
  Layer 5: the law ClauseHolds, which ClauseKnown asks of certain arguments.
  Before it: Layer 5: the contract of the reference's Holds. / Layer 5: the contract of the reference's Clean. / Layer 5: the contract of the reference's Resolve.
-/
import Derived.Test.YtlikokeknfhejaaGreatDoorCModels0
import Derived.Test.YtlikokeknfhejaaGreatDoorCRRight
import Derived.Test.YtlikokeknfhejaaGreatDoorCOwnI
import Derived.Test.YtlikokeknfhejaaGreatDoorCUnits
import Derived.Deep.DeepCutAuto
import Derived.Test.YtlikokeknfhejaaGreatDoorCResolve
import Derived.Test.YtlikokeknfhejaaGreatDoorKMText
namespace Go.Proofs.YtlikokeknfhejaaGreatDoor
open Go Go.RowKit Go.Lib

theorem kright_fits {V : Int} {C : List (List Int)} (h : rightB V C = true) {n : Nat} (hn : (n : Int) = V) {c : List Int} (hc : c ∈ C) : FitsM n c := fun x hx => by
  have := ((rightB_iff V C).1 h).2.2.2 c hc x hx
  exact ⟨this.1, by omega, by omega⟩
set_option maxRecDepth 100000 in
set_option maxHeartbeats 8000000 in
theorem rholds_any (V : Int) (ca ma : Option Addr) (cn cc n c : Nat) (C : List (List Int)) (M : List Bool) (w : World) (hV : InR V) (hC : ClsAt w ca cn C) (hcn : cn ≤ 1000000) (hS : ∀ c ∈ C, c.length ≤ 1000000) (hM : BoolsAt w ma n M) (hn : n ≤ 16777216) :
    Calls Tryz.prog 46 #[.agg #[.int .i64 V, .slice ca cn cc], .slice ma n c] w fun e w' => e = .returned (.bool (holdsB V C M)) ∧ Kept w w' := by
  have HC := Lib.hid hC; have HM := Lib.hid hM; have HS := Lib.hid hS
  have HLN := Lib.hid hC.len
  have HLM := Lib.hid hM.len
  have HVR := Lib.hid hV; clear hC hM hS hV
  have HB := Lib.hid (MapKept.heap_alloc w (rObj V ca cn cc)).1
  have HK0 := Lib.hid ((Kept.refl w).alloc (rObj V ca cn cc))
  obtain ⟨B, hBe⟩ : ∃ B : Nat, B = w.heap.size := ⟨_, rfl⟩
  go_enter Tryz.func46, Tryz.ntmps46
  go_upto_region 1 with (fail)
  obtain ⟨w1, hw1⟩ : ∃ w1 : World, w1 = w.alloc (rObj V ca cn cc) := ⟨_, rfl⟩
  change Code.wp _ _ _ _ (w.alloc (rObj V ca cn cc))
  rw [← hBe] at HB ⊢
  rw [← hw1] at HB HK0 ⊢
  clear hw1 hBe
  have HCR := Lib.hid (rright_any V ca cn cc C w1 HVR.out (HC.out.kept HK0.out) hcn HS.out)
  obtain ⟨y0, y1⟩ := rbox_facts HB.out (Kept.refl w1)
  cases hr : rightB V C with
  | false =>
    rw [hr] at HCR
    have HNO : Hid (holdsB V C M = false) := by show _ = _; unfold holdsB; rw [hr]; rfl
    clear hr
    go_wp2_with fail
    refine HCR.out.mono ?_
    rintro e w2 ⟨rfl, hk2⟩
    have HK2 := Lib.hid hk2; clear hk2
    go_wp2
    go_ret
    exact ⟨ret_bool HNO.out.symm, HK0.out.trans HK2.out⟩
  | true =>
    rw [hr] at HCR
    have HR := Lib.hid hr; clear hr
    go_upto_region 1 with (fail)
    by_cases hnV : (n : Int) = V
    · have d1 : ((n : Int) != V) = false := by simpa using hnV
      have HNV := Lib.hid hnV
      clear hnV
      go_wp2_with fail
      refine HCR.out.mono ?_
      rintro e w2 ⟨rfl, hk2⟩
      have HK2 := Lib.hid (HK0.out.trans hk2)
      obtain ⟨z0, z1⟩ := rbox_facts HB.out hk2
      clear hk2 y0 y1
      go_wp2
      go_loop [5] (fun i => ∃ j : Nat, j ≤ cn ∧ i = .int .i64 j ∧ Hid (hf M (C.take j) = true)) (fun i => cn - (intOf i).toNat)
      case atStart => exact ⟨0, Nat.zero_le _, rfl, rfl⟩
      case round =>
        obtain ⟨j, hj, rfl, HH⟩ := hrel
        have j0 : (0 : Int) ≤ (j : Int) := Int.natCast_nonneg _
        by_cases hjn : j < cn
        · have j1 : (j : Int) < (cn : Int) := by omega
          obtain ⟨cb, off, rfl, hc⟩ := HC.out.at_ (by omega)
          have hjl : j < C.length := by rw [HLN.out]; exact hjn
          obtain ⟨cl, hcj⟩ : ∃ c, C[j]? = some c := ⟨_, List.getElem?_eq_getElem hjl⟩
          obtain ⟨a2, k2, cap2, x0, hIc, hz2, hkc⟩ := hc j cl hcj
          replace x0 := HK2.out.cell x0
          have hk2b : k2 ≤ 1000000 := by have := HS.out cl (List.mem_of_getElem? hcj); rw [hIc.len] at this; exact this
          have HTK := Lib.hid (show C.take (j + 1) = C.take j ++ [cl] by rw [List.take_succ_eq_append_getElem hjl, (List.getElem?_eq_some_iff.1 hcj).2])
          have HCJ := Lib.hid hcj
          have HCC := Lib.hid (rclause_any a2 ma k2 cap2 n c cl M w2 (hIc.kept HK2.out) (HM.out.kept HK2.out) hk2b hn (kright_fits HR.out HNV.out (List.mem_of_getElem? hcj)))
          clear hc hcj hjl hIc hz2 hkc
          cases hh : hc M cl with
          | false =>
            rw [hh] at HCC
            have HNO : Hid (holdsB V C M = false) := by
              show _ = _
              have h2 : hf M C = false := by
                unfold hf
                rw [List.all_eq_false]
                exact ⟨cl, List.mem_of_getElem? HCJ.out, by rw [hh]; simp⟩
              unfold holdsB
              rw [h2]; simp
            clear hh
            go_wp2_with fail
            refine HCC.out.mono ?_
            rintro e w3 ⟨rfl, rfl⟩
            go_wp2
            go_ret
            exact ⟨ret_bool HNO.out.symm, HK2.out⟩
          | true =>
            rw [hh] at HCC
            have HN : Hid (hf M (C.take (j + 1)) = true) := by
              show _ = _
              have h1 := HH.out
              unfold hf at h1 ⊢
              rw [HTK.out, List.all_append, h1]
              simp [hh]
            clear hh
            go_wp2_with fail
            refine HCC.out.mono ?_
            rintro e w3 ⟨rfl, rfl⟩
            go_wp2
            go_round
            case rel => exact ⟨j + 1, by omega, by go_num, HN.out⟩
            case measure => simp [intOf]; omega
        · obtain rfl : j = cn := by omega
          have HY : Hid (holdsB V C M = true) := by
            show _ = _
            have h1 := HH.out
            rw [← HLN.out, List.take_length] at h1
            unfold holdsB
            rw [HR.out, h1, HLM.out, decide_eq_true HNV.out]; rfl
          go_wp2
          go_ret
          exact ⟨ret_bool HY.out.symm, HK2.out⟩
    · have d1 : ((n : Int) != V) = true := by simpa using hnV
      have HNO : Hid (holdsB V C M = false) := by
        show _ = _; unfold holdsB; rw [HLM.out, decide_eq_false hnV]; simp
      clear hnV
      go_wp2_with fail
      refine HCR.out.mono ?_
      rintro e w2 ⟨rfl, hk2⟩
      have HK2 := Lib.hid (HK0.out.trans hk2)
      obtain ⟨z0, z1⟩ := rbox_facts HB.out hk2
      clear hk2 y0 y1
      go_wp2
      go_ret
      exact ⟨ret_bool HNO.out.symm, HK2.out⟩
end Go.Proofs.YtlikokeknfhejaaGreatDoor

namespace Go.Proofs.YtlikokeknfhejaaGreatDoor
open Go Go.RowKit Go.Sort Go.Lib

theorem snoc_take {L : List Int} {i : Nat} {x : Int} (h : L[i]? = some x) : L.take (i + 1) = L.take i ++ [x] := by
  have hl := (List.getElem?_eq_some_iff.1 h).1
  rw [List.take_succ_eq_append_getElem hl, (List.getElem?_eq_some_iff.1 h).2]
/-- What was made of i literals. -/
structure CI (L K : List Int) (i : Nat) : Prop where
  sorted : SortedV K
  mem : ∀ x, x ∈ K ↔ x ∈ L.take i
  ok : ∀ x ∈ L.take i, x ≠ 0 ∧ x ≠ -9223372036854775808 ∧ -x ∉ L
theorem CI.start (L : List Int) : CI L [] 0 := ⟨SortedV.nil, by simp, by simp⟩
theorem CI.okay {L K : List Int} {i : Nat} {x : Int} (h : CI L K i) (hx : L[i]? = some x) (ho : x ≠ 0 ∧ x ≠ -9223372036854775808 ∧ -x ∉ L) : ∀ y ∈ L.take (i + 1), y ≠ 0 ∧ y ≠ -9223372036854775808 ∧ -y ∉ L := by
  intro y hy
  rw [snoc_take hx] at hy
  rcases List.mem_append.1 hy with hy | hy
  · exact h.ok y hy
  · rw [List.mem_singleton.1 hy]; exact ho
theorem CI.had {L K : List Int} {i : Nat} {x : Int} (h : CI L K i) (hx : L[i]? = some x) (ho : x ≠ 0 ∧ x ≠ -9223372036854775808 ∧ -x ∉ L) (hk : x ∈ K) : CI L K (i + 1) := by
  refine ⟨h.sorted, fun y => ?_, h.okay hx ho⟩
  rw [snoc_take hx, List.mem_append, List.mem_singleton, h.mem y]
  constructor
  · exact Or.inl
  · rintro (h1 | rfl)
    · exact h1
    · exact (h.mem y).1 hk
theorem CI.ins {L K : List Int} {i k : Nat} {x : Int} (h : CI L K i) (hx : L[i]? = some x) (ho : x ≠ 0 ∧ x ≠ -9223372036854775808 ∧ -x ∉ L) (hn : x ∉ K) (hk : k ≤ K.length) (hpost : ∀ y ∈ K.drop k, vr x < vr y) (hpre : ∀ y, 0 < k → K[k - 1]? = some y → ¬ vr x < vr y) : CI L (insAt K x k) (i + 1) := by
  refine ⟨insAt_sorted h.sorted hk hpost fun y h0 hy => ?_, fun y => ?_, h.okay hx ho⟩
  · have h1 := hpre y h0 hy
    have hyK : y ∈ K := List.mem_of_getElem? hy
    rcases Int.lt_or_eq_of_le (Int.not_lt.1 h1) with h2 | h2
    · exact h2
    · rcases vr_eq h2 with rfl | rfl
      · exact absurd hyK hn
      · exact absurd (List.mem_of_mem_take ((h.mem _).1 hyK)) ho.2.2
  · rw [insAt_mem, snoc_take hx, List.mem_append, List.mem_singleton, h.mem y]
    exact or_comm
theorem CI.done {L K : List Int} {n : Nat} (h : CI L K n) (hn : L.length = n) : CleanRes L (some K) := by
  have ht : L.take n = L := by rw [← hn]; exact List.take_length
  have hm := h.mem
  have ho := h.ok
  rw [ht] at hm ho
  refine ⟨fun ⟨x, hx, hb⟩ => ?_, h.sorted, hm⟩
  obtain ⟨h1, h2, h3⟩ := ho x hx
  rcases hb with hb | hb | hb
  · exact h1 hb
  · exact h2 hb
  · exact h3 hb
theorem CI.len {L K : List Int} {n : Nat} (h : CI L K n) : K.length ≤ L.length := nodup_sub_len K L h.sorted.nodup fun x hx => List.mem_of_mem_take ((h.mem x).1 hx)
theorem khas {la : Option Addr} {n c : Nat} {L : List Int} {w : World} (x : Int) (b : Bool) (hL : IntsAt w la n L) (hn : n ≤ 1000000) (h : hasI L x = b) :
    Calls Tryz.prog 84 #[.slice la n c, .int .i64 x] w fun e w' => e = .returned (.bool b) ∧ w' = w := by
  rw [← h]; exact (rhas_any x la n c L w hL (by omega)).mono fun _ _ k => ⟨k.1, k.2.symm⟩
theorem kbefore (x y : Int) (b : Bool) (hx : -9223372036854775807 ≤ x ∧ x ≤ 9223372036854775807) (hy : -9223372036854775807 ≤ y ∧ y ≤ 9223372036854775807) (h : decide (vr x < vr y) = b) (w : World) :
    Calls Tryz.prog 85 #[.int .i64 x, .int .i64 y] w fun e w' => e = .returned (.bool b) ∧ w' = w := by
  rw [← h]
  exact (before_any x y w hx.1 hx.2 hy.1 hy.2).mono fun _ _ k => ⟨k.1, k.2.symm⟩
set_option maxRecDepth 100000 in
set_option maxHeartbeats 16000000 in
theorem rclean_any (la : Option Addr) (n c : Nat) (L : List Int) (w : World) (hL : IntsAt w la n L) (hn : n ≤ 1000000) :
    Calls Tryz.prog 42 #[.slice la n c] w (CleanPost L w) := by
  have HL := Lib.hid hL; clear hL
  have HLN := Lib.hid HL.out.len
  go_enter Tryz.func42, Tryz.ntmps42
  go_wp2
  go_loopw [4, 5] (fun v4 i wr => ∃ (j : Nat) (fa : Option Addr) (fn fc : Nat) (K : List Int), j ≤ n ∧ i = .int .i64 j ∧ v4 = .slice fa fn fc ∧ Hid (CI L K j) ∧ Hid (K.length = fn) ∧ Hid (wr.ownsRow w.heap.size 3 1 (.slice fa fn fc) fn (K.map (Value.int .i64))) ∧ Hid (Kept w wr)) (fun _ i _ => n - (intOf i).toNat)
  case atStart => exact ⟨0, none, 0, 0, [], Nat.zero_le _, rfl, rfl, CI.start L, rfl, World.ownsRow_nil _ _ _ _, Kept.refl _⟩
  case round =>
    obtain ⟨j, fa, fn, fc, K, hj, rfl, rfl, HCI, HKN, HROW, HKI⟩ := hrel
    have hfn : fn ≤ 1000000 := by
      have h1 := HCI.out.len
      have h2 := HKN.out
      have h3 := HLN.out
      omega
    have j0 : (0 : Int) ≤ (j : Int) := Int.natCast_nonneg _
    by_cases hjn : j < n
    · have j1 : (j : Int) < (n : Int) := by omega
      obtain ⟨b, off, rfl, hc⟩ := HL.out.at_ (by omega)
      have hjl : j < L.length := by rw [HLN.out]; exact hjn
      obtain ⟨x, hx⟩ : ∃ x, L[j]? = some x := ⟨_, List.getElem?_eq_getElem hjl⟩
      have x0 := HKI.out.cell (hc j x hx)
      have hxr := HL.out.inr x (List.mem_of_getElem? hx)
      have HX := Lib.hid hx
      have HLW := Lib.hid (HL.out.kept HKI.out)
      have HKR : Hid (∀ y ∈ K, InR y) := fun y hy => HL.out.inr y (List.mem_of_mem_take ((HCI.out.mem y).1 hy))
      have HIK := Lib.hid (ints_of_row HROW.out HKN.out HKR.out)
      obtain ⟨l2, l3⟩ := hxr
      clear hc hx hjl
      by_cases hx0 : x = 0
      · have d1 : (x == 0) = true := by simpa using hx0
        have HBAD : Hid (CleanRes L none) := ⟨x, List.mem_of_getElem? HX.out, Or.inl hx0⟩
        clear hx0
        go_wp2
        go_ret2
        exact CleanPost.no HBAD.out HKI.out
      · have d1 : (x == 0) = false := by simpa using hx0
        have HX0 := Lib.hid hx0
        clear hx0
        by_cases hlow : x = -9223372036854775808
        · have HBAD : Hid (CleanRes L none) := ⟨x, List.mem_of_getElem? HX.out, Or.inr (Or.inl hlow)⟩
          have hneg : IntKind.i64.wrap (-x) = x := by rw [hlow]; decide
          have HHAS := Lib.hid (khas (c := c) x true HLW.out hn ((hasI_iff L x).2 (List.mem_of_getElem? HX.out)))
          clear hlow
          go_wp2_with fail
          refine HHAS.out.mono ?_
          rintro e w2 ⟨rfl, rfl⟩
          go_wp2
          go_ret2
          exact CleanPost.no HBAD.out HKI.out
        · have HLOW := Lib.hid hlow
          have l4 : -9223372036854775807 ≤ x := by omega
          have hneg : IntKind.i64.wrap (-x) = -x := IntWalk.i64_in _ (by omega)
          clear hlow
          cases hh : hasI L (-x) with
          | true =>
            have HBAD : Hid (CleanRes L none) := ⟨x, List.mem_of_getElem? HX.out, Or.inr (Or.inr ((hasI_iff L (-x)).1 hh))⟩
            have HHAS := Lib.hid (khas (c := c) (-x) true HLW.out hn hh)
            clear hh
            go_wp2_with fail
            refine HHAS.out.mono ?_
            rintro e w2 ⟨rfl, rfl⟩
            go_wp2
            go_ret2
            exact CleanPost.no HBAD.out HKI.out
          | false =>
            have HHAS := Lib.hid (khas (c := c) (-x) false HLW.out hn hh)
            have HOK : Hid (x ≠ 0 ∧ x ≠ -9223372036854775808 ∧ -x ∉ L) := ⟨HX0.out, HLOW.out, (hasI_no L (-x)).1 hh⟩
            clear hh
            go_wp2_with fail
            refine HHAS.out.mono ?_
            rintro e w2 ⟨rfl, rfl⟩
            clear HHAS
            cases hk : hasI K x with
            | true =>
              have HHK := Lib.hid (khas (c := fc) x true HIK.out hfn hk)
              have HN := Lib.hid (HCI.out.had HX.out HOK.out ((hasI_iff K x).1 hk))
              clear hk
              go_wp2_with fail
              refine HHK.out.mono ?_
              rintro e w3 ⟨rfl, rfl⟩
              go_wp2
              go_roundw
              case rel => exact ⟨j + 1, fa, fn, fc, K, by omega, by go_num, rfl, HN.out, HKN.out, HROW.out, HKI.out⟩
              case measure => simp [intOf]; omega
            | false =>
              have HHK := Lib.hid (khas (c := fc) x false HIK.out hfn hk)
              have HNK : Hid (x ∉ K) := (hasI_no K x).1 hk
              clear hk
              go_wp2_with fail
              refine HHK.out.mono ?_
              rintro e w3 ⟨rfl, rfl⟩
              clear HHK
              go_wp2_with (at_builtin; refine wpList_append_int (w0 := w3) rfl _ _ rfl w.heap.size fa fn fc _ rfl HROW.out x rfl rfl (by omega) HKI.out.size ?_; intro a4 c4 w4 hown4 hgrow4; have HOW4 := Lib.hid hown4; have HGR4 := Lib.hid hgrow4; clear hown4 hgrow4)
              have HK4 := Lib.hid (grow_kept HROW.out HKI.out (Nat.le_refl _) HGR4.out)
              obtain ⟨r, rfl, _, _, _⟩ := row_some HOW4.out (by omega)
              have hw0 : IntKind.i64.wrap (((fn + 1 : Nat) : Int) - 1) = (fn : Int) := by rw [IntWalk.i64_in _ (by omega)]; omega
              have HST : Hid (w4.ownsRow w.heap.size 3 1 (.slice (some ⟨r, 0, none⟩) (fn + 1) c4) (fn + 1) ((insAt K x fn).map (Value.int .i64))) := by
                show World.ownsRow _ _ _ _ _ _ _
                have h1 := insAt_end K x
                rw [HKN.out] at h1
                rw [h1]; exact HOW4.out
              obtain ⟨q, hq⟩ : ∃ q : Nat, q = fn + 1 := ⟨_, rfl⟩
              rw [← hq] at HST hw0 ⊢
              have HXB : Hid (-9223372036854775807 ≤ x ∧ x ≤ 9223372036854775807) := ⟨l4, l3⟩
              clear HOW4 HGR4 HROW HIK hneg
              go_wp2
              go_loopw [6] (fun i wr => ∃ k : Nat, k ≤ fn ∧ i = .int .i64 k ∧ Hid (∀ y ∈ K.drop k, vr x < vr y) ∧ Hid (wr.ownsRow w.heap.size 3 1 (.slice (some ⟨r, 0, none⟩) q c4) q ((insAt K x k).map (Value.int .i64))) ∧ Hid (Kept w wr)) (fun i _ => (intOf i).toNat)
              case atStart => exact ⟨fn, Nat.le_refl _, rfl, (fun y hy => by rw [List.drop_eq_nil_of_le (by rw [HKN.out]; exact Nat.le_refl _)] at hy; cases hy), HST.out, HK4.out⟩
              case round =>
                obtain ⟨k, hk, rfl, HPO, HRK, HKK⟩ := hrel
                have k0 : (0 : Int) ≤ (k : Int) := Int.natCast_nonneg _
                have HQN : Hid ((insAt K x k).length = q) := by show _ = _; rw [insAt_len, HKN.out, hq]
                have hkK : k ≤ K.length := by rw [HKN.out]; exact hk
                rcases Nat.eq_zero_or_pos k with hz | hz
                · subst hz
                  have HN := Lib.hid (HCI.out.ins HX.out HOK.out HNK.out hkK HPO.out (fun y h0 => absurd h0 (Nat.lt_irrefl 0)))
                  go_wp2_with fail
                  go_quiet (fail)
                  go_wp2
                  go_roundw
                  case rel => exact ⟨j + 1, _, q, c4, _, by omega, by go_num, rfl, HN.out, HQN.out, HRK.out, Kept.drewN HKK.out _⟩
                  case measure => simp [intOf]; omega
                · obtain ⟨m, hm⟩ : ∃ m : Nat, k = m + 1 := ⟨k - 1, by omega⟩
                  have HM := Lib.hid hm
                  have hml : m < K.length := by omega
                  obtain ⟨pv, hp⟩ : ∃ pv, K[m]? = some pv := ⟨_, List.getElem?_eq_getElem hml⟩
                  have HPV := Lib.hid hp
                  have HPG : Hid (∀ h : m < K.length, K[m] = pv) := (fun _ => (List.getElem?_eq_some_iff.1 hp).2)
                  have HPR : Hid (-9223372036854775807 ≤ pv ∧ pv ≤ 9223372036854775807) := by
                    have hm2 := (HCI.out.mem pv).1 (List.mem_of_getElem? hp)
                    have h2 := HCI.out.ok pv hm2
                    have h3 := HL.out.inr pv (List.mem_of_mem_take hm2)
                    unfold InR at h3
                    exact ⟨by omega, by omega⟩
                  obtain ⟨p2, p3⟩ := HPR.out
                  have HCK : Hid (∀ (jj : Nat) (z : Int), jj < q → (insAt K x k)[jj]? = some z → wr.cell? ⟨r, jj, none⟩ = some (.int .i64 z)) := fun jj z hjq hj => by
                    rw [HRK.out.cellAt jj (by omega), List.getElem?_map, hj]; rfl
                  have i1 := HCK.out k x (by omega) (insAt_get K x k hkK)
                  have i2 := HCK.out m pv (by omega) (by rw [hm, insAt_pred K x m hml, HPG.out hml])
                  have hw1 : IntKind.i64.wrap ((k : Int) - 1) = (m : Int) := by rw [IntWalk.i64_in _ (by omega)]; omega
                  have q1 : (0 : Int) < (k : Int) := by omega
                  have q2 : (k : Int) < (q : Int) := by omega
                  have q3 : (0 : Int) ≤ (m : Int) := Int.natCast_nonneg _
                  have q4 : (m : Int) < (q : Int) := by omega
                  have HML := Lib.hid hml
                  clear hm hml hp
                  by_cases hlt : vr x < vr pv
                  · have HBF : Hid (∀ w, Calls Tryz.prog 85 #[.int .i64 x, .int .i64 pv] w fun e w' => e = .returned (.bool true) ∧ w' = w) := fun w => kbefore x pv true HXB.out HPR.out (decide_eq_true hlt) w
                    have HST2 : Hid (∀ y ∈ K.drop m, vr x < vr y) := insAt_post_step HML.out (by have h := HPO.out; rw [HM.out] at h; exact h) (by rw [HPG.out HML.out]; exact hlt)
                    have HSW : Hid (((insAt K x k).set k pv).set m x = insAt K x m) := by
                      have h := insAt_swap K x m HML.out
                      rw [HPG.out HML.out] at h
                      rw [HM.out]; exact h
                    have hs1 := HRK.out.stored k (.int .i64 pv)
                    have hs2 := HRK.out.stored m (.int .i64 x)
                    have hkm : k ≠ m := by have := HM.out; omega
                    have c1' : (wr.setCell ⟨r, k, none⟩ (.int .i64 pv)).cell? ⟨r, m, none⟩ = some (.int .i64 pv) := by
                      rw [hs1.1.cellAt m (by omega), List.getElem?_set_ne hkm, ← HRK.out.cellAt m (by omega)]; exact i2
                    have c2' : (wr.setCell ⟨r, m, none⟩ (.int .i64 x)).cell? ⟨r, k, none⟩ = some (.int .i64 x) := by
                      rw [hs2.1.cellAt k (by omega), List.getElem?_set_ne (Ne.symm hkm), ← HRK.out.cellAt k (by omega)]; exact i1
                    have f1 := HRK.out.frozenAt k
                    have f2 := HRK.out.frozenAt m
                    have f1' := hs2.1.frozenAt k
                    have f2' := hs1.1.frozenAt m
                    clear hs1 hs2 hlt
                    go_wp2_with fail
                    go_quiet ((go_at_call 85; exact Calls.quiet_of_same (HBF.out _)))
                    go_wp2_with fail
                    go_region
                    clear i1 i2 c1' c2' f1 f2 f1' f2'
                    generalize hwx : wr.drewN _ = wx
                    have HKX2 : Hid (Kept w wx) := by
                      show Kept w wx
                      rw [← hwx]
                      exact Kept.drewN HKK.out _
                    have HRX2 : Hid (wx.ownsRow w.heap.size 3 1 (.slice (some ⟨r, 0, none⟩) q c4) q ((insAt K x k).map (Value.int .i64))) := by
                      show wx.ownsRow _ _ _ _ _ _
                      rw [← hwx]
                      exact HRK.out
                    clear hwx
                    have hgl : w.heap.size ≤ r := (HRX2.out.lt r rfl).1
                    have HEND : Hid (((wx.setCell ⟨r, k, none⟩ (.int .i64 pv)).setCell ⟨r, m, none⟩ (.int .i64 x)).ownsRow w.heap.size 3 1 (.slice (some ⟨r, 0, none⟩) q c4) q ((insAt K x m).map (Value.int .i64))) := by
                      have h9 := ((HRX2.out.stored k (.int .i64 pv)).1.stored m (.int .i64 x)).1
                      rw [← HSW.out, List.map_set, List.map_set]
                      exact h9
                    have HEND3 := Lib.hid ((HKX2.out.setCell (p := ⟨r, k, none⟩) hgl (.int .i64 pv)).setCell (p := ⟨r, m, none⟩) hgl (.int .i64 x))
                    go_wp2
                    go_roundw
                    case rel => exact ⟨m, by have := HM.out; omega, by go_num, HST2.out, HEND.out, HEND3.out⟩
                    case measure => have := HM.out; simp [intOf]; omega
                  · have HBF : Hid (∀ w, Calls Tryz.prog 85 #[.int .i64 x, .int .i64 pv] w fun e w' => e = .returned (.bool false) ∧ w' = w) := fun w => kbefore x pv false HXB.out HPR.out (decide_eq_false hlt) w
                    have HN := Lib.hid (HCI.out.ins HX.out HOK.out HNK.out hkK HPO.out (fun y _ hy => by
                      have e : k - 1 = m := by have := HM.out; omega
                      rw [e, HPV.out] at hy
                      cases hy
                      exact hlt))
                    clear hlt
                    go_wp2_with fail
                    go_quiet ((go_at_call 85; exact Calls.quiet_of_same (HBF.out _)))
                    go_wp2
                    go_roundw
                    case rel => exact ⟨j + 1, _, q, c4, _, by omega, by go_num, rfl, HN.out, HQN.out, HRK.out, Kept.drewN HKK.out _⟩
                    case measure => simp [intOf]; omega
    · obtain rfl : j = n := by omega
      have HYES := Lib.hid (HCI.out.done HLN.out)
      have HIL : Hid (IntsAt wr fa fn K) := ints_of_row HROW.out HKN.out fun y hy => HL.out.inr y (List.mem_of_mem_take ((HCI.out.mem y).1 hy))
      have HFIT := Lib.hid (row_fit HROW.out)
      go_wp2
      go_ret2
      exact ⟨HKI.out, Or.inr ⟨fa, fn, fc, K, HYES.out, rfl, HIL.out, HFIT.out, HCI.out.len, fun ad had => (HROW.out.lt ad.block (by rw [had]; rfl)).1⟩⟩
end Go.Proofs.YtlikokeknfhejaaGreatDoor

namespace Go.Proofs.YtlikokeknfhejaaGreatDoor
open Go Go.RowKit Go.Sort Go.Lib

theorem filt_snoc {L : List Int} {j : Nat} {x : Int} (p : Int → Bool) (h : L[j]? = some x) : (L.take (j + 1)).filter p = (L.take j).filter p ++ (if p x = true then [x] else []) := by
  rw [snoc_take h, List.filter_append]
  congr 1
  cases hp : p x <;> simp [hp]
theorem filt_in {L : List Int} {j : Nat} {p : Int → Bool} {y : Int} (h : y ∈ (L.take j).filter p) : y ∈ L := List.mem_of_mem_take (List.mem_filter.1 h).1
theorem filt_len (L : List Int) (j : Nat) (p : Int → Bool) : ((L.take j).filter p).length ≤ L.length := Nat.le_trans (List.length_filter_le _ _) (by rw [List.length_take]; omega)
set_option maxRecDepth 100000 in
set_option maxHeartbeats 16000000 in
theorem rresolve_any (la lb : Option Addr) (n c m d : Nat) (a b : List Int) (v : Int) (w : World) (hA : IntsAt w la n a) (hB : IntsAt w lb m b) (hn : n ≤ 1000) (hm : m ≤ 1000) (hv : InR v) :
    Calls Tryz.prog 44 #[.slice la n c, .slice lb m d, .int .i64 v] w (ResPost a b v w) := by
  have HA := Lib.hid hA; have HB := Lib.hid hB
  have HAN := Lib.hid hA.len; have HBN := Lib.hid hB.len
  obtain ⟨v1, v2⟩ := hv
  clear hA hB
  have HH : Hid (∀ (x : Int) (bb : Bool), hasI a x = bb → Calls Tryz.prog 84 #[.slice la n c, .int .i64 x] w fun e w' => e = .returned (.bool bb) ∧ w' = w) := fun x bb h => khas x bb HA.out (by omega) h
  have HG : Hid (∀ (x : Int) (bb : Bool), hasI b x = bb → Calls Tryz.prog 84 #[.slice lb m d, .int .i64 x] w fun e w' => e = .returned (.bool bb) ∧ w' = w) := fun x bb h => khas x bb HB.out (by omega) h
  go_enter Tryz.func44, Tryz.ntmps44
  go_upto_region 1 with (fail)
  by_cases h0 : v ≤ 0
  · have HNO : Hid (¬ ResOk a b v) := fun h => by have := h.1; omega
    go_wp2
    go_ret2
    exact ResPost.no HNO.out (Kept.refl _)
  · have q0 : ¬ (v ≤ 0) := h0
    have hneg : IntKind.i64.wrap (-v) = -v := IntWalk.i64_in _ (by omega)
    have d0 : decide (v ≤ 0) = false := decide_eq_false h0
    have HV0 : Hid (0 < v) := by show (0 : Int) < v; omega
    clear h0
    cases e1 : hasI a v with
    | false =>
      have HNO : Hid (¬ ResOk a b v) := fun h => (hasI_no a v).1 e1 h.2.1
      have H1 := Lib.hid (HH.out v false e1)
      clear e1
      go_wp2_with fail
      refine H1.out.mono ?_
      rintro e w2 ⟨rfl, hw⟩
      obtain rfl := hw.symm
      go_wp2
      go_ret2
      exact ResPost.no HNO.out (Kept.refl _)
    | true =>
      have H1 := Lib.hid (HH.out v true e1)
      have E1 := Lib.hid ((hasI_iff a v).1 e1)
      clear e1
      cases e2 : hasI b (-v) with
      | false =>
        have HNO : Hid (¬ ResOk a b v) := fun h => (hasI_no b (-v)).1 e2 h.2.2.1
        have H2 := Lib.hid (HG.out (-v) false e2)
        clear e2
        go_wp2_with fail
        refine H1.out.mono ?_
        rintro e w2 ⟨rfl, hw⟩
        obtain rfl := hw.symm
        go_wp2_with fail
        refine H2.out.mono ?_
        rintro e w2 ⟨rfl, hw⟩
        obtain rfl := hw.symm
        go_wp2
        go_ret2
        exact ResPost.no HNO.out (Kept.refl _)
      | true =>
        have H2 := Lib.hid (HG.out (-v) true e2)
        have E2 := Lib.hid ((hasI_iff b (-v)).1 e2)
        clear e2
        cases e3 : hasI a (-v) with
        | true =>
          have HNO : Hid (¬ ResOk a b v) := fun h => h.2.2.2.1 ((hasI_iff a (-v)).1 e3)
          have H3 := Lib.hid (HH.out (-v) true e3)
          clear e3
          go_wp2_with fail
          refine H1.out.mono ?_
          rintro e w2 ⟨rfl, hw⟩
          obtain rfl := hw.symm
          go_wp2_with fail
          refine H2.out.mono ?_
          rintro e w2 ⟨rfl, hw⟩
          obtain rfl := hw.symm
          go_wp2_with fail
          refine H3.out.mono ?_
          rintro e w2 ⟨rfl, hw⟩
          obtain rfl := hw.symm
          go_wp2
          go_ret2
          exact ResPost.no HNO.out (Kept.refl _)
        | false =>
          have H3 := Lib.hid (HH.out (-v) false e3)
          have E3 := Lib.hid ((hasI_no a (-v)).1 e3)
          clear e3
          cases e4 : hasI b v with
          | true =>
            have HNO : Hid (¬ ResOk a b v) := fun h => h.2.2.2.2 ((hasI_iff b v).1 e4)
            have H4 := Lib.hid (HG.out v true e4)
            clear e4
            go_wp2_with fail
            refine H1.out.mono ?_
            rintro e w2 ⟨rfl, hw⟩
            obtain rfl := hw.symm
            go_wp2_with fail
            refine H2.out.mono ?_
            rintro e w2 ⟨rfl, hw⟩
            obtain rfl := hw.symm
            go_wp2_with fail
            refine H3.out.mono ?_
            rintro e w2 ⟨rfl, hw⟩
            obtain rfl := hw.symm
            go_wp2_with fail
            refine H4.out.mono ?_
            rintro e w2 ⟨rfl, hw⟩
            obtain rfl := hw.symm
            go_wp2
            go_ret2
            exact ResPost.no HNO.out (Kept.refl _)
          | false =>
            have H4 := Lib.hid (HG.out v false e4)
            have HOK : Hid (ResOk a b v) := ⟨HV0.out, E1.out, E2.out, E3.out, (hasI_no b v).1 e4⟩
            clear e4
            go_wp2_with fail
            refine H1.out.mono ?_
            rintro e w2 ⟨rfl, hw⟩
            obtain rfl := hw.symm
            go_wp2_with fail
            refine H2.out.mono ?_
            rintro e w2 ⟨rfl, hw⟩
            obtain rfl := hw.symm
            go_wp2_with fail
            refine H3.out.mono ?_
            rintro e w2 ⟨rfl, hw⟩
            obtain rfl := hw.symm
            go_wp2_with fail
            refine H4.out.mono ?_
            rintro e w2 ⟨rfl, hw⟩
            obtain rfl := hw.symm
            clear H1 H2 H3 H4 E1 E2 E3 HV0 HH HG
            go_wp2
            go_loopw [8, 9] (fun v8 i wr => ∃ (j : Nat) (fa : Option Addr) (fn fc : Nat), j ≤ n ∧ i = .int .i64 j ∧ v8 = .slice fa fn fc ∧ Hid (((a.take j).filter fun x => x != v).length = fn) ∧ Hid (wr.ownsRow w.heap.size 3 1 (.slice fa fn fc) fn (((a.take j).filter fun x => x != v).map (Value.int .i64))) ∧ Hid (Kept w wr)) (fun _ i _ => n - (intOf i).toNat)
            case atStart => exact ⟨0, none, 0, 0, Nat.zero_le _, rfl, rfl, rfl, World.ownsRow_nil _ _ _ _, Kept.refl _⟩
            case round =>
              obtain ⟨j, fa, fn, fc, hj, rfl, rfl, HFN, HROW, HKI⟩ := hrel
              have hfn : fn ≤ 2000 := by
                have h1 := filt_len a j (fun x => x != v)
                have h2 := HFN.out
                have h3 := HAN.out
                omega
              have j0 : (0 : Int) ≤ (j : Int) := Int.natCast_nonneg _
              by_cases hjn : j < n
              · have j1 : (j : Int) < (n : Int) := by omega
                obtain ⟨bb, off, rfl, hc⟩ := HA.out.at_ (by omega)
                have hjl : j < a.length := by rw [HAN.out]; exact hjn
                obtain ⟨x, hx⟩ : ∃ x, a[j]? = some x := ⟨_, List.getElem?_eq_getElem hjl⟩
                have x0 := HKI.out.cell (hc j x hx)
                have HF := Lib.hid (filt_snoc (fun x => x != v) hx)
                clear hc hx hjl
                cases hb : (x != v) with
                | false =>
                  have HF2 : Hid (((a.take (j + 1)).filter fun x => x != v) = ((a.take j).filter fun x => x != v)) := by show _ = _; rw [HF.out]; simp only [hb]; simp
                  have d5 : (x == v) = true := by simpa using hb
                  go_wp2
                  go_roundw
                  case rel => exact ⟨j + 1, fa, fn, fc, by omega, by go_num, rfl, by show _ = _; rw [HF2.out]; exact HFN.out, by show World.ownsRow _ _ _ _ _ _ _; rw [HF2.out]; exact HROW.out, HKI.out⟩
                  case measure => simp [intOf]; omega
                | true =>
                  have HF2 : Hid (((a.take (j + 1)).filter fun x => x != v) = ((a.take j).filter fun x => x != v) ++ [x]) := by show _ = _; rw [HF.out]; simp [hb]
                  have d5 : (x == v) = false := by simpa using hb
                  go_wp2_with (at_builtin; refine wpList_append_int (w0 := wr) rfl _ _ rfl w.heap.size fa fn fc _ rfl HROW.out x rfl rfl (by omega) HKI.out.size ?_; intro a4 c4 w4 hown4 hgrow4; have HOW4 := Lib.hid hown4; have HGR4 := Lib.hid hgrow4; clear hown4 hgrow4)
                  have HK4 := Lib.hid (grow_kept HROW.out HKI.out (Nat.le_refl _) HGR4.out)
                  go_wp2
                  go_roundw
                  case rel => exact ⟨j + 1, a4, fn + 1, c4, by omega, by go_num, rfl, by show _ = _; rw [HF2.out, List.length_append, HFN.out]; rfl, by show World.ownsRow _ _ _ _ _ _ _; rw [HF2.out]; exact HOW4.out, HK4.out⟩
                  case measure => simp [intOf]; omega
              · obtain rfl : j = n := by omega
                have ht : a.take j = a := by rw [← HAN.out]; exact List.take_length
                rw [ht] at HFN HROW
                clear ht
                obtain ⟨fa1, hfa1⟩ : ∃ f, f = fa := ⟨_, rfl⟩
                obtain ⟨fn1, hfn1⟩ : ∃ f, f = fn := ⟨_, rfl⟩
                obtain ⟨fc1, hfc1⟩ : ∃ f, f = fc := ⟨_, rfl⟩
                rw [← hfa1, ← hfn1, ← hfc1] at HROW ⊢
                rw [← hfn1] at HFN
                have HFN1 := HFN
                have HROW1 := HROW
                have HKI1 := HKI
                clear HFN HROW HKI hfn hfa1 hfn1 hfc1
                go_wp2
                go_loopw [8, 10] (fun v8 i wr => ∃ (j : Nat) (fa : Option Addr) (fn fc : Nat), j ≤ m ∧ i = .int .i64 j ∧ v8 = .slice fa fn fc ∧ Hid (((a.filter fun x => x != v) ++ (b.take j).filter fun x => x != -v).length = fn) ∧ Hid (wr.ownsRow w.heap.size 3 1 (.slice fa fn fc) fn (((a.filter fun x => x != v) ++ (b.take j).filter fun x => x != -v).map (Value.int .i64))) ∧ Hid (Kept w wr)) (fun _ i _ => m - (intOf i).toNat)
                case atStart => exact ⟨0, fa1, fn1, fc1, Nat.zero_le _, rfl, rfl, (by show _ = _; rw [List.take_zero, List.filter_nil, List.append_nil]; exact HFN1.out), (by show World.ownsRow _ _ _ _ _ _ _; rw [List.take_zero, List.filter_nil, List.append_nil]; exact HROW1.out), HKI1.out⟩
                case round =>
                  obtain ⟨j, fa, fn, fc, hj, rfl, rfl, HFN, HROW, HKI⟩ := hrel
                  have hfn : fn ≤ 2000 := by
                    have h1 := filt_len b j (fun x => x != -v)
                    have h2 := HFN.out
                    have h3 := HBN.out
                    rw [List.length_append] at h2
                    have h4 := List.length_filter_le (fun x => x != v) a
                    have h5 := HAN.out
                    omega
                  have j0 : (0 : Int) ≤ (j : Int) := Int.natCast_nonneg _
                  by_cases hjn : j < m
                  · have j1 : (j : Int) < (m : Int) := by omega
                    obtain ⟨bb, off, rfl, hc⟩ := HB.out.at_ (by omega)
                    have hjl : j < b.length := by rw [HBN.out]; exact hjn
                    obtain ⟨x, hx⟩ : ∃ x, b[j]? = some x := ⟨_, List.getElem?_eq_getElem hjl⟩
                    have x0 := HKI.out.cell (hc j x hx)
                    have HF := Lib.hid (filt_snoc (fun x => x != -v) hx)
                    clear hc hx hjl
                    cases hb : (x != -v) with
                    | false =>
                      have HF2 : Hid (((a.filter fun x => x != v) ++ (b.take (j + 1)).filter fun x => x != -v) = ((a.filter fun x => x != v) ++ (b.take j).filter fun x => x != -v)) := by show _ = _; rw [HF.out]; simp only [hb]; simp
                      have d5 : (x == -v) = true := by simpa using hb
                      go_wp2
                      go_roundw
                      case rel => exact ⟨j + 1, fa, fn, fc, by omega, by go_num, rfl, by show _ = _; rw [HF2.out]; exact HFN.out, by show World.ownsRow _ _ _ _ _ _ _; rw [HF2.out]; exact HROW.out, HKI.out⟩
                      case measure => simp [intOf]; omega
                    | true =>
                      have HF2 : Hid (((a.filter fun x => x != v) ++ (b.take (j + 1)).filter fun x => x != -v) = ((a.filter fun x => x != v) ++ (b.take j).filter fun x => x != -v) ++ [x]) := by show _ = _; rw [HF.out]; simp [hb]
                      have d5 : (x == -v) = false := by simpa using hb
                      go_wp2_with (at_builtin; refine wpList_append_int (w0 := wr) rfl _ _ rfl w.heap.size fa fn fc _ rfl HROW.out x rfl rfl (by omega) HKI.out.size ?_; intro a4 c4 w4 hown4 hgrow4; have HOW4 := Lib.hid hown4; have HGR4 := Lib.hid hgrow4; clear hown4 hgrow4)
                      have HK4 := Lib.hid (grow_kept HROW.out HKI.out (Nat.le_refl _) HGR4.out)
                      go_wp2
                      go_roundw
                      case rel => exact ⟨j + 1, a4, fn + 1, c4, by omega, by go_num, rfl, by show _ = _; rw [HF2.out, List.length_append, HFN.out]; rfl, by show World.ownsRow _ _ _ _ _ _ _; rw [HF2.out]; exact HOW4.out, HK4.out⟩
                      case measure => simp [intOf]; omega
                  · obtain rfl : j = m := by omega
                    have ht : b.take j = b := by rw [← HBN.out]; exact List.take_length
                    rw [ht] at HFN HROW
                    clear ht
                    have HI : Hid (IntsAt wr fa fn (both a b v)) := ints_of_row HROW.out HFN.out fun y hy => by
                      rcases List.mem_append.1 hy with h | h
                      · exact HA.out.inr y (List.mem_filter.1 h).1
                      · exact HB.out.inr y (List.mem_filter.1 h).1
                    have HLB : Hid ((both a b v).length ≤ a.length + b.length) := by
                      show _ ≤ _
                      unfold both
                      rw [List.length_append]
                      exact Nat.add_le_add (List.length_filter_le _ _) (List.length_filter_le _ _)
                    go_wp2_with fail
                    refine (rclean_any fa fn fc (both a b v) wr HI.out (by omega)).mono ?_
                    rintro e w5 ⟨hk5, hp⟩
                    have HK5 := Lib.hid (HKI.out.trans hk5)
                    clear hk5
                    rcases hp with ⟨hno, rfl⟩ | ⟨r, k, c', K, hyes, rfl, hI, _, hl, _⟩
                    · have HNO := Lib.hid hno
                      clear hno
                      go_wp2
                      go_ret2
                      exact ⟨HK5.out, Or.inl ⟨Or.inr HNO.out, rfl⟩⟩
                    · have HYES := Lib.hid hyes
                      have HIK := Lib.hid hI
                      have HLK := Lib.hid (Nat.le_trans hl HLB.out)
                      clear hyes hI hl
                      go_wp2
                      go_ret2
                      exact ⟨HK5.out, Or.inr ⟨HOK.out, r, k, c', K, HYES.out, rfl, HIK.out, HLK.out⟩⟩
end Go.Proofs.YtlikokeknfhejaaGreatDoor

namespace Go.Proofs.YtlikokeknfhejaaGreatDoor
open Go Go.RowKit Go.Lib

def CF (L K : List Int) (ok : Bool) : Prop := (ok = true ∧ CleanRes L (some K)) ∨ (ok = false ∧ K = [] ∧ CleanRes L none)
theorem CF.eq {L K1 K2 : List Int} {o1 o2 : Bool} (h : CF L K1 o1) (k : CF L K2 o2) : K2 = K1 ∧ o2 = o1 := by
  rcases h with ⟨rfl, h⟩ | ⟨rfl, rfl, h⟩ <;> rcases k with ⟨rfl, k⟩ | ⟨rfl, rfl, k⟩
  · exact ⟨(Option.some.inj (CleanRes.eq h k)).symm, rfl⟩
  · have := CleanRes.eq h k; cases this
  · have := CleanRes.eq h k; cases this
  · exact ⟨rfl, rfl⟩
theorem CleanPost.told {L : List Int} {w w' : World} {e : Ending} (h : CleanPost L w e w') : Kept w w' ∧ ∃ a k c ok K, e = .returned (.tuple #[.slice a k c, .bool ok]) ∧ IntsAt w' a k K ∧ CF L K ok ∧ K.length ≤ L.length := by
  obtain ⟨hk, ⟨h1, rfl⟩ | ⟨a, k, c, K, h1, rfl, h2, _, h3, _⟩⟩ := h
  · exact ⟨hk, none, 0, 0, false, [], rfl, IntsAt.nil _ _, Or.inr ⟨rfl, rfl, h1⟩, Nat.zero_le _⟩
  · exact ⟨hk, a, k, c, true, K, rfl, h2, Or.inl ⟨rfl, h1⟩, h3⟩
def RF (a b : List Int) (v : Int) (K : List Int) (ok : Bool) : Prop := (ok = true ∧ ResOk a b v ∧ CleanRes (both a b v) (some K)) ∨ (ok = false ∧ K = [] ∧ (¬ ResOk a b v ∨ CleanRes (both a b v) none))
theorem RF.eq {a b K1 K2 : List Int} {v : Int} {o1 o2 : Bool} (h : RF a b v K1 o1) (k : RF a b v K2 o2) : K2 = K1 ∧ o2 = o1 := by
  rcases h with ⟨rfl, h0, h⟩ | ⟨rfl, rfl, h⟩ <;> rcases k with ⟨rfl, k0, k⟩ | ⟨rfl, rfl, k⟩
  · exact ⟨(Option.some.inj (CleanRes.eq h k)).symm, rfl⟩
  · rcases k with k | k
    · exact absurd h0 k
    · have := CleanRes.eq h k; cases this
  · rcases h with h | h
    · exact absurd k0 h
    · have := CleanRes.eq h k; cases this
  · exact ⟨rfl, rfl⟩
theorem ResPost.told {a b : List Int} {v : Int} {w w' : World} {e : Ending} (h : ResPost a b v w e w') : Kept w w' ∧ ∃ r k c ok K, e = .returned (.tuple #[.slice r k c, .bool ok]) ∧ IntsAt w' r k K ∧ RF a b v K ok ∧ K.length ≤ a.length + b.length := by
  obtain ⟨hk, ⟨h1, rfl⟩ | ⟨h0, r, k, c, K, h1, rfl, h2, h3⟩⟩ := h
  · exact ⟨hk, none, 0, 0, false, [], rfl, IntsAt.nil _ _, Or.inr ⟨rfl, rfl, h1⟩, Nat.zero_le _⟩
  · exact ⟨hk, r, k, c, true, K, rfl, h2, Or.inl ⟨rfl, h0, h1⟩, h3⟩
set_option maxRecDepth 100000 in
set_option maxHeartbeats 16000000 in
theorem clauseholds_any (V : Int) (ca ma la lb : Option Addr) (cn cc n c p pc q qc : Nat) (C : List (List Int)) (M : List Bool) (a b : List Int) (v : Int) (w : World) (hV : InR V) (hC : ClsAt w ca cn C) (hFC : Fit ca cn cc) (hM : BoolsAt w ma n M) (hA : IntsAt w la p a) (hFA : Fit la p pc) (hB : IntsAt w lb q b) (hFB : Fit lb q qc) (hv : InR v) (hW : Laid w) (hn : n ≤ 100) (hp : p ≤ 30) (hq : q ≤ 30) :
    Calls Tryz.prog 8 #[.agg #[.int .i64 V, .slice ca cn cc], .slice ma n c, .slice la p pc, .slice lb q qc, .int .i64 v] w fun e w' => e = .returned (.bool true) ∧ Kept w w' := by
  have HK0 := Lib.hid ((Kept.refl w).alloc (fObj V ca cn cc))
  have HC := Lib.hid (hC.kept HK0.out)
  have HM := Lib.hid (hM.kept HK0.out)
  have HA := Lib.hid (hA.kept HK0.out)
  have HBB := Lib.hid (hB.kept HK0.out)
  have HW := Lib.hid (hW.kept HK0.out)
  have HB := Lib.hid (MapKept.heap_alloc w (fObj V ca cn cc)).1
  have HV := Lib.hid hV
  have HVV := Lib.hid hv
  have HFC := Lib.hid hFC
  have HFA := Lib.hid hFA
  have HFB := Lib.hid hFB
  clear hC hM hA hB hW hV hv hFC hFA hFB
  go_enter Tryz.func8, Tryz.ntmps8
  go_upto_region 1 with (fail)
  change Code.wp _ _ _ _ (w.alloc (fObj V ca cn cc))
  generalize w.alloc (fObj V ca cn cc) = W at *
  obtain ⟨fb, hfb⟩ : ∃ b : Nat, b = w.heap.size := ⟨_, rfl⟩
  rw [← hfb] at HB ⊢
  clear hfb
  obtain ⟨f0, f1⟩ := box_facts HB.out (Kept.refl W)
  go_wp2_with fail
  refine (few_any V 60 ca cn cc C W HC.out (Nat.le_trans HFC.out.2.1 HFC.out.2.2) (by unfold InR; decide)).mono ?_
  rintro e w1 ⟨rfl, hk1⟩
  have HK1 := Lib.hid hk1
  clear hk1 f0 f1
  cases hfew : fewF C 60 with
  | false =>
    clear hfew
    go_wp2_with fail
    refine (works_any _ (HW.out.kept HK1.out)).mono ?_
    rintro e w2 ⟨rfl, hk2⟩
    have HK2 := Lib.hid (HK0.out.trans (HK1.out.trans hk2))
    clear hk2
    go_wp2
    go_ret
    exact ⟨rfl, HK2.out⟩
  | true =>
  have HFW : Hid (C.length ≤ 60 ∧ ∀ c ∈ C, c.length ≤ 30) := by
    have := fewt_len hfew
    exact ⟨by omega, this.2⟩
  clear hfew
  have hcn : cn ≤ 60 := by rw [← HC.out.len]; exact HFW.out.1
  have HSH : Hid (∀ c ∈ C, c.length ≤ 1000000) := fun c hc => Nat.le_trans (HFW.out.2 c hc) (by decide)
  have d100 : decide ((100 : Int) < (n : Int)) = false := decide_eq_false (by omega)
  have d30 : decide ((30 : Int) < (p : Int)) = false := decide_eq_false (by omega)
  have d31 : decide ((30 : Int) < (q : Int)) = false := decide_eq_false (by omega)
  obtain ⟨f0, f1⟩ := box_facts HB.out HK1.out
  go_wp2_with fail
  refine (fplain_any V ca cn cc w1).mono ?_
  rintro e w2 ⟨rfl, hk2⟩
  have HK2 := Lib.hid (HK1.out.trans hk2)
  clear hk2 f0 f1 d100 d30 d31
  go_upto_region 4 with (fail)
  have HBM := Lib.hid (MapKept.heap_alloc w2 (mObj V ca cn cc)).1
  have HKM := Lib.hid (HK2.out.trans ((Kept.refl w2).alloc (mObj V ca cn cc)))
  change Code.wp _ _ _ _ (w2.alloc (mObj V ca cn cc))
  generalize w2.alloc (mObj V ca cn cc) = W3 at *
  obtain ⟨mb, hmb⟩ : ∃ b : Nat, b = w2.heap.size := ⟨_, rfl⟩
  rw [← hmb] at HBM ⊢
  clear hmb
  go_wp2_with fail
  refine (clean_any la p pc a W3 (HA.out.kept HKM.out) (by omega) HFA.out.1).mono ?_
  rintro e w4 hpost
  obtain ⟨hk4, xa, xk, xc, o1, K1, rfl, hI1, hF1, hl1⟩ := hpost.told
  have HK4 := Lib.hid hk4; have HI1 := Lib.hid hI1; have HF1 := Lib.hid hF1; have HL1 := Lib.hid hl1
  have HKW4 := Lib.hid (HKM.out.trans hk4)
  clear hpost hk4 hI1 hF1 hl1
  go_wp2_with fail
  refine (rclean_any la p pc a w4 (HA.out.kept HKW4.out) (by omega)).mono ?_
  rintro e w5 hpost
  obtain ⟨hk5, ya, yk, yc, o2, K2, rfl, hI2, hF2, _⟩ := hpost.told
  obtain ⟨rfl, rfl⟩ : K1 = K2 ∧ o1 = o2 := ⟨(HF1.out.eq hF2).1.symm, (HF1.out.eq hF2).2.symm⟩
  have HK5 := Lib.hid (HK4.out.trans hk5); have HI2 := Lib.hid hI2; have HI15 := Lib.hid (HI1.out.kept hk5)
  have HKW5 := Lib.hid (HKW4.out.trans hk5)
  clear hpost hk5 hI2 hF2
  go_wp2_with fail
  refine (resolve_any la lb p pc q qc a b v w5 (HA.out.kept HKW5.out) (HBB.out.kept HKW5.out) (by omega) (by omega) HFA.out.1 HFB.out.1 HVV.out).mono ?_
  rintro e w6 hpost
  obtain ⟨hk6, ra, rk, rc, o3, K3, rfl, hI3, hF3, hl3⟩ := hpost.told
  have HK6 := Lib.hid (HK5.out.trans hk6); have HI3 := Lib.hid hI3; have HF3 := Lib.hid hF3; have HL3 := Lib.hid hl3
  have HI16 := Lib.hid (HI15.out.kept hk6); have HI26 := Lib.hid (HI2.out.kept hk6)
  have HKW6 := Lib.hid (HKW5.out.trans hk6)
  clear hpost hk6 hI3 hF3 hl3
  go_wp2_with fail
  refine (rresolve_any la lb p pc q qc a b v w6 (HA.out.kept HKW6.out) (HBB.out.kept HKW6.out) (by omega) (by omega) HVV.out).mono ?_
  rintro e w7 hpost
  obtain ⟨hk7, sa, sk, sc, o4, K4, rfl, hI4, hF4, _⟩ := hpost.told
  obtain ⟨rfl, rfl⟩ : K3 = K4 ∧ o3 = o4 := ⟨(HF3.out.eq hF4).1.symm, (HF3.out.eq hF4).2.symm⟩
  have HK7 := Lib.hid (HK6.out.trans hk7); have HI4 := Lib.hid hI4; have HI37 := Lib.hid (HI3.out.kept hk7)
  have HI17 := Lib.hid (HI16.out.kept hk7); have HI27 := Lib.hid (HI26.out.kept hk7)
  have HKW7 := Lib.hid (HKW6.out.trans hk7)
  have hxk : xk ≤ 30 := by have h1 := HI17.out.len; have h2 := HL1.out; have h3 := HA.out.len; omega
  have hrk : rk ≤ 60 := by have h1 := HI37.out.len; have h2 := HL3.out; have h3 := HA.out.len; have h4 := HBB.out.len; omega
  clear hpost hk7 hI4 hF4
  have FN : Hid (∀ w', Kept w7 w' → Kept w7 w' ∧ (w'.cell? ⟨fb, 0, none⟩ = some (.int .i64 V) ∧ w'.cell? ⟨fb, 1, none⟩ = some (.slice ca cn cc)) ∧ w'.cell? ⟨mb, 0, none⟩ = some (.int .i64 V) ∧ w'.cell? ⟨mb, 1, none⟩ = some (.slice ca cn cc)) := fun w' hk =>
    ⟨hk, box_facts HB.out (HKW7.out.trans hk), rbox_facts HBM.out (HK7.out.trans hk)⟩
  have HR1 : Hid (∀ w', Kept w7 w' → Calls Tryz.prog 11 #[.agg #[.int .i64 V, .slice ca cn cc]] w' fun e w'' => e = .returned (.bool (rightB V C)) ∧ Kept w' w'') := fun w' hk =>
    right_any V ca cn cc C w' HV.out (HC.out.kept (HKW7.out.trans hk)) (by omega) (fun c hc => Nat.le_trans (HSH.out c hc) (by decide))
  have HR2 : Hid (∀ w', Kept w7 w' → Calls Tryz.prog 45 #[.agg #[.int .i64 V, .slice ca cn cc]] w' fun e w'' => e = .returned (.bool (rightB V C)) ∧ Kept w' w'') := fun w' hk =>
    rright_any V ca cn cc C w' HV.out (HC.out.kept (HKW7.out.trans hk)) (by omega) HSH.out
  have HH1 : Hid (∀ w', Kept w7 w' → Calls Tryz.prog 25 #[.agg #[.int .i64 V, .slice ca cn cc], .slice ma n c] w' fun e w'' => e = .returned (.bool (holdsB V C M)) ∧ Kept w' w'') := fun w' hk =>
    holds_any V ca ma cn cc n c C M w' HV.out (HC.out.kept (HKW7.out.trans hk)) (by omega) HSH.out (HM.out.kept (HKW7.out.trans hk)) (by omega)
  have HH2 : Hid (∀ w', Kept w7 w' → Calls Tryz.prog 46 #[.agg #[.int .i64 V, .slice ca cn cc], .slice ma n c] w' fun e w'' => e = .returned (.bool (holdsB V C M)) ∧ Kept w' w'') := fun w' hk =>
    rholds_any V ca ma cn cc n c C M w' HV.out (HC.out.kept (HKW7.out.trans hk)) (by omega) HSH.out (HM.out.kept (HKW7.out.trans hk)) (by omega)
  have HSM : Hid (∀ (u1 u2 : Value) (w' : World), Kept w7 w' → ((u1 = .slice xa xk xc ∧ u2 = .slice ya yk yc) ∨ (u1 = .slice ra rk rc ∧ u2 = .slice sa sk sc)) → Calls Tryz.prog 47 #[u1, u2] w' fun e w'' => e = .returned (.bool true) ∧ Kept w' w'') := fun u1 u2 w' hk hu => by
    rcases hu with ⟨rfl, rfl⟩ | ⟨rfl, rfl⟩
    · exact same_true xa ya xk xc yk yc K1 K1 w' (HI17.out.kept hk) (HI27.out.kept hk) rfl (by omega)
    · exact same_true ra sa rk rc sk sc K3 K3 w' (HI37.out.kept hk) (HI4.out.kept hk) rfl (by omega)
  have HWK : Hid (∀ w', Kept w7 w' → Calls Tryz.prog 12 #[] w' fun e w'' => e = .returned (.bool true) ∧ Kept w' w'') := fun w' hk => works_any w' (HW.out.kept (HKW7.out.trans hk))
  have HKE0 := Lib.hid (HK0.out.trans HKW7.out)
  clear HF1 HF3 HL1 HL3 HI1 HI15 HI16 HI17 HI2 HI26 HI27 HI3 HI37 HI4 HK1 HK2 HKM HK4 HK5 HK6 HK7 HKW4 HKW5 HKW6 HKW7 HC HM HA HBB HW HB HBM HFC HFA HFB HV HVV HFW HSH
  generalize rightB V C = rb at *
  generalize holdsB V C M = hb at *
  have b1 : (rb == rb) = true := by simp
  have b2 : (hb == hb) = true := by simp
  have b3 : (o1 == o1) = true := by simp
  have b4 : (o3 == o3) = true := by simp
  go_upto_region 8 with (fail)
  go_region_held3 (fun w' => Kept w7 w' ∧ (w'.cell? ⟨fb, 0, none⟩ = some (.int .i64 V) ∧ w'.cell? ⟨fb, 1, none⟩ = some (.slice ca cn cc)) ∧ w'.cell? ⟨mb, 0, none⟩ = some (.int .i64 V) ∧ w'.cell? ⟨mb, 1, none⟩ = some (.slice ca cn cc))
    (first | exact FN.out _ (Kept.refl _) | exact FN.out _ (Kept.drew (Kept.refl _)) | assumption | exact FN.out _ (Kept.trans (And.left ‹Kept w7 _ ∧ _›) (by assumption)))
    ((first
      | (go_at_call 11; refine (HR1.out _ (And.left ‹Kept w7 _ ∧ _›)).mono ?_; rintro e w10 ⟨rfl, hk10⟩)
      | (go_at_call 45; refine (HR2.out _ (And.left ‹Kept w7 _ ∧ _›)).mono ?_; rintro e w10 ⟨rfl, hk10⟩)
      | (go_at_call 25; refine (HH1.out _ (And.left ‹Kept w7 _ ∧ _›)).mono ?_; rintro e w10 ⟨rfl, hk10⟩)
      | (go_at_call 46; refine (HH2.out _ (And.left ‹Kept w7 _ ∧ _›)).mono ?_; rintro e w10 ⟨rfl, hk10⟩)
      | (go_at_call 47; refine (HSM.out _ _ _ (And.left ‹Kept w7 _ ∧ _›) (by first | exact Or.inl ⟨rfl, rfl⟩ | exact Or.inr ⟨rfl, rfl⟩)).mono ?_; rintro e w10 ⟨rfl, hk10⟩)
      | (go_at_call 12; refine (HWK.out _ (And.left ‹Kept w7 _ ∧ _›)).mono ?_; rintro e w10 ⟨rfl, hk10⟩)))
  have HKE := Lib.hid (HKE0.out.trans (And.left ‹Kept w7 _ ∧ _›))
  go_wp2
  go_ret
  exact ⟨rfl, HKE.out⟩
end Go.Proofs.YtlikokeknfhejaaGreatDoor
