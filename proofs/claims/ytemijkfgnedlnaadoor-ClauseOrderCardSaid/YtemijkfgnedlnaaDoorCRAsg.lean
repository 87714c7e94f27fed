/-
  Layer 5: the contract of the reference's Assign.
-/
import Derived.Test.YtemijkfgnedlnaaDoorCOwnI
import Derived.Test.YtemijkfgnedlnaaDoorCAssign
import Derived.Deep.DeepCutAuto
namespace Go.Proofs.YtemijkfgnedlnaaDoor
open Go Go.RowKit Go.Sort Go.Lib

abbrev zM : Obj := .cells #[.int .i64 0, .slice none 0 0] 28
def OkTo (V : Int) (lits : List Int) (j : Nat) : Prop := ∀ x ∈ lits.take j, litB V x = true ∧ hasI lits (-x) = false
theorem OkTo.snoc {V : Int} {lits : List Int} {j : Nat} {x : Int} (h : OkTo V lits j) (hx : lits[j]? = some x) (h1 : litB V x = true) (h2 : hasI lits (-x) = false) : OkTo V lits (j + 1) := by
  intro y hy
  rw [List.take_succ_eq_append_getElem (List.getElem?_eq_some_iff.1 hx).1, (List.getElem?_eq_some_iff.1 hx).2] at hy
  rcases List.mem_append.1 hy with hy | hy
  · exact h y hy
  · rw [List.mem_singleton.1 hy]; exact ⟨h1, h2⟩
theorem OkTo.ok {V : Int} {C : List (List Int)} {lits : List Int} (h : OkTo V lits lits.length) (hr : rightB V C = true) : AsgOk V C lits := by
  unfold OkTo at h
  rw [List.take_length] at h
  exact ⟨hr, (allB_iff V lits).2 fun x hx => (litB_iff V x).1 (h x hx).1, fun x hx => (hasI_no _ _).1 (h x hx).2⟩
theorem not_ok_lit {V : Int} {C : List (List Int)} {lits : List Int} {x : Int} (hx : x ∈ lits) (h : litB V x = false) : ¬ AsgOk V C lits := fun k => by
  have := (litB_iff V x).2 ((allB_iff V lits).1 k.2.1 x hx)
  rw [h] at this; cases this
theorem not_ok_has {V : Int} {C : List (List Int)} {lits : List Int} {x : Int} (hx : x ∈ lits) (h : hasI lits (-x) = true) : ¬ AsgOk V C lits := fun k => k.2.2 x hx ((hasI_iff _ _).1 h)

set_option maxRecDepth 100000 in
set_option maxHeartbeats 8000000 in
theorem rassign_any (V : Int) (ca la : Option Addr) (cn cc n c : Nat) (C : List (List Int)) (lits : List Int) (w : World) (hV : InR V) (hC : ClsAt w ca cn C) (hcn : cn ≤ 1000000) (hS : ∀ c ∈ C, c.length ≤ 1000000) (hL : IntsAt w la n lits) (hn : n ≤ 1000000) :
    Calls Tryd.prog 10 #[.agg #[.int .i64 V, .slice ca cn cc], .slice la n c] w (AsgPost V C lits w) := by
  have HC := Lib.hid hC; have HL := Lib.hid hL; have HS := Lib.hid hS; clear hC hL hS
  have HLN := Lib.hid HC.out.len
  have HLL := Lib.hid HL.out.len
  have HVR := Lib.hid hV; clear hV
  obtain ⟨B, hBe⟩ : ∃ B : Nat, B = w.heap.size := ⟨_, rfl⟩
  obtain ⟨R0, hRe⟩ : ∃ R0 : Nat, R0 = w.heap.size + 1 := ⟨_, rfl⟩
  have e2 : (w.alloc (rObj V ca cn cc)).heap.size = w.heap.size + 1 := by simp
  have HB := Lib.hid (MapKept.heap_alloc w (rObj V ca cn cc)).1
  have HR := Lib.hid (MapKept.heap_alloc (w.alloc (rObj V ca cn cc)) zM).1
  rw [e2, ← hRe] at HR
  rw [← hBe] at HB
  have HK0 := Lib.hid (((Kept.refl w).alloc (rObj V ca cn cc)).alloc zM)
  have HB1 : Hid (((w.alloc (rObj V ca cn cc)).alloc zM).heap[B]? = some (rObj V ca cn cc)) := ((Kept.refl _).alloc _).row HB.out
  have HRL := Lib.hid (show w.heap.size ≤ R0 by omega)
  clear e2
  go_enter Tryd.func10, Tryd.ntmps10
  go_upto_region 1 with (fail)
  rw [← hRe, ← hBe]
  obtain ⟨w1, hw1⟩ : ∃ w1 : World, w1 = (w.alloc (rObj V ca cn cc)).alloc zM := ⟨_, rfl⟩
  change Code.wp _ _ _ _ ((w.alloc (rObj V ca cn cc)).alloc zM)
  rw [← hw1] at HB1 HR HK0 ⊢
  clear hw1 hBe hRe HB
  obtain ⟨y0, y1⟩ := rbox_facts HB1.out (Kept.refl w1)
  obtain ⟨r0, r1⟩ := rbox_facts HR.out (Kept.refl w1)
  have HCR := Lib.hid (rright_any V ca cn cc C w1 HVR.out (HC.out.kept HK0.out) hcn HS.out)
  cases hr : rightB V C with
  | false =>
    have HNO : Hid (¬ AsgOk V C lits) := fun h => by have h1 := h.1; rw [hr] at h1; cases h1
    rw [hr] at HCR
    clear hr
    go_wp2_with fail
    refine HCR.out.mono ?_
    rintro e w2 ⟨rfl, hk2⟩
    have HK2 := Lib.hid hk2
    have f0 := frozen_of_row (hk2.row HR.out) 0
    have f1 := frozen_of_row (hk2.row HR.out) 1
    replace r0 := hk2.cell r0; replace r1 := hk2.cell r1
    clear hk2 y0 y1 HCR
    go_wp2
    have HR4 := Lib.hid (set2 (u := .int .i64 0) (v := .slice none 0 0) (HK2.out.row HR.out))
    have HK4 := Lib.hid (((HK0.out.trans HK2.out).setCell (p := ⟨R0, 0, none⟩) HRL.out (.int .i64 0)).setCell (p := ⟨R0, 1, none⟩) HRL.out (.slice none 0 0))
    generalize (w2.setCell ⟨R0, 0, none⟩ (.int .i64 0)).setCell ⟨R0, 1, none⟩ (.slice none 0 0) = w4 at *
    clear r0 r1 f0 f1
    obtain ⟨r0, r1⟩ := rbox_facts HR4.out (Kept.refl w4)
    exact bodyPost_ret (v := .tuple #[.agg #[.int .i64 0, .slice none 0 0], .bool false]) (by simp [results, Tryd.results10, go_sem, r0, r1]) rfl ⟨HK4.out, Or.inl ⟨HNO.out, rfl⟩⟩
  | true =>
    rw [hr] at HCR
    have HRR := Lib.hid hr; clear hr
    have HRI := Lib.hid ((rightB_iff V C).1 HRR.out)
    have v0 := HRI.out.1
    have v1 := HRI.out.2.1
    go_wp2_with fail
    refine HCR.out.mono ?_
    rintro e w2 ⟨rfl, hk2⟩
    have HK2 := Lib.hid hk2
    clear hk2 y0 y1 r0 r1 HCR
    go_wp2
    go_loopw [6] (fun i wr => ∃ j : Nat, j ≤ n ∧ i = .int .i64 j ∧ OkTo V lits j ∧ Kept w1 wr) (fun i _ => n - (intOf i).toNat)
    case atStart => exact ⟨0, Nat.zero_le _, rfl, (fun x hx => by simp at hx), HK2.out⟩
    case round =>
      obtain ⟨j, hj, rfl, hok, hK⟩ := hrel
      have HOK := Lib.hid hok
      have HK1 := Lib.hid hK
      clear hok hK
      have j0 : (0 : Int) ≤ (j : Int) := Int.natCast_nonneg _
      obtain ⟨y0, y1⟩ := rbox_facts HB1.out HK1.out
      by_cases hjn : j < n
      · have j1 : (j : Int) < (n : Int) := by omega
        have HLK := Lib.hid (HL.out.kept (HK0.out.trans HK1.out))
        obtain ⟨b, off, rfl, hc⟩ := HLK.out.at_ (by omega)
        have hjl : j < lits.length := by rw [HLL.out]; exact hjn
        obtain ⟨l, hl⟩ : ∃ l, lits[j]? = some l := ⟨_, List.getElem?_eq_getElem hjl⟩
        have x0 := hc j l hl
        have HX := Lib.hid hl
        have hlr := HLK.out.inr l (List.mem_of_getElem? hl)
        obtain ⟨l0, l1⟩ : -9223372036854775808 ≤ l ∧ l ≤ 9223372036854775807 := hlr
        have HLC : Hid (∀ w, Calls Tryd.prog 30 #[.int .i64 l, .int .i64 V] w fun e w' => e = .returned (.bool (litB V l)) ∧ w' = w) := fun w => (lit_any l V w (by omega) (by omega)).mono fun _ _ h => ⟨h.1, h.2.symm⟩
        clear hc hl hjl
        cases hlt : litB V l with
        | false =>
          rw [hlt] at HLC
          have HNO := Lib.hid (not_ok_lit (C := C) (List.mem_of_getElem? HX.out) hlt)
          clear hlt
          go_wp2_with fail
          go_quiet ((go_at_call 30; exact Calls.quiet_of_same (HLC.out _)))
          have HK5 := Lib.hid (Kept.drewN HK1.out nq)
          generalize wr.drewN nq = w5 at *
          clear y0 y1 x0
          have f0 := frozen_of_row (HK5.out.row HR.out) 0
          have f1 := frozen_of_row (HK5.out.row HR.out) 1
          obtain ⟨r0, r1⟩ := rbox_facts HR.out HK5.out
          go_wp2
          have HR4 := Lib.hid (set2 (u := .int .i64 0) (v := .slice none 0 0) ((HK5.out).row HR.out))
          have HK4 := Lib.hid (((HK0.out.trans (HK5.out)).setCell (p := ⟨R0, 0, none⟩) HRL.out (.int .i64 0)).setCell (p := ⟨R0, 1, none⟩) HRL.out (.slice none 0 0))
          generalize (w5.setCell ⟨R0, 0, none⟩ (.int .i64 0)).setCell ⟨R0, 1, none⟩ (.slice none 0 0) = w4 at *
          clear r0 r1 f0 f1
          obtain ⟨r0, r1⟩ := rbox_facts HR4.out (Kept.refl w4)
          exact bodyPost_ret (v := .tuple #[.agg #[.int .i64 0, .slice none 0 0], .bool false]) (by simp [results, Tryd.results10, go_sem, r0, r1]) rfl ⟨HK4.out, Or.inl ⟨HNO.out, rfl⟩⟩
        | true =>
          rw [hlt] at HLC
          have hlv := (litB_iff V l).1 hlt
          have l2 : -16777216 ≤ l := by omega
          have l3 : l ≤ 16777216 := by omega
          have HLT := Lib.hid hlt
          clear hlt hlv
          cases hneg : hasI lits (-l) with
          | true =>
            have HNO := Lib.hid (not_ok_has (V := V) (C := C) (List.mem_of_getElem? HX.out) hneg)
            have HNG := Lib.hid hneg
            clear hneg
            go_wp2_with fail
            go_quiet ((first | (go_at_call 30; exact Calls.quiet_of_same (HLC.out _)) | (go_at_call 31; exact Calls.quiet_of_same (has_true (-l) (by first | exact HLK.out | exact HLK.out.kept (Kept.drewN (Kept.refl _) _) | exact HLK.out.kept (Kept.drew (Kept.refl _))) (by omega) HNG.out))))
            have HK5 := Lib.hid (Kept.drewN HK1.out nq)
            generalize wr.drewN nq = w5 at *
            clear y0 y1 x0
            have f0 := frozen_of_row (HK5.out.row HR.out) 0
            have f1 := frozen_of_row (HK5.out.row HR.out) 1
            obtain ⟨r0, r1⟩ := rbox_facts HR.out HK5.out
            go_wp2
            have HR4 := Lib.hid (set2 (u := .int .i64 0) (v := .slice none 0 0) ((HK5.out).row HR.out))
            have HK4 := Lib.hid (((HK0.out.trans (HK5.out)).setCell (p := ⟨R0, 0, none⟩) HRL.out (.int .i64 0)).setCell (p := ⟨R0, 1, none⟩) HRL.out (.slice none 0 0))
            generalize (w5.setCell ⟨R0, 0, none⟩ (.int .i64 0)).setCell ⟨R0, 1, none⟩ (.slice none 0 0) = w4 at *
            clear r0 r1 f0 f1
            obtain ⟨r0, r1⟩ := rbox_facts HR4.out (Kept.refl w4)
            exact bodyPost_ret (v := .tuple #[.agg #[.int .i64 0, .slice none 0 0], .bool false]) (by simp [results, Tryd.results10, go_sem, r0, r1]) rfl ⟨HK4.out, Or.inl ⟨HNO.out, rfl⟩⟩
          | false =>
            have HNG := Lib.hid hneg
            clear hneg
            go_wp2_with fail
            go_quiet ((first | (go_at_call 30; exact Calls.quiet_of_same (HLC.out _)) | (go_at_call 31; exact Calls.quiet_of_same (has_false (-l) (by first | exact HLK.out | exact HLK.out.kept (Kept.drewN (Kept.refl _) _) | exact HLK.out.kept (Kept.drew (Kept.refl _))) (by omega) HNG.out))))
            go_wp2
            go_roundw
            case rel => exact ⟨j + 1, by omega, by go_num, HOK.out.snoc HX.out HLT.out HNG.out, Kept.drewN HK1.out _⟩
            case measure => simp [intOf]; omega
      · obtain rfl : n = j := by omega
        have hok := HOK.out
        rw [← HLL.out] at hok
        have HOKA := Lib.hid (hok.ok HRR.out)
        clear hok HOK
        obtain ⟨w6, rfl⟩ : ∃ w6 : World, w6 = wr := ⟨_, rfl⟩
        have HKW6 := Lib.hid (HK0.out.trans HK1.out)
        have HB6 := Lib.hid (HK1.out.row HB1.out)
        have HR6 := Lib.hid (HK1.out.row HR.out)
        have HH := Lib.hid (MapKept.heap_alloc w6 (f2Obj V none 0 0 28)).1
        have HKH := Lib.hid ((Kept.refl w6).alloc (f2Obj V none 0 0 28))
        clear HB1 HR HK1 HK0 HK2
        go_upto_region 9 with (fail)
        obtain ⟨h, hh⟩ : ∃ h : Nat, h = w6.heap.size := ⟨_, rfl⟩
        rw [← hh] at HH ⊢
        obtain ⟨w7, hw7⟩ : ∃ w7 : World, w7 = w6.alloc (f2Obj V none 0 0 28) := ⟨_, rfl⟩
        change Code.wp _ _ _ _ (w6.alloc (f2Obj V none 0 0 28))
        rw [← hw7] at HH HKH ⊢
        have HHE := Lib.hid hh
        have HWH : Hid (w.heap.size ≤ h ∧ h < w7.heap.size ∧ B < h ∧ R0 < h) :=
          ⟨by rw [HHE.out]; exact HKW6.out.size, (Array.getElem?_eq_some_iff.1 HH.out).1, by rw [HHE.out]; exact (Array.getElem?_eq_some_iff.1 HB6.out).1, by rw [HHE.out]; exact (Array.getElem?_eq_some_iff.1 HR6.out).1⟩
        clear hw7 hh y0 y1
        have HKW7 := Lib.hid (HKW6.out.trans HKH.out)
        have HR7 := Lib.hid (HKH.out.row HR6.out)
        have HB7 := Lib.hid (HKH.out.row HB6.out)
        clear HR6 HB6 HKH HKW6
        obtain ⟨ii, hi, hz0, hz1, hz2⟩ := info_parts infoInts
        have HI := Lib.hid (And.intro hi (And.intro hz0 (And.intro hz1 hz2))); clear hi hz0 hz1 hz2
        go_wp2
        go_loopw [8] (fun i wr => ∃ (jj : Nat) (a : Option Addr) (k c' : Nat) (vs : List Value), jj ≤ cn ∧ i = .int .i64 jj ∧ wr.heap[h]? = some (f2Obj V a k c' 28) ∧ RowsV w7.heap.size wr (TG (fun q => q ≤ h) a) a k c' vs (asg (C.take jj) lits) ∧ Turned (fun q => q = h) w7 wr) (fun i _ => cn - (intOf i).toNat)
        case atStart => exact ⟨0, none, 0, 0, [], Nat.zero_le _, rfl, HH.out, RowsV.nil _ _ _, Turned.refl _ _⟩
        case round =>
          obtain ⟨jj, a, k, c', vs, hj, rfl, hblk, hrows, ht⟩ := hrel
          have HBK := Lib.hid hblk; have HRW := Lib.hid hrows; have HT := Lib.hid ht
          have HKWR := Lib.hid (ht.from HKW7.out fun q hq e => by have := HWH.out.1; omega)
          have HBR : Hid (wr.heap[B]? = some (rObj V ca cn cc)) := (ht.block B (Array.getElem?_eq_some_iff.1 HB7.out).1 (by have := HWH.out; omega)).trans HB7.out
          clear hblk hrows ht
          have j0 : (0 : Int) ≤ (jj : Int) := Int.natCast_nonneg _
          by_cases hjn : jj < cn
          · have j1 : (jj : Int) < (cn : Int) := by omega
            have HCW := Lib.hid (HC.out.kept HKWR.out)
            obtain ⟨b, off, rfl, hc⟩ := HCW.out.at_ (by omega)
            have hjl : jj < C.length := by rw [HLN.out]; exact hjn
            obtain ⟨cl, hcj⟩ : ∃ c, C[jj]? = some c := ⟨_, List.getElem?_eq_getElem hjl⟩
            obtain ⟨a2, k2, cap2, x0, hIc, hz2, hkc⟩ := hc jj cl hcj
            have HX0 := Lib.hid x0
            have HIC := Lib.hid hIc
            have hk2 : k2 ≤ 1000000 := by have := HS.out cl (List.mem_of_getElem? hcj); rw [hIc.len] at this; exact this
            have HTK := Lib.hid (show C.take (jj + 1) = C.take jj ++ [cl] by rw [List.take_succ_eq_append_getElem hjl, (List.getElem?_eq_some_iff.1 hcj).2])
            have HLT := Lib.hid (fun (y : Int) (hy : y ∈ cl) => HRI.out.2.2.2 cl (List.mem_of_getElem? hcj) y hy)
            clear hc hcj hjl hIc hz2 hkc x0
            obtain ⟨wo, rfl⟩ : ∃ wo : World, wo = wr := ⟨_, rfl⟩
            obtain ⟨y0, y1⟩ := rbox_facts HBR.out (Kept.refl wo)
            go_wp2
            clear y0 y1
            go_loopw [9, 10, 11] (fun v9 v10 i wr => ∃ (t : Nat) (a3 : Option Addr) (k3 c3 : Nat), t ≤ k2 ∧ i = .int .i64 t ∧ v9 = .slice a3 k3 c3 ∧ Hid (v10 = .bool ((cl.take t).any (hasI lits))) ∧ k3 = ((cl.take t).filter fun x => !hasI lits (-x)).length ∧ wr.ownsRow wo.heap.size 3 1 (.slice a3 k3 c3) k3 (((cl.take t).filter fun x => !hasI lits (-x)).map (Value.int .i64)) ∧ Kept wo wr) (fun _ _ i _ => k2 - (intOf i).toNat)
            case atStart => exact ⟨0, none, 0, 0, Nat.zero_le _, rfl, rfl, rfl, rfl, World.ownsRow_nil _ _ _ _, Kept.refl _⟩
            case round =>
              obtain ⟨t, a3, k3, c3, ht, rfl, rfl, hv10, hk3, hrow, hK⟩ := hrel
              have HROW := Lib.hid hrow; have HK3 := Lib.hid hk3; have HKI := Lib.hid hK
              clear hrow hk3 hK
              obtain ⟨hb, hhb⟩ : ∃ hb : Bool, hb = (cl.take t).any (hasI lits) := ⟨_, rfl⟩
              have hv := hv10.out
              rw [← hhb] at hv
              subst hv
              have HHB := Lib.hid hhb
              clear hhb hv10
              have t0 : (0 : Int) ≤ (t : Int) := Int.natCast_nonneg _
              obtain ⟨y0, y1⟩ := rbox_facts HBR.out HKI.out
              have x0 := HKI.out.cell HX0.out
              by_cases htk : t < k2
              · have t1 : (t : Int) < (k2 : Int) := by omega
                have HIW := Lib.hid (HIC.out.kept HKI.out)
                obtain ⟨b2, o2, rfl, hcc⟩ := HIW.out.at_ (by omega)
                have htl : t < cl.length := by rw [HIC.out.len]; exact htk
                obtain ⟨y, hy⟩ : ∃ y, cl[t]? = some y := ⟨_, List.getElem?_eq_getElem htl⟩
                have x1 := hcc t y hy
                have hyv := HLT.out y (List.mem_of_getElem? hy)
                have l2 : -16777216 ≤ y := by omega
                have l3 : y ≤ 16777216 := by omega
                have HFT := Lib.hid (fil_take (lits := lits) hy)
                have HAT := Lib.hid (any_takeI (lits := lits) hy)
                have HLW := Lib.hid (HL.out.kept (HKWR.out.trans HKI.out))
                have hk3b : k3 ≤ 1000000 := by
                  rw [HK3.out]
                  have h1 := List.length_filter_le (fun x => !hasI lits (-x)) (cl.take t)
                  have h2 := List.length_take_le t cl
                  omega
                have HYI := Lib.hid (HIC.out.inr y (List.mem_of_getElem? hy))
                clear hcc htl hyv hy
                have HH1 : Hid (∀ b, hasI lits y = b → Calls Tryd.prog 31 #[.slice la n c, .int .i64 y] wr fun e w' => e = .returned (.bool b) ∧ w' = wr) := fun b hb => by
                  rw [← hb]; exact (rhas_any y la n c lits wr HLW.out (by omega)).mono fun _ _ k => ⟨k.1, k.2.symm⟩
                have HH2 : Hid (∀ b, hasI lits (-y) = b → Calls Tryd.prog 31 #[.slice la n c, .int .i64 (-y)] wr fun e w' => e = .returned (.bool b) ∧ w' = wr) := fun b hb => by
                  rw [← hb]; exact (rhas_any (-y) la n c lits wr HLW.out (by omega)).mono fun _ _ k => ⟨k.1, k.2.symm⟩
                go_upto_region 18 with (fail)
                clear y0 y1 x0 x1
                go_cut [10] (fun s wx => s = .bool (hb || hasI lits y) ∧ wx = wr)
                case first =>
                  cases hb with
                  | true =>
                    go_wp2
                    go_meet
                    case rel => exact ⟨rfl, rfl⟩
                  | false =>
                    cases hy : hasI lits y with
                    | true =>
                      go_wp2_with fail
                      refine (HH1.out true hy).mono ?_
                      rintro e w' ⟨rfl, rfl⟩
                      have HYhy := Lib.hid hy; clear hy
                      go_wp2
                      go_meet
                      case rel => exact ⟨by simp [HYhy.out], rfl⟩
                    | false =>
                      go_wp2_with fail
                      refine (HH1.out false hy).mono ?_
                      rintro e w' ⟨rfl, rfl⟩
                      have HYhy := Lib.hid hy; clear hy
                      go_wp2
                      go_meet
                      case rel => exact ⟨by simp [HYhy.out], rfl⟩
                case rest =>
                  obtain ⟨rfl, rfl⟩ := hcut
                  have HHB2 : Hid ((cl.take (t + 1)).any (hasI lits) = (hb || hasI lits y)) := by show _ = _; rw [HAT.out, HHB.out]
                  cases hy : hasI lits (-y) with
                  | true =>
                    rw [hy, if_pos rfl, List.append_nil] at HFT
                    have HCALL := Lib.hid (HH2.out true hy)
                    clear hy
                    go_wp2_with fail
                    refine HCALL.out.mono ?_
                    rintro e w' ⟨rfl, rfl⟩
                    go_wp2
                    go_roundw
                    case rel => exact ⟨t + 1, a3, k3, c3, by omega, by go_num, rfl, (by show _ = _; rw [HHB2.out]), by rw [HFT.out]; exact HK3.out, by rw [HFT.out]; exact HROW.out, HKI.out⟩
                    case measure => simp [intOf]; omega
                  | false =>
                    rw [hy, if_neg (by simp)] at HFT
                    have HCALL := Lib.hid (HH2.out false hy)
                    clear hy
                    go_wp2_with fail
                    refine HCALL.out.mono ?_
                    rintro e w' ⟨rfl, rfl⟩
                    go_wp2_with (at_builtin; refine wpList_append_int (w0 := w') rfl _ _ rfl wo.heap.size a3 k3 c3 _ rfl HROW.out y rfl rfl (by omega) HKI.out.size ?_; intro a4 c4 w4 hown4 hgrow4; have HOW4 := Lib.hid hown4; have HGR4 := Lib.hid hgrow4; clear hown4 hgrow4)
                    have HK4 := Lib.hid (grow_kept HROW.out HKI.out (Nat.le_refl _) HGR4.out)
                    go_wp2
                    go_roundw
                    case rel => exact ⟨t + 1, a4, k3 + 1, c4, by omega, by go_num, rfl, (by show _ = _; rw [HHB2.out]), by rw [HFT.out, List.length_append, ← HK3.out]; rfl, by rw [HFT.out]; exact HOW4.out, HK4.out⟩
                    case measure => simp [intOf]; omega
              · obtain rfl : t = k2 := by omega
                have htt : cl.take t = cl := by rw [← HIC.out.len]; exact List.take_length
                rw [htt] at HHB HK3 HROW
                clear htt
                have HSN := Lib.hid (asg_snoc (C.take jj) cl lits)
                have HBK3 := Lib.hid (HKI.out.row HBK.out)
                have HRW3 := Lib.hid (HRW.out.kept HKI.out)
                cases hb with
                | true =>
                  rw [← HHB.out, if_pos rfl, List.append_nil] at HSN
                  go_wp2
                  go_roundw
                  case rel =>
                    refine ⟨jj + 1, a, k, c', vs, by omega, by go_num, HBK3.out, ?_, HT.out.trans (HKI.out.turned _)⟩
                    rw [HTK.out, HSN.out]
                    exact HRW3.out
                  case measure => simp [intOf]; omega
                | false =>
                  rw [← HHB.out, if_neg (by simp)] at HSN
                  obtain ⟨R, hR⟩ : ∃ R : List Int, R = cl.filter fun x => !hasI lits (-x) := ⟨_, rfl⟩
                  have HRI2 : Hid (∀ x ∈ R, InR x) := fun x hx => by rw [hR] at hx; exact HIC.out.inr x (List.mem_filter.1 hx).1
                  rw [← hR] at HSN HK3 HROW
                  clear hR
                  have HNH : Hid ((Value.slice a k c').ownBlock ≠ some h) := by
                    intro e
                    have h1 := (HRW.out.row.lt h e).1
                    have := HWH.out.2.1
                    omega
                  have hkb : k ≤ 1000000 := by have h1 := HRW.out.len; have h2 := asg_len (C.take jj) lits; have h3 := List.length_take_le jj C; omega
                  have HCV : Hid (ClauseV wr (TG (fun q => q ≤ h) a) (.slice a3 k3 c3) R) := by
                    refine clauseV_new HROW.out HK3.out.symm HRI2.out fun q hq hTq => ?_
                    rcases hTq with h1 | h1
                    · have h2 := (Array.getElem?_eq_some_iff.1 HBK.out).1
                      omega
                    · have h2 := (HRW.out.row.lt q (by cases a with | none => cases h1 | some ad => simpa [Value.ownBlock] using h1)).2
                      omega
                  obtain ⟨q0, q1⟩ := rbox_facts HBK3.out (Kept.refl wr)
                  have q2 := frozen_of_row HBK3.out 1
                  have q3 := (Array.getElem?_eq_some_iff.1 HBK3.out).1
                  have HSZ := Lib.hid (show w7.heap.size ≤ wr.heap.size from Nat.le_trans HT.out.size HKI.out.size)
                  have z1 : (wr.alloc (.cells #[.slice a3 k3 c3] 25)).cell? ⟨h, 1, none⟩ = some (.slice a k c') := ((Kept.refl wr).alloc _).cell q1
                  have z2 : (wr.alloc (.cells #[.slice a3 k3 c3] 25)).frozen? ⟨h, 1, none⟩ = false := frozen_of_row (((Kept.refl wr).alloc _).row HBK3.out) 1
                  have z3 : h < (wr.alloc (.cells #[.slice a3 k3 c3] 25)).heap.size := by simp; omega
                  go_wp2_with (at_builtin; refine wpList_append_lies _ rfl _ _ _ rfl w7.heap.size 25 ii _ 1 24 Tryd.underlying22 HI.out.1 HI.out.2.1 HI.out.2.2.1 HI.out.2.2.2 rfl (by omega) (.slice a k c') k vs rfl (HRW3.out.row.alloc _) ⟨wr.heap.size, 0, none⟩ 1 1 [.slice a3 k3 c3] rfl rfl (World.news_of_block (cs := #[.slice a3 k3 c3]) (t := 25) (fr := (0, 0)) (heap_alloc_new wr _)) (by simp [Value.oneCell']) (by omega) (by unfold maxLen; omega) (by omega) (by have := HSZ.out; simp; omega) (wr.heap.size + 1) (by simp) ?_; intro gg cap w10 hown10 hgrow10 hat10 hlt10; have c10 : w10.cell? ⟨h, 1, none⟩ = some (.slice a k c') := (hgrow10.cell_far ⟨h, 1, none⟩ z3 (Ne.symm HNH.out)).trans z1; have z10 : w10.frozen? ⟨h, 1, none⟩ = false := (hgrow10.frozen_far ⟨h, 1, none⟩ z3 (Ne.symm HNH.out)).trans z2; have HGR := Lib.hid hgrow10; have HOW := Lib.hid hown10; have HAT := Lib.hid hat10; clear hgrow10 hown10 hat10 hlt10)
                  have hE := own_end (T0 := fun q => q ≤ h) (Nat.le_refl h) HBK3.out HRW3.out (Kept.refl wr) HWH.out.2.1 HOW.out HGR.out HAT.out HCV.out HSZ.out
                  have HE := Lib.hid hE
                  clear hE c10 z10 q0 q1 q2 q3 z1 z2 z3
                  go_roundw
                  case rel =>
                    refine ⟨jj + 1, some ⟨gg, 0, none⟩, k + 1, cap, vs ++ [.slice a3 k3 c3], by omega, by go_num, HE.out.1, ?_, ?_⟩
                    · rw [HTK.out, HSN.out]; exact HE.out.2.1
                    · refine (((HT.out.trans (HKI.out.turned _)).mono fun q _ e => Or.inl e).trans HE.out.2.2).mono fun q hq hTq => ?_
                      rcases hTq with h1 | h1
                      · exact h1
                      · have h2 := (HRW.out.row.lt q (by cases a with | none => cases h1 | some ad => simpa [Value.ownBlock] using h1)).1
                        omega
                  case measure => simp [intOf]; omega
          · obtain rfl : jj = cn := by omega
            have htk : C.take jj = C := by rw [← HLN.out]; exact List.take_length
            rw [htk] at HRW
            obtain ⟨q0, q1⟩ := rbox_facts HBK.out (Kept.refl wr)
            obtain ⟨y0, y1⟩ := rbox_facts HBR.out (Kept.refl wr)
            have HRB : Hid (wr.heap[R0]? = some zM) := (HT.out.block R0 (Array.getElem?_eq_some_iff.1 HR7.out).1 (by have := HWH.out; omega)).trans HR7.out
            have f0 := frozen_of_row HRB.out 0
            have f1 := frozen_of_row HRB.out 1
            obtain ⟨r0, r1⟩ := rbox_facts HRB.out (Kept.refl wr)
            go_wp2
            have HR9 := Lib.hid (set2 (u := .int .i64 V) (v := .slice a k c') HRB.out)
            have HK9 := Lib.hid ((HKWR.out.setCell (p := ⟨R0, 0, none⟩) HRL.out (.int .i64 V)).setCell (p := ⟨R0, 1, none⟩) HRL.out (.slice a k c'))
            have HROW : Hid (∀ w9, Turned (fun q => q = R0) wr w9 → ClsAt w9 a k (asg C lits)) := fun w9 ht9 => by
              refine RowsV.cls (HRW.out.turned (HRW.out.row.kept (row := some R0) ⟨ht9.os, ht9.tape, ht9.output, ht9.size, fun q hq hne => ht9.block q hq (fun e => hne (by rw [e]))⟩ ?_) (ht9.mono fun q _ e => Or.inl (by have := HWH.out; omega)))
              refine Or.inr fun e => ?_
              have h1 := (HRW.out.row.lt R0 e).1
              have := HWH.out
              omega
            have HT9 := Lib.hid ((Turned.setCell (T := fun q => q = R0) wr ⟨R0, 0, none⟩ (.int .i64 V) rfl).trans (Turned.setCell (T := fun q => q = R0) _ ⟨R0, 1, none⟩ (.slice a k c') rfl))
            have HCL := Lib.hid (HROW.out _ HT9.out)
            generalize (wr.setCell ⟨R0, 0, none⟩ (.int .i64 V)).setCell ⟨R0, 1, none⟩ (.slice a k c') = w9 at *
            clear r0 r1 f0 f1 q0 q1 y0 y1
            obtain ⟨r0, r1⟩ := rbox_facts HR9.out (Kept.refl w9)
            exact bodyPost_ret (v := .tuple #[.agg #[.int .i64 V, .slice a k c'], .bool true]) (by simp [results, Tryd.results10, go_sem, r0, r1]) rfl ⟨HK9.out, Or.inr ⟨HOKA.out, a, k, c', rfl, HCL.out⟩⟩
end Go.Proofs.YtemijkfgnedlnaaDoor
