/-
  VOf: VRef, VCell, VPlain, VRAll, VOf in one text.
-/
import Derived.Test.YtjhmbbioplhcgaaGreatDoorVFirst
import Derived.Test.YtjhmbbioplhcgaaGreatDoorVNeedM
import Derived.Test.YtjhmbbioplhcgaaGreatDoorVSpread
import Derived.Test.YtjhmbbioplhcgaaGreatDoorRefDo
import Derived.Test.YtjhmbbioplhcgaaGreatDoorTRUsesL
import Derived.StillTailTactics
import Derived.BigRegion
import Derived.Test.YtjhmbbioplhcgaaGreatDoorVAllY
import Derived.Test.YtjhmbbioplhcgaaGreatDoorVWorks
import Derived.Test.YtjhmbbioplhcgaaGreatDoorTRPlain
namespace Go.Proofs.YtjhmbbioplhcgaaGreatDoor
open Go Go.RowKit

theorem cell_found {C : List Cl} {j : Nat} {c : Cl} {a v t : Int} (hc : C[j]? = some c) (hn : hasC (C.take j) a v t = false) (hi : c.is a v t = true) : cellI C a v t = c.n := by
  obtain ⟨hj, hc'⟩ := List.getElem?_eq_some_iff.1 hc
  have e : C = C.take j ++ c :: C.drop (j + 1) := by rw [← hc', ← List.drop_eq_getElem_cons hj, List.take_append_drop]
  rw [e, cellI_append, hn]
  simp [cellI, hi]
theorem cell_skip {C : List Cl} {j : Nat} {c : Cl} {a v t : Int} (hc : C[j]? = some c) (hn : hasC (C.take j) a v t = false) (hi : c.is a v t = false) : hasC (C.take (j + 1)) a v t = false := by
  obtain ⟨hj, hc'⟩ := List.getElem?_eq_some_iff.1 hc
  rw [List.take_succ_eq_append_getElem hj, hasC_append, hn, hc']
  simp [hasC, hi]
def rcellObj (c : Cl) : Obj := .cells #[.int .i64 c.a, .int .i64 c.v, .int .i64 c.t, .int .i64 c.n] 71
theorem rcbox_facts {W w : World} {b : Nat} {c : Cl} (h : W.heap[b]? = some (rcellObj c)) (hk : Kept W w) :
    w.cell? ⟨b, 0, none⟩ = some (.int .i64 c.a) ∧ w.cell? ⟨b, 1, none⟩ = some (.int .i64 c.v) ∧ w.cell? ⟨b, 2, none⟩ = some (.int .i64 c.t) ∧ w.cell? ⟨b, 3, none⟩ = some (.int .i64 c.n) := by
  have h1 := hk.row h
  refine ⟨?_, ?_, ?_, ?_⟩ <;> (rw [cell_of_row _ _ _ _ _ _ h1]; rfl)

set_option maxHeartbeats 2000000 in
theorem rsym_any {sa ca : Option Addr} {sn sc cn cc : Nat} {S : List Int} {w : World} (hS : RootsAt w sa sn S) (hn : sn ≤ 100000) (k : Int) :
    Calls Tryz.prog 12 #[.agg #[.slice sa sn sc, .slice ca cn cc], .int .i64 k] w fun e w' => e = .returned (.int .i64 (symI S k)) ∧ Kept w w' := by
  have HB := Lib.hid ((MapKept.heap_alloc w (.cells #[.slice sa sn sc, .slice ca cn cc] 37)).1)
  have HQ := Lib.hid ((Kept.refl w).alloc (.cells #[.slice sa sn sc, .slice ca cn cc] 37))
  have HS := Lib.hid (hS.kept HQ.out)
  have HL := Lib.hid hS.len
  clear hS
  go_enter Tryz.func12, Tryz.ntmps12
  go_upto_region 1 with (fail)
  change Code.wp _ _ _ _ (w.alloc (.cells #[.slice sa sn sc, .slice ca cn cc] 37))
  generalize w.alloc (.cells #[.slice sa sn sc, .slice ca cn cc] 37) = W at *
  generalize w.heap.size = b at *
  have HEC : Hid (∀ w', Kept W w' → w'.cell? ⟨b, 0, none⟩ = some (.slice sa sn sc)) := fun w' hk => by
    rw [cell_of_row _ _ _ _ _ _ (hk.row HB.out)]; rfl
  go_wp2
  go_loopw [5] (fun i wr => ∃ j : Nat, j ≤ sn ∧ i = .int .i64 j ∧ ¬ (0 ≤ k ∧ k < j) ∧ Kept W wr) (fun i _ => sn - (intOf i).toNat)
  case atStart => exact ⟨0, Nat.zero_le _, rfl, by omega, Kept.refl _⟩
  case round =>
    obtain ⟨j, hj, rfl, hkj, hK⟩ := hrel
    have HK := Lib.hid hK; clear hK
    have e0 := HEC.out _ HK.out
    have j0 : (0 : Int) ≤ (j : Int) := Int.natCast_nonneg _
    by_cases hjn : j < sn
    · have j1 : (j : Int) < (sn : Int) := by omega
      by_cases hjk : (j : Int) = k
      · subst hjk
        obtain ⟨rb, ro, rfl, hc⟩ := (HS.out.kept HK.out).at_ (by omega)
        obtain ⟨x, hx⟩ : ∃ x, S[j]? = some x := ⟨_, List.getElem?_eq_getElem (by have := HL.out; omega)⟩
        have x0 := hc j x hx
        have E := Lib.hid (symI_some hx)
        clear hc hx
        go_wp2
        go_ret
        exact ⟨ret_i E.out.symm, HQ.out.trans HK.out⟩
      · have e1 : ((j : Int) == k) = false := by simpa using hjk
        go_wp2
        go_roundw
        case rel => exact ⟨j + 1, by omega, by go_num, by omega, HK.out⟩
        case measure => simp [intOf]; omega
    · obtain rfl : j = sn := by omega
      have E : Hid (symI S k = 0) := symI_none (by have := HL.out; omega)
      go_wp2
      go_ret
      exact ⟨ret_i E.out.symm, HQ.out.trans HK.out⟩

set_option maxHeartbeats 4000000 in
theorem rcell_any {sa ca : Option Addr} {sn sc cn cc : Nat} {C : List Cl} {w : World} (hC : CellsAt w ca cn C) (hn : cn ≤ 100000) (a v t : Int) :
    Calls Tryz.prog 14 #[.agg #[.slice sa sn sc, .slice ca cn cc], .int .i64 a, .int .i64 v, .int .i64 t] w fun e w' => e = .returned (.int .i64 (cellI C a v t)) ∧ Kept w w' := by
  have HB := Lib.hid ((MapKept.heap_alloc w (.cells #[.slice sa sn sc, .slice ca cn cc] 37)).1)
  have HQ := Lib.hid ((Kept.refl w).alloc (.cells #[.slice sa sn sc, .slice ca cn cc] 37))
  have HS := Lib.hid (hC.kept HQ.out)
  have HL := Lib.hid hC.len
  clear hC
  go_enter Tryz.func14, Tryz.ntmps14
  go_upto_region 1 with (fail)
  change Code.wp _ _ _ _ (w.alloc (.cells #[.slice sa sn sc, .slice ca cn cc] 37))
  generalize w.alloc (.cells #[.slice sa sn sc, .slice ca cn cc] 37) = W at *
  generalize w.heap.size = b at *
  have HEC : Hid (∀ w', Kept W w' → w'.cell? ⟨b, 1, none⟩ = some (.slice ca cn cc)) := fun w' hk => by
    rw [cell_of_row _ _ _ _ _ _ (hk.row HB.out)]; rfl
  go_wp2
  go_loopw [9] (fun i wr => ∃ j : Nat, j ≤ cn ∧ i = .int .i64 j ∧ hasC (C.take j) a v t = false ∧ Kept W wr) (fun i _ => cn - (intOf i).toNat)
  case atStart => exact ⟨0, Nat.zero_le _, rfl, rfl, Kept.refl _⟩
  case round =>
    obtain ⟨j, hj, rfl, hh, hK⟩ := hrel
    have HK := Lib.hid hK; have HH := Lib.hid hh; clear hK hh
    have e0 := HEC.out _ HK.out
    have j0 : (0 : Int) ≤ (j : Int) := Int.natCast_nonneg _
    by_cases hjn : j < cn
    · have j1 : (j : Int) < (cn : Int) := by omega
      obtain ⟨rb, ro, rfl, hc⟩ := (HS.out.kept HK.out).at_ (by omega)
      obtain ⟨c, hx⟩ : ∃ c, C[j]? = some c := ⟨_, List.getElem?_eq_getElem (by have := HL.out; omega)⟩
      have hcd := hc j c hx
      have x0 := hcd 0 _ rfl
      have x1 := hcd 1 _ rfl
      have x2 := hcd 2 _ rfl
      have x3 := hcd 3 _ rfl
      simp only [Nat.add_zero] at x0
      have HX := Lib.hid hx
      clear hc hx hcd
      go_upto_region 5 with (fail)
      have HBN := Lib.hid (MapKept.heap_alloc wr (rcellObj c)).1
      have HK1 := Lib.hid ((Kept.refl wr).alloc (rcellObj c))
      change Code.wp _ _ _ _ (wr.alloc (rcellObj c))
      generalize wr.alloc (rcellObj c) = w1 at *
      generalize wr.heap.size = bn at *
      clear x0 x1 x2 x3 e0
      obtain ⟨y0, y1, y2, y3⟩ := rcbox_facts HBN.out (Kept.refl w1)
      have HKE := Lib.hid (HK.out.trans HK1.out)
      obtain ⟨c1, c2, c3, c4⟩ := c
      simp only at *
      by_cases h1 : c1 = a
      · subst h1
        by_cases h2 : c2 = v
        · subst h2
          by_cases h3 : c3 = t
          · subst h3
            have E : Hid (cellI C c1 c2 c3 = c4) := cell_found HX.out HH.out (by simp [Cl.is])
            go_wp2
            go_ret
            exact ⟨ret_i E.out.symm, HQ.out.trans HKE.out⟩
          · have e3 : (c3 == t) = false := by simpa using h3
            have HS9 := Lib.hid (cell_skip (a := c1) (v := c2) (t := t) HX.out HH.out (by simp [Cl.is, h3]))
            go_wp2
            go_roundw
            case rel => exact ⟨j + 1, by omega, by go_num, HS9.out, HKE.out⟩
            case measure => simp [intOf]; omega
        · have e2 : (c2 == v) = false := by simpa using h2
          have HS9 := Lib.hid (cell_skip (a := c1) (v := v) (t := t) HX.out HH.out (by simp [Cl.is, h2]))
          go_wp2
          go_roundw
          case rel => exact ⟨j + 1, by omega, by go_num, HS9.out, HKE.out⟩
          case measure => simp [intOf]; omega
      · have e1 : (c1 == a) = false := by simpa using h1
        have HS9 := Lib.hid (cell_skip (a := a) (v := v) (t := t) HX.out HH.out (by simp [Cl.is, h1]))
        go_wp2
        go_roundw
        case rel => exact ⟨j + 1, by omega, by go_num, HS9.out, HKE.out⟩
        case measure => simp [intOf]; omega
    · obtain rfl : j = cn := by omega
      have E : Hid (cellI C a v t = 0) := cellI_none (by have h9 := HH.out; rwa [← HL.out, List.take_length] at h9)
      go_wp2
      go_ret
      exact ⟨ret_i E.out.symm, HQ.out.trans HK.out⟩
end Go.Proofs.YtjhmbbioplhcgaaGreatDoor

namespace Go.Proofs.YtjhmbbioplhcgaaGreatDoor
open Go Go.RowKit

def spotObj (a v t : Int) : Obj := .cells #[.int .i64 a, .int .i64 v, .int .i64 t] 73
set_option maxRecDepth 100000 in
set_option maxHeartbeats 4000000 in
theorem vcell_any {sa ca : Option Addr} {sn sc cn cc : Nat} {C : List Cl} {w : World} (hC : CellsAt w ca cn C) (hn : cn ≤ 100000) (a v t : Int) :
    Calls Tryz.prog 13 #[.agg #[.slice sa sn sc, .slice ca cn cc], .int .i64 a, .int .i64 v, .int .i64 t] w fun e w' => e = .returned (.int .i64 (cellI C a v t)) ∧ Kept w w' := by
  have HB := Lib.hid ((MapKept.heap_alloc w (.cells #[.slice sa sn sc, .slice ca cn cc] 26)).1)
  have HQ := Lib.hid ((Kept.refl w).alloc (.cells #[.slice sa sn sc, .slice ca cn cc] 26))
  have HS := Lib.hid (hC.kept HQ.out)
  have HL := Lib.hid hC.len
  clear hC
  go_enter Tryz.func13, Tryz.ntmps13
  go_upto_region 1 with (fail)
  change Code.wp _ _ _ _ (w.alloc (.cells #[.slice sa sn sc, .slice ca cn cc] 26))
  generalize w.alloc (.cells #[.slice sa sn sc, .slice ca cn cc] 26) = W at *
  generalize w.heap.size = b at *
  go_upto_region 2 with (fail)
  have HB2 := Lib.hid ((MapKept.heap_alloc W (spotObj a v t)).1)
  have HQ2 := Lib.hid ((Kept.refl W).alloc (spotObj a v t))
  change Code.wp _ _ _ _ (W.alloc (spotObj a v t))
  have HEC : Hid (∀ w', Kept (W.alloc (spotObj a v t)) w' → w'.cell? ⟨b, 1, none⟩ = some (.slice ca cn cc) ∧ w'.cell? ⟨W.heap.size, 0, none⟩ = some (.int .i64 a) ∧ w'.cell? ⟨W.heap.size, 1, none⟩ = some (.int .i64 v) ∧ w'.cell? ⟨W.heap.size, 2, none⟩ = some (.int .i64 t)) := fun w' hk => by
    refine ⟨?_, ?_, ?_, ?_⟩
    · rw [cell_of_row _ _ _ _ _ _ ((HQ2.out.trans hk).row HB.out)]; rfl
    · rw [cell_of_row _ _ _ _ _ _ (hk.row HB2.out)]; rfl
    · rw [cell_of_row _ _ _ _ _ _ (hk.row HB2.out)]; rfl
    · rw [cell_of_row _ _ _ _ _ _ (hk.row HB2.out)]; rfl
  generalize W.alloc (spotObj a v t) = W2 at *
  generalize W.heap.size = b2 at *
  obtain ⟨e0, _, _, _⟩ := HEC.out _ (Kept.refl W2)
  go_wp2
  go_loopw [19] (fun i wr => ∃ j : Nat, j ≤ cn ∧ i = .int .i64 j ∧ hasC (C.take j) a v t = false ∧ Kept W2 wr) (fun i _ => cn - (intOf i).toNat)
  case atStart => exact ⟨0, Nat.zero_le _, rfl, rfl, Kept.refl _⟩
  case round =>
    obtain ⟨j, hj, rfl, hh, hK⟩ := hrel
    have HK := Lib.hid hK; have HH := Lib.hid hh; clear hK hh
    have j0 : (0 : Int) ≤ (j : Int) := Int.natCast_nonneg _
    by_cases hjn : j < cn
    · have j1 : (j : Int) < (cn : Int) := by omega
      obtain ⟨rb, ro, rfl, hc⟩ := (HS.out.kept (HQ2.out.trans HK.out)).at_ (by omega)
      obtain ⟨c, hx⟩ : ∃ c, C[j]? = some c := ⟨_, List.getElem?_eq_getElem (by have := HL.out; omega)⟩
      have hcd := hc j c hx
      have x0 := hcd 0 _ rfl
      have x1 := hcd 1 _ rfl
      have x2 := hcd 2 _ rfl
      have x3 := hcd 3 _ rfl
      simp only [Nat.add_zero] at x0
      have HX := Lib.hid hx
      clear hc hx hcd
      go_upto_region 5 with (fail)
      have HBN := Lib.hid (MapKept.heap_alloc wr (cellObj c)).1
      have HK1 := Lib.hid ((Kept.refl wr).alloc (cellObj c))
      change Code.wp _ _ _ _ (wr.alloc (cellObj c))
      generalize wr.alloc (cellObj c) = w1 at *
      generalize wr.heap.size = bn at *
      clear x0 x1 x2 x3 e0
      have HKE := Lib.hid (HK.out.trans HK1.out)
      obtain ⟨y0, y1, y2, y3⟩ := cbox_facts HBN.out (Kept.refl w1)
      obtain ⟨s0, s1, s2, s3⟩ := HEC.out _ HKE.out
      obtain ⟨c1, c2, c3, c4⟩ := c
      simp only at *
      have SK : Hid (∀ w', Kept w1 w' → Kept w1 w' ∧ w'.cell? ⟨bn, 0, none⟩ = some (.int .i64 c1) ∧ w'.cell? ⟨bn, 1, none⟩ = some (.int .i64 c2) ∧ w'.cell? ⟨bn, 2, none⟩ = some (.int .i64 c3) ∧ w'.cell? ⟨bn, 3, none⟩ = some (.int .i64 c4) ∧ w'.cell? ⟨b2, 0, none⟩ = some (.int .i64 a) ∧ w'.cell? ⟨b2, 1, none⟩ = some (.int .i64 v) ∧ w'.cell? ⟨b2, 2, none⟩ = some (.int .i64 t)) := fun w' hk => by
        obtain ⟨q0, q1, q2, q3⟩ := cbox_facts HBN.out hk
        obtain ⟨_, r1, r2, r3⟩ := HEC.out _ (HKE.out.trans hk)
        exact ⟨hk, q0, q1, q2, q3, r1, r2, r3⟩
      by_cases h1 : c1 = a
      · have e1 : (c1 == a) = true := by simpa using h1
        by_cases h2 : c2 = v
        · have e2 : (c2 == v) = true := by simpa using h2
          by_cases h3 : c3 = t
          · have e3 : (c3 == t) = true := by simpa using h3
            have E : Hid (cellI C a v t = c4) := cell_found HX.out HH.out (by simp [Cl.is, h1, h2, h3])
            clear h1 h2 h3
            go_wp2_with fail
            clear y0 y1 y2 y3 s0 s1 s2 s3
            go_region_held3 (fun w' => Kept w1 w' ∧ w'.cell? ⟨bn, 0, none⟩ = some (.int .i64 c1) ∧ w'.cell? ⟨bn, 1, none⟩ = some (.int .i64 c2) ∧ w'.cell? ⟨bn, 2, none⟩ = some (.int .i64 c3) ∧ w'.cell? ⟨bn, 3, none⟩ = some (.int .i64 c4) ∧ w'.cell? ⟨b2, 0, none⟩ = some (.int .i64 a) ∧ w'.cell? ⟨b2, 1, none⟩ = some (.int .i64 v) ∧ w'.cell? ⟨b2, 2, none⟩ = some (.int .i64 t))
              (first | exact SK.out _ (Kept.refl _) | exact SK.out _ (Kept.drew (Kept.refl _)) | assumption | exact SK.out _ (Kept.trans (And.left ‹Kept w1 _ ∧ _›) (by assumption)))
              ((go_at_call 26; refine (where_any c1 c2 c3 c4 _).mono ?_; rintro e w7 ⟨rfl, hk7⟩))
            all_goals
              have HKZ := Lib.hid (HKE.out.trans (And.left ‹Kept w1 _ ∧ _›))
              go_wp2
              go_ret
              exact ⟨ret_i E.out.symm, HQ.out.trans (HQ2.out.trans HKZ.out)⟩
          · have e3 : (c3 == t) = false := by simpa using h3
            have HS9 := Lib.hid (cell_skip (a := a) (v := v) (t := t) HX.out HH.out (by simp [Cl.is, h3]))
            clear h1 h2 h3
            go_wp2_with fail
            clear y0 y1 y2 y3 s0 s1 s2 s3
            go_region_held3 (fun w' => Kept w1 w' ∧ w'.cell? ⟨bn, 0, none⟩ = some (.int .i64 c1) ∧ w'.cell? ⟨bn, 1, none⟩ = some (.int .i64 c2) ∧ w'.cell? ⟨bn, 2, none⟩ = some (.int .i64 c3) ∧ w'.cell? ⟨bn, 3, none⟩ = some (.int .i64 c4) ∧ w'.cell? ⟨b2, 0, none⟩ = some (.int .i64 a) ∧ w'.cell? ⟨b2, 1, none⟩ = some (.int .i64 v) ∧ w'.cell? ⟨b2, 2, none⟩ = some (.int .i64 t))
              (first | exact SK.out _ (Kept.refl _) | exact SK.out _ (Kept.drew (Kept.refl _)) | assumption | exact SK.out _ (Kept.trans (And.left ‹Kept w1 _ ∧ _›) (by assumption)))
              ((go_at_call 26; refine (where_any c1 c2 c3 c4 _).mono ?_; rintro e w7 ⟨rfl, hk7⟩))
            all_goals
              have HKZ := Lib.hid (HKE.out.trans (And.left ‹Kept w1 _ ∧ _›))
              go_wp2
              go_roundw
              case rel => exact ⟨j + 1, by omega, by go_num, HS9.out, HKZ.out⟩
              case measure => simp [intOf]; omega
        · have e2 : (c2 == v) = false := by simpa using h2
          have HS9 := Lib.hid (cell_skip (a := a) (v := v) (t := t) HX.out HH.out (by simp [Cl.is, h2]))
          clear h1 h2
          go_wp2_with fail
          clear y0 y1 y2 y3 s0 s1 s2 s3
          go_region_held3 (fun w' => Kept w1 w' ∧ w'.cell? ⟨bn, 0, none⟩ = some (.int .i64 c1) ∧ w'.cell? ⟨bn, 1, none⟩ = some (.int .i64 c2) ∧ w'.cell? ⟨bn, 2, none⟩ = some (.int .i64 c3) ∧ w'.cell? ⟨bn, 3, none⟩ = some (.int .i64 c4) ∧ w'.cell? ⟨b2, 0, none⟩ = some (.int .i64 a) ∧ w'.cell? ⟨b2, 1, none⟩ = some (.int .i64 v) ∧ w'.cell? ⟨b2, 2, none⟩ = some (.int .i64 t))
            (first | exact SK.out _ (Kept.refl _) | exact SK.out _ (Kept.drew (Kept.refl _)) | assumption | exact SK.out _ (Kept.trans (And.left ‹Kept w1 _ ∧ _›) (by assumption)))
            ((go_at_call 26; refine (where_any c1 c2 c3 c4 _).mono ?_; rintro e w7 ⟨rfl, hk7⟩))
          all_goals
            have HKZ := Lib.hid (HKE.out.trans (And.left ‹Kept w1 _ ∧ _›))
            go_wp2
            go_roundw
            case rel => exact ⟨j + 1, by omega, by go_num, HS9.out, HKZ.out⟩
            case measure => simp [intOf]; omega
      · have e1 : (c1 == a) = false := by simpa using h1
        have HS9 := Lib.hid (cell_skip (a := a) (v := v) (t := t) HX.out HH.out (by simp [Cl.is, h1]))
        clear h1
        go_wp2_with fail
        clear y0 y1 y2 y3 s0 s1 s2 s3
        go_region_held3 (fun w' => Kept w1 w' ∧ w'.cell? ⟨bn, 0, none⟩ = some (.int .i64 c1) ∧ w'.cell? ⟨bn, 1, none⟩ = some (.int .i64 c2) ∧ w'.cell? ⟨bn, 2, none⟩ = some (.int .i64 c3) ∧ w'.cell? ⟨bn, 3, none⟩ = some (.int .i64 c4) ∧ w'.cell? ⟨b2, 0, none⟩ = some (.int .i64 a) ∧ w'.cell? ⟨b2, 1, none⟩ = some (.int .i64 v) ∧ w'.cell? ⟨b2, 2, none⟩ = some (.int .i64 t))
          (first | exact SK.out _ (Kept.refl _) | exact SK.out _ (Kept.drew (Kept.refl _)) | assumption | exact SK.out _ (Kept.trans (And.left ‹Kept w1 _ ∧ _›) (by assumption)))
          ((go_at_call 26; refine (where_any c1 c2 c3 c4 _).mono ?_; rintro e w7 ⟨rfl, hk7⟩))
        all_goals
          have HKZ := Lib.hid (HKE.out.trans (And.left ‹Kept w1 _ ∧ _›))
          go_wp2
          go_roundw
          case rel => exact ⟨j + 1, by omega, by go_num, HS9.out, HKZ.out⟩
          case measure => simp [intOf]; omega
    · obtain rfl : j = cn := by omega
      have E : Hid (cellI C a v t = 0) := cellI_none (by have h9 := HH.out; rwa [← HL.out, List.take_length] at h9)
      go_wp2
      go_ret
      exact ⟨ret_i E.out.symm, HQ.out.trans (HQ2.out.trans HK.out)⟩
end Go.Proofs.YtjhmbbioplhcgaaGreatDoor

namespace Go.Proofs.YtjhmbbioplhcgaaGreatDoor
open Go Go.RowKit

/-- An environment that is put together: its block, its two rows. -/
structure FR (W wr : World) (bF : Nat) (a1 : Option Addr) (n1 c1 : Nat) (a2 : Option Addr) (n2 c2 : Nat) (xs : List Int) (cs : List Cl) : Prop where
  blk : wr.heap[bF]? = some (.cells #[.slice a1 n1 c1, .slice a2 n2 c2] 37 (0, 0))
  r1 : wr.ownsRow (bF + 1) 2 1 (.slice a1 n1 c1) n1 (xs.map (Value.int .i64))
  r2 : wr.ownsRow (bF + 1) 71 4 (.slice a2 n2 c2) n2 (clCells cs)
  K : Kept W wr
  low : W.heap.size ≤ bF
section
variable {W wr w0 w4 : World} {bF n1 c1 n2 c2 n' c' : Nat} {a1 a2 a' : Option Addr} {xs ys : List Int} {cs ds : List Cl}
theorem FR.kept (h : FR W wr bF a1 n1 c1 a2 n2 c2 xs cs) (k : Kept wr w0) : FR W w0 bF a1 n1 c1 a2 n2 c2 xs cs :=
  ⟨k.row h.blk, ownsRow_block h.r1 fun b hb => k.block b (h.r1.lt b hb).2, ownsRow_block h.r2 fun b hb => k.block b (h.r2.lt b hb).2, h.K.trans k, h.low⟩
theorem FR.lt (h : FR W wr bF a1 n1 c1 a2 n2 c2 xs cs) : bF < wr.heap.size := (Array.getElem?_eq_some_iff.1 h.blk).1
theorem FR.cell0 (h : FR W wr bF a1 n1 c1 a2 n2 c2 xs cs) : wr.cell? ⟨bF, 0, none⟩ = some (.slice a1 n1 c1) := by rw [cell_of_row _ _ _ _ _ _ h.blk]; rfl
theorem FR.cell1 (h : FR W wr bF a1 n1 c1 a2 n2 c2 xs cs) : wr.cell? ⟨bF, 1, none⟩ = some (.slice a2 n2 c2) := by rw [cell_of_row _ _ _ _ _ _ h.blk]; rfl
theorem FR.grown {r : Option Nat} (h : FR W wr bF a1 n1 c1 a2 n2 c2 xs cs) (hg : wr.grownBy w4 r) (hr : ∀ q, r = some q → bF + 1 ≤ q) : w4.heap[bF]? = some (.cells #[.slice a1 n1 c1, .slice a2 n2 c2] 37 (0, 0)) ∧ Kept W w4 := by
  refine ⟨(hg.block bF h.lt (fun e => by have := hr bF e.symm; omega)).trans h.blk, ⟨hg.os.trans h.K.os, hg.tape.trans h.K.tape, hg.output.trans h.K.output, Nat.le_trans h.K.size hg.size, fun q hq => (hg.block q (Nat.lt_of_lt_of_le hq h.K.size) (fun e => ?_)).trans (h.K.block q hq)⟩⟩
  have := hr q e.symm
  have := h.low
  omega
/-- The first row has grown, and is stored. -/
theorem FR.step1 (h : FR W w0 bF a1 n1 c1 a2 n2 c2 xs cs) (hown : w4.ownsRow (bF + 1) 2 1 (.slice a' n' c') n' (xs.map (Value.int .i64) ++ ys.map (Value.int .i64))) (hg : w0.grownBy w4 (Value.slice a1 n1 c1).ownBlock) :
    FR W (w4.setCell ⟨bF, 0, none⟩ (.slice a' n' c')) bF a' n' c' a2 n2 c2 (xs ++ ys) cs ∧ w4.cell? ⟨bF, 0, none⟩ = some (.slice a1 n1 c1) ∧ w4.frozen? ⟨bF, 0, none⟩ = false := by
  obtain ⟨h4, hk4⟩ := h.grown hg (fun q hq => (h.r1.lt q hq).1)
  refine ⟨⟨setCell_row h4 0 _, ?_, ?_, hk4.setCell h.low _, h.low⟩, by rw [cell_of_row _ _ _ _ _ _ h4]; rfl, frozen_of_row h4 0⟩
  · rw [List.map_append]
    exact ownsRow_block hown fun q hq => Below.heap_setCell _ _ _ _ (fun e => by have h3 : q = bF := e; have := (hown.lt q hq).1; omega)
  · refine ownsRow_block h.r2 fun q hq => ?_
    rw [Below.heap_setCell _ _ _ _ (fun e => by have h3 : q = bF := e; have := (h.r2.lt q hq).1; omega)]
    exact hg.block q (h.r2.lt q hq).2 (fun e => rows_apart h.r1 h.r2 (by decide) q e.symm hq)
/-- The second one. -/
theorem FR.step2 (h : FR W w0 bF a1 n1 c1 a2 n2 c2 xs cs) (hown : w4.ownsRow (bF + 1) 71 4 (.slice a' n' c') n' (clCells cs ++ clCells ds)) (hg : w0.grownBy w4 (Value.slice a2 n2 c2).ownBlock) :
    FR W (w4.setCell ⟨bF, 1, none⟩ (.slice a' n' c')) bF a1 n1 c1 a' n' c' xs (cs ++ ds) ∧ w4.cell? ⟨bF, 1, none⟩ = some (.slice a2 n2 c2) ∧ w4.frozen? ⟨bF, 1, none⟩ = false := by
  obtain ⟨h4, hk4⟩ := h.grown hg (fun q hq => (h.r2.lt q hq).1)
  refine ⟨⟨setCell_row h4 1 _, ?_, ?_, hk4.setCell h.low _, h.low⟩, by rw [cell_of_row _ _ _ _ _ _ h4]; rfl, frozen_of_row h4 1⟩
  · refine ownsRow_block h.r1 fun q hq => ?_
    rw [Below.heap_setCell _ _ _ _ (fun e => by have h3 : q = bF := e; have := (h.r1.lt q hq).1; omega)]
    exact hg.block q (h.r1.lt q hq).2 (fun e => rows_apart h.r2 h.r1 (by decide) q e.symm hq)
  · have e : clCells (cs ++ ds) = clCells cs ++ clCells ds := by simp [clCells]
    rw [e]
    exact ownsRow_block hown fun q hq => Below.heap_setCell _ _ _ _ (fun e => by have h3 : q = bF := e; have := (hown.lt q hq).1; omega)
theorem FR.env (h : FR W wr bF a1 n1 c1 a2 n2 c2 xs cs) (h1 : xs.length = n1) (h2 : cs.length = n2) (hx : ∀ x ∈ xs, InR x) (hc : ∀ c ∈ cs, c.Ok) : EnvAt wr a1 n1 a2 n2 xs cs :=
  ⟨roots_of_row h.r1 h1 hx, cells_of_row h.r2 h2 hc⟩
end

theorem infoRCell : (Tryz.prog.info? 71).map (fun i => (i.zero, i.size, i.bytes)) = some (some (.agg #[.int .i64 0, .int .i64 0, .int .i64 0, .int .i64 0]), 4, 32) := by kernel_rfl

set_option maxRecDepth 100000 in
set_option maxHeartbeats 16000000 in
theorem penv_any {sa ca : Option Addr} {sn sc cn cc : Nat} {S : List Int} {C : List Cl} {w : World} (hE : EnvAt w sa sn ca cn S C) (hns : sa = none → sn = 0 ∧ sc = 0) (hsn : sn ≤ 1000) (hcn : cn ≤ 1000) :
    Calls Tryz.prog 10 #[.agg #[.slice sa sn sc, .slice ca cn cc]] w fun e w' => ∃ a1 c1 a2 c2, e = .returned (.agg #[.slice a1 sn c1, .slice a2 cn c2]) ∧ EnvAt w' a1 sn a2 cn S C ∧ Kept w w' := by
  have HK0 := Lib.hid ((Kept.refl w).alloc (.cells #[.slice sa sn sc, .slice ca cn cc] 26))
  have HB0 := Lib.hid ((MapKept.heap_alloc w (.cells #[.slice sa sn sc, .slice ca cn cc] 26)).1)
  have HE := Lib.hid (hE.kept HK0.out)
  have HNS := Lib.hid hns
  clear hE hns
  obtain ⟨i6, hi, hz0, hz1, hz2⟩ := info_parts infoI64
  have HI6 := Lib.hid (And.intro hi (And.intro hz0 (And.intro hz1 hz2))); clear hi hz0 hz1 hz2
  obtain ⟨ic, hi, hz0, hz1, hz2⟩ := info_parts infoRCell
  have HIC := Lib.hid (And.intro hi (And.intro hz0 (And.intro hz1 hz2))); clear hi hz0 hz1 hz2
  go_enter Tryz.func10, Tryz.ntmps10
  go_upto_region 1 with (fail)
  change Code.wp _ _ _ _ ((w.alloc (.cells #[.slice sa sn sc, .slice ca cn cc] 26)).alloc (.cells #[.slice none 0 0, .slice none 0 0] 37))
  have HWS : Hid ((w.alloc (.cells #[.slice sa sn sc, .slice ca cn cc] 26)).heap.size = w.heap.size + 1) := by show _ = _; simp
  have HWL : Hid (w.heap.size ≤ w.heap.size + 1) := Nat.le_succ _
  generalize w.alloc (.cells #[.slice sa sn sc, .slice ca cn cc] 26) = W at *
  obtain ⟨bR, hbR⟩ : ∃ bR : Nat, bR = w.heap.size + 1 := ⟨_, rfl⟩
  rw [← hbR] at HWS HWL ⊢
  clear hbR
  generalize w.heap.size = b4 at HB0 ⊢
  have HK1 := Lib.hid ((Kept.refl W).alloc (.cells #[.slice none 0 0, .slice none 0 0] 37))
  have hBR := (MapKept.heap_alloc W (.cells #[.slice none 0 0, .slice none 0 0] 37)).1
  rw [HWS.out] at hBR
  have HBR := Lib.hid hBR
  clear hBR
  generalize W.alloc (.cells #[.slice none 0 0, .slice none 0 0] 37) = w1 at *
  go_upto_region 2 with (fail)
  have HFB0 : Hid (FR w1 (w1.alloc (.cells #[.slice none 0 0, .slice none 0 0] 37)) w1.heap.size none 0 0 none 0 0 [] []) :=
    ⟨(MapKept.heap_alloc w1 _).1, World.ownsRow_nil _ _ _ _, World.ownsRow_nil _ _ _ _, (Kept.refl w1).alloc _, Nat.le_refl _⟩
  change Code.wp _ _ _ _ (w1.alloc (.cells #[.slice none 0 0, .slice none 0 0] 37))
  have HRLT : Hid (bR < w1.heap.size) := (Array.getElem?_eq_some_iff.1 HBR.out).1
  generalize w1.alloc (.cells #[.slice none 0 0, .slice none 0 0] 37) = w2 at *
  obtain ⟨bF, hbF⟩ : ∃ bF : Nat, bF = w1.heap.size := ⟨_, rfl⟩
  rw [← hbF] at HFB0 HRLT ⊢
  clear hbF
  have HEC : Hid (∀ w', Kept W w' → w'.cell? ⟨b4, 0, none⟩ = some (.slice sa sn sc) ∧ w'.cell? ⟨b4, 1, none⟩ = some (.slice ca cn cc)) := fun w' hk => by
    have q1 := hk.row HB0.out
    exact ⟨by rw [cell_of_row _ _ _ _ _ _ q1]; rfl, by rw [cell_of_row _ _ _ _ _ _ q1]; rfl⟩
  obtain ⟨e0, e1⟩ := HEC.out w2 (HK1.out.trans HFB0.out.K)
  have f0 := HFB0.out.cell0
  have hfl := HFB0.out.lt
  go_upto_region 3 with (at_builtin; refine wpList_append_spread rfl _ _ _ rfl (bF + 1) 2 i6 _ 1 8 Tryz.underlying23 HI6.out.1 HI6.out.2.1 HI6.out.2.2.1 HI6.out.2.2.2 rfl (by decide) (.slice none 0 0) 0 _ rfl HFB0.out.r1 sa sn sc (S.map (Value.int .i64)) rfl HNS.out (by rw [List.length_map, HE.out.syms.len]; omega) ((HE.out.syms.kept (HK1.out.trans HFB0.out.K)).news) (ints_one S) (by unfold maxLen; omega) (by omega) (by omega) ?_; intro ag cg w4 hown4 hgrow4; simp only [Nat.zero_add] at hown4; have hst := HFB0.out.step1 (ys := S) hown4 hgrow4; have HST := Lib.hid hst.1; have y0 := hst.2.1; have y1 := hst.2.2; clear hown4 hgrow4 hst)
  have HF1 : Hid (FR w1 (w4.setCell ⟨bF, 0, none⟩ (.slice ag sn cg)) bF ag sn cg none 0 0 ([] ++ S) []) := HST.out
  rw [List.nil_append] at HF1
  change Code.wp _ _ _ _ (w4.setCell ⟨bF, 0, none⟩ (.slice ag sn cg))
  generalize w4.setCell ⟨bF, 0, none⟩ (.slice ag sn cg) = w5 at *
  clear y0 y1 e0 e1 f0 hfl HST
  go_wp2
  go_loopw [4] (fun i wr => ∃ (j : Nat) (a2 : Option Addr) (c2 : Nat), j ≤ cn ∧ i = .int .i64 j ∧ FR w1 wr bF ag sn cg a2 j c2 S (C.take j)) (fun i _ => cn - (intOf i).toNat)
  case atStart => exact ⟨0, none, 0, Nat.zero_le _, rfl, HF1.out⟩
  case round =>
    obtain ⟨j, a2, c2, hj, rfl, hF⟩ := hrel
    have HF := Lib.hid hF; clear hF
    have j0 : (0 : Int) ≤ (j : Int) := Int.natCast_nonneg _
    obtain ⟨e0, e1⟩ := HEC.out wr (HK1.out.trans HF.out.K)
    by_cases hjn : j < cn
    · have j1 : (j : Int) < (cn : Int) := by omega
      obtain ⟨cb, co, rfl, hcz⟩ := (HE.out.cells.kept (HK1.out.trans HF.out.K)).at_ (by omega)
      have hjl : j < C.length := by rw [HE.out.cells.len]; exact hjn
      obtain ⟨cv, hcv⟩ : ∃ c, C[j]? = some c := ⟨_, List.getElem?_eq_getElem hjl⟩
      have hcd := hcz j cv hcv
      have x0 := hcd 0 _ rfl
      have x1 := hcd 1 _ rfl
      have x2 := hcd 2 _ rfl
      have x3 := hcd 3 _ rfl
      simp only [Nat.add_zero] at x0
      have HTK : Hid (C.take (j + 1) = C.take j ++ [cv]) := by
        show _ = _
        rw [List.take_succ_eq_append_getElem hjl, (List.getElem?_eq_some_iff.1 hcv).2]
      clear hcz hcd hcv hjl
      go_upto_region 7 with (fail)
      have HBN := Lib.hid (MapKept.heap_alloc wr (cellObj cv)).1
      have HK1c := Lib.hid ((Kept.refl wr).alloc (cellObj cv))
      change Code.wp _ _ _ _ (wr.alloc (cellObj cv))
      generalize wr.alloc (cellObj cv) = wc at *
      generalize wr.heap.size = bC at *
      clear x0 x1 x2 x3 e0 e1
      have HFC := Lib.hid (HF.out.kept HK1c.out)
      have f1 := HFC.out.cell1
      have hfl := HFC.out.lt
      have hfne : bF ≠ wc.heap.size := Nat.ne_of_lt hfl
      obtain ⟨y0, y1, y2, y3⟩ := cbox_facts HBN.out (Kept.refl wc)
      have HFD := Lib.hid (HFC.out.kept ((Kept.refl wc).alloc (rcellObj cv)))
      go_wp2_with (at_builtin; refine wpList_append_lies _ rfl _ _ _ rfl (bF + 1) 71 ic _ 4 32 Tryz.underlying35 HIC.out.1 HIC.out.2.1 HIC.out.2.2.1 HIC.out.2.2.2 rfl (by decide) (.slice a2 j c2) j _ rfl HFD.out.r2 ⟨wc.heap.size, 0, none⟩ 1 1 [.int .i64 cv.a, .int .i64 cv.v, .int .i64 cv.t, .int .i64 cv.n] rfl rfl (World.news_of_block (cs := #[.int .i64 cv.a, .int .i64 cv.v, .int .i64 cv.t, .int .i64 cv.n]) (t := 71) (fr := (0, 0)) (heap_alloc_new wc _)) (by simp [Value.oneCell']) (by omega) (by unfold maxLen; omega) (by omega) (by simp; omega) (wc.heap.size + 1) (by simp) ?_; intro gg cap w10 hown10 hgrow10 hat10 hlt10; have hst := HFD.out.step2 (ds := [cv]) hown10 hgrow10; have HST := Lib.hid hst.1; have v0 := hst.2.1; have v1 := hst.2.2; clear hown10 hgrow10 hat10 hlt10 hst)
      go_roundw
      case rel => exact ⟨j + 1, some ⟨gg, 0, none⟩, cap, by omega, by go_num, by rw [HTK.out]; exact HST.out⟩
      case measure => simp [intOf]; omega
    · obtain rfl : j = cn := by omega
      have HF9 : Hid (FR w1 wr bF ag sn cg a2 j c2 S C) := by
        have h3 := HF.out
        rwa [← HE.out.cells.len, List.take_length, HE.out.cells.len] at h3
      have f0 := HF9.out.cell0
      have f1 := HF9.out.cell1
      have q1 := HF9.out.K.row HBR.out
      have r0 : wr.cell? ⟨bR, 0, none⟩ = some (.slice none 0 0) := by rw [cell_of_row _ _ _ _ _ _ q1]; rfl
      have r1 : wr.cell? ⟨bR, 1, none⟩ = some (.slice none 0 0) := by rw [cell_of_row _ _ _ _ _ _ q1]; rfl
      have r2 := frozen_of_row q1 0
      have r3 := frozen_of_row q1 1
      have hz := setCell_row (setCell_row q1 0 (.slice ag sn cg)) 1 (.slice a2 j c2)
      have HZ0 : Hid (((wr.setCell ⟨bR, 0, none⟩ (.slice ag sn cg)).setCell ⟨bR, 1, none⟩ (.slice a2 j c2)).cell? ⟨bR, 0, none⟩ = some (.slice ag sn cg)) := by show _ = _; rw [cell_of_row _ _ _ _ _ _ hz]; rfl
      have HZ1 : Hid (((wr.setCell ⟨bR, 0, none⟩ (.slice ag sn cg)).setCell ⟨bR, 1, none⟩ (.slice a2 j c2)).cell? ⟨bR, 1, none⟩ = some (.slice a2 j c2)) := by show _ = _; rw [cell_of_row _ _ _ _ _ _ hz]; rfl
      have hbl : ∀ q, bF + 1 ≤ q → ((wr.setCell ⟨bR, 0, none⟩ (.slice ag sn cg)).setCell ⟨bR, 1, none⟩ (.slice a2 j c2)).heap[q]? = wr.heap[q]? := fun q hq => by
        have h3 := HRLT.out
        rw [Below.heap_setCell _ _ _ _ (by show q ≠ bR; omega), Below.heap_setCell _ _ _ _ (by show q ≠ bR; omega)]
      have HRW1 := Lib.hid (ownsRow_block HF9.out.r1 fun q hq => hbl q (HF9.out.r1.lt q hq).1)
      have HRW2 := Lib.hid (ownsRow_block HF9.out.r2 fun q hq => hbl q (HF9.out.r2.lt q hq).1)
      have HENV : Hid (EnvAt ((wr.setCell ⟨bR, 0, none⟩ (.slice ag sn cg)).setCell ⟨bR, 1, none⟩ (.slice a2 j c2)) ag sn a2 j S C) :=
        ⟨roots_of_row HRW1.out HE.out.syms.len HE.out.syms.inr, cells_of_row HRW2.out HE.out.cells.len HE.out.cells.ok⟩
      have HKZ := Lib.hid (((HK0.out.trans (HK1.out.trans HF9.out.K)).setCell (p := ⟨bR, 0, none⟩) HWL.out (.slice ag sn cg)).setCell (p := ⟨bR, 1, none⟩) HWL.out (.slice a2 j c2))
      clear q1 hz hbl
      go_wp2_with fail
      generalize (wr.setCell ⟨bR, 0, none⟩ (.slice ag sn cg)).setCell ⟨bR, 1, none⟩ (.slice a2 j c2) = wz at *
      have z0 := HZ0.out
      have z1 := HZ1.out
      exact bodyPost_ret (v := .agg #[.slice ag sn cg, .slice a2 j c2]) (by simp [results, Tryz.results10, go_sem, z0, z1]) rfl ⟨ag, cg, a2, c2, rfl, HENV.out, HKZ.out⟩
end Go.Proofs.YtjhmbbioplhcgaaGreatDoor

namespace Go.Proofs.YtjhmbbioplhcgaaGreatDoor
open Go Go.RowKit

set_option maxRecDepth 100000 in
set_option maxHeartbeats 16000000 in
theorem rall_any {N h c : Nat} {a : Option Addr} {L : List Nd} {w : World} {sa ca : Option Addr} {sn sc cn cc : Nat} {S : List Int} {C : List Cl} (hR : RefAt N w h a c L) (hG : Good L) (hl : L.length ≤ 900) (hE : EnvAt w sa sn ca cn S C) (hsn : sn ≤ 100000) (hcn : cn ≤ 100000) :
    Calls Tryz.prog 15 #[.pointer (some ⟨h, 0, none⟩), .agg #[.slice sa sn sc, .slice ca cn cc]] w fun e w' => ∃ a' c', e = .returned (.slice a' L.length c') ∧ RootsAt w' a' L.length (vals S C L) ∧ Kept w w' := by
  have HB := Lib.hid ((MapKept.heap_alloc w (.cells #[.slice sa sn sc, .slice ca cn cc] 37)).1)
  have HQ := Lib.hid ((Kept.refl w).alloc (.cells #[.slice sa sn sc, .slice ca cn cc] 37))
  have HE := Lib.hid (hE.kept HQ.out)
  have HR := Lib.hid (hR.kept HQ.out)
  have HGD := Lib.hid hG
  clear hE hR hG
  obtain ⟨i6, hi, hz0, hz1, hz2⟩ := info_parts infoI64
  have HI6 := Lib.hid (And.intro hi (And.intro hz0 (And.intro hz1 hz2))); clear hi hz0 hz1 hz2
  go_enter Tryz.func15, Tryz.ntmps15
  go_upto_region 1 with (fail)
  change Code.wp _ _ _ _ (w.alloc (.cells #[.slice sa sn sc, .slice ca cn cc] 37))
  generalize w.alloc (.cells #[.slice sa sn sc, .slice ca cn cc] 37) = W at *
  generalize w.heap.size = b at *
  have HEC : Hid (∀ w', Kept W w' → w'.cell? ⟨b, 0, none⟩ = some (.slice sa sn sc) ∧ w'.cell? ⟨b, 1, none⟩ = some (.slice ca cn cc)) := fun w' hk => by
    have h1 := hk.row HB.out
    exact ⟨by rw [cell_of_row _ _ _ _ _ _ h1]; rfl, by rw [cell_of_row _ _ _ _ _ _ h1]; rfl⟩
  go_wp2
  go_loopw [5, 6] (fun v i wr => ∃ (j : Nat) (a1 : Option Addr) (c1 : Nat), j ≤ L.length ∧ i = .int .i64 j ∧ v = .slice a1 j c1 ∧ wr.ownsRow W.heap.size 2 1 (.slice a1 j c1) j ((vals S C (L.take j)).map (Value.int .i64)) ∧ Kept W wr) (fun _ i _ => L.length - (intOf i).toNat)
  case atStart => exact ⟨0, none, 0, Nat.zero_le _, rfl, rfl, World.ownsRow_nil _ _ _ _, Kept.refl _⟩
  case round =>
    obtain ⟨j, a1, c1, hj, rfl, rfl, hrow, hK⟩ := hrel
    have HROW := Lib.hid hrow; have HK := Lib.hid hK
    clear hrow hK
    have j0 : (0 : Int) ≤ (j : Int) := Int.natCast_nonneg _
    by_cases hk : j < L.length
    · obtain ⟨rb, rfl, hC⟩ := (HR.out.kept HK.out).nodeCells hl hk
      have HMAY := Lib.hid (HGD.out.may j hk)
      have HV0 : Hid (vals S C (L.take (j + 1)) = vals S C (L.take j) ++ [val1 S C (vals S C (L.take j)) L[j]]) := by
        show _ = _
        rw [List.take_succ_eq_append_getElem hk, vals_snoc]
      have HVL : Hid ((vals S C (L.take j)).length = j) := by
        show _ = _
        rw [vals_length, List.length_take]; omega
      have HVR : Hid (∀ x ∈ vals S C (L.take j), InR x) := vals_in HE.out.syms.inr HE.out.cells.ok _ (fun d hd => HGD.out.ok d (List.mem_of_mem_take hd))
      have HDO := Lib.hid (HGD.out.ok _ (List.getElem_mem hk))
      generalize vals S C (L.take j) = V at *
      generalize L[j] = d at *
      obtain ⟨g0, m0, m1, m2, m3, m4, m5, hk', _⟩ := hC
      have j1 : (j : Int) < (L.length : Int) := by omega
      obtain ⟨wo, rfl⟩ : ∃ wo : World, wo = wr := ⟨_, rfl⟩
      go_upto_region 6 with (fail)
      have HBN := Lib.hid (MapKept.heap_alloc wo (refObj d)).1
      have HK1 := Lib.hid ((Kept.refl wo).alloc (refObj d))
      change Code.wp _ _ _ _ (wo.alloc (refObj d))
      generalize wo.alloc (refObj d) = w1 at *
      generalize wo.heap.size = bn at *
      clear g0 m0 m1 m2 m3 m4 m5
      have HKE := Lib.hid (HK.out.trans HK1.out)
      have HRW := Lib.hid (ownsRow_block HROW.out fun q hq => HK1.out.block q (HROW.out.lt q hq).2)
      obtain ⟨b0, b1, b2, b3, b4, b5⟩ := rbox_facts HBN.out (Kept.refl w1)
      obtain ⟨e0, e1⟩ := HEC.out _ HKE.out
      have hp := may_parts HMAY.out
      rcases may_kind HMAY.out with hkd | hkd | hkd | hkd
      · have HV : Hid (vals S C (L.take (j + 1)) = V ++ [d.n]) := HV0.out.trans (by unfold val1; rw [if_pos hkd])
        obtain ⟨dk, dn, da, dp, dx, dy⟩ := d
        simp only at *
        subst hkd
        clear HV0 hp HMAY HDO
        have HRA : Hid ((w1.alloc (.cells #[.int .i64 dn] 2)).ownsRow W.heap.size 2 1 (.slice a1 j c1) j (V.map (Value.int .i64))) := World.ownsRow.alloc HRW.out _
        go_wp2_with (at_builtin; refine wpList_append_lies _ rfl _ _ _ rfl W.heap.size 2 i6 _ 1 8 Tryz.underlying23 HI6.out.1 HI6.out.2.1 HI6.out.2.2.1 HI6.out.2.2.2 rfl (by omega) (.slice a1 j c1) j _ rfl HRA.out ⟨w1.heap.size, 0, none⟩ 1 1 [.int .i64 dn] rfl rfl (World.news_of_block (cs := #[.int .i64 dn]) (t := 2) (fr := (0, 0)) (heap_alloc_new w1 _)) (by simp [Value.oneCell']) (by omega) (by unfold maxLen; omega) (by omega) (by have := HKE.out.size; simp; omega) (w1.heap.size + 1) (by simp) ?_; intro gg cap w9 hown9 hgrow9 hat9 hlt9; have HOW9 := Lib.hid hown9; have HGR9 := Lib.hid hgrow9; clear hown9 hgrow9 hat9 hlt9)
        have HKZ := Lib.hid (grow_kept HRW.out HKE.out (Nat.le_refl _) HGR9.out)
        go_roundw
        case rel =>
          refine ⟨j + 1, some ⟨gg, 0, none⟩, cap, by omega, by go_num, rfl, ?_, HKZ.out⟩
          rw [HV.out, List.map_append]
          exact HOW9.out
        case measure => simp [intOf]; omega
      · have HV : Hid (vals S C (L.take (j + 1)) = V ++ [symI S d.n]) := HV0.out.trans (by unfold val1; rw [if_neg (by omega), if_pos hkd])
        obtain ⟨dk, dn, da, dp, dx, dy⟩ := d
        simp only at *
        subst hkd
        clear HV0 hp HMAY HDO
        go_wp2_with fail
        refine (rsym_any (HE.out.syms.kept HKE.out) hsn dn).mono ?_
        rintro e w2 ⟨rfl, hk2⟩
        have HKF := Lib.hid (HKE.out.trans hk2)
        have HRX := Lib.hid (ownsRow_block HRW.out fun q hq => hk2.block q (HRW.out.lt q hq).2)
        clear hk2 b0 b1 b2 b3 b4 b5 e0 e1
        have HRA : Hid ((w2.alloc (.cells #[.int .i64 (symI S dn)] 2)).ownsRow W.heap.size 2 1 (.slice a1 j c1) j (V.map (Value.int .i64))) := World.ownsRow.alloc HRX.out _
        go_wp2_with (at_builtin; refine wpList_append_lies _ rfl _ _ _ rfl W.heap.size 2 i6 _ 1 8 Tryz.underlying23 HI6.out.1 HI6.out.2.1 HI6.out.2.2.1 HI6.out.2.2.2 rfl (by omega) (.slice a1 j c1) j _ rfl HRA.out ⟨w2.heap.size, 0, none⟩ 1 1 [.int .i64 (symI S dn)] rfl rfl (World.news_of_block (cs := #[.int .i64 (symI S dn)]) (t := 2) (fr := (0, 0)) (heap_alloc_new w2 _)) (by simp [Value.oneCell']) (by omega) (by unfold maxLen; omega) (by omega) (by have := HKF.out.size; simp; omega) (w2.heap.size + 1) (by simp) ?_; intro gg cap w9 hown9 hgrow9 hat9 hlt9; have HOW9 := Lib.hid hown9; have HGR9 := Lib.hid hgrow9; clear hown9 hgrow9 hat9 hlt9)
        have HKZ := Lib.hid (grow_kept HRX.out HKF.out (Nat.le_refl _) HGR9.out)
        go_roundw
        case rel =>
          refine ⟨j + 1, some ⟨gg, 0, none⟩, cap, by omega, by go_num, rfl, ?_, HKZ.out⟩
          rw [HV.out, List.map_append]
          exact HOW9.out
        case measure => simp [intOf]; omega
      · have hpy := hp d.y (by simp [partsOf, hkd])
        obtain ⟨py, hpy'⟩ : ∃ py : Nat, d.y = py := ⟨d.y.toNat, by omega⟩
        obtain ⟨vr, hvr⟩ : ∃ vr, a1 = some ⟨vr, 0, none⟩ := by
          rcases HRW.out.2 with ⟨_, h0⟩ | ⟨r, cap', cur, hv, _⟩
          · omega
          · injection hv with ha _ _
            exact ⟨r, ha⟩
        subst hvr
        obtain ⟨vy, hvy⟩ : ∃ vy, V[py]? = some vy := ⟨_, List.getElem?_eq_getElem (by have := HVL.out; omega)⟩
        have HVY : Hid (vAt V d.y = vy) := by
          show _ = _
          unfold vAt
          rw [hpy', Int.toNat_natCast, List.getD_eq_getElem?_getD, hvy]; rfl
        have HVYR := Lib.hid (HVR.out vy (List.mem_of_getElem? hvy))
        have v0 : w1.cell? ⟨vr, py, none⟩ = some (.int .i64 vy) := by
          rw [HRW.out.cellAt py (by omega), List.getElem?_map, hvy]; rfl
        have p0 : (0 : Int) ≤ (py : Int) := Int.natCast_nonneg _
        have p1 : (py : Int) < (j : Int) := by omega
        have HV : Hid (vals S C (L.take (j + 1)) = V ++ [cellI C d.a d.n vy]) := HV0.out.trans (by unfold val1; rw [if_neg (by omega), if_neg (by omega), if_pos hkd, HVY.out])
        obtain ⟨dk, dn, da, dp, dx, dy⟩ := d
        simp only at *
        subst hkd
        subst hpy'
        clear HV0 hp HMAY HDO HVY hpy hvy
        go_wp2_with fail
        go_still_tail 10, (by kernel_rfl)
        have HKD := Lib.hid (Kept.drew (Kept.refl w1))
        change wpList _ _ _ _ _ w1.drew
        generalize w1.drew = wd at *
        have HKD2 := Lib.hid (HKE.out.trans HKD.out)
        have HRD := Lib.hid (ownsRow_block HRW.out fun q hq => HKD.out.block q (HRW.out.lt q hq).2)
        clear v0 b0 b1 b2 b3 b4 b5 e0 e1
        go_wp2_with fail
        refine (rcell_any (HE.out.cells.kept HKD2.out) hcn da dn vy).mono ?_
        rintro e w2 ⟨rfl, hk2⟩
        have HKF := Lib.hid (HKD2.out.trans hk2)
        have HRX := Lib.hid (ownsRow_block HRD.out fun q hq => hk2.block q (HRD.out.lt q hq).2)
        clear hk2
        have HRA : Hid ((w2.alloc (.cells #[.int .i64 (cellI C da dn vy)] 2)).ownsRow W.heap.size 2 1 (.slice (some ⟨vr, 0, none⟩) j c1) j (V.map (Value.int .i64))) := World.ownsRow.alloc HRX.out _
        go_wp2_with (at_builtin; refine wpList_append_lies _ rfl _ _ _ rfl W.heap.size 2 i6 _ 1 8 Tryz.underlying23 HI6.out.1 HI6.out.2.1 HI6.out.2.2.1 HI6.out.2.2.2 rfl (by omega) (.slice (some ⟨vr, 0, none⟩) j c1) j _ rfl HRA.out ⟨w2.heap.size, 0, none⟩ 1 1 [.int .i64 (cellI C da dn vy)] rfl rfl (World.news_of_block (cs := #[.int .i64 (cellI C da dn vy)]) (t := 2) (fr := (0, 0)) (heap_alloc_new w2 _)) (by simp [Value.oneCell']) (by omega) (by unfold maxLen; omega) (by omega) (by have := HKF.out.size; simp; omega) (w2.heap.size + 1) (by simp) ?_; intro gg cap w9 hown9 hgrow9 hat9 hlt9; have HOW9 := Lib.hid hown9; have HGR9 := Lib.hid hgrow9; clear hown9 hgrow9 hat9 hlt9)
        have HKZ := Lib.hid (grow_kept HRX.out HKF.out (Nat.le_refl _) HGR9.out)
        go_roundw
        case rel =>
          refine ⟨j + 1, some ⟨gg, 0, none⟩, cap, by omega, by go_num, rfl, ?_, HKZ.out⟩
          rw [HV.out, List.map_append]
          exact HOW9.out
        case measure => simp [intOf]; omega
      · have hpy := hp d.y (by simp [partsOf, hkd])
        obtain ⟨py, hpy'⟩ : ∃ py : Nat, d.y = py := ⟨d.y.toNat, by omega⟩
        obtain ⟨vr, hvr⟩ : ∃ vr, a1 = some ⟨vr, 0, none⟩ := by
          rcases HRW.out.2 with ⟨_, h0⟩ | ⟨r, cap', cur, hv, _⟩
          · omega
          · injection hv with ha _ _
            exact ⟨r, ha⟩
        subst hvr
        obtain ⟨vy, hvy⟩ : ∃ vy, V[py]? = some vy := ⟨_, List.getElem?_eq_getElem (by have := HVL.out; omega)⟩
        have HVY : Hid (vAt V d.y = vy) := by
          show _ = _
          unfold vAt
          rw [hpy', Int.toNat_natCast, List.getD_eq_getElem?_getD, hvy]; rfl
        have HVYR := Lib.hid (HVR.out vy (List.mem_of_getElem? hvy))
        have v0 : w1.cell? ⟨vr, py, none⟩ = some (.int .i64 vy) := by
          rw [HRW.out.cellAt py (by omega), List.getElem?_map, hvy]; rfl
        have p0 : (0 : Int) ≤ (py : Int) := Int.natCast_nonneg _
        have p1 : (py : Int) < (j : Int) := by omega
        have hpx := hp d.x (by simp [partsOf, hkd])
        obtain ⟨px, hpx'⟩ : ∃ px : Nat, d.x = px := ⟨d.x.toNat, by omega⟩
        obtain ⟨vx, hvx⟩ : ∃ vx, V[px]? = some vx := ⟨_, List.getElem?_eq_getElem (by have := HVL.out; omega)⟩
        have HVX : Hid (vAt V d.x = vx) := by
          show _ = _
          unfold vAt
          rw [hpx', Int.toNat_natCast, List.getD_eq_getElem?_getD, hvx]; rfl
        have HVXR := Lib.hid (HVR.out vx (List.mem_of_getElem? hvx))
        have v1 : w1.cell? ⟨vr, px, none⟩ = some (.int .i64 vx) := by
          rw [HRW.out.cellAt px (by omega), List.getElem?_map, hvx]; rfl
        have q0 : (0 : Int) ≤ (px : Int) := Int.natCast_nonneg _
        have q1 : (px : Int) < (j : Int) := by omega
        have HV : Hid (vals S C (L.take (j + 1)) = V ++ [opI d.o vx vy]) := HV0.out.trans (by unfold val1; rw [if_neg (by omega), if_neg (by omega), if_neg (by omega), HVX.out, HVY.out])
        obtain ⟨dk, dn, da, dp, dx, dy⟩ := d
        simp only at *
        subst hkd
        subst hpy'
        subst hpx'
        clear HV0 hp HMAY HDO HVY hpy hvy HVX hpx hvx
        go_wp2_with fail
        go_still_tail 12, (by kernel_rfl)
        have HKD := Lib.hid (Kept.drew (Kept.refl w1))
        change wpList _ _ _ _ _ w1.drew
        generalize w1.drew = wd at *
        have HKD2 := Lib.hid (HKE.out.trans HKD.out)
        have HRD := Lib.hid (ownsRow_block HRW.out fun q hq => HKD.out.block q (HRW.out.lt q hq).2)
        clear v0 v1 b0 b1 b2 b3 b4 b5 e0 e1
        go_wp2_with fail
        refine (refdo_any dp vx vy _ HVXR.out HVYR.out).mono ?_
        rintro e w2 ⟨rfl, rfl⟩
        have HRA : Hid ((wd.alloc (.cells #[.int .i64 (opI dp vx vy)] 2)).ownsRow W.heap.size 2 1 (.slice (some ⟨vr, 0, none⟩) j c1) j (V.map (Value.int .i64))) := World.ownsRow.alloc HRD.out _
        go_wp2_with (at_builtin; refine wpList_append_lies _ rfl _ _ _ rfl W.heap.size 2 i6 _ 1 8 Tryz.underlying23 HI6.out.1 HI6.out.2.1 HI6.out.2.2.1 HI6.out.2.2.2 rfl (by omega) (.slice (some ⟨vr, 0, none⟩) j c1) j _ rfl HRA.out ⟨wd.heap.size, 0, none⟩ 1 1 [.int .i64 (opI dp vx vy)] rfl rfl (World.news_of_block (cs := #[.int .i64 (opI dp vx vy)]) (t := 2) (fr := (0, 0)) (heap_alloc_new wd _)) (by simp [Value.oneCell']) (by omega) (by unfold maxLen; omega) (by omega) (by have := HKD2.out.size; simp; omega) (wd.heap.size + 1) (by simp) ?_; intro gg cap w9 hown9 hgrow9 hat9 hlt9; have HOW9 := Lib.hid hown9; have HGR9 := Lib.hid hgrow9; clear hown9 hgrow9 hat9 hlt9)
        have HKZ := Lib.hid (grow_kept HRD.out HKD2.out (Nat.le_refl _) HGR9.out)
        go_roundw
        case rel =>
          refine ⟨j + 1, some ⟨gg, 0, none⟩, cap, by omega, by go_num, rfl, ?_, HKZ.out⟩
          rw [HV.out, List.map_append]
          exact HOW9.out
        case measure => simp [intOf]; omega
    · obtain rfl : j = L.length := by omega
      have g0 := (HR.out.kept HK.out).cell0
      have HRF : Hid (RootsAt wr a1 L.length (vals S C L)) := by
        have h1 := HROW.out
        rw [List.take_length] at h1
        exact roots_of_row h1 (vals_length L) (vals_in HE.out.syms.inr HE.out.cells.ok _ HGD.out.ok)
      go_wp2
      go_ret
      exact ⟨a1, c1, rfl, HRF.out, HQ.out.trans HK.out⟩
end Go.Proofs.YtjhmbbioplhcgaaGreatDoor

namespace Go.Proofs.YtjhmbbioplhcgaaGreatDoor
open Go Go.RowKit

/-- The numbers of the terms, falling. -/
def fallI (n j : Nat) : List Int := (List.range j).map fun i : Nat => (n : Int) - 1 - (i : Int)
theorem fallI_succ (n j : Nat) : fallI n (j + 1) = fallI n j ++ [(n : Int) - 1 - j] := by
  unfold fallI; rw [List.range_succ, List.map_append]; rfl
theorem fallI_len (n j : Nat) : (fallI n j).length = j := by simp [fallI]
theorem fallI_mem {n j : Nat} {x : Int} (h : x ∈ fallI n j) (hj : j ≤ n) : 0 ≤ x ∧ x < n := by
  unfold fallI at h
  obtain ⟨i, hi, rfl⟩ := List.mem_map.1 h
  have := List.mem_range.1 hi
  omega
theorem fallI_get {n t : Nat} (ht : t < n) : (fallI n n)[t]? = some ((n : Int) - 1 - t) := by
  simp [fallI, List.getElem?_map, List.getElem?_range ht]

set_option maxRecDepth 100000 in
set_option maxHeartbeats 32000000 in
theorem of_few (la : Option Addr) (n lc : Nat) (ds : List Nd) (s : Sl) (S : List Int) (C : List Cl) (sy ve at_ ar : Int) (w : World) (hds : NodesAt w la n ds) (hE : EnvAt w s.sa s.sn s.ca s.cn S C)
    (hns : s.sa = none → s.sn = 0 ∧ s.sc = 0) (hsy : InR sy) (hve : InR ve) (hat : InR at_) (har : InR ar) (hn : n ≤ 80) (hsn : s.sn ≤ 60) (hcn : s.cn ≤ 60) (hL : Laid w) :
    Calls Tryz.prog 3 #[.slice la n lc, .agg #[.slice s.sa s.sn s.sc, .slice s.ca s.cn s.cc], .int .i64 sy, .int .i64 ve, .int .i64 at_, .int .i64 ar] w fun e w' => e = .returned (.bool true) ∧ Kept w w' := by
  have HK0 := Lib.hid ((Kept.refl w).alloc (.cells #[.slice s.sa s.sn s.sc, .slice s.ca s.cn s.cc] 26))
  have HB0 := Lib.hid ((MapKept.heap_alloc w (.cells #[.slice s.sa s.sn s.sc, .slice s.ca s.cn s.cc] 26)).1)
  have HDS := Lib.hid (hds.kept HK0.out)
  have HE := Lib.hid (hE.kept HK0.out)
  have HL := Lib.hid (hL.kept HK0.out)
  have HFB : Hid (fewB s.sn s.cn = true) := by show _ = _; unfold fewB; simp [hsn, hcn]
  have HNS := Lib.hid hns
  have HSY := Lib.hid hsy; have HVE := Lib.hid hve; have HAT := Lib.hid hat; have HAR := Lib.hid har
  clear hds hE hL hns hsy hve hat har
  obtain ⟨ii, hi, hz0, hz1, hz2⟩ := info_parts infoId
  have HII := Lib.hid (And.intro hi (And.intro hz0 (And.intro hz1 hz2))); clear hi hz0 hz1 hz2
  have h1 : ¬ (80 : Int) < (n : Int) := by omega
  have d1 : decide ((80 : Int) < (n : Int)) = false := decide_eq_false h1
  go_enter Tryz.func3, Tryz.ntmps3
  go_upto_region 1 with (fail)
  change Code.wp _ _ _ _ (w.alloc (.cells #[.slice s.sa s.sn s.sc, .slice s.ca s.cn s.cc] 26))
  generalize w.alloc (.cells #[.slice s.sa s.sn s.sc, .slice s.ca s.cn s.cc] 26) = W at *
  obtain ⟨b4, hb4⟩ : ∃ b4 : Nat, b4 = w.heap.size := ⟨_, rfl⟩
  rw [← hb4] at HB0 ⊢
  clear hb4
  have HEC : Hid (∀ w', Kept W w' → w'.cell? ⟨b4, 0, none⟩ = some (.slice s.sa s.sn s.sc) ∧ w'.cell? ⟨b4, 1, none⟩ = some (.slice s.ca s.cn s.cc)) := fun w' hk => by
    have q1 := hk.row HB0.out
    exact ⟨by rw [cell_of_row _ _ _ _ _ _ q1]; rfl, by rw [cell_of_row _ _ _ _ _ _ q1]; rfl⟩
  obtain ⟨e0, e1⟩ := HEC.out W (Kept.refl W)
  go_wp2_with fail
  refine (few_any s W).mono ?_
  rintro e w0 ⟨rfl, hk0⟩
  rw [HFB.out]
  have HKF := Lib.hid hk0; clear hk0 e0 e1
  go_wp2_with fail
  refine (made_any la n lc ds w0 (HDS.out.kept HKF.out) (by omega) (HL.out.kept HKF.out)).mono ?_
  rintro e w1 ⟨g, m, v, rfl, ⟨a, c, a', c', hG, rfl, _, _⟩, hk1⟩
  have hlen : (addsL (ds.take n)).length ≤ 80 := by
    have h2 := addsL_len (ds.take n)
    have h3 := List.length_take_le n ds
    omega
  generalize addsL (ds.take n) = L at *
  have HG := Lib.hid hG; have HK1 := Lib.hid (HKF.out.trans hk1)
  have HGD := Lib.hid hG.good
  clear hG hk1
  go_wp2_with fail
  refine (rplain_any HG.out (by omega)).mono ?_
  rintro e w2 ⟨h, ra, rc, rfl, hR, hk2⟩
  have HR := Lib.hid hR; have HK2 := Lib.hid (HK1.out.trans hk2); have HG2 := Lib.hid (HG.out.kept hk2)
  clear hR hk2 HG
  obtain ⟨e0, e1⟩ := HEC.out w2 HK2.out
  go_wp2_with fail
  refine (penv_any (HE.out.kept HK2.out) HNS.out (by omega) (by omega)).mono ?_
  rintro e w3 ⟨pa1, pc1, pa2, pc2, rfl, hP, hk3⟩
  have HP := Lib.hid hP; have HK3 := Lib.hid (HK2.out.trans hk3); have HG3 := Lib.hid (HG2.out.kept hk3); have HR3 := Lib.hid (HR.out.kept hk3)
  clear hP hk3 HG2 HR e0 e1
  go_upto_region 6 with (fail)
  have HBP := Lib.hid ((MapKept.heap_alloc w3 (.cells #[.slice pa1 s.sn pc1, .slice pa2 s.cn pc2] 37)).1)
  have HK4a := Lib.hid ((Kept.refl w3).alloc (.cells #[.slice pa1 s.sn pc1, .slice pa2 s.cn pc2] 37))
  change Code.wp _ _ _ _ (w3.alloc (.cells #[.slice pa1 s.sn pc1, .slice pa2 s.cn pc2] 37))
  generalize w3.alloc (.cells #[.slice pa1 s.sn pc1, .slice pa2 s.cn pc2] 37) = w4 at *
  generalize w3.heap.size = bP at *
  have HK4 := Lib.hid (HK3.out.trans HK4a.out)
  have HPC : Hid (∀ w', Kept w4 w' → w'.cell? ⟨bP, 0, none⟩ = some (.slice pa1 s.sn pc1) ∧ w'.cell? ⟨bP, 1, none⟩ = some (.slice pa2 s.cn pc2)) := fun w' hk => by
    have q1 := hk.row HBP.out
    exact ⟨by rw [cell_of_row _ _ _ _ _ _ q1]; rfl, by rw [cell_of_row _ _ _ _ _ _ q1]; rfl⟩
  have SK : Hid (∀ w', Kept w4 w' → Kept w4 w' ∧ w'.cell? ⟨b4, 0, none⟩ = some (.slice s.sa s.sn s.sc) ∧ w'.cell? ⟨b4, 1, none⟩ = some (.slice s.ca s.cn s.cc) ∧ w'.cell? ⟨bP, 0, none⟩ = some (.slice pa1 s.sn pc1) ∧ w'.cell? ⟨bP, 1, none⟩ = some (.slice pa2 s.cn pc2)) := fun w' hk =>
    ⟨hk, (HEC.out w' (HK4.out.trans hk)).1, (HEC.out w' (HK4.out.trans hk)).2, (HPC.out w' hk).1, (HPC.out w' hk).2⟩
  go_region_held3 (fun w' => Kept w4 w' ∧ w'.cell? ⟨b4, 0, none⟩ = some (.slice s.sa s.sn s.sc) ∧ w'.cell? ⟨b4, 1, none⟩ = some (.slice s.ca s.cn s.cc) ∧ w'.cell? ⟨bP, 0, none⟩ = some (.slice pa1 s.sn pc1) ∧ w'.cell? ⟨bP, 1, none⟩ = some (.slice pa2 s.cn pc2))
    (first | exact SK.out _ (Kept.refl _) | exact SK.out _ (Kept.drew (Kept.refl _)) | assumption | exact SK.out _ (Kept.trans (And.left ‹Kept w4 _ ∧ _›) (by assumption)))
    ((first
      | (go_at_call 11; refine (sym_any (by exact HE.out.syms.kept (HK4.out.trans (And.left ‹Kept w4 _ ∧ _›))) (by omega) sy HSY.out).mono ?_; rintro e w7 ⟨rfl, hk7⟩)
      | (go_at_call 12; refine (rsym_any (by exact HP.out.syms.kept (HK4a.out.trans (And.left ‹Kept w4 _ ∧ _›))) (by omega) sy).mono ?_; rintro e w7 ⟨rfl, hk7⟩)
      | (go_at_call 13; refine (vcell_any (by exact HE.out.cells.kept (HK4.out.trans (And.left ‹Kept w4 _ ∧ _›))) (by omega) ar ve at_).mono ?_; rintro e w7 ⟨rfl, hk7⟩)
      | (go_at_call 14; refine (rcell_any (by exact HP.out.cells.kept (HK4a.out.trans (And.left ‹Kept w4 _ ∧ _›))) (by omega) ar ve at_).mono ?_; rintro e w7 ⟨rfl, hk7⟩)))
  have HK5 := Lib.hid (HK4.out.trans (And.left ‹Kept w4 w7 ∧ _›))
  have HPE := Lib.hid (HP.out.kept (HK4a.out.trans (And.left ‹Kept w4 w7 ∧ _›)))
  have HRE := Lib.hid (HR3.out.kept (HK4a.out.trans (And.left ‹Kept w4 w7 ∧ _›)))
  have HGE := Lib.hid (HG3.out.kept (HK4a.out.trans (And.left ‹Kept w4 w7 ∧ _›)))
  obtain ⟨_, _, _, p0, p1⟩ := SK.out w7 (And.left ‹Kept w4 w7 ∧ _›)
  go_wp2_with fail
  refine (rall_any HRE.out HGD.out (by omega) HPE.out (by omega) (by omega)).mono ?_
  rintro e w8 ⟨va, vc, rfl, hV, hk8⟩
  have HV := Lib.hid hV; have HK8 := Lib.hid (HK5.out.trans hk8); have HG8 := Lib.hid (HGE.out.kept hk8)
  clear hV hk8 p0 p1
  go_wp2
  go_loopw [18, 19] (fun v i wr => ∃ (j : Nat) (a1 : Option Addr) (c1 : Nat), j ≤ L.length ∧ i = .int .i64 j ∧ v = .slice a1 j c1 ∧ wr.ownsRow w8.heap.size 44 1 (.slice a1 j c1) j ((fallI L.length j).map (Value.int .i64)) ∧ Kept w8 wr) (fun _ i _ => L.length - (intOf i).toNat)
  case atStart => exact ⟨0, none, 0, Nat.zero_le _, rfl, rfl, World.ownsRow_nil _ _ _ _, Kept.refl _⟩
  case round =>
    obtain ⟨j, a1, c1, hj, rfl, rfl, hrow, hKj⟩ := hrel
    have HROW := Lib.hid hrow; have HKJ := Lib.hid hKj
    clear hrow hKj
    have j0 : (0 : Int) ≤ (j : Int) := Int.natCast_nonneg _
    obtain ⟨e0, e1⟩ := HEC.out wr (HK8.out.trans HKJ.out)
    by_cases hjk : j < L.length
    · have j1 : (j : Int) < (L.length : Int) := by omega
      have HB : Hid (hasB L.length (j : Int) = true) := (hasB_iff _ _).2 ⟨j0, j1⟩
      obtain ⟨vb, vo, rfl, hcv⟩ := (HV.out.kept HKJ.out).at_ (by omega)
      obtain ⟨x, hx⟩ : ∃ x, (vals S C L)[j]? = some x := ⟨_, List.getElem?_eq_getElem (by rw [vals_length]; exact hjk)⟩
      have HOF : Hid (ofI S C L (j : Int) = x) := by
        show _ = _
        unfold ofI valI vAt
        rw [HB.out, if_pos rfl, Int.toNat_natCast, List.getD_eq_getElem?_getD, hx]; rfl
      have HX0 := Lib.hid (hcv j x hx)
      clear hcv hx
      go_wp2_with fail
      refine (of_any (HG8.out.kept HKJ.out) (by omega) (s := s) (HE.out.kept (HK8.out.trans HKJ.out)) (by omega) (by omega) (j : Int) ⟨by omega, by omega⟩).mono ?_
      rintro e w9 ⟨rfl, hk9⟩
      rw [HOF.out, HB.out]
      have x0 := hk9.cell HX0.out
      have HK9 := Lib.hid (HKJ.out.trans hk9)
      have HRW := Lib.hid (ownsRow_block HROW.out fun q hq => hk9.block q (HROW.out.lt q hq).2)
      clear hk9 e0 e1
      have HRA : Hid ((w9.alloc (.cells #[.int .i64 ((L.length : Int) - 1 - (j : Int))] 44)).ownsRow w8.heap.size 44 1 (.slice a1 j c1) j ((fallI L.length j).map (Value.int .i64))) := World.ownsRow.alloc HRW.out _
      go_wp2_with (at_builtin; refine wpList_append_lies _ rfl _ _ _ rfl w8.heap.size 44 ii _ 1 8 Tryz.underlying30 HII.out.1 HII.out.2.1 HII.out.2.2.1 HII.out.2.2.2 rfl (by omega) (.slice a1 j c1) j _ rfl HRA.out ⟨w9.heap.size, 0, none⟩ 1 1 [.int .i64 ((L.length : Int) - 1 - (j : Int))] rfl rfl (World.news_of_block (cs := #[.int .i64 ((L.length : Int) - 1 - (j : Int))]) (t := 44) (fr := (0, 0)) (heap_alloc_new w9 _)) (by simp [Value.oneCell']) (by omega) (by unfold maxLen; omega) (by omega) (by have := HK9.out.size; simp; omega) (w9.heap.size + 1) (by simp) ?_; intro gg cap w10 hown9 hgrow9 hat9 hlt9; have HOW9 := Lib.hid hown9; have HGR9 := Lib.hid hgrow9; clear hown9 hgrow9 hat9 hlt9)
      have HKE := Lib.hid (grow_kept HRW.out HK9.out (Nat.le_refl _) HGR9.out)
      go_roundw
      case rel =>
        refine ⟨j + 1, some ⟨gg, 0, none⟩, cap, by omega, by go_num, rfl, ?_, HKE.out⟩
        rw [fallI_succ, List.map_append]
        exact HOW9.out
      case measure => simp [intOf]; omega
    · obtain rfl : j = L.length := by omega
      have HIR : Hid (RootsAt wr a1 L.length (fallI L.length L.length)) := roots_of_row HROW.out (fallI_len _ _) fun x hx => by
        have h9 := fallI_mem hx (Nat.le_refl _)
        exact ⟨by omega, by omega⟩
      go_wp2_with fail
      refine (all_yes (HG8.out.kept HKJ.out) (by omega) (s := s) (HE.out.kept (HK8.out.trans HKJ.out)) (by omega) (by omega) a1 L.length c1 _ HIR.out (by omega) fun x hx => (hasB_iff _ _).2 (fallI_mem hx (Nat.le_refl _))).mono ?_
      rintro e w9 ⟨bt, rfl, hT, hk9⟩
      have HT := Lib.hid hT
      have HK9 := Lib.hid (HKJ.out.trans hk9)
      have HV9 := Lib.hid (HV.out.kept HK9.out)
      have HRW := Lib.hid (ownsRow_block HROW.out fun q hq => hk9.block q (HROW.out.lt q hq).2)
      have HIR9 := Lib.hid (HIR.out.kept hk9)
      clear hT hk9 e0 e1
      obtain ⟨q, hq⟩ : ∃ q : Nat, q = L.length := ⟨_, rfl⟩
      have HQ := Lib.hid hq
      rw [← hq] at HT HV9 HRW HIR9 hlen ⊢
      clear hq
      go_wp2
      go_loopw [24] (fun i wr => ∃ t : Nat, t ≤ q ∧ i = .int .i64 t ∧ Kept w9 wr) (fun i _ => q - (intOf i).toNat)
      case atStart => exact ⟨0, Nat.zero_le _, rfl, Kept.refl _⟩
      case round =>
        obtain ⟨t, ht, rfl, hKt⟩ := hrel
        have HKT := Lib.hid hKt; clear hKt
        have t0 : (0 : Int) ≤ (t : Int) := Int.natCast_nonneg _
        by_cases htq : t < q
        · have t1 : (t : Int) < (q : Int) := by omega
          obtain ⟨b5, o5, hb5, hc5⟩ := (HT.out.kept HKT.out).at_ (by omega)
          injection hb5 with hb5
          injection hb5 with hb5 ho5
          subst hb5; subst ho5
          obtain ⟨b6, o6, rfl, hc6⟩ := (HV9.out.kept HKT.out).at_ (by omega)
          obtain ⟨m2, hm2⟩ : ∃ m2 : Nat, m2 = q - 1 - t := ⟨_, rfl⟩
          obtain ⟨x, hx⟩ : ∃ x, (vals S C L)[m2]? = some x := ⟨_, List.getElem?_eq_getElem (by rw [vals_length, ← HQ.out]; omega)⟩
          have hid : ((fallI q q).map (valI S C L))[t]? = some x := by
            rw [List.getElem?_map, fallI_get htq]
            show some (valI S C L _) = some x
            unfold valI vAt
            rw [show ((q : Int) - 1 - t).toNat = m2 by omega, List.getD_eq_getElem?_getD, hx]; rfl
          have x5 := hc5 t x hid
          have x6 := hc6 m2 x hx
          simp only [Nat.zero_add] at x5
          have hw1 : IntKind.i64.wrap ((q : Int) - 1) = (q : Int) - 1 := IntWalk.i64_in _ (by omega)
          have hw2 : IntKind.i64.wrap ((q : Int) - 1 - (t : Int)) = (m2 : Int) := by rw [IntWalk.i64_in _ (by omega)]; omega
          have m0 : (0 : Int) ≤ (m2 : Int) := Int.natCast_nonneg _
          have m1 : (m2 : Int) < (q : Int) := by omega
          clear hc5 hc6 hx hid hm2
          go_wp2_with fail
          go_quiet (fail)
          go_wp2
          go_roundw
          case rel => exact ⟨t + 1, by omega, by go_num, HKT.out.trans ⟨rfl, rfl, rfl, Nat.le_refl _, fun _ _ => rfl⟩⟩
          case measure => simp [intOf]; omega
        · obtain rfl : t = q := by omega
          obtain ⟨e0, e1⟩ := HEC.out wr (HK8.out.trans (HK9.out.trans HKT.out))
          have HBN : Hid (hasB L.length (t : Int) = false) := by
            show _ = _
            rw [← HQ.out]
            unfold hasB
            simp
          have HOF : Hid (ofI S C L (t : Int) = 0) := by
            show _ = _
            unfold ofI
            rw [HBN.out]; rfl
          have hlen9 : L.length ≤ 80 := by rw [← HQ.out]; exact hlen
          go_wp2_with fail
          refine (of_any (HG8.out.kept (HK9.out.trans HKT.out)) (by omega) (s := s) (HE.out.kept (HK8.out.trans (HK9.out.trans HKT.out))) (by omega) (by omega) (t : Int) ⟨by omega, by omega⟩).mono ?_
          rintro e w11 ⟨rfl, hk11⟩
          rw [HOF.out, HBN.out]
          have HK11 := Lib.hid (HKT.out.trans hk11)
          clear hk11 e0 e1
          obtain ⟨e0, e1⟩ := HEC.out w11 (HK8.out.trans (HK9.out.trans HK11.out))
          have HRW11 := Lib.hid (ownsRow_block HRW.out fun b hb => HK11.out.block b (HRW.out.lt b hb).2)
          have hz9 := (Kept.refl w11).alloc (.cells #[.int .i64 (-1)] 44)
          have HRA : Hid ((w11.alloc (.cells #[.int .i64 (-1)] 44)).ownsRow w8.heap.size 44 1 (.slice a1 t c1) t ((fallI t t).map (Value.int .i64))) := World.ownsRow.alloc HRW11.out _
          have HBM : Hid (∃ x ∈ fallI t t ++ [-1], hasB L.length x = false) := ⟨-1, by simp, by unfold hasB; simp⟩
          have HIN : Hid (∀ x ∈ fallI t t ++ [-1], InR x) := fun x hx => by
            rcases List.mem_append.1 hx with hx | hx
            · have h9 := fallI_mem hx (Nat.le_refl _)
              exact ⟨by omega, by omega⟩
            · rw [List.mem_singleton.1 hx]; exact ⟨by decide, by decide⟩
          have HIL : Hid ((fallI t t ++ [-1]).length = t + 1) := by show _ = _; rw [List.length_append, fallI_len]; rfl
          have f0 := hz9.cell e0
          have f1 := hz9.cell e1
          clear hz9
          go_wp2_with fail
          go_region_law ((first
            | (refine step_append_lies _ (by rfl) _ _ _ (by rfl) w8.heap.size 44 ii _ 1 8 Tryz.underlying30 HII.out.1 HII.out.2.1 HII.out.2.2.1 HII.out.2.2.2 rfl (by omega) (.slice a1 t c1) t ((fallI t t).map (Value.int .i64)) (by rfl) HRA.out
                ⟨w11.heap.size, 0, none⟩ 1 1 [.int .i64 (-1)] (by rfl) (by rfl) (World.news_of_block (cs := #[.int .i64 (-1)]) (t := 44) (fr := (0, 0)) (heap_alloc_new w11 _)) (by simp [Value.oneCell'])
                (by omega) (by unfold maxLen; omega) (by omega) (by have := HK11.out.size; have := HK9.out.size; simp; omega) (w11.heap.size + 1) (by simp) ?_; intro gg cap w12 hown12 hgrow12 hat12 hlt12
               have HK12 := Lib.hid (grow_kept (o := .cells #[.int .i64 (-1)] 44) HRW11.out (HK9.out.trans HK11.out) (Nat.le_refl _) ⟨hgrow12.os, hgrow12.tape, hgrow12.output, hgrow12.size, hgrow12.block⟩)
               have HOW12 := Lib.hid hown12
               obtain ⟨k0, k1⟩ := HEC.out w12 (HK8.out.trans HK12.out)
               clear hgrow12 hown12 hat12 hlt12)
            | (go_simp; go_at_call 17; refine (all_no (HG8.out.kept HK12.out) (s := s) _ (t + 1) cap _ (roots_of_row (by rw [List.map_append]; exact HOW12.out) HIL.out HIN.out) (by omega) HBM.out).mono ?_; rintro e w13 ⟨rfl, hk13⟩)))
          all_goals
            have HK13 := Lib.hid (HK12.out.trans (by assumption))
            go_wp2_with (go_at_call 7; refine (vworks_any _ (HL.out.kept (HK8.out.trans HK13.out))).mono ?_; rintro e w14 ⟨rfl, hk14⟩)
            go_ret
            exact ⟨rfl, HK0.out.trans (HK8.out.trans (HK13.out.trans hk14))⟩

set_option maxRecDepth 100000 in
set_option maxHeartbeats 2000000 in
theorem of_many (la : Option Addr) (n lc : Nat) (s : Sl) (sy ve at_ ar : Int) (w : World) (h : 80 < n ∨ fewB s.sn s.cn = false) (hL : Laid w) :
    Calls Tryz.prog 3 #[.slice la n lc, .agg #[.slice s.sa s.sn s.sc, .slice s.ca s.cn s.cc], .int .i64 sy, .int .i64 ve, .int .i64 at_, .int .i64 ar] w fun e w' => e = .returned (.bool true) ∧ Kept w w' := by
  have HK0 := Lib.hid ((Kept.refl w).alloc (.cells #[.slice s.sa s.sn s.sc, .slice s.ca s.cn s.cc] 26))
  have HB0 := Lib.hid ((MapKept.heap_alloc w (.cells #[.slice s.sa s.sn s.sc, .slice s.ca s.cn s.cc] 26)).1)
  have HL := Lib.hid (hL.kept HK0.out)
  clear hL
  by_cases hn : 80 < n
  · have h1 : (80 : Int) < (n : Int) := by omega
    have d1 : decide ((80 : Int) < (n : Int)) = true := decide_eq_true h1
    clear h hn
    go_enter Tryz.func3, Tryz.ntmps3
    go_wp2_with (go_at_call 7; refine (vworks_any _ HL.out).mono ?_; rintro e w5 ⟨rfl, hk5⟩)
    go_ret
    exact ⟨rfl, HK0.out.trans hk5⟩
  · have h1 : ¬ (80 : Int) < (n : Int) := by omega
    have d1 : decide ((80 : Int) < (n : Int)) = false := decide_eq_false h1
    have hf : fewB s.sn s.cn = false := h.resolve_left hn
    clear h hn
    have HF := Lib.hid hf; clear hf
    go_enter Tryz.func3, Tryz.ntmps3
    go_upto_region 1 with (fail)
    change Code.wp _ _ _ _ (w.alloc (.cells #[.slice s.sa s.sn s.sc, .slice s.ca s.cn s.cc] 26))
    generalize w.alloc (.cells #[.slice s.sa s.sn s.sc, .slice s.ca s.cn s.cc] 26) = W at *
    have e0 : W.cell? ⟨w.heap.size, 0, none⟩ = some (.slice s.sa s.sn s.sc) := by rw [cell_of_row _ _ _ _ _ _ HB0.out]; rfl
    have e1 : W.cell? ⟨w.heap.size, 1, none⟩ = some (.slice s.ca s.cn s.cc) := by rw [cell_of_row _ _ _ _ _ _ HB0.out]; rfl
    go_wp2_with fail
    refine (few_any s W).mono ?_
    rintro e w0 ⟨rfl, hk0⟩
    rw [HF.out]
    have HK1 := Lib.hid hk0; clear hk0 e0 e1
    go_wp2_with (go_at_call 7; refine (vworks_any _ (HL.out.kept HK1.out)).mono ?_; rintro e w5 ⟨rfl, hk5⟩)
    go_ret
    exact ⟨rfl, HK0.out.trans (HK1.out.trans hk5)⟩
theorem valueof_any (la : Option Addr) (n lc : Nat) (ds : List Nd) (sa : Option Addr) (sn sc : Nat) (ca : Option Addr) (cn cc : Nat) (S : List Int) (C : List Cl) (sy ve at_ ar : Int) (w : World) (hds : NodesAt w la n ds) (hE : EnvAt w sa sn ca cn S C)
    (hns : sa = none → sn = 0 ∧ sc = 0) (hsy : InR sy) (hve : InR ve) (hat : InR at_) (har : InR ar) (hL : Laid w) :
    Calls Tryz.prog 3 #[.slice la n lc, .agg #[.slice sa sn sc, .slice ca cn cc], .int .i64 sy, .int .i64 ve, .int .i64 at_, .int .i64 ar] w fun e w' => e = .returned (.bool true) ∧ Kept w w' := by
  by_cases h : n ≤ 80 ∧ (sn ≤ 60 ∧ cn ≤ 60)
  · exact of_few la n lc ds ⟨sa, sn, sc, ca, cn, cc⟩ S C sy ve at_ ar w hds hE hns hsy hve hat har h.1 h.2.1 h.2.2 hL
  · refine of_many la n lc ⟨sa, sn, sc, ca, cn, cc⟩ sy ve at_ ar w ?_ hL
    by_cases h1 : 80 < n
    · exact Or.inl h1
    · refine Or.inr ?_
      show fewB sn cn = false
      unfold fewB
      rw [← Bool.not_eq_true]
      simp only [Bool.and_eq_true, decide_eq_true_eq]
      intro h3
      exact h ⟨by omega, h3⟩
end Go.Proofs.YtjhmbbioplhcgaaGreatDoor
