/-
  Layer 4, NormOf: made plain, a term has its value, and is plain.
-/
import Derived.Test.YtgkjdmojbndicaaGreatDoorMX
import Derived.Test.YtgkjdmojbndicaaGreatDoorML
namespace Go.Proofs.YtgkjdmojbndicaaGreatDoor
open Go Go.RowKit

section
variable {w0 w : World} {B g m : Nat} {P : List (Nat × Obj)} {L : List Nd}
theorem value_ses (h : Ses w0 B g m P w L) (hlen : L.length ≤ 1000000000) {s : Sl} {S : List Int} {C : List Cl} (hE : EnvAt w s.sa s.sn s.ca s.cn S C) (hs : s.sn ≤ 100000) (hc : s.cn ≤ 100000) (id : Int) (hid : InR id) :
    Calls Tryz.prog 16 #[.pointer (some ⟨g, 0, none⟩), .agg #[.slice s.sa s.sn s.sc, .slice s.ca s.cn s.cc], .int .i64 id] w fun e w' => e = .returned (.tuple #[.int .i64 (ofI S C L id), .bool (hasB L.length id)]) ∧ Kept w w' := by
  obtain ⟨a, c, hG, hP⟩ := h.gr
  exact of_any hG hlen hE hs hc id hid
theorem ofbad_ses (h : Ses w0 B g m P w L) (i : Int) (hi : InR i) (hb : hasB L.length i = false) :
    Calls Tryz.prog 24 #[.pointer (some ⟨g, 0, none⟩), .int .i64 i] w fun e w' => e = .returned (.int .i64 (-1)) ∧ Kept w w' := by
  obtain ⟨a, c, hG, hP⟩ := h.gr
  exact of_bad hG i hi hb
end
def EnvB (w : World) (b : Nat) (s : Sl) : Prop := w.heap[b]? = some (.cells #[.slice s.sa s.sn s.sc, .slice s.ca s.cn s.cc] 26 (0, 0))
theorem EnvB.facts {w : World} {b : Nat} {s : Sl} (h : EnvB w b s) : w.cell? ⟨b, 0, none⟩ = some (.slice s.sa s.sn s.sc) ∧ w.cell? ⟨b, 1, none⟩ = some (.slice s.ca s.cn s.cc) := by
  constructor <;> (rw [cell_of_row _ _ _ _ _ _ h]; rfl)
set_option maxRecDepth 100000 in
set_option maxHeartbeats 16000000 in
theorem normof_any (la : Option Addr) (n lc : Nat) (ds : List Nd) (s : Sl) (S : List Int) (C : List Cl) (w : World) (hds : NodesAt w la n ds) (hE : EnvAt w s.sa s.sn s.ca s.cn S C) (hL : Laid w) (hT : Tab w) :
    Calls Tryz.prog 4 #[.slice la n lc, .agg #[.slice s.sa s.sn s.sc, .slice s.ca s.cn s.cc]] w fun e w' => e = .returned (.bool true) ∧ Kept w w' := by
  have hk0 := (Kept.refl w).alloc (.cells #[.slice s.sa s.sn s.sc, .slice s.ca s.cn s.cc] 26)
  have HK0 := Lib.hid hk0
  have HB := Lib.hid (show EnvB (w.alloc (.cells #[.slice s.sa s.sn s.sc, .slice s.ca s.cn s.cc] 26)) w.heap.size s from (MapKept.heap_alloc w _).1)
  have HD := Lib.hid (hds.kept hk0)
  have HE := Lib.hid (hE.kept hk0)
  have HL := Lib.hid (And.intro (hL.kept hk0) (hT.below hk0))
  clear hds hE hL hT hk0
  go_enter Tryz.func4, Tryz.ntmps4
  go_upto_region 1 with (fail)
  change Code.wp _ _ _ _ (w.alloc (.cells #[.slice s.sa s.sn s.sc, .slice s.ca s.cn s.cc] 26))
  generalize w.alloc (.cells #[.slice s.sa s.sn s.sc, .slice s.ca s.cn s.cc] 26) = W at *
  obtain ⟨be, hbe⟩ : ∃ be : Nat, be = w.heap.size := ⟨_, rfl⟩
  rw [← hbe] at HB ⊢
  clear hbe
  by_cases h40 : n ≤ 40
  · have d40 : decide ((40 : Int) < (n : Int)) = false := decide_eq_false (by omega)
    have HN40 := Lib.hid h40
    clear h40
    have ef := HB.out.facts
    have e0 := ef.1
    have e1 := ef.2
    clear ef
    go_wp2_with fail
    refine (few_any s _).mono ?_
    rintro e w1 ⟨rfl, hk1⟩
    have HK1 := Lib.hid hk1
    clear hk1 e0 e1
    cases hf : fewB s.sn s.cn with
    | false =>
      clear hf
      go_wp2_with fail
      refine (works_any _ (HL.out.1.kept HK1.out) (HL.out.2.below HK1.out)).mono ?_
      rintro e w2 ⟨rfl, hk2⟩
      have HK2 := Lib.hid (HK0.out.trans (HK1.out.trans hk2))
      clear hk2
      go_wp2
      go_ret
      exact ⟨rfl, HK2.out⟩
    | true =>
      have HFEW : Hid (s.sn ≤ 60 ∧ s.cn ≤ 60) := by
        unfold fewB at hf
        simp at hf
        exact hf
      clear hf
      go_wp2_with fail
      refine (made_any la n lc ds _ (HD.out.kept HK1.out) (by have := HN40.out; omega) (HL.out.1.kept HK1.out)).mono ?_
      rintro e w2 ⟨g, m, v, rfl, ⟨a, c, a', c', hG, rfl, hrow, _⟩, hk⟩
      have htk : ds.take n = ds := List.take_of_length_le (by rw [HD.out.len]; exact Nat.le_refl _)
      rw [htk] at hG
      have hlen : (addsL ds).length ≤ 40 := Nat.le_trans (addsL_len ds) (by rw [HD.out.len]; exact HN40.out)
      obtain ⟨L0, hL0⟩ : ∃ L, L = addsL ds := ⟨_, rfl⟩
      rw [← hL0] at hG hlen
      obtain ⟨B, hB⟩ : ∃ B : Nat, B = w1.heap.size := ⟨_, rfl⟩
      have hWB : W.heap.size ≤ B := by rw [hB]; exact HK1.out.size
      rw [← hB] at hG
      have HS := Lib.hid (show Ses W B g m [] w2 L0 from ⟨⟨_, _, hG, fun q hq => by cases hq⟩, HK1.out.trans hk, hWB, HL.out⟩)
      have HN := Lib.hid hlen
      have HG0 := Lib.hid hG.good
      clear hG hk hrow htk hlen hL0 hB hWB
      go_wp2_with fail
      refine (size_ses HS.out).mono ?_
      rintro e w' ⟨rfl, rfl⟩
      obtain ⟨q, hq⟩ : ∃ q : Nat, q = L0.length := ⟨_, rfl⟩
      have HQ := Lib.hid hq
      rw [← hq] at HN ⊢
      have hq40 : q ≤ 40 := HN.out
      clear hq
      go_wp2
      go_loopw [8] (fun i wr => ∃ (t : Nat) (L : List Nd), t ≤ q ∧ i = .int .i64 t ∧ Ses W B g m [] wr L ∧ Ext L0 L ∧ Hid (L.length ≤ 40 + t * 26400)) (fun i _ => q - (intOf i).toNat)
      case atStart => exact ⟨0, L0, Nat.zero_le _, rfl, HS.out, Ext.refl _, by have h1 := HQ.out; have h2 := HN.out; show _ ≤ _; omega⟩
      case round =>
        obtain ⟨t, L, ht, rfl, hS, hX, HLL⟩ := hrel
        have HS := Lib.hid hS
        have HX := Lib.hid hX
        clear hS hX
        have t0 : (0 : Int) ≤ (t : Int) := Int.natCast_nonneg _
        by_cases htq : t < q
        · have t1 : (t : Int) < (q : Int) := by omega
          have HB0 : Hid (hasB L0.length (t : Int) = true) := (hasB_iff _ _).2 ⟨t0, by have := HQ.out; omega⟩
          have HBT := Lib.hid (HX.out.has HB0.out)
          have HDT : Hid (dN L (t : Int) ≤ 40) := by
            show _ ≤ _
            rw [dN_ext HX.out HB0.out]
            exact deep_index HG0.out HB0.out (by have := HQ.out; have := HN.out; omega)
          have HLT : Hid (L.length ≤ 40 + 40 * 26400) := by
            have h1 := HLL.out
            have h2 : t * 26400 ≤ 40 * 26400 := Nat.mul_le_mul_right _ (by omega)
            show _ ≤ _
            omega
          have HBIG : Hid (40 + t * 26400 + (40 + 1) * (16 * 40 + 20) ≤ 999999999) := by
            have h2 : t * 26400 ≤ 40 * 26400 := Nat.mul_le_mul_right _ (by omega)
            show _ ≤ _
            omega
          go_wp2_with fail
          refine (of_ses HS.out (t : Int) HBT.out (40 + t * 26400) 40 40 HLL.out HDT.out (by omega) HBIG.out).mono ?_
          rintro e w3 ⟨j, L1, rfl, q1, q2, q5, q6, q3, q4⟩
          have HS1 := Lib.hid q1
          have HX1 := Lib.hid q2
          have HR1 := Lib.hid (q5 L1 (Ext.refl _))
          have HJB := Lib.hid q6
          have HL1 : Hid (L1.length ≤ 40 + (t + 1) * 26400) := by show _ ≤ _; omega
          have HJD : Hid (dN L1 j ≤ 80) := q4
          have HL1B : Hid (L1.length ≤ 1100000) := by have := HL1.out; show _ ≤ _; omega
          clear q1 q2 q3 q4 q5 q6
          have ef := (show EnvB w3 be s from HS1.out.kept.row HB.out).facts
          have e0 := ef.1
          have e1 := ef.2
          clear ef
          go_wp2_with fail
          refine (value_ses HS1.out (Nat.le_trans HL1B.out (by decide)) (s := s) (HE.out.kept HS1.out.kept) (by have := HFEW.out; omega) (by have := HFEW.out; omega) j (has_in (by have := HL1B.out; omega) HJB.out)).mono ?_
          rintro e w4 ⟨rfl, hk4⟩
          rw [HJB.out]
          have HS2 := Lib.hid (HS1.out.then hk4)
          clear hk4 e0 e1
          have ef := (show EnvB w4 be s from HS2.out.kept.row HB.out).facts
          have e0 := ef.1
          have e1 := ef.2
          clear ef
          have HTB := Lib.hid (HX1.out.has HBT.out)
          go_wp2_with fail
          refine (value_ses HS2.out (Nat.le_trans HL1B.out (by decide)) (s := s) (HE.out.kept HS2.out.kept) (by have := HFEW.out; omega) (by have := HFEW.out; omega) (t : Int) ⟨by omega, by omega⟩).mono ?_
          rintro e w5 ⟨rfl, hk5⟩
          rw [HTB.out]
          have HS3 := Lib.hid (HS2.out.then hk5)
          clear hk5 e0 e1
          have hvv : (ofI S C L1 j != ofI S C L1 (t : Int)) = false := by
            rw [bne_eq_false_iff_eq]
            unfold ofI
            rw [HJB.out, HTB.out]
            exact HR1.out.val HE.out.syms.inr HE.out.cells.ok HS3.out.good
          go_wp2_with fail
          refine (of_plain HS3.out j (HR1.out.pl HS3.out.good) (by have := HL1B.out; have := HJD.out; omega)).mono ?_
          rintro e w6 ⟨rfl, hS6⟩
          have HS6 := Lib.hid hS6
          clear hS6 hvv
          have hjj : (j != j) = false := by simp
          go_wp2
          go_roundw
          case rel => exact ⟨t + 1, L1, by omega, by go_num, HS6.out, HX.out.trans HX1.out, HL1.out⟩
          case measure => simp [intOf]; omega
        · obtain rfl : t = q := by omega
          have HLT : Hid (L.length ≤ 40 + 40 * 26400) := by
            have h1 := HLL.out
            have h2 : t * 26400 ≤ 40 * 26400 := Nat.mul_le_mul_right _ (by omega)
            show _ ≤ _
            omega
          go_wp2_with fail
          refine (ofbad_ses HS.out (-1) ⟨by decide, by decide⟩ (by unfold hasB; simp)).mono ?_
          rintro e w3 ⟨rfl, hk3⟩
          have HS3 := Lib.hid (HS.out.then hk3)
          clear hk3
          go_wp2_with fail
          refine (size_ses HS3.out).mono ?_
          rintro e w' ⟨rfl, rfl⟩
          go_wp2_with fail
          refine (ofbad_ses HS3.out (L.length : Int) ⟨by omega, by have := HLT.out; omega⟩ (by unfold hasB; simp)).mono ?_
          rintro e w4 ⟨rfl, hk4⟩
          have HS4 := Lib.hid (HS3.out.then hk4)
          clear hk4
          go_wp2_with fail
          refine (works_any _ (HL.out.1.kept HS4.out.kept) (HL.out.2.below HS4.out.kept)).mono ?_
          rintro e w5 ⟨rfl, hk5⟩
          have HK5 := Lib.hid (HK0.out.trans (HS4.out.kept.trans hk5))
          clear hk5
          go_wp2
          go_ret
          exact ⟨rfl, HK5.out⟩
  · have d40 : decide ((40 : Int) < (n : Int)) = true := decide_eq_true (by omega)
    clear h40
    go_wp2_with fail
    refine (works_any _ HL.out.1 HL.out.2).mono ?_
    rintro e w2 ⟨rfl, hk2⟩
    have HK2 := Lib.hid (HK0.out.trans hk2)
    clear hk2
    go_wp2
    go_ret
    exact ⟨rfl, HK2.out⟩
end Go.Proofs.YtgkjdmojbndicaaGreatDoor
