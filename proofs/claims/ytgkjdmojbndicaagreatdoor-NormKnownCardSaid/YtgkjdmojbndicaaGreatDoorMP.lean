/-
  Several texts in one: TNil: Layer 2: a nil graph takes nothing, and none of its terms uses any.; NWorks0: Layer 4: the contract of the chapter's examples (works).; NWorks: Layer 4: the contract of the chapter's examples (works)..
-/
import Derived.Test.YtgkjdmojbndicaaGreatDoorMG
import Derived.Test.YtgkjdmojbndicaaGreatDoorMO
import Derived.Test.YtgkjdmojbndicaaGreatDoorMH
namespace Go.Proofs.YtgkjdmojbndicaaGreatDoor
open Go Go.RowKit

set_option maxHeartbeats 1000000 in
theorem maybe_nil (d : Nd) (w : World) :
    Calls Tryz.prog 61 #[.pointer none, .agg #[.int .u8 d.k, .int .i64 d.n, .int .i64 d.a, .int .u8 d.o, .int .i64 d.x, .int .i64 d.y]] w fun e w' => e = .returned (.bool false) ∧ Kept w w' := by
  have HQ := Lib.hid ((Kept.refl w).alloc (.cells #[.int .u8 d.k, .int .i64 d.n, .int .i64 d.a, .int .u8 d.o, .int .i64 d.x, .int .i64 d.y] 42))
  go_enter Tryz.func61, Tryz.ntmps61
  go_wp2
  go_ret
  exact ⟨rfl, HQ.out⟩
set_option maxHeartbeats 1000000 in
theorem add_nil (d : Nd) (w : World) :
    Calls Tryz.prog 41 #[.pointer none, .agg #[.int .u8 d.k, .int .i64 d.n, .int .i64 d.a, .int .u8 d.o, .int .i64 d.x, .int .i64 d.y]] w fun e w' => e = .returned (.int .i64 (-1)) ∧ Kept w w' := by
  have HQ := Lib.hid ((Kept.refl w).alloc (nodeObj d))
  go_enter Tryz.func41, Tryz.ntmps41
  go_wp2_with fail
  refine (maybe_nil d _).mono ?_
  rintro e w1 ⟨rfl, hk⟩
  have HK := Lib.hid (HQ.out.trans hk); clear hk
  go_wp2
  go_ret
  exact ⟨rfl, HK.out⟩
set_option maxRecDepth 100000 in
set_option maxHeartbeats 4000000 in
theorem uses_nilg (b : Nat) (x : Int) (w : World) (hx : w.cell? ⟨b, 0, none⟩ = some (.int .i64 x)) :
    Calls Tryz.prog 56 #[.pointer none, .slice (some ⟨b, 0, none⟩) 1 1] w fun e w' => e = .returned (.slice none 0 0) ∧ Kept w w' := by
  have hmm := @run_makeMap Tryz.prog
  have HX := Lib.hid hx
  clear hx
  go_enter Tryz.func56, Tryz.ntmps56
  go_wp2
  have HS := Lib.hid (uses_start w)
  change Code.wp _ _ _ _ (((w.alloc (.cells #[.slice none 0 0] 31)).alloc (.map #[] 0)).alloc (.cells #[.map (some (w.heap.size + 1))] 123))
  generalize ((w.alloc (.cells #[.slice none 0 0] 31)).alloc (.map #[] 0)).alloc (.cells #[.map (some (w.heap.size + 1))] 123) = W1 at *
  generalize w.heap.size + 1 + 1 = bs at *
  generalize w.heap.size + 1 = ms at *
  have HU : Hid (W1.cell? ⟨w.heap.size, 0, none⟩ = some (.slice none 0 0)) := by
    show _ = _
    rw [cell_of_row _ _ _ _ _ _ HS.out.1.hu]; rfl
  generalize w.heap.size = bu at *
  go_loopw [17] (fun i wr => ∃ j : Nat, j ≤ 1 ∧ i = .int .i64 j ∧ wr = W1) (fun i _ => 1 - (intOf i).toNat)
  case atStart => exact ⟨0, by omega, rfl, rfl⟩
  case round =>
    obtain ⟨j, hj, rfl, rfl⟩ := hrel
    have u0 := HU.out
    by_cases hj1 : j = 1
    · subst hj1
      go_wp2
      go_loopw [10] (fun i wr' => i = .int .i64 0 ∧ wr' = wr) (fun i _ => 1)
      case atStart => exact ⟨rfl, rfl⟩
      case round =>
        obtain ⟨rfl, rfl⟩ := hrel
        go_wp2_with fail
        refine (AnyM.slices_Sort_int_none Tryz.laysSort _ _ _).mono ?_
        rintro e w3 ⟨rfl, hw3⟩
        subst hw3
        go_wp2
        go_ret
        exact ⟨rfl, HS.out.2⟩
    · obtain rfl : j = 0 := by omega
      have x0 := HS.out.2.cell HX.out
      go_wp2_with ((go_at_call 46; refine (has_nil _ _).mono ?_; rintro e w' ⟨rfl, rfl⟩))
      go_roundw
      case rel => exact ⟨1, by omega, rfl, by first | rfl | trivial⟩
      case measure => simp [intOf]
end Go.Proofs.YtgkjdmojbndicaaGreatDoor

namespace Go.Proofs.YtgkjdmojbndicaaGreatDoor
open Go Go.RowKit

section
variable {w0 w : World} {B g m : Nat} {P : List (Nat × Obj)} {L : List Nd}
set_option maxHeartbeats 1000000 in
theorem num_ses (h : Ses w0 B g m P w L) (n : Int) (hn : InR n) (hlen : L.length ≤ 1000000000) :
    Calls Tryz.prog 33 #[.pointer (some ⟨g, 0, none⟩), .int .i64 n] w fun e w' => ∃ i L', e = .returned (.int .i64 i) ∧ Ses w0 B g m P w' L' ∧ Ext L L' ∧ CN L' n i ∧ L'.length ≤ L.length + 1 := by
  have HC := Lib.hid (const_ses h n hn hlen)
  clear h hn hlen
  go_enter Tryz.func33, Tryz.ntmps33
  go_wp2_with fail
  refine HC.out.mono ?_
  rintro e w' ⟨i, L', rfl, h1, h2, h3, h4⟩
  have H := Lib.hid (And.intro h1 (And.intro h2 (And.intro h3 h4)))
  clear h1 h2 h3 h4
  go_wp2
  go_ret
  exact ⟨i, L', rfl, H.out.1, H.out.2.1, H.out.2.2.1, H.out.2.2.2⟩
theorem text_ses (h : Ses w0 B g m P w L) (hlen : L.length ≤ 900) (i : Int) :
    Calls Tryz.prog 39 #[.pointer (some ⟨g, 0, none⟩), .int .i64 i] w fun e w' => e = .returned (str (textI L i)) ∧ Kept w w' := by
  obtain ⟨a, c, hG, hP⟩ := h.gr
  exact text_any hG (h.laid.1.kept h.kept) hlen i
end
end Go.Proofs.YtgkjdmojbndicaaGreatDoor

namespace Go.Proofs.YtgkjdmojbndicaaGreatDoor
open Go Go.RowKit


/-! ### The examples' terms -/
theorem itoa8 : Lib.itoa 8 = [56] := by
  unfold Lib.itoa; rw [if_neg (by decide)]; exact Lib.decDigits_one (by decide)
theorem itoa00 : Lib.itoa 0 = [48] := by
  unfold Lib.itoa; rw [if_neg (by decide)]; exact Lib.decDigits_one (by decide)
theorem text_s8 {L : List Nd} (hG : Good L) {b s c : Int} (hb : hasB L.length b = true ∧ ndAt L b = bN 3 s c) (hs : hasB L.length s = true ∧ ndAt L s = ⟨2, 0, 0, 0, 0, 0⟩) (hc : CN L 8 c) : textI L b = [40, 115, 48, 32, 42, 32, 56, 41] := by
  obtain ⟨i, hi, rfl, e1⟩ := nd_of hb.1
  obtain ⟨j, hj, rfl, e2⟩ := nd_of hs.1
  obtain ⟨k, hk, rfl, e3⟩ := nd_of hc.1
  have n1 : L[i] = bN 3 j k := e1.symm.trans hb.2
  have n2 : L[j] = ⟨2, 0, 0, 0, 0, 0⟩ := e2.symm.trans hs.2
  have n3 : L[k] = kN 8 := e3.symm.trans hc.2
  have t2 := textOf_k2 hG hj (by rw [n2])
  have t3 := textOf_k1 hG hk (by rw [n3]; rfl)
  have t1 := textOf_k4 hG hi (by rw [n1]; rfl)
  rw [n2] at t2
  rw [n3] at t3
  rw [n1] at t1
  have t1' : textOf L (i : Int) = (((([40] ++ textOf L j) ++ [32]) ++ signOf 3) ++ [32]) ++ textOf L k ++ [41] := t1
  have t2' : textOf L (j : Int) = [115] ++ Lib.itoa 0 := t2
  have t3' : textOf L (k : Int) = Lib.itoa 8 := t3
  rw [t2', t3', itoa8, itoa00] at t1'
  unfold textI
  rw [hb.1, t1']
  rfl
theorem sym_pl {L : List Nd} {s n : Int} (hs : hasB L.length s = true ∧ ndAt L s = ⟨2, n, 0, 0, 0, 0⟩) : Pl L s ∧ isC (ndAt L s) = false ∧ (∀ o, behB L (ndAt L s) o = false) := by
  refine ⟨.leaf hs.1 (Or.inr (by rw [hs.2])), by rw [hs.2]; rfl, fun o => by rw [hs.2]; rfl⟩
theorem ex_mul {L : List Nd} (hG : Good L) {s c b c8 d : Int} (hs : hasB L.length s = true ∧ ndAt L s = ⟨2, 0, 0, 0, 0, 0⟩) (hc : CN L 3 c) (h8 : CN L 8 c8) (r1 : Run L ⟨11, s, c⟩ b) (r2 : Run L ⟨3, c8, s⟩ d) : b = d ∧ (hasB L.length b = true ∧ ndAt L b = bN 3 s c8) := by
  have p := sym_pl hs
  have r3 := run_swap hG (o := 3) rfl ⟨(by show (1 : Int) ≤ 3; decide), (by show (3 : Int) ≤ 16; decide), h8.1, hs.1⟩ r2
  have e8 : opI 11 1 3 = 8 := by decide
  have hbd := mv_shl hG p.1 hc (by rw [e8]; exact h8) r1 r3
  refine ⟨hbd, ?_⟩
  rw [hbd]
  have e := nx3 (p.1.fc p.2.1 h8)
  rw [p.2.2] at e
  simp at e
  exact run_add e r3
set_option maxRecDepth 100000 in
set_option maxHeartbeats 16000000 in
theorem works_any (w : World) (hL : Laid w) (hT : Tab w) : Calls Tryz.prog 10 #[] w fun e w' => e = .returned (.bool true) ∧ Kept w w' := by
  have HL := Lib.hid (And.intro hL hT)
  clear hL hT
  go_enter Tryz.func10, Tryz.ntmps10
  go_wp2_with fail
  refine (new_any w.heap.size w (Nat.le_refl _)).mono ?_
  rintro e w0 ⟨g, m, rfl, hG, hK, _⟩
  obtain ⟨L0, hL0⟩ : ∃ L : List Nd, L = [] := ⟨_, rfl⟩
  rw [← hL0] at hG
  have HS := Lib.hid (show Ses w w.heap.size g m [] w0 L0 from ⟨⟨_, _, hG, fun q hq => by cases hq⟩, hK, Nat.le_refl _, HL.out⟩)
  have HN : Hid (L0.length ≤ 1) := by rw [hL0]; exact Nat.zero_le _
  clear hG hK hL0
  go_wp2_with fail
  refine (sym_ses HS.out (0) (in0) (by decide) (by have := HN.out; omega)).mono ?_
  rintro e w1 ⟨i_s, L1, rfl, q1, q2, q3, q4⟩
  have HS2 := Lib.hid q1
  have HN2 : Hid (L1.length ≤ 1+1) := Nat.le_trans q4 (Nat.succ_le_succ HN.out)
  have HC_s := Lib.hid (fun L'' (e2 : Ext L1 L'') => (⟨e2.has q3.1, (e2.nd q3.1).trans q3.2⟩ : hasB L''.length i_s = true ∧ ndAt L'' i_s = ⟨2, 0, 0, 0, 0, 0⟩))
  have HJ : Hid (Know L1 i_s 1) := ⟨q3.1, by rw [dN_1 q1.good q3.1 (Or.inr (by rw [q3.2]))]; exact Nat.le_refl _⟩
  have HE0 : Hid (Ext L0 L1) := q2
  clear q1 q2 q3 q4
  have HI_s := HJ
  clear HJ
  clear HS
  have HS := HS2
  clear HS2
  clear HN
  have HN := HN2
  clear HN2
  go_wp2_with fail
  refine (sym_ses HS.out (1) (in1) (by decide) (by have := HN.out; omega)).mono ?_
  rintro e w2 ⟨i_t, L2, rfl, q1, q2, q3, q4⟩
  have HS2 := Lib.hid q1
  have HN2 : Hid (L2.length ≤ 1+1+1) := Nat.le_trans q4 (Nat.succ_le_succ HN.out)
  have HC_t := Lib.hid (fun L'' (e2 : Ext L2 L'') => (⟨e2.has q3.1, (e2.nd q3.1).trans q3.2⟩ : hasB L''.length i_t = true ∧ ndAt L'' i_t = ⟨2, 1, 0, 0, 0, 0⟩))
  have HJ : Hid (Know L2 i_t 1) := ⟨q3.1, by rw [dN_1 q1.good q3.1 (Or.inr (by rw [q3.2]))]; exact Nat.le_refl _⟩
  have HE1 : Hid (Ext L1 L2) := q2
  have HT := Lib.hid (HI_s.out.ext HE1.out)
  clear HI_s
  have HI_s := HT
  clear HT
  clear q1 q2 q3 q4
  have HI_t := HJ
  clear HJ
  clear HS
  have HS := HS2
  clear HS2
  clear HN
  have HN := HN2
  clear HN2
  go_wp2_with fail
  refine (num_ses HS.out (5) (⟨by decide, by decide⟩) (by have := HN.out; omega)).mono ?_
  rintro e w3 ⟨i_c5, L3, rfl, q1, q2, q3, q4⟩
  have HS2 := Lib.hid q1
  have HN2 : Hid (L3.length ≤ 1+1+1+1) := Nat.le_trans q4 (Nat.succ_le_succ HN.out)
  have HC_c5 := Lib.hid (fun L'' (e2 : Ext L3 L'') => CN.ext q3 e2)
  have HJ := Lib.hid (know_cn q1.good q3)
  have HE2 : Hid (Ext L2 L3) := q2
  have HT := Lib.hid (HI_s.out.ext HE2.out)
  clear HI_s
  have HI_s := HT
  clear HT
  have HT := Lib.hid (HI_t.out.ext HE2.out)
  clear HI_t
  have HI_t := HT
  clear HT
  clear q1 q2 q3 q4
  have HI_c5 := HJ
  clear HJ
  clear HS
  have HS := HS2
  clear HS2
  clear HN
  have HN := HN2
  clear HN2
  go_wp2_with fail
  refine (bin_ses HS.out 1 i_s i_c5 (by decide) (by decide) HI_s.out.1 HI_c5.out.1 (1+1+1+1) 1 HN.out (Nat.le_trans HI_s.out.2 (by decide)) (Nat.le_trans HI_c5.out.2 (by decide)) (by omega)).mono ?_
  rintro e w4 ⟨i_i1, L4, rfl, q1, q2, q3, q4⟩
  have HS2 := Lib.hid q1
  have HN2 : Hid (L4.length ≤ 1+1+1+1+28) := q3
  have HR_i1 := Lib.hid q2.run
  have HJ : Hid (Know L4 i_i1 3) := ⟨q2.has, q4⟩
  have HE3 : Hid (Ext L3 L4) := q2.ext
  have HT := Lib.hid (HI_s.out.ext HE3.out)
  clear HI_s
  have HI_s := HT
  clear HT
  have HT := Lib.hid (HI_t.out.ext HE3.out)
  clear HI_t
  have HI_t := HT
  clear HT
  have HT := Lib.hid (HI_c5.out.ext HE3.out)
  clear HI_c5
  have HI_c5 := HT
  clear HT
  clear q1 q2 q3 q4
  have HI_i1 := HJ
  clear HJ
  clear HS
  have HS := HS2
  clear HS2
  clear HN
  have HN := HN2
  clear HN2
  go_wp2_with fail
  refine (num_ses HS.out (-5) (⟨by decide, by decide⟩) (by have := HN.out; omega)).mono ?_
  rintro e w5 ⟨i_m5, L5, rfl, q1, q2, q3, q4⟩
  have HS2 := Lib.hid q1
  have HN2 : Hid (L5.length ≤ 1+1+1+1+28+1) := Nat.le_trans q4 (Nat.succ_le_succ HN.out)
  have HC_m5 := Lib.hid (fun L'' (e2 : Ext L5 L'') => CN.ext q3 e2)
  have HJ := Lib.hid (know_cn q1.good q3)
  have HE4 : Hid (Ext L4 L5) := q2
  have HT := Lib.hid (HI_s.out.ext HE4.out)
  clear HI_s
  have HI_s := HT
  clear HT
  have HT := Lib.hid (HI_t.out.ext HE4.out)
  clear HI_t
  have HI_t := HT
  clear HT
  have HT := Lib.hid (HI_c5.out.ext HE4.out)
  clear HI_c5
  have HI_c5 := HT
  clear HT
  have HT := Lib.hid (HI_i1.out.ext HE4.out)
  clear HI_i1
  have HI_i1 := HT
  clear HT
  clear q1 q2 q3 q4
  have HI_m5 := HJ
  clear HJ
  clear HS
  have HS := HS2
  clear HS2
  clear HN
  have HN := HN2
  clear HN2
  go_wp2_with fail
  refine (bin_ses HS.out 1 i_i1 i_m5 (by decide) (by decide) HI_i1.out.1 HI_m5.out.1 (1+1+1+1+28+1) 3 HN.out (Nat.le_trans HI_i1.out.2 (by decide)) (Nat.le_trans HI_m5.out.2 (by decide)) (by omega)).mono ?_
  rintro e w6 ⟨i_a, L6, rfl, q1, q2, q3, q4⟩
  have HS2 := Lib.hid q1
  have HN2 : Hid (L6.length ≤ 1+1+1+1+28+1+44) := q3
  have HR_a := Lib.hid q2.run
  have HJ : Hid (Know L6 i_a 5) := ⟨q2.has, q4⟩
  have HE5 : Hid (Ext L5 L6) := q2.ext
  have HT := Lib.hid (HI_s.out.ext HE5.out)
  clear HI_s
  have HI_s := HT
  clear HT
  have HT := Lib.hid (HI_t.out.ext HE5.out)
  clear HI_t
  have HI_t := HT
  clear HT
  have HT := Lib.hid (HI_c5.out.ext HE5.out)
  clear HI_c5
  have HI_c5 := HT
  clear HT
  have HT := Lib.hid (HI_i1.out.ext HE5.out)
  clear HI_i1
  have HI_i1 := HT
  clear HT
  have HT := Lib.hid (HI_m5.out.ext HE5.out)
  clear HI_m5
  have HI_m5 := HT
  clear HT
  clear q1 q2 q3 q4
  have HI_a := HJ
  clear HJ
  clear HS
  have HS := HS2
  clear HS2
  clear HN
  have HN := HN2
  clear HN2
  go_wp2_with fail
  refine (num_ses HS.out (3) (⟨by decide, by decide⟩) (by have := HN.out; omega)).mono ?_
  rintro e w7 ⟨i_c3, L7, rfl, q1, q2, q3, q4⟩
  have HS2 := Lib.hid q1
  have HN2 : Hid (L7.length ≤ 1+1+1+1+28+1+44+1) := Nat.le_trans q4 (Nat.succ_le_succ HN.out)
  have HC_c3 := Lib.hid (fun L'' (e2 : Ext L7 L'') => CN.ext q3 e2)
  have HJ := Lib.hid (know_cn q1.good q3)
  have HE6 : Hid (Ext L6 L7) := q2
  have HT := Lib.hid (HI_s.out.ext HE6.out)
  clear HI_s
  have HI_s := HT
  clear HT
  have HT := Lib.hid (HI_t.out.ext HE6.out)
  clear HI_t
  have HI_t := HT
  clear HT
  have HT := Lib.hid (HI_c5.out.ext HE6.out)
  clear HI_c5
  have HI_c5 := HT
  clear HT
  have HT := Lib.hid (HI_i1.out.ext HE6.out)
  clear HI_i1
  have HI_i1 := HT
  clear HT
  have HT := Lib.hid (HI_m5.out.ext HE6.out)
  clear HI_m5
  have HI_m5 := HT
  clear HT
  have HT := Lib.hid (HI_a.out.ext HE6.out)
  clear HI_a
  have HI_a := HT
  clear HT
  clear q1 q2 q3 q4
  have HI_c3 := HJ
  clear HJ
  clear HS
  have HS := HS2
  clear HS2
  clear HN
  have HN := HN2
  clear HN2
  go_wp2_with fail
  refine (bin_ses HS.out 11 i_s i_c3 (by decide) (by decide) HI_s.out.1 HI_c3.out.1 (1+1+1+1+28+1+44+1) 1 HN.out (Nat.le_trans HI_s.out.2 (by decide)) (Nat.le_trans HI_c3.out.2 (by decide)) (by omega)).mono ?_
  rintro e w8 ⟨i_b, L8, rfl, q1, q2, q3, q4⟩
  have HS2 := Lib.hid q1
  have HN2 : Hid (L8.length ≤ 1+1+1+1+28+1+44+1+28) := q3
  have HR_b := Lib.hid q2.run
  have HJ : Hid (Know L8 i_b 3) := ⟨q2.has, q4⟩
  have HE7 : Hid (Ext L7 L8) := q2.ext
  have HT := Lib.hid (HI_s.out.ext HE7.out)
  clear HI_s
  have HI_s := HT
  clear HT
  have HT := Lib.hid (HI_t.out.ext HE7.out)
  clear HI_t
  have HI_t := HT
  clear HT
  have HT := Lib.hid (HI_c5.out.ext HE7.out)
  clear HI_c5
  have HI_c5 := HT
  clear HT
  have HT := Lib.hid (HI_i1.out.ext HE7.out)
  clear HI_i1
  have HI_i1 := HT
  clear HT
  have HT := Lib.hid (HI_m5.out.ext HE7.out)
  clear HI_m5
  have HI_m5 := HT
  clear HT
  have HT := Lib.hid (HI_a.out.ext HE7.out)
  clear HI_a
  have HI_a := HT
  clear HT
  have HT := Lib.hid (HI_c3.out.ext HE7.out)
  clear HI_c3
  have HI_c3 := HT
  clear HT
  clear q1 q2 q3 q4
  have HI_b := HJ
  clear HJ
  clear HS
  have HS := HS2
  clear HS2
  clear HN
  have HN := HN2
  clear HN2
  go_wp2_with fail
  refine (num_ses HS.out (8) (⟨by decide, by decide⟩) (by have := HN.out; omega)).mono ?_
  rintro e w9 ⟨i_c8, L9, rfl, q1, q2, q3, q4⟩
  have HS2 := Lib.hid q1
  have HN2 : Hid (L9.length ≤ 1+1+1+1+28+1+44+1+28+1) := Nat.le_trans q4 (Nat.succ_le_succ HN.out)
  have HC_c8 := Lib.hid (fun L'' (e2 : Ext L9 L'') => CN.ext q3 e2)
  have HJ := Lib.hid (know_cn q1.good q3)
  have HE8 : Hid (Ext L8 L9) := q2
  have HT := Lib.hid (HI_s.out.ext HE8.out)
  clear HI_s
  have HI_s := HT
  clear HT
  have HT := Lib.hid (HI_t.out.ext HE8.out)
  clear HI_t
  have HI_t := HT
  clear HT
  have HT := Lib.hid (HI_c5.out.ext HE8.out)
  clear HI_c5
  have HI_c5 := HT
  clear HT
  have HT := Lib.hid (HI_i1.out.ext HE8.out)
  clear HI_i1
  have HI_i1 := HT
  clear HT
  have HT := Lib.hid (HI_m5.out.ext HE8.out)
  clear HI_m5
  have HI_m5 := HT
  clear HT
  have HT := Lib.hid (HI_a.out.ext HE8.out)
  clear HI_a
  have HI_a := HT
  clear HT
  have HT := Lib.hid (HI_c3.out.ext HE8.out)
  clear HI_c3
  have HI_c3 := HT
  clear HT
  have HT := Lib.hid (HI_b.out.ext HE8.out)
  clear HI_b
  have HI_b := HT
  clear HT
  clear q1 q2 q3 q4
  have HI_c8 := HJ
  clear HJ
  clear HS
  have HS := HS2
  clear HS2
  clear HN
  have HN := HN2
  clear HN2
  go_wp2_with fail
  refine (bin_ses HS.out 3 i_c8 i_s (by decide) (by decide) HI_c8.out.1 HI_s.out.1 (1+1+1+1+28+1+44+1+28+1) 1 HN.out (Nat.le_trans HI_c8.out.2 (by decide)) (Nat.le_trans HI_s.out.2 (by decide)) (by omega)).mono ?_
  rintro e w10 ⟨i_c, L10, rfl, q1, q2, q3, q4⟩
  have HS2 := Lib.hid q1
  have HN2 : Hid (L10.length ≤ 1+1+1+1+28+1+44+1+28+1+28) := q3
  have HR_c := Lib.hid q2.run
  have HJ : Hid (Know L10 i_c 3) := ⟨q2.has, q4⟩
  have HE9 : Hid (Ext L9 L10) := q2.ext
  have HT := Lib.hid (HI_s.out.ext HE9.out)
  clear HI_s
  have HI_s := HT
  clear HT
  have HT := Lib.hid (HI_t.out.ext HE9.out)
  clear HI_t
  have HI_t := HT
  clear HT
  have HT := Lib.hid (HI_c5.out.ext HE9.out)
  clear HI_c5
  have HI_c5 := HT
  clear HT
  have HT := Lib.hid (HI_i1.out.ext HE9.out)
  clear HI_i1
  have HI_i1 := HT
  clear HT
  have HT := Lib.hid (HI_m5.out.ext HE9.out)
  clear HI_m5
  have HI_m5 := HT
  clear HT
  have HT := Lib.hid (HI_a.out.ext HE9.out)
  clear HI_a
  have HI_a := HT
  clear HT
  have HT := Lib.hid (HI_c3.out.ext HE9.out)
  clear HI_c3
  have HI_c3 := HT
  clear HT
  have HT := Lib.hid (HI_b.out.ext HE9.out)
  clear HI_b
  have HI_b := HT
  clear HT
  have HT := Lib.hid (HI_c8.out.ext HE9.out)
  clear HI_c8
  have HI_c8 := HT
  clear HT
  clear q1 q2 q3 q4
  have HI_c := HJ
  clear HJ
  clear HS
  have HS := HS2
  clear HS2
  clear HN
  have HN := HN2
  clear HN2
  go_wp2_with fail
  refine (bin_ses HS.out 14 i_s i_t (by decide) (by decide) HI_s.out.1 HI_t.out.1 (1+1+1+1+28+1+44+1+28+1+28) 1 HN.out (Nat.le_trans HI_s.out.2 (by decide)) (Nat.le_trans HI_t.out.2 (by decide)) (by omega)).mono ?_
  rintro e w11 ⟨i_lt, L11, rfl, q1, q2, q3, q4⟩
  have HS2 := Lib.hid q1
  have HN2 : Hid (L11.length ≤ 1+1+1+1+28+1+44+1+28+1+28+28) := q3
  have HR_lt := Lib.hid q2.run
  have HJ : Hid (Know L11 i_lt 3) := ⟨q2.has, q4⟩
  have HE10 : Hid (Ext L10 L11) := q2.ext
  have HT := Lib.hid (HI_s.out.ext HE10.out)
  clear HI_s
  have HI_s := HT
  clear HT
  have HT := Lib.hid (HI_t.out.ext HE10.out)
  clear HI_t
  have HI_t := HT
  clear HT
  have HT := Lib.hid (HI_c5.out.ext HE10.out)
  clear HI_c5
  have HI_c5 := HT
  clear HT
  have HT := Lib.hid (HI_i1.out.ext HE10.out)
  clear HI_i1
  have HI_i1 := HT
  clear HT
  have HT := Lib.hid (HI_m5.out.ext HE10.out)
  clear HI_m5
  have HI_m5 := HT
  clear HT
  have HT := Lib.hid (HI_a.out.ext HE10.out)
  clear HI_a
  have HI_a := HT
  clear HT
  have HT := Lib.hid (HI_c3.out.ext HE10.out)
  clear HI_c3
  have HI_c3 := HT
  clear HT
  have HT := Lib.hid (HI_b.out.ext HE10.out)
  clear HI_b
  have HI_b := HT
  clear HT
  have HT := Lib.hid (HI_c8.out.ext HE10.out)
  clear HI_c8
  have HI_c8 := HT
  clear HT
  have HT := Lib.hid (HI_c.out.ext HE10.out)
  clear HI_c
  have HI_c := HT
  clear HT
  clear q1 q2 q3 q4
  have HI_lt := HJ
  clear HJ
  clear HS
  have HS := HS2
  clear HS2
  clear HN
  have HN := HN2
  clear HN2
  go_wp2_with fail
  refine (bin_ses HS.out 10 i_s i_t (by decide) (by decide) HI_s.out.1 HI_t.out.1 (1+1+1+1+28+1+44+1+28+1+28+28) 1 HN.out (Nat.le_trans HI_s.out.2 (by decide)) (Nat.le_trans HI_t.out.2 (by decide)) (by omega)).mono ?_
  rintro e w12 ⟨i_x1, L12, rfl, q1, q2, q3, q4⟩
  have HS2 := Lib.hid q1
  have HN2 : Hid (L12.length ≤ 1+1+1+1+28+1+44+1+28+1+28+28+28) := q3
  have HR_x1 := Lib.hid q2.run
  have HJ : Hid (Know L12 i_x1 3) := ⟨q2.has, q4⟩
  have HE11 : Hid (Ext L11 L12) := q2.ext
  have HT := Lib.hid (HI_s.out.ext HE11.out)
  clear HI_s
  have HI_s := HT
  clear HT
  have HT := Lib.hid (HI_t.out.ext HE11.out)
  clear HI_t
  have HI_t := HT
  clear HT
  have HT := Lib.hid (HI_c5.out.ext HE11.out)
  clear HI_c5
  have HI_c5 := HT
  clear HT
  have HT := Lib.hid (HI_i1.out.ext HE11.out)
  clear HI_i1
  have HI_i1 := HT
  clear HT
  have HT := Lib.hid (HI_m5.out.ext HE11.out)
  clear HI_m5
  have HI_m5 := HT
  clear HT
  have HT := Lib.hid (HI_a.out.ext HE11.out)
  clear HI_a
  have HI_a := HT
  clear HT
  have HT := Lib.hid (HI_c3.out.ext HE11.out)
  clear HI_c3
  have HI_c3 := HT
  clear HT
  have HT := Lib.hid (HI_b.out.ext HE11.out)
  clear HI_b
  have HI_b := HT
  clear HT
  have HT := Lib.hid (HI_c8.out.ext HE11.out)
  clear HI_c8
  have HI_c8 := HT
  clear HT
  have HT := Lib.hid (HI_c.out.ext HE11.out)
  clear HI_c
  have HI_c := HT
  clear HT
  have HT := Lib.hid (HI_lt.out.ext HE11.out)
  clear HI_lt
  have HI_lt := HT
  clear HT
  clear q1 q2 q3 q4
  have HI_x1 := HJ
  clear HJ
  clear HS
  have HS := HS2
  clear HS2
  clear HN
  have HN := HN2
  clear HN2
  go_wp2_with fail
  refine (num_ses HS.out (1) (in1) (by have := HN.out; omega)).mono ?_
  rintro e w13 ⟨i_c1, L13, rfl, q1, q2, q3, q4⟩
  have HS2 := Lib.hid q1
  have HN2 : Hid (L13.length ≤ 1+1+1+1+28+1+44+1+28+1+28+28+28+1) := Nat.le_trans q4 (Nat.succ_le_succ HN.out)
  have HC_c1 := Lib.hid (fun L'' (e2 : Ext L13 L'') => CN.ext q3 e2)
  have HJ := Lib.hid (know_cn q1.good q3)
  have HE12 : Hid (Ext L12 L13) := q2
  have HT := Lib.hid (HI_s.out.ext HE12.out)
  clear HI_s
  have HI_s := HT
  clear HT
  have HT := Lib.hid (HI_t.out.ext HE12.out)
  clear HI_t
  have HI_t := HT
  clear HT
  have HT := Lib.hid (HI_c5.out.ext HE12.out)
  clear HI_c5
  have HI_c5 := HT
  clear HT
  have HT := Lib.hid (HI_i1.out.ext HE12.out)
  clear HI_i1
  have HI_i1 := HT
  clear HT
  have HT := Lib.hid (HI_m5.out.ext HE12.out)
  clear HI_m5
  have HI_m5 := HT
  clear HT
  have HT := Lib.hid (HI_a.out.ext HE12.out)
  clear HI_a
  have HI_a := HT
  clear HT
  have HT := Lib.hid (HI_c3.out.ext HE12.out)
  clear HI_c3
  have HI_c3 := HT
  clear HT
  have HT := Lib.hid (HI_b.out.ext HE12.out)
  clear HI_b
  have HI_b := HT
  clear HT
  have HT := Lib.hid (HI_c8.out.ext HE12.out)
  clear HI_c8
  have HI_c8 := HT
  clear HT
  have HT := Lib.hid (HI_c.out.ext HE12.out)
  clear HI_c
  have HI_c := HT
  clear HT
  have HT := Lib.hid (HI_lt.out.ext HE12.out)
  clear HI_lt
  have HI_lt := HT
  clear HT
  have HT := Lib.hid (HI_x1.out.ext HE12.out)
  clear HI_x1
  have HI_x1 := HT
  clear HT
  clear q1 q2 q3 q4
  have HI_c1 := HJ
  clear HJ
  clear HS
  have HS := HS2
  clear HS2
  clear HN
  have HN := HN2
  clear HN2
  go_wp2_with fail
  refine (bin_ses HS.out 15 i_x1 i_c1 (by decide) (by decide) HI_x1.out.1 HI_c1.out.1 (1+1+1+1+28+1+44+1+28+1+28+28+28+1) 3 HN.out (Nat.le_trans HI_x1.out.2 (by decide)) (Nat.le_trans HI_c1.out.2 (by decide)) (by omega)).mono ?_
  rintro e w14 ⟨i_x, L14, rfl, q1, q2, q3, q4⟩
  have HS2 := Lib.hid q1
  have HN2 : Hid (L14.length ≤ 1+1+1+1+28+1+44+1+28+1+28+28+28+1+44) := q3
  have HR_x := Lib.hid q2.run
  have HJ : Hid (Know L14 i_x 5) := ⟨q2.has, q4⟩
  have HE13 : Hid (Ext L13 L14) := q2.ext
  have HT := Lib.hid (HI_s.out.ext HE13.out)
  clear HI_s
  have HI_s := HT
  clear HT
  have HT := Lib.hid (HI_t.out.ext HE13.out)
  clear HI_t
  have HI_t := HT
  clear HT
  have HT := Lib.hid (HI_c5.out.ext HE13.out)
  clear HI_c5
  have HI_c5 := HT
  clear HT
  have HT := Lib.hid (HI_i1.out.ext HE13.out)
  clear HI_i1
  have HI_i1 := HT
  clear HT
  have HT := Lib.hid (HI_m5.out.ext HE13.out)
  clear HI_m5
  have HI_m5 := HT
  clear HT
  have HT := Lib.hid (HI_a.out.ext HE13.out)
  clear HI_a
  have HI_a := HT
  clear HT
  have HT := Lib.hid (HI_c3.out.ext HE13.out)
  clear HI_c3
  have HI_c3 := HT
  clear HT
  have HT := Lib.hid (HI_b.out.ext HE13.out)
  clear HI_b
  have HI_b := HT
  clear HT
  have HT := Lib.hid (HI_c8.out.ext HE13.out)
  clear HI_c8
  have HI_c8 := HT
  clear HT
  have HT := Lib.hid (HI_c.out.ext HE13.out)
  clear HI_c
  have HI_c := HT
  clear HT
  have HT := Lib.hid (HI_lt.out.ext HE13.out)
  clear HI_lt
  have HI_lt := HT
  clear HT
  have HT := Lib.hid (HI_x1.out.ext HE13.out)
  clear HI_x1
  have HI_x1 := HT
  clear HT
  have HT := Lib.hid (HI_c1.out.ext HE13.out)
  clear HI_c1
  have HI_c1 := HT
  clear HT
  clear q1 q2 q3 q4
  have HI_x := HJ
  clear HJ
  clear HS
  have HS := HS2
  clear HS2
  clear HN
  have HN := HN2
  clear HN2
  have HAS : Hid ((i_a == i_s) = true) := by
    have hGd := HS.out.good
    have f_s := (HC_s.out _ (HE1.out.trans (HE2.out.trans (HE3.out.trans (HE4.out.trans (HE5.out.trans (HE6.out.trans (HE7.out.trans (HE8.out.trans (HE9.out.trans (HE10.out.trans (HE11.out.trans (HE12.out.trans (HE13.out.trans (Ext.refl L14)))))))))))))))
    have p := sym_pl f_s
    obtain ⟨s, k, hk, hr⟩ := rep_of hGd (o := 1) rfl p.1
    have fw : Fw L14 ⟨1, i_s, i_c5⟩ := ⟨(by show (1 : Int) ≤ 1; decide), (by show (1 : Int) ≤ 16; decide), f_s.1, (HC_c5.out _ (HE3.out.trans (HE4.out.trans (HE5.out.trans (HE6.out.trans (HE7.out.trans (HE8.out.trans (HE9.out.trans (HE10.out.trans (HE11.out.trans (HE12.out.trans (HE13.out.trans (Ext.refl L14))))))))))))).1⟩
    have h1 := rep_put hGd rfl hk ⟨by decide, by decide⟩ hr f_s.1 (HC_c5.out _ (HE3.out.trans (HE4.out.trans (HE5.out.trans (HE6.out.trans (HE7.out.trans (HE8.out.trans (HE9.out.trans (HE10.out.trans (HE11.out.trans (HE12.out.trans (HE13.out.trans (Ext.refl L14))))))))))))) (HR_i1.out _ (HE4.out.trans (HE5.out.trans (HE6.out.trans (HE7.out.trans (HE8.out.trans (HE9.out.trans (HE10.out.trans (HE11.out.trans (HE12.out.trans (HE13.out.trans (Ext.refl L14))))))))))))
    have h2 := rep_put hGd rfl (opI_in _ _ _) ⟨by decide, by decide⟩ h1 (run_has hGd (HR_i1.out _ (HE4.out.trans (HE5.out.trans (HE6.out.trans (HE7.out.trans (HE8.out.trans (HE9.out.trans (HE10.out.trans (HE11.out.trans (HE12.out.trans (HE13.out.trans (Ext.refl L14)))))))))))) fw) (HC_m5.out _ (HE5.out.trans (HE6.out.trans (HE7.out.trans (HE8.out.trans (HE9.out.trans (HE10.out.trans (HE11.out.trans (HE12.out.trans (HE13.out.trans (Ext.refl L14))))))))))) (HR_a.out _ (HE6.out.trans (HE7.out.trans (HE8.out.trans (HE9.out.trans (HE10.out.trans (HE11.out.trans (HE12.out.trans (HE13.out.trans (Ext.refl L14))))))))))
    rw [Lw.group (by decide), show opI 1 5 (-5) = keepsN 1 from by decide, Lw.keep (by decide) hk] at h2
    exact beq_iff_eq.2 (h2.eq hGd hr)
  have HBC : Hid (i_b = i_c ∧ (hasB L14.length i_b = true ∧ ndAt L14 i_b = bN 3 i_s i_c8)) := ex_mul HS.out.good (HC_s.out _ (HE1.out.trans (HE2.out.trans (HE3.out.trans (HE4.out.trans (HE5.out.trans (HE6.out.trans (HE7.out.trans (HE8.out.trans (HE9.out.trans (HE10.out.trans (HE11.out.trans (HE12.out.trans (HE13.out.trans (Ext.refl L14))))))))))))))) (HC_c3.out _ (HE7.out.trans (HE8.out.trans (HE9.out.trans (HE10.out.trans (HE11.out.trans (HE12.out.trans (HE13.out.trans (Ext.refl L14))))))))) (HC_c8.out _ (HE9.out.trans (HE10.out.trans (HE11.out.trans (HE12.out.trans (HE13.out.trans (Ext.refl L14))))))) (HR_b.out _ (HE8.out.trans (HE9.out.trans (HE10.out.trans (HE11.out.trans (HE12.out.trans (HE13.out.trans (Ext.refl L14)))))))) (HR_c.out _ (HE10.out.trans (HE11.out.trans (HE12.out.trans (HE13.out.trans (Ext.refl L14))))))
  have HTX := Lib.hid (text_s8 HS.out.good HBC.out.2 (HC_s.out _ (HE1.out.trans (HE2.out.trans (HE3.out.trans (HE4.out.trans (HE5.out.trans (HE6.out.trans (HE7.out.trans (HE8.out.trans (HE9.out.trans (HE10.out.trans (HE11.out.trans (HE12.out.trans (HE13.out.trans (Ext.refl L14))))))))))))))) (HC_c8.out _ (HE9.out.trans (HE10.out.trans (HE11.out.trans (HE12.out.trans (HE13.out.trans (Ext.refl L14))))))))
  have m1 := HAS.out
  have m2 : (i_b == i_c) = true := beq_iff_eq.2 HBC.out.1
  have hl9 : L14.length ≤ 900 := Nat.le_trans HN.out (by decide)
  have HL9 := Lib.hid hl9
  clear hl9
  go_wp2_with fail
  refine (text_ses HS.out HL9.out i_b).mono ?_
  rintro e wk14 ⟨rfl, hk⟩
  have HS2 := Lib.hid (HS.out.then hk)
  clear hk HS
  have HS := HS2
  clear HS2
  rw [HTX.out]
  clear m1 m2
  go_wp2_with fail
  refine (not_ses HS.out i_lt HI_lt.out.1 (1+1+1+1+28+1+44+1+28+1+28+28+28+1+44) 3 HN.out HI_lt.out.2 (by omega)).mono ?_
  rintro e w15 ⟨i_nl, L15, rfl, q1, q2, q5, q6, q3, q4⟩
  have HS2 := Lib.hid q1
  have HN2 : Hid (L15.length ≤ 1+1+1+1+28+1+44+1+28+1+28+28+28+1+44+44) := q3
  have HR_nl := Lib.hid q6
  have HJ : Hid (Know L15 i_nl 5) := ⟨q5, q4⟩
  have HE14 : Hid (Ext L14 L15) := q2
  have HT := Lib.hid (HI_s.out.ext HE14.out)
  clear HI_s
  have HI_s := HT
  clear HT
  have HT := Lib.hid (HI_t.out.ext HE14.out)
  clear HI_t
  have HI_t := HT
  clear HT
  have HT := Lib.hid (HI_c5.out.ext HE14.out)
  clear HI_c5
  have HI_c5 := HT
  clear HT
  have HT := Lib.hid (HI_i1.out.ext HE14.out)
  clear HI_i1
  have HI_i1 := HT
  clear HT
  have HT := Lib.hid (HI_m5.out.ext HE14.out)
  clear HI_m5
  have HI_m5 := HT
  clear HT
  have HT := Lib.hid (HI_a.out.ext HE14.out)
  clear HI_a
  have HI_a := HT
  clear HT
  have HT := Lib.hid (HI_c3.out.ext HE14.out)
  clear HI_c3
  have HI_c3 := HT
  clear HT
  have HT := Lib.hid (HI_b.out.ext HE14.out)
  clear HI_b
  have HI_b := HT
  clear HT
  have HT := Lib.hid (HI_c8.out.ext HE14.out)
  clear HI_c8
  have HI_c8 := HT
  clear HT
  have HT := Lib.hid (HI_c.out.ext HE14.out)
  clear HI_c
  have HI_c := HT
  clear HT
  have HT := Lib.hid (HI_lt.out.ext HE14.out)
  clear HI_lt
  have HI_lt := HT
  clear HT
  have HT := Lib.hid (HI_x1.out.ext HE14.out)
  clear HI_x1
  have HI_x1 := HT
  clear HT
  have HT := Lib.hid (HI_c1.out.ext HE14.out)
  clear HI_c1
  have HI_c1 := HT
  clear HT
  have HT := Lib.hid (HI_x.out.ext HE14.out)
  clear HI_x
  have HI_x := HT
  clear HT
  clear q1 q2 q3 q4 q5 q6
  have HI_nl := HJ
  clear HJ
  clear HS
  have HS := HS2
  clear HS2
  clear HN
  have HN := HN2
  clear HN2
  go_wp2_with fail
  refine (num_ses HS.out (1) (in1) (by have := HN.out; omega)).mono ?_
  rintro e w16 ⟨i_d1, L16, rfl, q1, q2, q3, q4⟩
  have HS2 := Lib.hid q1
  have HN2 : Hid (L16.length ≤ 1+1+1+1+28+1+44+1+28+1+28+28+28+1+44+44+1) := Nat.le_trans q4 (Nat.succ_le_succ HN.out)
  have HC_d1 := Lib.hid (fun L'' (e2 : Ext L16 L'') => CN.ext q3 e2)
  have HJ := Lib.hid (know_cn q1.good q3)
  have HE15 : Hid (Ext L15 L16) := q2
  have HT := Lib.hid (HI_s.out.ext HE15.out)
  clear HI_s
  have HI_s := HT
  clear HT
  have HT := Lib.hid (HI_t.out.ext HE15.out)
  clear HI_t
  have HI_t := HT
  clear HT
  have HT := Lib.hid (HI_c5.out.ext HE15.out)
  clear HI_c5
  have HI_c5 := HT
  clear HT
  have HT := Lib.hid (HI_i1.out.ext HE15.out)
  clear HI_i1
  have HI_i1 := HT
  clear HT
  have HT := Lib.hid (HI_m5.out.ext HE15.out)
  clear HI_m5
  have HI_m5 := HT
  clear HT
  have HT := Lib.hid (HI_a.out.ext HE15.out)
  clear HI_a
  have HI_a := HT
  clear HT
  have HT := Lib.hid (HI_c3.out.ext HE15.out)
  clear HI_c3
  have HI_c3 := HT
  clear HT
  have HT := Lib.hid (HI_b.out.ext HE15.out)
  clear HI_b
  have HI_b := HT
  clear HT
  have HT := Lib.hid (HI_c8.out.ext HE15.out)
  clear HI_c8
  have HI_c8 := HT
  clear HT
  have HT := Lib.hid (HI_c.out.ext HE15.out)
  clear HI_c
  have HI_c := HT
  clear HT
  have HT := Lib.hid (HI_lt.out.ext HE15.out)
  clear HI_lt
  have HI_lt := HT
  clear HT
  have HT := Lib.hid (HI_x1.out.ext HE15.out)
  clear HI_x1
  have HI_x1 := HT
  clear HT
  have HT := Lib.hid (HI_c1.out.ext HE15.out)
  clear HI_c1
  have HI_c1 := HT
  clear HT
  have HT := Lib.hid (HI_x.out.ext HE15.out)
  clear HI_x
  have HI_x := HT
  clear HT
  have HT := Lib.hid (HI_nl.out.ext HE15.out)
  clear HI_nl
  have HI_nl := HT
  clear HT
  clear q1 q2 q3 q4
  have HI_d1 := HJ
  clear HJ
  clear HS
  have HS := HS2
  clear HS2
  clear HN
  have HN := HN2
  clear HN2
  go_wp2_with fail
  refine (bin_ses HS.out 10 i_lt i_d1 (by decide) (by decide) HI_lt.out.1 HI_d1.out.1 (1+1+1+1+28+1+44+1+28+1+28+28+28+1+44+44+1) 3 HN.out (Nat.le_trans HI_lt.out.2 (by decide)) (Nat.le_trans HI_d1.out.2 (by decide)) (by omega)).mono ?_
  rintro e w17 ⟨i_xl, L17, rfl, q1, q2, q3, q4⟩
  have HS2 := Lib.hid q1
  have HN2 : Hid (L17.length ≤ 1+1+1+1+28+1+44+1+28+1+28+28+28+1+44+44+1+44) := q3
  have HR_xl := Lib.hid q2.run
  have HJ : Hid (Know L17 i_xl 5) := ⟨q2.has, q4⟩
  have HE16 : Hid (Ext L16 L17) := q2.ext
  have HT := Lib.hid (HI_s.out.ext HE16.out)
  clear HI_s
  have HI_s := HT
  clear HT
  have HT := Lib.hid (HI_t.out.ext HE16.out)
  clear HI_t
  have HI_t := HT
  clear HT
  have HT := Lib.hid (HI_c5.out.ext HE16.out)
  clear HI_c5
  have HI_c5 := HT
  clear HT
  have HT := Lib.hid (HI_i1.out.ext HE16.out)
  clear HI_i1
  have HI_i1 := HT
  clear HT
  have HT := Lib.hid (HI_m5.out.ext HE16.out)
  clear HI_m5
  have HI_m5 := HT
  clear HT
  have HT := Lib.hid (HI_a.out.ext HE16.out)
  clear HI_a
  have HI_a := HT
  clear HT
  have HT := Lib.hid (HI_c3.out.ext HE16.out)
  clear HI_c3
  have HI_c3 := HT
  clear HT
  have HT := Lib.hid (HI_b.out.ext HE16.out)
  clear HI_b
  have HI_b := HT
  clear HT
  have HT := Lib.hid (HI_c8.out.ext HE16.out)
  clear HI_c8
  have HI_c8 := HT
  clear HT
  have HT := Lib.hid (HI_c.out.ext HE16.out)
  clear HI_c
  have HI_c := HT
  clear HT
  have HT := Lib.hid (HI_lt.out.ext HE16.out)
  clear HI_lt
  have HI_lt := HT
  clear HT
  have HT := Lib.hid (HI_x1.out.ext HE16.out)
  clear HI_x1
  have HI_x1 := HT
  clear HT
  have HT := Lib.hid (HI_c1.out.ext HE16.out)
  clear HI_c1
  have HI_c1 := HT
  clear HT
  have HT := Lib.hid (HI_x.out.ext HE16.out)
  clear HI_x
  have HI_x := HT
  clear HT
  have HT := Lib.hid (HI_nl.out.ext HE16.out)
  clear HI_nl
  have HI_nl := HT
  clear HT
  have HT := Lib.hid (HI_d1.out.ext HE16.out)
  clear HI_d1
  have HI_d1 := HT
  clear HT
  clear q1 q2 q3 q4
  have HI_xl := HJ
  clear HJ
  clear HS
  have HS := HS2
  clear HS2
  clear HN
  have HN := HN2
  clear HN2
  have m3 : (i_nl == i_xl) = true := by
    have hGd := HS.out.good
    obtain ⟨z, hz, hr⟩ := (HR_nl.out _ (HE15.out.trans (HE16.out.trans (Ext.refl L17))))
    have f_s := (HC_s.out _ (HE1.out.trans (HE2.out.trans (HE3.out.trans (HE4.out.trans (HE5.out.trans (HE6.out.trans (HE7.out.trans (HE8.out.trans (HE9.out.trans (HE10.out.trans (HE11.out.trans (HE12.out.trans (HE13.out.trans (HE14.out.trans (HE15.out.trans (HE16.out.trans (Ext.refl L17))))))))))))))))))
    have f_t := (HC_t.out _ (HE2.out.trans (HE3.out.trans (HE4.out.trans (HE5.out.trans (HE6.out.trans (HE7.out.trans (HE8.out.trans (HE9.out.trans (HE10.out.trans (HE11.out.trans (HE12.out.trans (HE13.out.trans (HE14.out.trans (HE15.out.trans (HE16.out.trans (Ext.refl L17)))))))))))))))))
    have fw : Fw L17 ⟨14, i_s, i_t⟩ := ⟨(by show (1 : Int) ≤ 14; decide), (by show (14 : Int) ≤ 16; decide), f_s.1, f_t.1⟩
    have hp := run_pl hGd (HR_lt.out _ (HE11.out.trans (HE12.out.trans (HE13.out.trans (HE14.out.trans (HE15.out.trans (HE16.out.trans (Ext.refl L17)))))))) fw (sym_pl f_s).1 (sym_pl f_t).1
    have ht := run_truth hGd (HR_lt.out _ (HE11.out.trans (HE12.out.trans (HE13.out.trans (HE14.out.trans (HE15.out.trans (HE16.out.trans (Ext.refl L17)))))))) fw (Or.inl rfl)
    exact beq_iff_eq.2 (tr_xor hGd hp ht hz (HC_d1.out _ (HE16.out.trans (Ext.refl L17))) (HR_xl.out _ (Ext.refl L17)) hr).symm
  go_wp2_with fail
  refine (bin_ses HS.out 16 i_s i_t (by decide) (by decide) HI_s.out.1 HI_t.out.1 (1+1+1+1+28+1+44+1+28+1+28+28+28+1+44+44+1+44) 1 HN.out (Nat.le_trans HI_s.out.2 (by decide)) (Nat.le_trans HI_t.out.2 (by decide)) (by omega)).mono ?_
  rintro e w18 ⟨i_est, L18, rfl, q1, q2, q3, q4⟩
  have HS2 := Lib.hid q1
  have HN2 : Hid (L18.length ≤ 1+1+1+1+28+1+44+1+28+1+28+28+28+1+44+44+1+44+28) := q3
  have HR_est := Lib.hid q2.run
  have HJ : Hid (Know L18 i_est 3) := ⟨q2.has, q4⟩
  have HE17 : Hid (Ext L17 L18) := q2.ext
  have HT := Lib.hid (HI_s.out.ext HE17.out)
  clear HI_s
  have HI_s := HT
  clear HT
  have HT := Lib.hid (HI_t.out.ext HE17.out)
  clear HI_t
  have HI_t := HT
  clear HT
  have HT := Lib.hid (HI_c5.out.ext HE17.out)
  clear HI_c5
  have HI_c5 := HT
  clear HT
  have HT := Lib.hid (HI_i1.out.ext HE17.out)
  clear HI_i1
  have HI_i1 := HT
  clear HT
  have HT := Lib.hid (HI_m5.out.ext HE17.out)
  clear HI_m5
  have HI_m5 := HT
  clear HT
  have HT := Lib.hid (HI_a.out.ext HE17.out)
  clear HI_a
  have HI_a := HT
  clear HT
  have HT := Lib.hid (HI_c3.out.ext HE17.out)
  clear HI_c3
  have HI_c3 := HT
  clear HT
  have HT := Lib.hid (HI_b.out.ext HE17.out)
  clear HI_b
  have HI_b := HT
  clear HT
  have HT := Lib.hid (HI_c8.out.ext HE17.out)
  clear HI_c8
  have HI_c8 := HT
  clear HT
  have HT := Lib.hid (HI_c.out.ext HE17.out)
  clear HI_c
  have HI_c := HT
  clear HT
  have HT := Lib.hid (HI_lt.out.ext HE17.out)
  clear HI_lt
  have HI_lt := HT
  clear HT
  have HT := Lib.hid (HI_x1.out.ext HE17.out)
  clear HI_x1
  have HI_x1 := HT
  clear HT
  have HT := Lib.hid (HI_c1.out.ext HE17.out)
  clear HI_c1
  have HI_c1 := HT
  clear HT
  have HT := Lib.hid (HI_x.out.ext HE17.out)
  clear HI_x
  have HI_x := HT
  clear HT
  have HT := Lib.hid (HI_nl.out.ext HE17.out)
  clear HI_nl
  have HI_nl := HT
  clear HT
  have HT := Lib.hid (HI_d1.out.ext HE17.out)
  clear HI_d1
  have HI_d1 := HT
  clear HT
  have HT := Lib.hid (HI_xl.out.ext HE17.out)
  clear HI_xl
  have HI_xl := HT
  clear HT
  clear q1 q2 q3 q4
  have HI_est := HJ
  clear HJ
  clear HS
  have HS := HS2
  clear HS2
  clear HN
  have HN := HN2
  clear HN2
  clear m3
  have m4 : (i_x == i_est) = true := by
    have hGd := HS.out.good
    have f_s := (HC_s.out _ (HE1.out.trans (HE2.out.trans (HE3.out.trans (HE4.out.trans (HE5.out.trans (HE6.out.trans (HE7.out.trans (HE8.out.trans (HE9.out.trans (HE10.out.trans (HE11.out.trans (HE12.out.trans (HE13.out.trans (HE14.out.trans (HE15.out.trans (HE16.out.trans (HE17.out.trans (Ext.refl L18)))))))))))))))))))
    have f_t := (HC_t.out _ (HE2.out.trans (HE3.out.trans (HE4.out.trans (HE5.out.trans (HE6.out.trans (HE7.out.trans (HE8.out.trans (HE9.out.trans (HE10.out.trans (HE11.out.trans (HE12.out.trans (HE13.out.trans (HE14.out.trans (HE15.out.trans (HE16.out.trans (HE17.out.trans (Ext.refl L18))))))))))))))))))
    obtain ⟨z, hz, _⟩ := (HR_nl.out _ (HE15.out.trans (HE16.out.trans (HE17.out.trans (Ext.refl L18)))))
    have fw : Fw L18 ⟨10, i_s, i_t⟩ := ⟨(by show (1 : Int) ≤ 10; decide), (by show (10 : Int) ≤ 16; decide), f_s.1, f_t.1⟩
    have r1 := (HR_x1.out _ (HE12.out.trans (HE13.out.trans (HE14.out.trans (HE15.out.trans (HE16.out.trans (HE17.out.trans (Ext.refl L18))))))))
    have hp := run_pl hGd r1 fw (sym_pl f_s).1 (sym_pl f_t).1
    have hlt : i_s ≠ i_t := fun e => by
      have h1 := f_s.2
      rw [e, f_t.2] at h1
      exact absurd (congrArg Nd.n h1) (by decide)
    obtain ⟨y, hy⟩ : ∃ y, Run L18 ⟨16, i_x1, z⟩ y := by
      have p1 := sym_pl f_s
      have p2 := sym_pl f_t
      have hnc : isC (ndAt L18 i_x1) = false := by
        by_cases h : i_s < i_t
        · have q := run_add (add_pair (Or.inr rfl) (Or.inl p1.2.1) p2.2.1 (fun _ => h) hlt) r1
          rw [q.2]; rfl
        · have s1 := run_swap hGd (o := 10) rfl fw r1
          have q := run_add (add_pair (Or.inr rfl) (Or.inl p2.2.1) p1.2.1 (fun _ => by omega) (Ne.symm hlt)) s1
          rw [q.2]; rfl
      have e := nx15 (hp.fc hnc (HC_c1.out _ (HE13.out.trans (HE14.out.trans (HE15.out.trans (HE16.out.trans (HE17.out.trans (Ext.refl L18))))))))
      rw [if_neg (by decide), if_pos rfl] at e
      obtain ⟨c2, hc2, r3⟩ := run_num e (HR_x.out _ (HE14.out.trans (HE15.out.trans (HE16.out.trans (HE17.out.trans (Ext.refl L18))))))
      rw [hc2.eq hGd hz] at r3
      exact ⟨_, r3⟩
    have e1 := mv_ltu hGd hp (HC_c1.out _ (HE13.out.trans (HE14.out.trans (HE15.out.trans (HE16.out.trans (HE17.out.trans (Ext.refl L18))))))) hz (HR_x.out _ (HE14.out.trans (HE15.out.trans (HE16.out.trans (HE17.out.trans (Ext.refl L18)))))) hy
    have e2 := mv_eq hGd (o := 10) (Or.inr rfl) (sym_pl f_s).1 (sym_pl f_t).1 hz r1 hy (HR_est.out _ (Ext.refl L18))
    exact beq_iff_eq.2 (e1.trans e2)
  go_wp2_with fail
  refine (cell_ses HS.out 0 0 i_s in0 in0 HI_s.out.1 (by decide) (by decide) (by have := HN.out; omega)).mono ?_
  rintro e w90 ⟨j, L90, rfl, q1, q2, q3, q4⟩
  have HJ : Hid ((j != -1) = true) := bne_iff_ne.2 (by have := ((hasB_iff _ _).1 q3.1).1; omega)
  have HK9 := Lib.hid q1.kept
  clear q1 q2 q3 q4 m4
  have m5 := HJ.out
  go_wp2
  go_ret
  exact ⟨rfl, HK9.out⟩
end Go.Proofs.YtgkjdmojbndicaaGreatDoor
