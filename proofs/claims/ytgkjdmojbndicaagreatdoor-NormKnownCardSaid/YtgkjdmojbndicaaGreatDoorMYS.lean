/-
  Several texts in one: NSameM: Layer 4, NormSame: contracts of the statement's own helpers: Known, Zero, Fixed.; NSameL: Layer 4, NormSame: what is the same of any plain terms and any operation: the law's walk..
-/
import Derived.Test.YtgkjdmojbndicaaGreatDoorMX
import Derived.Test.YtgkjdmojbndicaaGreatDoorME
import Derived.Deep.DeepCutAuto
namespace Go.Proofs.YtgkjdmojbndicaaGreatDoor
open Go Go.RowKit

set_option maxHeartbeats 400000 in
theorem refknown_low (op : Int) (w : World) (h1 : op < 1) : Calls Tryz.prog 23 #[.int .u8 op] w fun e w' => e = .returned (.bool false) ∧ w = w' := by
  go_enter Tryz.func23, Tryz.ntmps23
  go_wp2
  go_ret
  exact ⟨rfl, rfl⟩
set_option maxHeartbeats 400000 in
theorem refknown_high (op : Int) (w : World) (h1 : 1 ≤ op) (h2 : ¬ op ≤ 16) : Calls Tryz.prog 23 #[.int .u8 op] w fun e w' => e = .returned (.bool false) ∧ w = w' := by
  go_enter Tryz.func23, Tryz.ntmps23
  go_wp2
  go_ret
  exact ⟨rfl, rfl⟩
set_option maxHeartbeats 400000 in
theorem refknown_yes (op : Int) (w : World) (h1 : 1 ≤ op) (h2 : op ≤ 16) : Calls Tryz.prog 23 #[.int .u8 op] w fun e w' => e = .returned (.bool true) ∧ w = w' := by
  go_enter Tryz.func23, Tryz.ntmps23
  go_wp2
  go_ret
  exact ⟨rfl, rfl⟩
/-- Of which operations of a term with itself a Const comes. -/
def zeroB (op : Int) : Bool := op == 2 || op == 10 || op == 14 || op == 15 || op == 16
def zeroN (op : Int) : Int := if op == 16 then 1 else 0
set_option maxHeartbeats 2000000 in
theorem zero_any (op : Int) (w : World) : Calls Tryz.prog 31 #[.int .u8 op] w fun e w' => e = .returned (.tuple #[.int .i64 (zeroN op), .bool (zeroB op)]) ∧ w = w' := by
  by_cases h2 : op = 2
  · subst h2
    go_enter Tryz.func31, Tryz.ntmps31
    go_wp2
    go_ret2
    exact ⟨rfl, rfl⟩
  by_cases h10 : op = 10
  · subst h10
    go_enter Tryz.func31, Tryz.ntmps31
    go_wp2
    go_ret2
    exact ⟨rfl, rfl⟩
  by_cases h14 : op = 14
  · subst h14
    go_enter Tryz.func31, Tryz.ntmps31
    go_wp2
    go_ret2
    exact ⟨rfl, rfl⟩
  by_cases h15 : op = 15
  · subst h15
    go_enter Tryz.func31, Tryz.ntmps31
    go_wp2
    go_ret2
    exact ⟨rfl, rfl⟩
  by_cases h16 : op = 16
  · subst h16
    go_enter Tryz.func31, Tryz.ntmps31
    go_wp2
    go_ret2
    exact ⟨rfl, rfl⟩
  have e2 : (op == 2) = false := beq_eq_false_iff_ne.2 h2
  have e10 : (op == 10) = false := beq_eq_false_iff_ne.2 h10
  have e14 : (op == 14) = false := beq_eq_false_iff_ne.2 h14
  have e15 : (op == 15) = false := beq_eq_false_iff_ne.2 h15
  have e16 : (op == 16) = false := beq_eq_false_iff_ne.2 h16
  have hz : zeroB op = false := by unfold zeroB; rw [e2, e10, e14, e15, e16]; rfl
  have hn : zeroN op = 0 := by unfold zeroN; rw [e16]; rfl
  have HZ := Lib.hid (And.intro hz hn)
  clear hz hn
  go_enter Tryz.func31, Tryz.ntmps31
  go_wp2
  go_ret2
  rw [HZ.out.1, HZ.out.2]
  exact ⟨rfl, rfl⟩
set_option maxHeartbeats 8000000 in
theorem fixed_any (op m : Int) (w : World) : Calls Tryz.prog 32 #[.int .u8 op, .int .i64 m] w fun e w' => e = .returned (.tuple #[.int .i64 (fixN op m), .bool (fixB op m)]) ∧ w = w' := by
  by_cases hm0 : m = 0
  · subst hm0
    by_cases h3 : op = 3 ∨ op = 8 ∨ op = 15
    · rcases h3 with rfl | rfl | rfl
      all_goals
        go_enter Tryz.func32, Tryz.ntmps32
        go_wp2
        go_ret2
        exact ⟨rfl, rfl⟩
    · have e3 : (op == 3) = false := beq_eq_false_iff_ne.2 (by omega)
      have e8 : (op == 8) = false := beq_eq_false_iff_ne.2 (by omega)
      have e15 : (op == 15) = false := beq_eq_false_iff_ne.2 (by omega)
      have HZ : Hid (fixB op 0 = false ∧ fixN op 0 = 0) := by
        constructor
        · unfold fixB; rw [e3, e8, e15]; simp
        · unfold fixN; rw [e3, e8, e15]; simp
      by_cases h9 : op = 9
      · subst h9
        go_enter Tryz.func32, Tryz.ntmps32
        go_wp2
        go_ret2
        exact ⟨rfl, rfl⟩
      have e9 : (op == 9) = false := beq_eq_false_iff_ne.2 h9
      by_cases h57 : op = 5 ∨ op = 7
      · rcases h57 with rfl | rfl
        all_goals
          go_enter Tryz.func32, Tryz.ntmps32
          go_wp2
          go_ret2
          exact ⟨rfl, rfl⟩
      · have e5 : (op == 5) = false := beq_eq_false_iff_ne.2 (by omega)
        have e7 : (op == 7) = false := beq_eq_false_iff_ne.2 (by omega)
        clear h3 h9 h57
        go_enter Tryz.func32, Tryz.ntmps32
        go_wp2
        go_ret2
        rw [HZ.out.1, HZ.out.2]
        exact ⟨rfl, rfl⟩
  have m0 : (m == 0) = false := beq_eq_false_iff_ne.2 hm0
  by_cases h3 : op = 3 ∨ op = 8 ∨ op = 15
  · have HZ : Hid (fixB op m = false ∧ fixN op m = 0) := by
      rcases h3 with rfl | rfl | rfl <;> (unfold fixB fixN; rw [m0]; exact ⟨rfl, rfl⟩)
    clear hm0
    rcases h3 with rfl | rfl | rfl
    all_goals
      go_enter Tryz.func32, Tryz.ntmps32
      go_wp2
      go_ret2
      rw [HZ.out.1, HZ.out.2]
      exact ⟨rfl, rfl⟩
  have e3 : (op == 3) = false := beq_eq_false_iff_ne.2 (by omega)
  have e8 : (op == 8) = false := beq_eq_false_iff_ne.2 (by omega)
  have e15 : (op == 15) = false := beq_eq_false_iff_ne.2 (by omega)
  by_cases h9 : op = 9
  · subst h9
    by_cases hm1 : m = -1
    · subst hm1
      go_enter Tryz.func32, Tryz.ntmps32
      go_wp2
      go_ret2
      exact ⟨rfl, rfl⟩
    · have m1 : (m == -1) = false := beq_eq_false_iff_ne.2 hm1
      have HZ : Hid (fixB 9 m = false ∧ fixN 9 m = 0) := by
        unfold fixB fixN; rw [m1]; exact ⟨rfl, rfl⟩
      clear hm0 hm1 h3
      go_enter Tryz.func32, Tryz.ntmps32
      go_wp2
      go_ret2
      rw [HZ.out.1, HZ.out.2]
      exact ⟨rfl, rfl⟩
  have e9 : (op == 9) = false := beq_eq_false_iff_ne.2 h9
  by_cases h57 : op = 5 ∨ op = 7
  · by_cases hm1 : m = 1
    · subst hm1
      rcases h57 with rfl | rfl
      all_goals
        go_enter Tryz.func32, Tryz.ntmps32
        go_wp2
        go_ret2
        exact ⟨rfl, rfl⟩
    · have m1 : (m == 1) = false := beq_eq_false_iff_ne.2 hm1
      have HZ : Hid (fixB op m = false ∧ fixN op m = 0) := by
        rcases h57 with rfl | rfl <;> (unfold fixB fixN; rw [m1]; exact ⟨rfl, rfl⟩)
      clear hm0 hm1 h3 h9
      rcases h57 with rfl | rfl
      all_goals
        go_enter Tryz.func32, Tryz.ntmps32
        go_wp2
        go_ret2
        rw [HZ.out.1, HZ.out.2]
        exact ⟨rfl, rfl⟩
  have e5 : (op == 5) = false := beq_eq_false_iff_ne.2 (by omega)
  have e7 : (op == 7) = false := beq_eq_false_iff_ne.2 (by omega)
  have HZ : Hid (fixB op m = false ∧ fixN op m = 0) := by
    unfold fixB fixN; rw [e3, e8, e15, e9, e5, e7]; exact ⟨rfl, rfl⟩
  clear hm0 h3 h9 h57
  go_enter Tryz.func32, Tryz.ntmps32
  go_wp2
  go_ret2
  rw [HZ.out.1, HZ.out.2]
  exact ⟨rfl, rfl⟩
end Go.Proofs.YtgkjdmojbndicaaGreatDoor

namespace Go.Proofs.YtgkjdmojbndicaaGreatDoor
open Go Go.RowKit

abbrev cellsM (c : Int) : Obj := Obj.cells #[Value.int IntKind.i64 0, Value.int IntKind.i64 1, Value.int IntKind.i64 (-1), Value.int IntKind.i64 c] 2
theorem cellsM_at {W : World} {ob : Nat} {c : Int} (hc : InR c) (h : W.heap[ob]? = some (cellsM c)) (j : Nat) (hj : j < 4) : ∃ v, InR v ∧ W.cell? ⟨ob, j, none⟩ = some (.int .i64 v) := by
  obtain rfl | rfl | rfl | rfl : j = 0 ∨ j = 1 ∨ j = 2 ∨ j = 3 := by omega
  · exact ⟨0, in0, (cell_of_row _ _ _ _ _ _ h).trans rfl⟩
  · exact ⟨1, in1, (cell_of_row _ _ _ _ _ _ h).trans rfl⟩
  · exact ⟨-1, by unfold InR; decide, (cell_of_row _ _ _ _ _ _ h).trans rfl⟩
  · exact ⟨c, hc, (cell_of_row _ _ _ _ _ _ h).trans rfl⟩
theorem groups_op {o : Int} (h : groupsB o = true) : swapsB o = true := by unfold swapsB; rw [h]; simp
theorem fixN_in (o m : Int) : InR (fixN o m) := by
  unfold fixN
  repeat' split
  all_goals (unfold InR; decide)
theorem zeroN_in (o : Int) : InR (zeroN o) := by
  unfold zeroN
  split <;> (unfold InR; decide)
theorem keepsN_in (o : Int) : InR (keepsN o) := by
  unfold keepsN
  repeat' split
  all_goals (unfold InR; decide)
theorem zero_self {o : Int} (h : zeroB o = true) : (o = 2 ∨ o = 10 ∨ o = 14 ∨ o = 15 ∨ o = 16) := by
  unfold zeroB at h
  simp at h
  omega
theorem self_zero {L : List Nd} (hG : Good L) {o a i : Int} (h : zeroB o = true) (hp : Pl L a) (r : Run L ⟨o, a, a⟩ i) : CN L (zeroN o) i := by
  have ho := zero_self h
  have hs := same_self hG (by omega) hp r
  rw [if_neg (by omega)] at hs
  unfold zeroN
  rcases ho with rfl | rfl | rfl | rfl | rfl <;> simpa using hs

set_option maxRecDepth 100000 in
set_option maxHeartbeats 16000000 in
theorem normsame_any (la : Option Addr) (n lc : Nat) (ds : List Nd) (op x y c d : Int) (w : World) (hds : NodesAt w la n ds) (hx : InR x) (hy : InR y) (hc : InR c) (hd : InR d) (hL : Laid w) (hT : Tab w) :
    Calls Tryz.prog 5 #[.slice la n lc, .int .u8 op, .int .i64 x, .int .i64 y, .int .i64 c, .int .i64 d] w fun e w' => e = .returned (.bool true) ∧ Kept w w' := by
  have HD := Lib.hid hds
  have HL := Lib.hid (And.intro hL hT)
  have HX := Lib.hid (And.intro hx hy)
  have HCD := Lib.hid (And.intro hc hd)
  clear hds hL hT hx hy hc hd
  go_enter Tryz.func5, Tryz.ntmps5
  by_cases h30 : n ≤ 30
  · have d30 : decide ((30 : Int) < (n : Int)) = false := decide_eq_false (by omega)
    have H30 := Lib.hid h30
    clear h30
    go_wp2_with fail
    refine (plains_any la n lc ds x y 0 w HD.out H30.out HX.out.1 HX.out.2 in0 HL.out.1 HL.out.2).mono ?_
    rintro e w1 hq
    rcases hq with ⟨g, rfl, hk⟩ | ⟨g, m, i_a, i_b, i_z, L0, rfl, hS, hP, hDn, hl⟩
    · have HK1 := Lib.hid hk
      clear hk
      go_wp2_with fail
      refine (works_any _ (HL.out.1.kept HK1.out) (HL.out.2.below HK1.out)).mono ?_
      rintro e w2 ⟨rfl, hk2⟩
      have HK2 := Lib.hid (HK1.out.trans hk2)
      clear hk2
      go_wp2
      go_ret
      exact ⟨rfl, HK2.out⟩
    · have HS := Lib.hid hS
      have HPA := Lib.hid hP.1
      have HPB := Lib.hid hP.2.1
      have HI_a : Hid (Know L0 i_a 60) := ⟨hP.1.has, hDn.1⟩
      have HI_b : Hid (Know L0 i_b 60) := ⟨hP.2.1.has, hDn.2.1⟩
      have HN := Lib.hid hl
      have HG0 := Lib.hid hS.good
      clear hS hP hDn hl
      go_wp2_with fail
      by_cases hop : op < 1 ∨ ¬ op ≤ 16
      · have HKN : Hid (Calls Tryz.prog 23 #[.int .u8 op] w1 fun e w' => e = .returned (.bool false) ∧ w1 = w') := by
          show Calls _ _ _ _ _
          by_cases h1 : op < 1
          · exact refknown_low op w1 h1
          · exact refknown_high op w1 (by omega) (by omega)
        clear hop
        refine HKN.out.mono ?_
        rintro e w2 ⟨rfl, rfl⟩
        clear HKN
        go_wp2_with fail
        refine (works_any _ (HL.out.1.kept HS.out.kept) (HL.out.2.below HS.out.kept)).mono ?_
        rintro e w2 ⟨rfl, hk2⟩
        have HK2 := Lib.hid (HS.out.kept.trans hk2)
        clear hk2
        go_wp2
        go_ret
        exact ⟨rfl, HK2.out⟩
      · have HO : Hid (1 ≤ op ∧ op ≤ 16) := by
          show _ ∧ _
          omega
        clear hop
        refine (refknown_yes op w1 HO.out.1 HO.out.2).mono ?_
        rintro e w2 ⟨rfl, rfl⟩
        go_wp2_with fail
        refine (const_ses HS.out (c) (HCD.out.1) (by have := HN.out; omega)).mono ?_
        rintro e w1 ⟨i_p, L1, rfl, q1, q2, q3, q4⟩
        have HS2 := Lib.hid q1
        have HN2 : Hid (L1.length ≤ 46000+1) := Nat.le_trans q4 (Nat.succ_le_succ HN.out)
        have HC_p := Lib.hid (fun L'' (e2 : Ext L1 L'') => CN.ext q3 e2)
        have HJ := Lib.hid (know_cn q1.good q3)
        have HE0 : Hid (Ext L0 L1) := q2
        have HT := Lib.hid (HI_a.out.ext HE0.out)
        clear HI_a
        have HI_a := HT
        clear HT
        have HT := Lib.hid (HI_b.out.ext HE0.out)
        clear HI_b
        have HI_b := HT
        clear HT
        clear q1 q2 q3 q4
        have HI_p := HJ
        clear HJ
        clear HS
        have HS := HS2
        clear HS2
        clear HN
        have HN := HN2
        clear HN2
        go_wp2_with fail
        refine (const_ses HS.out (d) (HCD.out.2) (by have := HN.out; omega)).mono ?_
        rintro e w2 ⟨i_q, L2, rfl, q1, q2, q3, q4⟩
        have HS2 := Lib.hid q1
        have HN2 : Hid (L2.length ≤ 46000+1+1) := Nat.le_trans q4 (Nat.succ_le_succ HN.out)
        have HC_q := Lib.hid (fun L'' (e2 : Ext L2 L'') => CN.ext q3 e2)
        have HJ := Lib.hid (know_cn q1.good q3)
        have HE1 : Hid (Ext L1 L2) := q2
        have HT := Lib.hid (HI_a.out.ext HE1.out)
        clear HI_a
        have HI_a := HT
        clear HT
        have HT := Lib.hid (HI_b.out.ext HE1.out)
        clear HI_b
        have HI_b := HT
        clear HT
        have HT := Lib.hid (HI_p.out.ext HE1.out)
        clear HI_p
        have HI_p := HT
        clear HT
        clear q1 q2 q3 q4
        have HI_q := HJ
        clear HJ
        clear HS
        have HS := HS2
        clear HS2
        clear HN
        have HN := HN2
        clear HN2
        go_upto_region 7 with (fail)
        go_cut [84] (fun s wx => s = .bool false ∧ ∃ L', Ses w w.heap.size g m [] wx L' ∧ Ext L2 L' ∧ L'.length ≤ 48000)
        case first =>
          go_wp2_with fail
          refine (bin_ses HS.out op i_p i_q HO.out.1 HO.out.2 HI_p.out.1 HI_q.out.1 (46000+1+1) 1 HN.out (Nat.le_trans HI_p.out.2 (by decide)) (Nat.le_trans HI_q.out.2 (by decide)) (by omega)).mono ?_
          rintro e w3 ⟨i_t, L3, rfl, q1, q2, q3, q4⟩
          have HS2 := Lib.hid q1
          have HN2 : Hid (L3.length ≤ 46000+1+1+28) := q3
          have HR_t := Lib.hid q2.run
          have HJ : Hid (Know L3 i_t 3) := ⟨q2.has, q4⟩
          have HE2 : Hid (Ext L2 L3) := q2.ext
          have HT := Lib.hid (HI_a.out.ext HE2.out)
          clear HI_a
          have HI_a := HT
          clear HT
          have HT := Lib.hid (HI_b.out.ext HE2.out)
          clear HI_b
          have HI_b := HT
          clear HT
          have HT := Lib.hid (HI_p.out.ext HE2.out)
          clear HI_p
          have HI_p := HT
          clear HT
          have HT := Lib.hid (HI_q.out.ext HE2.out)
          clear HI_q
          have HI_q := HT
          clear HT
          clear q1 q2 q3 q4
          have HI_t := HJ
          clear HJ
          clear HS
          have HS := HS2
          clear HS2
          clear HN
          have HN := HN2
          clear HN2
          go_wp2_with fail
          refine (do_any op c d _ HCD.out.1 HCD.out.2).mono ?_
          rintro e w9 ⟨rfl, hk⟩
          have HS2 := Lib.hid (HS.out.then hk)
          clear hk HS
          have HS := HS2
          clear HS2
          go_wp2_with fail
          refine (const_ses HS.out (opI op c d) (opI_in ..) (by have := HN.out; omega)).mono ?_
          rintro e w4 ⟨i_u, L4, rfl, q1, q2, q3, q4⟩
          have HS2 := Lib.hid q1
          have HN2 : Hid (L4.length ≤ 46000+1+1+28+1) := Nat.le_trans q4 (Nat.succ_le_succ HN.out)
          have HC_u := Lib.hid (fun L'' (e2 : Ext L4 L'') => CN.ext q3 e2)
          have HJ := Lib.hid (know_cn q1.good q3)
          have HE3 : Hid (Ext L3 L4) := q2
          have HT := Lib.hid (HI_a.out.ext HE3.out)
          clear HI_a
          have HI_a := HT
          clear HT
          have HT := Lib.hid (HI_b.out.ext HE3.out)
          clear HI_b
          have HI_b := HT
          clear HT
          have HT := Lib.hid (HI_p.out.ext HE3.out)
          clear HI_p
          have HI_p := HT
          clear HT
          have HT := Lib.hid (HI_q.out.ext HE3.out)
          clear HI_q
          have HI_q := HT
          clear HT
          have HT := Lib.hid (HI_t.out.ext HE3.out)
          clear HI_t
          have HI_t := HT
          clear HT
          clear q1 q2 q3 q4
          have HI_u := HJ
          clear HJ
          clear HS
          have HS := HS2
          clear HS2
          clear HN
          have HN := HN2
          clear HN2
          have heq_i_u : i_u = i_t := by
            have hG := HS.out.good
            exact ((HC_u.out _ (Ext.refl L4))).eq hG (run_cc (by have := HO.out; omega) (HC_p.out _ (HE1.out.trans (HE2.out.trans (HE3.out.trans (Ext.refl L4))))) (HC_q.out _ (HE2.out.trans (HE3.out.trans (Ext.refl L4)))) (HR_t.out _ (HE3.out.trans (Ext.refl L4))))
          subst heq_i_u
          have ne_i_u : (i_u != i_u) = false := by simp
          clear HI_u HI_t
          go_wp2_with fail
          refine (swaps_any op _).mono ?_
          rintro e w8 ⟨rfl, rfl⟩
          cases hsw : swapsB op
          · skip
            go_wp2
            go_meet
            case rel => exact ⟨rfl, _, HS.out, (HE2.out.trans (HE3.out.trans (Ext.refl L4))), Nat.le_trans HN.out (by omega)⟩
          · have HSW := Lib.hid hsw
            clear hsw
            go_wp2_with fail
            refine (bin_ses HS.out op i_a i_b HO.out.1 HO.out.2 HI_a.out.1 HI_b.out.1 (46000+1+1+28+1) 60 HN.out (Nat.le_trans HI_a.out.2 (by decide)) (Nat.le_trans HI_b.out.2 (by decide)) (by omega)).mono ?_
            rintro e w5 ⟨i_r, L5, rfl, q1, q2, q3, q4⟩
            have HS2 := Lib.hid q1
            have HN2 : Hid (L5.length ≤ 46000+1+1+28+1+500) := q3
            have HR_r := Lib.hid q2.run
            have HJ : Hid (Know L5 i_r 62) := ⟨q2.has, q4⟩
            have HE4 : Hid (Ext L4 L5) := q2.ext
            have HT := Lib.hid (HI_a.out.ext HE4.out)
            clear HI_a
            have HI_a := HT
            clear HT
            have HT := Lib.hid (HI_b.out.ext HE4.out)
            clear HI_b
            have HI_b := HT
            clear HT
            have HT := Lib.hid (HI_p.out.ext HE4.out)
            clear HI_p
            have HI_p := HT
            clear HT
            have HT := Lib.hid (HI_q.out.ext HE4.out)
            clear HI_q
            have HI_q := HT
            clear HT
            clear q1 q2 q3 q4
            have HI_r := HJ
            clear HJ
            clear HS
            have HS := HS2
            clear HS2
            clear HN
            have HN := HN2
            clear HN2
            go_wp2_with fail
            refine (bin_ses HS.out op i_b i_a HO.out.1 HO.out.2 HI_b.out.1 HI_a.out.1 (46000+1+1+28+1+500) 60 HN.out (Nat.le_trans HI_b.out.2 (by decide)) (Nat.le_trans HI_a.out.2 (by decide)) (by omega)).mono ?_
            rintro e w6 ⟨i_s, L6, rfl, q1, q2, q3, q4⟩
            have HS2 := Lib.hid q1
            have HN2 : Hid (L6.length ≤ 46000+1+1+28+1+500+500) := q3
            have HR_s := Lib.hid q2.run
            have HJ : Hid (Know L6 i_s 62) := ⟨q2.has, q4⟩
            have HE5 : Hid (Ext L5 L6) := q2.ext
            have HT := Lib.hid (HI_a.out.ext HE5.out)
            clear HI_a
            have HI_a := HT
            clear HT
            have HT := Lib.hid (HI_b.out.ext HE5.out)
            clear HI_b
            have HI_b := HT
            clear HT
            have HT := Lib.hid (HI_p.out.ext HE5.out)
            clear HI_p
            have HI_p := HT
            clear HT
            have HT := Lib.hid (HI_q.out.ext HE5.out)
            clear HI_q
            have HI_q := HT
            clear HT
            have HT := Lib.hid (HI_r.out.ext HE5.out)
            clear HI_r
            have HI_r := HT
            clear HT
            clear q1 q2 q3 q4
            have HI_s := HJ
            clear HJ
            clear HS
            have HS := HS2
            clear HS2
            clear HN
            have HN := HN2
            clear HN2
            have HPA2 := Lib.hid (HPA.out.ext HG0.out (HE0.out.trans (HE1.out.trans (HE2.out.trans (HE3.out.trans (HE4.out.trans (HE5.out.trans (Ext.refl L6))))))))
            have HPB2 := Lib.hid (HPB.out.ext HG0.out (HE0.out.trans (HE1.out.trans (HE2.out.trans (HE3.out.trans (HE4.out.trans (HE5.out.trans (Ext.refl L6))))))))
            have heq_i_s : i_s = i_r := by
              have hG := HS.out.good
              exact (((HR_s.out _ (Ext.refl L6))).eq hG (run_swap hG HSW.out ⟨HO.out.1, HO.out.2, HPA2.out.has, HPB2.out.has⟩ (HR_r.out _ (HE5.out.trans (Ext.refl L6)))))
            subst heq_i_s
            have ne_i_s : (i_s != i_s) = false := by simp
            clear HPA2 HPB2
            go_wp2
            go_meet
            case rel => exact ⟨rfl, _, HS.out, (HE2.out.trans (HE3.out.trans (HE4.out.trans (HE5.out.trans (Ext.refl L6))))), Nat.le_trans HN.out (by omega)⟩
        case rest =>
          obtain ⟨rfl, L3, q1, q2, q3⟩ := hcut
          have HS2 := Lib.hid q1
          have HN2 : Hid (L3.length ≤ 48000) := q3
          have HE2 : Hid (Ext L2 L3) := q2
          have HT := Lib.hid (HI_a.out.ext HE2.out)
          clear HI_a
          have HI_a := HT
          clear HT
          have HT := Lib.hid (HI_b.out.ext HE2.out)
          clear HI_b
          have HI_b := HT
          clear HT
          have HT := Lib.hid (HI_p.out.ext HE2.out)
          clear HI_p
          have HI_p := HT
          clear HT
          have HT := Lib.hid (HI_q.out.ext HE2.out)
          clear HI_q
          have HI_q := HT
          clear HT
          clear q1 q2 q3
          clear HS
          have HS := HS2
          clear HS2
          clear HN
          have HN := HN2
          clear HN2
          go_upto_region 9 with (fail)
          go_cut [108] (fun s wx => s = .bool false ∧ ∃ L', Ses w w.heap.size g m [] wx L' ∧ Ext L3 L' ∧ L'.length ≤ 50000)
          case first =>
            go_wp2_with fail
            refine (groups_any op _).mono ?_
            rintro e w8 ⟨rfl, rfl⟩
            cases hsw : groupsB op
            · skip
              go_wp2
              go_meet
              case rel => exact ⟨rfl, _, HS.out, (Ext.refl L3), Nat.le_trans HN.out (by omega)⟩
            · have HSW := Lib.hid hsw
              clear hsw
              go_wp2_with fail
              refine (bin_ses HS.out op i_a i_p HO.out.1 HO.out.2 HI_a.out.1 HI_p.out.1 (48000) 60 HN.out (Nat.le_trans HI_a.out.2 (by decide)) (Nat.le_trans HI_p.out.2 (by decide)) (by omega)).mono ?_
              rintro e w4 ⟨i_r, L4, rfl, q1, q2, q3, q4⟩
              have HS2 := Lib.hid q1
              have HN2 : Hid (L4.length ≤ 48000+500) := q3
              have HR_r := Lib.hid q2.run
              have HJ : Hid (Know L4 i_r 62) := ⟨q2.has, q4⟩
              have HE3 : Hid (Ext L3 L4) := q2.ext
              have HT := Lib.hid (HI_a.out.ext HE3.out)
              clear HI_a
              have HI_a := HT
              clear HT
              have HT := Lib.hid (HI_b.out.ext HE3.out)
              clear HI_b
              have HI_b := HT
              clear HT
              have HT := Lib.hid (HI_p.out.ext HE3.out)
              clear HI_p
              have HI_p := HT
              clear HT
              have HT := Lib.hid (HI_q.out.ext HE3.out)
              clear HI_q
              have HI_q := HT
              clear HT
              clear q1 q2 q3 q4
              have HI_r := HJ
              clear HJ
              clear HS
              have HS := HS2
              clear HS2
              clear HN
              have HN := HN2
              clear HN2
              go_wp2_with fail
              refine (bin_ses HS.out op i_r i_q HO.out.1 HO.out.2 HI_r.out.1 HI_q.out.1 (48000+500) 62 HN.out (Nat.le_trans HI_r.out.2 (by decide)) (Nat.le_trans HI_q.out.2 (by decide)) (by omega)).mono ?_
              rintro e w5 ⟨i_s, L5, rfl, q1, q2, q3, q4⟩
              have HS2 := Lib.hid q1
              have HN2 : Hid (L5.length ≤ 48000+500+516) := q3
              have HR_s := Lib.hid q2.run
              have HJ : Hid (Know L5 i_s 64) := ⟨q2.has, q4⟩
              have HE4 : Hid (Ext L4 L5) := q2.ext
              have HT := Lib.hid (HI_a.out.ext HE4.out)
              clear HI_a
              have HI_a := HT
              clear HT
              have HT := Lib.hid (HI_b.out.ext HE4.out)
              clear HI_b
              have HI_b := HT
              clear HT
              have HT := Lib.hid (HI_p.out.ext HE4.out)
              clear HI_p
              have HI_p := HT
              clear HT
              have HT := Lib.hid (HI_q.out.ext HE4.out)
              clear HI_q
              have HI_q := HT
              clear HT
              have HT := Lib.hid (HI_r.out.ext HE4.out)
              clear HI_r
              have HI_r := HT
              clear HT
              clear q1 q2 q3 q4
              have HI_s := HJ
              clear HJ
              clear HS
              have HS := HS2
              clear HS2
              clear HN
              have HN := HN2
              clear HN2
              go_wp2_with fail
              refine (do_any op c d _ HCD.out.1 HCD.out.2).mono ?_
              rintro e w9 ⟨rfl, hk⟩
              have HS2 := Lib.hid (HS.out.then hk)
              clear hk HS
              have HS := HS2
              clear HS2
              go_wp2_with fail
              refine (const_ses HS.out (opI op c d) (opI_in ..) (by have := HN.out; omega)).mono ?_
              rintro e w6 ⟨i_u, L6, rfl, q1, q2, q3, q4⟩
              have HS2 := Lib.hid q1
              have HN2 : Hid (L6.length ≤ 48000+500+516+1) := Nat.le_trans q4 (Nat.succ_le_succ HN.out)
              have HC_u := Lib.hid (fun L'' (e2 : Ext L6 L'') => CN.ext q3 e2)
              have HJ := Lib.hid (know_cn q1.good q3)
              have HE5 : Hid (Ext L5 L6) := q2
              have HT := Lib.hid (HI_a.out.ext HE5.out)
              clear HI_a
              have HI_a := HT
              clear HT
              have HT := Lib.hid (HI_b.out.ext HE5.out)
              clear HI_b
              have HI_b := HT
              clear HT
              have HT := Lib.hid (HI_p.out.ext HE5.out)
              clear HI_p
              have HI_p := HT
              clear HT
              have HT := Lib.hid (HI_q.out.ext HE5.out)
              clear HI_q
              have HI_q := HT
              clear HT
              have HT := Lib.hid (HI_r.out.ext HE5.out)
              clear HI_r
              have HI_r := HT
              clear HT
              have HT := Lib.hid (HI_s.out.ext HE5.out)
              clear HI_s
              have HI_s := HT
              clear HT
              clear q1 q2 q3 q4
              have HI_u := HJ
              clear HJ
              clear HS
              have HS := HS2
              clear HS2
              clear HN
              have HN := HN2
              clear HN2
              go_wp2_with fail
              refine (bin_ses HS.out op i_a i_u HO.out.1 HO.out.2 HI_a.out.1 HI_u.out.1 (48000+500+516+1) 60 HN.out (Nat.le_trans HI_a.out.2 (by decide)) (Nat.le_trans HI_u.out.2 (by decide)) (by omega)).mono ?_
              rintro e w7 ⟨i_z, L7, rfl, q1, q2, q3, q4⟩
              have HS2 := Lib.hid q1
              have HN2 : Hid (L7.length ≤ 48000+500+516+1+500) := q3
              have HR_z := Lib.hid q2.run
              have HJ : Hid (Know L7 i_z 62) := ⟨q2.has, q4⟩
              have HE6 : Hid (Ext L6 L7) := q2.ext
              have HT := Lib.hid (HI_a.out.ext HE6.out)
              clear HI_a
              have HI_a := HT
              clear HT
              have HT := Lib.hid (HI_b.out.ext HE6.out)
              clear HI_b
              have HI_b := HT
              clear HT
              have HT := Lib.hid (HI_p.out.ext HE6.out)
              clear HI_p
              have HI_p := HT
              clear HT
              have HT := Lib.hid (HI_q.out.ext HE6.out)
              clear HI_q
              have HI_q := HT
              clear HT
              have HT := Lib.hid (HI_r.out.ext HE6.out)
              clear HI_r
              have HI_r := HT
              clear HT
              have HT := Lib.hid (HI_s.out.ext HE6.out)
              clear HI_s
              have HI_s := HT
              clear HT
              have HT := Lib.hid (HI_u.out.ext HE6.out)
              clear HI_u
              have HI_u := HT
              clear HT
              clear q1 q2 q3 q4
              have HI_z := HJ
              clear HJ
              clear HS
              have HS := HS2
              clear HS2
              clear HN
              have HN := HN2
              clear HN2
              have HPA2 := Lib.hid (HPA.out.ext HG0.out (HE0.out.trans (HE1.out.trans (HE2.out.trans (HE3.out.trans (HE4.out.trans (HE5.out.trans (HE6.out.trans (Ext.refl L7)))))))))
              have HPB2 := Lib.hid (HPB.out.ext HG0.out (HE0.out.trans (HE1.out.trans (HE2.out.trans (HE3.out.trans (HE4.out.trans (HE5.out.trans (HE6.out.trans (Ext.refl L7)))))))))
              have heq_i_z : i_z = i_s := by
                have hG := HS.out.good
                exact (same_group hG HSW.out HPA2.out (HC_p.out _ (HE1.out.trans (HE2.out.trans (HE3.out.trans (HE4.out.trans (HE5.out.trans (HE6.out.trans (Ext.refl L7)))))))) (HC_q.out _ (HE2.out.trans (HE3.out.trans (HE4.out.trans (HE5.out.trans (HE6.out.trans (Ext.refl L7))))))) (HC_u.out _ (HE6.out.trans (Ext.refl L7))) (HR_r.out _ (HE4.out.trans (HE5.out.trans (HE6.out.trans (Ext.refl L7))))) (HR_s.out _ (HE5.out.trans (HE6.out.trans (Ext.refl L7)))) (HR_z.out _ (Ext.refl L7))).symm
              subst heq_i_z
              have ne_i_z : (i_z != i_z) = false := by simp
              clear HPA2 HPB2
              go_wp2
              go_meet
              case rel => exact ⟨rfl, _, HS.out, (HE3.out.trans (HE4.out.trans (HE5.out.trans (HE6.out.trans (Ext.refl L7))))), Nat.le_trans HN.out (by omega)⟩
          case rest =>
            obtain ⟨rfl, L4, q1, q2, q3⟩ := hcut
            have HS2 := Lib.hid q1
            have HN2 : Hid (L4.length ≤ 50000) := q3
            have HE3 : Hid (Ext L3 L4) := q2
            have HT := Lib.hid (HI_a.out.ext HE3.out)
            clear HI_a
            have HI_a := HT
            clear HT
            have HT := Lib.hid (HI_b.out.ext HE3.out)
            clear HI_b
            have HI_b := HT
            clear HT
            have HT := Lib.hid (HI_p.out.ext HE3.out)
            clear HI_p
            have HI_p := HT
            clear HT
            have HT := Lib.hid (HI_q.out.ext HE3.out)
            clear HI_q
            have HI_q := HT
            clear HT
            clear q1 q2 q3
            clear HS
            have HS := HS2
            clear HS2
            clear HN
            have HN := HN2
            clear HN2
            go_wp2_with fail
            refine (keeps_any op _).mono ?_
            rintro e w8 ⟨rfl, rfl⟩
            go_upto_region 12 with (fail)
            go_cut [21, 125] (fun _ s wx => s = .bool false ∧ ∃ L', Ses w w.heap.size g m [] wx L' ∧ Ext L4 L' ∧ L'.length ≤ 52000)
            case first =>
              cases hsw : keepsB op
              · skip
                go_wp2
                go_meet
                case rel => exact ⟨rfl, _, HS.out, (Ext.refl L4), Nat.le_trans HN.out (by omega)⟩
              · have HSW := Lib.hid hsw
                clear hsw
                go_wp2_with fail
                refine (const_ses HS.out (keepsN op) (keepsN_in op) (by have := HN.out; omega)).mono ?_
                rintro e w5 ⟨i_u, L5, rfl, q1, q2, q3, q4⟩
                have HS2 := Lib.hid q1
                have HN2 : Hid (L5.length ≤ 50000+1) := Nat.le_trans q4 (Nat.succ_le_succ HN.out)
                have HC_u := Lib.hid (fun L'' (e2 : Ext L5 L'') => CN.ext q3 e2)
                have HJ := Lib.hid (know_cn q1.good q3)
                have HE4 : Hid (Ext L4 L5) := q2
                have HT := Lib.hid (HI_a.out.ext HE4.out)
                clear HI_a
                have HI_a := HT
                clear HT
                have HT := Lib.hid (HI_b.out.ext HE4.out)
                clear HI_b
                have HI_b := HT
                clear HT
                have HT := Lib.hid (HI_p.out.ext HE4.out)
                clear HI_p
                have HI_p := HT
                clear HT
                have HT := Lib.hid (HI_q.out.ext HE4.out)
                clear HI_q
                have HI_q := HT
                clear HT
                clear q1 q2 q3 q4
                have HI_u := HJ
                clear HJ
                clear HS
                have HS := HS2
                clear HS2
                clear HN
                have HN := HN2
                clear HN2
                go_wp2_with fail
                refine (bin_ses HS.out op i_a i_u HO.out.1 HO.out.2 HI_a.out.1 HI_u.out.1 (50000+1) 60 HN.out (Nat.le_trans HI_a.out.2 (by decide)) (Nat.le_trans HI_u.out.2 (by decide)) (by omega)).mono ?_
                rintro e w6 ⟨i_z, L6, rfl, q1, q2, q3, q4⟩
                have HS2 := Lib.hid q1
                have HN2 : Hid (L6.length ≤ 50000+1+500) := q3
                have HR_z := Lib.hid q2.run
                have HJ : Hid (Know L6 i_z 62) := ⟨q2.has, q4⟩
                have HE5 : Hid (Ext L5 L6) := q2.ext
                have HT := Lib.hid (HI_a.out.ext HE5.out)
                clear HI_a
                have HI_a := HT
                clear HT
                have HT := Lib.hid (HI_b.out.ext HE5.out)
                clear HI_b
                have HI_b := HT
                clear HT
                have HT := Lib.hid (HI_p.out.ext HE5.out)
                clear HI_p
                have HI_p := HT
                clear HT
                have HT := Lib.hid (HI_q.out.ext HE5.out)
                clear HI_q
                have HI_q := HT
                clear HT
                have HT := Lib.hid (HI_u.out.ext HE5.out)
                clear HI_u
                have HI_u := HT
                clear HT
                clear q1 q2 q3 q4
                have HI_z := HJ
                clear HJ
                clear HS
                have HS := HS2
                clear HS2
                clear HN
                have HN := HN2
                clear HN2
                have HPA2 := Lib.hid (HPA.out.ext HG0.out (HE0.out.trans (HE1.out.trans (HE2.out.trans (HE3.out.trans (HE4.out.trans (HE5.out.trans (Ext.refl L6))))))))
                have HPB2 := Lib.hid (HPB.out.ext HG0.out (HE0.out.trans (HE1.out.trans (HE2.out.trans (HE3.out.trans (HE4.out.trans (HE5.out.trans (Ext.refl L6))))))))
                have heq_i_z : i_z = i_a := by
                  have hG := HS.out.good
                  exact same_keep hG HSW.out HPA2.out (HC_u.out _ (HE5.out.trans (Ext.refl L6))) (HR_z.out _ (Ext.refl L6))
                subst heq_i_z
                have ne_i_z : (i_z != i_z) = false := by simp
                clear HPA2 HPB2
                go_wp2
                go_meet
                case rel => exact ⟨rfl, _, HS.out, (HE4.out.trans (HE5.out.trans (Ext.refl L6))), Nat.le_trans HN.out (by omega)⟩
            case rest =>
              obtain ⟨rfl, L5, q1, q2, q3⟩ := hcut
              have HS2 := Lib.hid q1
              have HN2 : Hid (L5.length ≤ 52000) := q3
              have HE4 : Hid (Ext L4 L5) := q2
              have HT := Lib.hid (HI_a.out.ext HE4.out)
              clear HI_a
              have HI_a := HT
              clear HT
              have HT := Lib.hid (HI_b.out.ext HE4.out)
              clear HI_b
              have HI_b := HT
              clear HT
              have HT := Lib.hid (HI_p.out.ext HE4.out)
              clear HI_p
              have HI_p := HT
              clear HT
              have HT := Lib.hid (HI_q.out.ext HE4.out)
              clear HI_q
              have HI_q := HT
              clear HT
              clear q1 q2 q3
              clear HS
              have HS := HS2
              clear HS2
              clear HN
              have HN := HN2
              clear HN2
              go_wp2_with fail
              refine (zero_any op _).mono ?_
              rintro e w8 ⟨rfl, rfl⟩
              go_upto_region 15 with (fail)
              go_cut [23, 159] (fun _ s wx => s = .bool false ∧ ∃ L', Ses w w.heap.size g m [] wx L' ∧ Ext L5 L' ∧ L'.length ≤ 54000)
              case first =>
                cases hsw : zeroB op
                · clear hsw
                  by_cases h89 : op = 8 ∨ op = 9
                  · skip
                    have HSW := Lib.hid h89
                    have e89 : (op == 8) = true ∨ (op == 8) = false ∧ (op == 9) = true := by
                      rcases h89 with rfl | rfl
                      · exact Or.inl rfl
                      · exact Or.inr ⟨rfl, rfl⟩
                    clear h89
                    rcases e89 with e8 | ⟨e8, e9⟩
                    · skip
                      go_wp2_with fail
                      refine (bin_ses HS.out op i_a i_a HO.out.1 HO.out.2 HI_a.out.1 HI_a.out.1 (52000) 60 HN.out (Nat.le_trans HI_a.out.2 (by decide)) (Nat.le_trans HI_a.out.2 (by decide)) (by omega)).mono ?_
                      rintro e w6 ⟨i_z, L6, rfl, q1, q2, q3, q4⟩
                      have HS2 := Lib.hid q1
                      have HN2 : Hid (L6.length ≤ 52000+500) := q3
                      have HR_z := Lib.hid q2.run
                      have HJ : Hid (Know L6 i_z 62) := ⟨q2.has, q4⟩
                      have HE5 : Hid (Ext L5 L6) := q2.ext
                      have HT := Lib.hid (HI_a.out.ext HE5.out)
                      clear HI_a
                      have HI_a := HT
                      clear HT
                      have HT := Lib.hid (HI_b.out.ext HE5.out)
                      clear HI_b
                      have HI_b := HT
                      clear HT
                      have HT := Lib.hid (HI_p.out.ext HE5.out)
                      clear HI_p
                      have HI_p := HT
                      clear HT
                      have HT := Lib.hid (HI_q.out.ext HE5.out)
                      clear HI_q
                      have HI_q := HT
                      clear HT
                      clear q1 q2 q3 q4
                      have HI_z := HJ
                      clear HJ
                      clear HS
                      have HS := HS2
                      clear HS2
                      clear HN
                      have HN := HN2
                      clear HN2
                      have HPA2 := Lib.hid (HPA.out.ext HG0.out (HE0.out.trans (HE1.out.trans (HE2.out.trans (HE3.out.trans (HE4.out.trans (HE5.out.trans (Ext.refl L6))))))))
                      have HPB2 := Lib.hid (HPB.out.ext HG0.out (HE0.out.trans (HE1.out.trans (HE2.out.trans (HE3.out.trans (HE4.out.trans (HE5.out.trans (Ext.refl L6))))))))
                      have hz := same_self HS.out.good (by have := HSW.out; omega) HPA2.out (HR_z.out _ (Ext.refl L6))
                      rw [if_pos HSW.out] at hz
                      have heq_i_z : i_z = i_a := by
                        have hG := HS.out.good
                        exact hz
                      subst heq_i_z
                      have ne_i_z : (i_z != i_z) = false := by simp
                      clear HPA2 HPB2
                      go_wp2
                      go_meet
                      case rel => exact ⟨rfl, _, HS.out, (HE5.out.trans (Ext.refl L6)), Nat.le_trans HN.out (by omega)⟩
                    · skip
                      go_wp2_with fail
                      refine (bin_ses HS.out op i_a i_a HO.out.1 HO.out.2 HI_a.out.1 HI_a.out.1 (52000) 60 HN.out (Nat.le_trans HI_a.out.2 (by decide)) (Nat.le_trans HI_a.out.2 (by decide)) (by omega)).mono ?_
                      rintro e w6 ⟨i_z, L6, rfl, q1, q2, q3, q4⟩
                      have HS2 := Lib.hid q1
                      have HN2 : Hid (L6.length ≤ 52000+500) := q3
                      have HR_z := Lib.hid q2.run
                      have HJ : Hid (Know L6 i_z 62) := ⟨q2.has, q4⟩
                      have HE5 : Hid (Ext L5 L6) := q2.ext
                      have HT := Lib.hid (HI_a.out.ext HE5.out)
                      clear HI_a
                      have HI_a := HT
                      clear HT
                      have HT := Lib.hid (HI_b.out.ext HE5.out)
                      clear HI_b
                      have HI_b := HT
                      clear HT
                      have HT := Lib.hid (HI_p.out.ext HE5.out)
                      clear HI_p
                      have HI_p := HT
                      clear HT
                      have HT := Lib.hid (HI_q.out.ext HE5.out)
                      clear HI_q
                      have HI_q := HT
                      clear HT
                      clear q1 q2 q3 q4
                      have HI_z := HJ
                      clear HJ
                      clear HS
                      have HS := HS2
                      clear HS2
                      clear HN
                      have HN := HN2
                      clear HN2
                      have HPA2 := Lib.hid (HPA.out.ext HG0.out (HE0.out.trans (HE1.out.trans (HE2.out.trans (HE3.out.trans (HE4.out.trans (HE5.out.trans (Ext.refl L6))))))))
                      have HPB2 := Lib.hid (HPB.out.ext HG0.out (HE0.out.trans (HE1.out.trans (HE2.out.trans (HE3.out.trans (HE4.out.trans (HE5.out.trans (Ext.refl L6))))))))
                      have hz := same_self HS.out.good (by have := HSW.out; omega) HPA2.out (HR_z.out _ (Ext.refl L6))
                      rw [if_pos HSW.out] at hz
                      have heq_i_z : i_z = i_a := by
                        have hG := HS.out.good
                        exact hz
                      subst heq_i_z
                      have ne_i_z : (i_z != i_z) = false := by simp
                      clear HPA2 HPB2
                      go_wp2
                      go_meet
                      case rel => exact ⟨rfl, _, HS.out, (HE5.out.trans (Ext.refl L6)), Nat.le_trans HN.out (by omega)⟩
                  · skip
                    have e8 : (op == 8) = false := beq_eq_false_iff_ne.2 (by omega)
                    have e9 : (op == 9) = false := beq_eq_false_iff_ne.2 (by omega)
                    clear h89
                    go_wp2
                    go_meet
                    case rel => exact ⟨rfl, _, HS.out, (Ext.refl L5), Nat.le_trans HN.out (by omega)⟩
                · have HSW := Lib.hid hsw
                  clear hsw
                  have e8 : (op == 8) = false := beq_eq_false_iff_ne.2 (by have := zero_self HSW.out; omega)
                  have e9 : (op == 9) = false := beq_eq_false_iff_ne.2 (by have := zero_self HSW.out; omega)
                  go_wp2_with fail
                  refine (bin_ses HS.out op i_a i_a HO.out.1 HO.out.2 HI_a.out.1 HI_a.out.1 (52000) 60 HN.out (Nat.le_trans HI_a.out.2 (by decide)) (Nat.le_trans HI_a.out.2 (by decide)) (by omega)).mono ?_
                  rintro e w6 ⟨i_z, L6, rfl, q1, q2, q3, q4⟩
                  have HS2 := Lib.hid q1
                  have HN2 : Hid (L6.length ≤ 52000+500) := q3
                  have HR_z := Lib.hid q2.run
                  have HJ : Hid (Know L6 i_z 62) := ⟨q2.has, q4⟩
                  have HE5 : Hid (Ext L5 L6) := q2.ext
                  have HT := Lib.hid (HI_a.out.ext HE5.out)
                  clear HI_a
                  have HI_a := HT
                  clear HT
                  have HT := Lib.hid (HI_b.out.ext HE5.out)
                  clear HI_b
                  have HI_b := HT
                  clear HT
                  have HT := Lib.hid (HI_p.out.ext HE5.out)
                  clear HI_p
                  have HI_p := HT
                  clear HT
                  have HT := Lib.hid (HI_q.out.ext HE5.out)
                  clear HI_q
                  have HI_q := HT
                  clear HT
                  clear q1 q2 q3 q4
                  have HI_z := HJ
                  clear HJ
                  clear HS
                  have HS := HS2
                  clear HS2
                  clear HN
                  have HN := HN2
                  clear HN2
                  go_wp2_with fail
                  refine (const_ses HS.out (zeroN op) (zeroN_in op) (by have := HN.out; omega)).mono ?_
                  rintro e w7 ⟨i_u, L7, rfl, q1, q2, q3, q4⟩
                  have HS2 := Lib.hid q1
                  have HN2 : Hid (L7.length ≤ 52000+500+1) := Nat.le_trans q4 (Nat.succ_le_succ HN.out)
                  have HC_u := Lib.hid (fun L'' (e2 : Ext L7 L'') => CN.ext q3 e2)
                  have HJ := Lib.hid (know_cn q1.good q3)
                  have HE6 : Hid (Ext L6 L7) := q2
                  have HT := Lib.hid (HI_a.out.ext HE6.out)
                  clear HI_a
                  have HI_a := HT
                  clear HT
                  have HT := Lib.hid (HI_b.out.ext HE6.out)
                  clear HI_b
                  have HI_b := HT
                  clear HT
                  have HT := Lib.hid (HI_p.out.ext HE6.out)
                  clear HI_p
                  have HI_p := HT
                  clear HT
                  have HT := Lib.hid (HI_q.out.ext HE6.out)
                  clear HI_q
                  have HI_q := HT
                  clear HT
                  have HT := Lib.hid (HI_z.out.ext HE6.out)
                  clear HI_z
                  have HI_z := HT
                  clear HT
                  clear q1 q2 q3 q4
                  have HI_u := HJ
                  clear HJ
                  clear HS
                  have HS := HS2
                  clear HS2
                  clear HN
                  have HN := HN2
                  clear HN2
                  have HPA2 := Lib.hid (HPA.out.ext HG0.out (HE0.out.trans (HE1.out.trans (HE2.out.trans (HE3.out.trans (HE4.out.trans (HE5.out.trans (HE6.out.trans (Ext.refl L7)))))))))
                  have HPB2 := Lib.hid (HPB.out.ext HG0.out (HE0.out.trans (HE1.out.trans (HE2.out.trans (HE3.out.trans (HE4.out.trans (HE5.out.trans (HE6.out.trans (Ext.refl L7)))))))))
                  have heq_i_z : i_z = i_u := by
                    have hG := HS.out.good
                    exact (self_zero hG HSW.out HPA2.out (HR_z.out _ (HE6.out.trans (Ext.refl L7)))).eq hG (HC_u.out _ (Ext.refl L7))
                  subst heq_i_z
                  have ne_i_z : (i_z != i_z) = false := by simp
                  clear HPA2 HPB2
                  go_wp2
                  go_meet
                  case rel => exact ⟨rfl, _, HS.out, (HE5.out.trans (HE6.out.trans (Ext.refl L7))), Nat.le_trans HN.out (by omega)⟩
              case rest =>
                obtain ⟨rfl, L6, q1, q2, q3⟩ := hcut
                have HS2 := Lib.hid q1
                have HN2 : Hid (L6.length ≤ 54000) := q3
                have HE5 : Hid (Ext L5 L6) := q2
                have HT := Lib.hid (HI_a.out.ext HE5.out)
                clear HI_a
                have HI_a := HT
                clear HT
                have HT := Lib.hid (HI_b.out.ext HE5.out)
                clear HI_b
                have HI_b := HT
                clear HT
                have HT := Lib.hid (HI_p.out.ext HE5.out)
                clear HI_p
                have HI_p := HT
                clear HT
                have HT := Lib.hid (HI_q.out.ext HE5.out)
                clear HI_q
                have HI_q := HT
                clear HT
                clear q1 q2 q3
                clear HS
                have HS := HS2
                clear HS2
                clear HN
                have HN := HN2
                clear HN2
                go_upto_region 18 with (fail)
                obtain ⟨ob, hob⟩ : ∃ ob : Nat, ob = wc.heap.size := ⟨_, rfl⟩
                obtain ⟨W5, hW5⟩ : ∃ W5 : World, W5 = wc.alloc (cellsM c) := ⟨_, rfl⟩
                obtain ⟨P, hP, HS1⟩ : ∃ P, (ob, cellsM c) ∈ P ∧ Hid (Ses w w.heap.size g m P W5 L6) := ⟨_, List.mem_cons_self .., by rw [hob, hW5]; exact HS.out.new _⟩
                have HMP := Lib.hid hP
                change Code.wp _ _ _ _ (wc.alloc (cellsM c))
                rw [← hW5, ← hob]
                clear hW5 hob hP HS
                go_loopw [163] (fun i wr => ∃ (j : Nat) (Lj : List Nd), j ≤ 4 ∧ i = .int .i64 j ∧ Ses w w.heap.size g m P wr Lj ∧ Ext L6 Lj ∧ Hid (Lj.length ≤ 54000 + 2000 * j)) (fun i _ => 4 - (intOf i).toNat)
                case atStart => exact ⟨0, L6, by decide, rfl, HS1.out, Ext.refl _, HN.out⟩
                case round =>
                  obtain ⟨j, Lj, hj4, rfl, q1, q2, q3⟩ := hrel
                  have HS := Lib.hid q1
                  clear HN
                  have HN : Hid (Lj.length ≤ 54000 + 2000 * j) := q3
                  clear HI_b HI_p HI_q
                  have HE6 : Hid (Ext L6 Lj) := q2
                  have HT := Lib.hid (HI_a.out.ext HE6.out)
                  clear HI_a
                  have HI_a := HT
                  clear HT
                  clear q1 q2 q3
                  by_cases hj : j < 4
                  · obtain ⟨v, hv, hcell⟩ := cellsM_at HCD.out.1 (HS.out.block HMP.out) j hj
                    have HV := Lib.hid hv
                    have j1 : (j : Int) < 4 := by omega
                    clear hv
                    go_wp2_with fail
                    refine (fixed_any op v _).mono ?_
                    rintro e w8 ⟨rfl, rfl⟩
                    clear hcell
                    cases hfx : fixB op v
                    · clear hfx
                      go_wp2
                      go_roundw
                      case rel => exact ⟨j + 1, Lj, by omega, by go_num, HS.out, HE6.out, Nat.le_trans HN.out (by omega)⟩
                      case measure => simp [intOf]; omega
                    · have HFX := Lib.hid hfx
                      clear hfx
                      go_wp2_with fail
                      refine (const_ses HS.out (v) (HV.out) (by have := HN.out; omega)).mono ?_
                      rintro e w8 ⟨i_m, L8, rfl, q1, q2, q3, q4⟩
                      have HS2 := Lib.hid q1
                      have HN2 : Hid (L8.length ≤ 54000 + 2000 * j+1) := Nat.le_trans q4 (Nat.succ_le_succ HN.out)
                      have HC_m := Lib.hid (fun L'' (e2 : Ext L8 L'') => CN.ext q3 e2)
                      have HJ := Lib.hid (know_cn q1.good q3)
                      have HE7 : Hid (Ext Lj L8) := q2
                      have HT := Lib.hid (HI_a.out.ext HE7.out)
                      clear HI_a
                      have HI_a := HT
                      clear HT
                      clear q1 q2 q3 q4
                      have HI_m := HJ
                      clear HJ
                      clear HS
                      have HS := HS2
                      clear HS2
                      clear HN
                      have HN := HN2
                      clear HN2
                      go_wp2_with fail
                      refine (bin_ses HS.out op i_a i_m HO.out.1 HO.out.2 HI_a.out.1 HI_m.out.1 (54000 + 2000 * j+1) 60 HN.out (Nat.le_trans HI_a.out.2 (by decide)) (Nat.le_trans HI_m.out.2 (by decide)) (by omega)).mono ?_
                      rintro e w9 ⟨i_z, L9, rfl, q1, q2, q3, q4⟩
                      have HS2 := Lib.hid q1
                      have HN2 : Hid (L9.length ≤ 54000 + 2000 * j+1+500) := q3
                      have HR_z := Lib.hid q2.run
                      have HJ : Hid (Know L9 i_z 62) := ⟨q2.has, q4⟩
                      have HE8 : Hid (Ext L8 L9) := q2.ext
                      have HT := Lib.hid (HI_a.out.ext HE8.out)
                      clear HI_a
                      have HI_a := HT
                      clear HT
                      have HT := Lib.hid (HI_m.out.ext HE8.out)
                      clear HI_m
                      have HI_m := HT
                      clear HT
                      clear q1 q2 q3 q4
                      have HI_z := HJ
                      clear HJ
                      clear HS
                      have HS := HS2
                      clear HS2
                      clear HN
                      have HN := HN2
                      clear HN2
                      go_wp2_with fail
                      refine (const_ses HS.out (fixN op v) (fixN_in op v) (by have := HN.out; omega)).mono ?_
                      rintro e w10 ⟨i_u, L10, rfl, q1, q2, q3, q4⟩
                      have HS2 := Lib.hid q1
                      have HN2 : Hid (L10.length ≤ 54000 + 2000 * j+1+500+1) := Nat.le_trans q4 (Nat.succ_le_succ HN.out)
                      have HC_u := Lib.hid (fun L'' (e2 : Ext L10 L'') => CN.ext q3 e2)
                      have HJ := Lib.hid (know_cn q1.good q3)
                      have HE9 : Hid (Ext L9 L10) := q2
                      have HT := Lib.hid (HI_a.out.ext HE9.out)
                      clear HI_a
                      have HI_a := HT
                      clear HT
                      have HT := Lib.hid (HI_m.out.ext HE9.out)
                      clear HI_m
                      have HI_m := HT
                      clear HT
                      have HT := Lib.hid (HI_z.out.ext HE9.out)
                      clear HI_z
                      have HI_z := HT
                      clear HT
                      clear q1 q2 q3 q4
                      have HI_u := HJ
                      clear HJ
                      clear HS
                      have HS := HS2
                      clear HS2
                      clear HN
                      have HN := HN2
                      clear HN2
                      have HPA2 := Lib.hid (HPA.out.ext HG0.out (HE0.out.trans (HE1.out.trans (HE2.out.trans (HE3.out.trans (HE4.out.trans (HE5.out.trans (HE6.out.trans (HE7.out.trans (HE8.out.trans (HE9.out.trans (Ext.refl L10))))))))))))
                      have HPB2 := Lib.hid (HPB.out.ext HG0.out (HE0.out.trans (HE1.out.trans (HE2.out.trans (HE3.out.trans (HE4.out.trans (HE5.out.trans (HE6.out.trans (HE7.out.trans (HE8.out.trans (HE9.out.trans (Ext.refl L10))))))))))))
                      have heq_i_z : i_z = i_u := by
                        have hG := HS.out.good
                        exact (same_fixed hG HFX.out HPA2.out (HC_m.out _ (HE8.out.trans (HE9.out.trans (Ext.refl L10)))) (HR_z.out _ (HE9.out.trans (Ext.refl L10)))).eq hG (HC_u.out _ (Ext.refl L10))
                      subst heq_i_z
                      have ne_i_z : (i_z != i_z) = false := by simp
                      clear HPA2 HPB2
                      go_wp2
                      go_roundw
                      case rel => exact ⟨j + 1, L10, by omega, by go_num, HS.out, (HE6.out.trans (HE7.out.trans (HE8.out.trans (HE9.out.trans (Ext.refl L10))))), Nat.le_trans HN.out (by omega)⟩
                      case measure => simp [intOf]; omega
                  · obtain rfl : j = 4 := by omega
                    go_wp2_with fail
                    refine (works_any _ (HL.out.1.kept HS.out.kept) (HL.out.2.below HS.out.kept)).mono ?_
                    rintro e w52 ⟨rfl, hk⟩
                    have HK9 := Lib.hid (HS.out.kept.trans hk)
                    clear hk
                    go_wp2
                    go_ret
                    exact ⟨rfl, HK9.out⟩
  · have d30 : decide ((30 : Int) < (n : Int)) = true := decide_eq_true (by omega)
    go_wp2_with fail
    refine (works_any _ HL.out.1 HL.out.2).mono ?_
    rintro e w2 ⟨rfl, hk2⟩
    have HK2 := Lib.hid hk2
    clear hk2
    go_wp2
    go_ret
    exact ⟨rfl, HK2.out⟩
end Go.Proofs.YtgkjdmojbndicaaGreatDoor
