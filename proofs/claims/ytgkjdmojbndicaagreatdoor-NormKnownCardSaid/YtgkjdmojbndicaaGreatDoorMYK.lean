/-
  Several texts in one: NTruthL: Layer 4, NormTruth: what is a truth, and what is made of one: the law's walk (of which the closed law asks).; NKnownM: Layer 4, NormKnown: contracts of norm at a nil graph; what literals of nodes and cells hold.; NKnownL: Layer 4, NormKnown: the closed law's walk: all operations of a few terms, in threes; a nil graph; the examples..
-/
import Derived.Test.YtgkjdmojbndicaaGreatDoorMYB
import Derived.Test.YtgkjdmojbndicaaGreatDoorME
import Derived.Test.YtgkjdmojbndicaaGreatDoorMYS
import Derived.Test.YtgkjdmojbndicaaGreatDoorMYM
import Derived.Test.YtgkjdmojbndicaaGreatDoorMY
namespace Go.Proofs.YtgkjdmojbndicaaGreatDoor
open Go Go.RowKit

def truthopsL : List Value := [.int .u8 14, .int .u8 15, .int .u8 16]
theorem truthop_at {j : Nat} (hj : j < 3) : ∃ o : Int, (o = 14 ∨ o = 15 ∨ o = 16) ∧ 1 ≤ o ∧ o ≤ 16 ∧ truthopsL[j]'hj = .int .u8 o := by
  obtain rfl | rfl | rfl : j = 0 ∨ j = 1 ∨ j = 2 := by omega
  · exact ⟨14, Or.inl rfl, by decide, by decide, rfl⟩
  · exact ⟨15, Or.inr (Or.inl rfl), by decide, by decide, rfl⟩
  · exact ⟨16, Or.inr (Or.inr rfl), by decide, by decide, rfl⟩
theorem node_nd {L : List Nd} {i : Int} (h : hasB L.length i = true) : nodeAt L i = ndAt L i := by
  have hl := ((hasB_iff _ _).1 h)
  have : i.toNat < L.length := by omega
  unfold nodeAt ndAt
  rw [if_pos h, List.getD_eq_getElem?_getD, List.getD_eq_getElem?_getD, List.getElem?_eq_getElem this]
  rfl

set_option maxRecDepth 100000 in
set_option maxHeartbeats 16000000 in
theorem normtruth_any (la : Option Addr) (n lc : Nat) (ds : List Nd) (x y which c : Int) (w : World) (hds : NodesAt w la n ds) (hx : InR x) (hy : InR y) (hwh : InB which) (hc : InR c) (hL : Laid w) (hT : Tab w) :
    Calls Tryz.prog 36 #[.slice la n lc, .int .i64 x, .int .i64 y, .int .u8 which, .int .i64 c] w fun e w' => e = .returned (.bool true) ∧ Kept w w' := by
  have HD := Lib.hid hds
  have HL := Lib.hid (And.intro hL hT)
  have HX := Lib.hid (And.intro hx hy)
  have HC := Lib.hid hc
  clear hds hL hT hx hy hc
  go_enter Tryz.func36, Tryz.ntmps36
  by_cases h30 : n ≤ 30
  · have d30 : decide ((30 : Int) < (n : Int)) = false := decide_eq_false (by omega)
    have H30 := Lib.hid h30
    clear h30
    go_wp2_with fail
    refine (plains_any la n lc ds x y 0 w HD.out H30.out HX.out.1 HX.out.2 in0 HL.out.1 HL.out.2).mono ?_
    rintro e w1 hq
    rcases hq with ⟨g, rfl, hk⟩ | ⟨g, m, i_a, i_b, i_z, L0, rfl, hS, hP, hDn, hl⟩
    · have HK1 := Lib.hid hk
      clear hk
      go_wp2_with fail
      refine (works_any _ (HL.out.1.kept HK1.out) (HL.out.2.below HK1.out)).mono ?_
      rintro e w2 ⟨rfl, hk2⟩
      have HK2 := Lib.hid (HK1.out.trans hk2)
      clear hk2
      go_wp2
      go_ret
      exact ⟨rfl, HK2.out⟩
    · have HS0 := Lib.hid hS
      have HPA := Lib.hid hP.1
      have HPB := Lib.hid hP.2.1
      have HI_a : Hid (Know L0 i_a 60) := ⟨hP.1.has, hDn.1⟩
      have HI_b : Hid (Know L0 i_b 60) := ⟨hP.2.1.has, hDn.2.1⟩
      have HN := Lib.hid hl
      have HG0 := Lib.hid hS.good
      clear hS hP hDn hl
      obtain ⟨j, hj, hjt⟩ : ∃ j : Nat, j < 3 ∧ which.tmod 3 = (j : Int) := by
        have h1 := hwh.1
        have h2 := Int.tmod_nonneg 3 h1
        have h3 := Int.tmod_lt_of_pos which (show (0 : Int) < 3 by decide)
        exact ⟨(which.tmod 3).toNat, by omega, by omega⟩
      go_wp2_with fail
      obtain ⟨o, ho, ho1, ho2, hoe⟩ := truthop_at hj
      have hoe' : [Value.int IntKind.u8 14, Value.int IntKind.u8 15, Value.int IntKind.u8 16][j]'hj = .int .u8 o := hoe
      rw [hoe']
      have HOO := Lib.hid ho
      have HO := Lib.hid (And.intro ho1 ho2)
      obtain ⟨P, HS⟩ : ∃ P, Hid (Ses w w.heap.size g m P (w1.alloc (Obj.cells #[Value.int IntKind.u8 14, Value.int IntKind.u8 15, Value.int IntKind.u8 16] 27)) L0) := ⟨_, HS0.out.new _⟩
      clear HS0 hoe hoe' ho ho1 ho2 hjt hj
      change Calls _ _ _ (w1.alloc (Obj.cells #[Value.int IntKind.u8 14, Value.int IntKind.u8 15, Value.int IntKind.u8 16] 27)) _
      generalize w1.alloc (Obj.cells #[Value.int IntKind.u8 14, Value.int IntKind.u8 15, Value.int IntKind.u8 16] 27) = W1 at *
      generalize w1.heap.size = ob at *
      refine (bin_ses HS.out o i_a i_b HO.out.1 HO.out.2 HI_a.out.1 HI_b.out.1 (46000) 60 HN.out (Nat.le_trans HI_a.out.2 (by decide)) (Nat.le_trans HI_b.out.2 (by decide)) (by omega)).mono ?_
      rintro e w1 ⟨i_t, L1, rfl, q1, q2, q3, q4⟩
      have HS2 := Lib.hid q1
      have HN2 : Hid (L1.length ≤ 46000+500) := q3
      have HR_t := Lib.hid q2.run
      have HJ : Hid (Know L1 i_t 62) := ⟨q2.has, q4⟩
      have HE0 : Hid (Ext L0 L1) := q2.ext
      have HT := Lib.hid (HI_a.out.ext HE0.out)
      clear HI_a
      have HI_a := HT
      clear HT
      have HT := Lib.hid (HI_b.out.ext HE0.out)
      clear HI_b
      have HI_b := HT
      clear HT
      clear q1 q2 q3 q4
      have HI_t := HJ
      clear HJ
      clear HS
      have HS := HS2
      clear HS2
      clear HN
      have HN := HN2
      clear HN2
      have HFT : Hid (Fw L1 ⟨o, i_a, i_b⟩) := ⟨HO.out.1, HO.out.2, HI_a.out.1, HI_b.out.1⟩
      have HTT : Hid (Pl L1 i_t ∧ truthN (ndAt L1 i_t) = true) := by
        have hG := HS.out.good
        have hpa := HPA.out.ext HG0.out HE0.out
        have hpb := HPB.out.ext HG0.out HE0.out
        have r := HR_t.out _ (Ext.refl _)
        exact ⟨run_pl hG r HFT.out hpa hpb, run_truth hG r HFT.out HOO.out⟩
      have HGT := Lib.hid HS.out.good
      clear HFT
      clear HI_a
      clear HI_b
      go_wp2_with fail
      refine (const_ses HS.out (1) (in1) (by have := HN.out; omega)).mono ?_
      rintro e w2 ⟨i_one, L2, rfl, q1, q2, q3, q4⟩
      have HS2 := Lib.hid q1
      have HN2 : Hid (L2.length ≤ 46000+500+1) := Nat.le_trans q4 (Nat.succ_le_succ HN.out)
      have HC_one := Lib.hid (fun L'' (e2 : Ext L2 L'') => CN.ext q3 e2)
      have HJ := Lib.hid (know_cn q1.good q3)
      have HE1 : Hid (Ext L1 L2) := q2
      have HT := Lib.hid (HI_t.out.ext HE1.out)
      clear HI_t
      have HI_t := HT
      clear HT
      clear q1 q2 q3 q4
      have HI_one := HJ
      clear HJ
      clear HS
      have HS := HS2
      clear HS2
      clear HN
      have HN := HN2
      clear HN2
      go_wp2_with fail
      refine (const_ses HS.out (0) (in0) (by have := HN.out; omega)).mono ?_
      rintro e w3 ⟨i_zero, L3, rfl, q1, q2, q3, q4⟩
      have HS2 := Lib.hid q1
      have HN2 : Hid (L3.length ≤ 46000+500+1+1) := Nat.le_trans q4 (Nat.succ_le_succ HN.out)
      have HC_zero := Lib.hid (fun L'' (e2 : Ext L3 L'') => CN.ext q3 e2)
      have HJ := Lib.hid (know_cn q1.good q3)
      have HE2 : Hid (Ext L2 L3) := q2
      have HT := Lib.hid (HI_t.out.ext HE2.out)
      clear HI_t
      have HI_t := HT
      clear HT
      have HT := Lib.hid (HI_one.out.ext HE2.out)
      clear HI_one
      have HI_one := HT
      clear HT
      clear q1 q2 q3 q4
      have HI_zero := HJ
      clear HJ
      clear HS
      have HS := HS2
      clear HS2
      clear HN
      have HN := HN2
      clear HN2
      go_wp2_with fail
      refine (const_ses HS.out (c) (HC.out) (by have := HN.out; omega)).mono ?_
      rintro e w4 ⟨i_num, L4, rfl, q1, q2, q3, q4⟩
      have HS2 := Lib.hid q1
      have HN2 : Hid (L4.length ≤ 46000+500+1+1+1) := Nat.le_trans q4 (Nat.succ_le_succ HN.out)
      have HC_num := Lib.hid (fun L'' (e2 : Ext L4 L'') => CN.ext q3 e2)
      have HJ := Lib.hid (know_cn q1.good q3)
      have HE3 : Hid (Ext L3 L4) := q2
      have HT := Lib.hid (HI_t.out.ext HE3.out)
      clear HI_t
      have HI_t := HT
      clear HT
      have HT := Lib.hid (HI_one.out.ext HE3.out)
      clear HI_one
      have HI_one := HT
      clear HT
      have HT := Lib.hid (HI_zero.out.ext HE3.out)
      clear HI_zero
      have HI_zero := HT
      clear HT
      clear q1 q2 q3 q4
      have HI_num := HJ
      clear HJ
      clear HS
      have HS := HS2
      clear HS2
      clear HN
      have HN := HN2
      clear HN2
      go_wp2_with fail
      refine (not_ses HS.out i_t HI_t.out.1 (46000+500+1+1+1) 62 HN.out HI_t.out.2 (by omega)).mono ?_
      rintro e w5 ⟨i_n, L5, rfl, q1, q2, q5, q6, q3, q4⟩
      have HS2 := Lib.hid q1
      have HN2 : Hid (L5.length ≤ 46000+500+1+1+1+516) := q3
      have HR_n := Lib.hid q6
      have HJ : Hid (Know L5 i_n 64) := ⟨q5, q4⟩
      have HE4 : Hid (Ext L4 L5) := q2
      have HT := Lib.hid (HI_t.out.ext HE4.out)
      clear HI_t
      have HI_t := HT
      clear HT
      have HT := Lib.hid (HI_one.out.ext HE4.out)
      clear HI_one
      have HI_one := HT
      clear HT
      have HT := Lib.hid (HI_zero.out.ext HE4.out)
      clear HI_zero
      have HI_zero := HT
      clear HT
      have HT := Lib.hid (HI_num.out.ext HE4.out)
      clear HI_num
      have HI_num := HT
      clear HT
      clear q1 q2 q3 q4 q5 q6
      have HI_n := HJ
      clear HJ
      clear HS
      have HS := HS2
      clear HS2
      clear HN
      have HN := HN2
      clear HN2
      have hG := HS.out.good
      have pt := HTT.out.1.ext HGT.out (HE1.out.trans (HE2.out.trans (HE3.out.trans (HE4.out.trans (Ext.refl L5)))))
      have tt : truthN (ndAt L5 i_t) = true := by
        rw [((HE1.out.trans (HE2.out.trans (HE3.out.trans (HE4.out.trans (Ext.refl L5))))) : Ext L1 L5).nd HTT.out.1.has]
        exact HTT.out.2
      have c0 := (HC_zero.out _ (HE3.out.trans (HE4.out.trans (Ext.refl L5))))
      have c1 := (HC_one.out _ (HE2.out.trans (HE3.out.trans (HE4.out.trans (Ext.refl L5)))))
      obtain ⟨zn, hzn, rn⟩ := (HR_n.out _ (Ext.refl L5))
      rw [hzn.eq hG c0] at rn
      clear hzn
      have tn : truthN (ndAt L5 i_n) = true := run_truth hG rn (fw16 pt.has c0.1) (Or.inr (Or.inr rfl))
      have HBT : Hid (truthN (nodeAt L5 i_t) = true) := by rw [node_nd pt.has]; exact tt
      have HBN : Hid (truthN (nodeAt L5 i_n) = true) := by rw [node_nd HI_n.out.1]; exact tn
      clear tn
      clear hG pt tt c0 c1 rn
      go_wp2_with fail
      refine (bool_ses HS.out (Kept.refl _) i_t).mono ?_
      rintro e wb1 ⟨rfl, hk⟩
      rw [HBT.out]
      have HS2 := Lib.hid (HS.out.then hk)
      clear hk HS
      have HS := HS2
      clear HS2
      go_wp2_with fail
      refine (bool_ses HS.out (Kept.refl _) i_n).mono ?_
      rintro e wb2 ⟨rfl, hk⟩
      rw [HBN.out]
      have HS2 := Lib.hid (HS.out.then hk)
      clear hk HS
      have HS := HS2
      clear HS2 HBT HBN
      go_wp2_with fail
      refine (bin_ses HS.out 16 i_t i_one (by decide) (by decide) HI_t.out.1 HI_one.out.1 (46000+500+1+1+1+516) 62 HN.out (Nat.le_trans HI_t.out.2 (by decide)) (Nat.le_trans HI_one.out.2 (by decide)) (by omega)).mono ?_
      rintro e w6 ⟨i_s1, L6, rfl, q1, q2, q3, q4⟩
      have HS2 := Lib.hid q1
      have HN2 : Hid (L6.length ≤ 46000+500+1+1+1+516+516) := q3
      have HR_s1 := Lib.hid q2.run
      have HJ : Hid (Know L6 i_s1 64) := ⟨q2.has, q4⟩
      have HE5 : Hid (Ext L5 L6) := q2.ext
      have HT := Lib.hid (HI_t.out.ext HE5.out)
      clear HI_t
      have HI_t := HT
      clear HT
      have HT := Lib.hid (HI_one.out.ext HE5.out)
      clear HI_one
      have HI_one := HT
      clear HT
      have HT := Lib.hid (HI_zero.out.ext HE5.out)
      clear HI_zero
      have HI_zero := HT
      clear HT
      have HT := Lib.hid (HI_num.out.ext HE5.out)
      clear HI_num
      have HI_num := HT
      clear HT
      have HT := Lib.hid (HI_n.out.ext HE5.out)
      clear HI_n
      have HI_n := HT
      clear HT
      clear q1 q2 q3 q4
      have HI_s1 := HJ
      clear HJ
      clear HS
      have HS := HS2
      clear HS2
      clear HN
      have HN := HN2
      clear HN2
      have hG := HS.out.good
      have pt := HTT.out.1.ext HGT.out (HE1.out.trans (HE2.out.trans (HE3.out.trans (HE4.out.trans (HE5.out.trans (Ext.refl L6))))))
      have tt : truthN (ndAt L6 i_t) = true := by
        rw [((HE1.out.trans (HE2.out.trans (HE3.out.trans (HE4.out.trans (HE5.out.trans (Ext.refl L6)))))) : Ext L1 L6).nd HTT.out.1.has]
        exact HTT.out.2
      have c0 := (HC_zero.out _ (HE3.out.trans (HE4.out.trans (HE5.out.trans (Ext.refl L6)))))
      have c1 := (HC_one.out _ (HE2.out.trans (HE3.out.trans (HE4.out.trans (HE5.out.trans (Ext.refl L6))))))
      obtain ⟨zn, hzn, rn⟩ := (HR_n.out _ (HE5.out.trans (Ext.refl L6)))
      rw [hzn.eq hG c0] at rn
      clear hzn
      have heq : i_t = i_s1 := (tr_one hG pt tt c1 (HR_s1.out _ (Ext.refl L6))).symm
      clear hG pt tt c0 c1 rn
      subst heq
      have ne_i_t : (i_t != i_t) = false := by simp
      clear HI_s1
      go_wp2_with fail
      refine (not_ses HS.out i_n HI_n.out.1 (46000+500+1+1+1+516+516) 64 HN.out HI_n.out.2 (by omega)).mono ?_
      rintro e w7 ⟨i_s2, L7, rfl, q1, q2, q5, q6, q3, q4⟩
      have HS2 := Lib.hid q1
      have HN2 : Hid (L7.length ≤ 46000+500+1+1+1+516+516+532) := q3
      have HR_s2 := Lib.hid q6
      have HJ : Hid (Know L7 i_s2 66) := ⟨q5, q4⟩
      have HE6 : Hid (Ext L6 L7) := q2
      have HT := Lib.hid (HI_t.out.ext HE6.out)
      clear HI_t
      have HI_t := HT
      clear HT
      have HT := Lib.hid (HI_one.out.ext HE6.out)
      clear HI_one
      have HI_one := HT
      clear HT
      have HT := Lib.hid (HI_zero.out.ext HE6.out)
      clear HI_zero
      have HI_zero := HT
      clear HT
      have HT := Lib.hid (HI_num.out.ext HE6.out)
      clear HI_num
      have HI_num := HT
      clear HT
      have HT := Lib.hid (HI_n.out.ext HE6.out)
      clear HI_n
      have HI_n := HT
      clear HT
      clear q1 q2 q3 q4 q5 q6
      have HI_s2 := HJ
      clear HJ
      clear HS
      have HS := HS2
      clear HS2
      clear HN
      have HN := HN2
      clear HN2
      have hG := HS.out.good
      have pt := HTT.out.1.ext HGT.out (HE1.out.trans (HE2.out.trans (HE3.out.trans (HE4.out.trans (HE5.out.trans (HE6.out.trans (Ext.refl L7)))))))
      have tt : truthN (ndAt L7 i_t) = true := by
        rw [((HE1.out.trans (HE2.out.trans (HE3.out.trans (HE4.out.trans (HE5.out.trans (HE6.out.trans (Ext.refl L7))))))) : Ext L1 L7).nd HTT.out.1.has]
        exact HTT.out.2
      have c0 := (HC_zero.out _ (HE3.out.trans (HE4.out.trans (HE5.out.trans (HE6.out.trans (Ext.refl L7))))))
      have c1 := (HC_one.out _ (HE2.out.trans (HE3.out.trans (HE4.out.trans (HE5.out.trans (HE6.out.trans (Ext.refl L7)))))))
      obtain ⟨zn, hzn, rn⟩ := (HR_n.out _ (HE5.out.trans (HE6.out.trans (Ext.refl L7))))
      rw [hzn.eq hG c0] at rn
      clear hzn
      obtain ⟨z2, hz2, r2⟩ := (HR_s2.out _ (Ext.refl L7))
      rw [hz2.eq hG c0] at r2
      have heq : i_t = i_s2 := (tr_nn hG pt tt c0 rn r2).symm
      clear hz2 r2
      clear hG pt tt c0 c1 rn
      subst heq
      clear HI_s2
      go_wp2_with fail
      refine (bin_ses HS.out 10 i_t i_one (by decide) (by decide) HI_t.out.1 HI_one.out.1 (46000+500+1+1+1+516+516+532) 62 HN.out (Nat.le_trans HI_t.out.2 (by decide)) (Nat.le_trans HI_one.out.2 (by decide)) (by omega)).mono ?_
      rintro e w8 ⟨i_s3, L8, rfl, q1, q2, q3, q4⟩
      have HS2 := Lib.hid q1
      have HN2 : Hid (L8.length ≤ 46000+500+1+1+1+516+516+532+516) := q3
      have HR_s3 := Lib.hid q2.run
      have HJ : Hid (Know L8 i_s3 64) := ⟨q2.has, q4⟩
      have HE7 : Hid (Ext L7 L8) := q2.ext
      have HT := Lib.hid (HI_t.out.ext HE7.out)
      clear HI_t
      have HI_t := HT
      clear HT
      have HT := Lib.hid (HI_one.out.ext HE7.out)
      clear HI_one
      have HI_one := HT
      clear HT
      have HT := Lib.hid (HI_zero.out.ext HE7.out)
      clear HI_zero
      have HI_zero := HT
      clear HT
      have HT := Lib.hid (HI_num.out.ext HE7.out)
      clear HI_num
      have HI_num := HT
      clear HT
      have HT := Lib.hid (HI_n.out.ext HE7.out)
      clear HI_n
      have HI_n := HT
      clear HT
      clear q1 q2 q3 q4
      have HI_s3 := HJ
      clear HJ
      clear HS
      have HS := HS2
      clear HS2
      clear HN
      have HN := HN2
      clear HN2
      have hG := HS.out.good
      have pt := HTT.out.1.ext HGT.out (HE1.out.trans (HE2.out.trans (HE3.out.trans (HE4.out.trans (HE5.out.trans (HE6.out.trans (HE7.out.trans (Ext.refl L8))))))))
      have tt : truthN (ndAt L8 i_t) = true := by
        rw [((HE1.out.trans (HE2.out.trans (HE3.out.trans (HE4.out.trans (HE5.out.trans (HE6.out.trans (HE7.out.trans (Ext.refl L8)))))))) : Ext L1 L8).nd HTT.out.1.has]
        exact HTT.out.2
      have c0 := (HC_zero.out _ (HE3.out.trans (HE4.out.trans (HE5.out.trans (HE6.out.trans (HE7.out.trans (Ext.refl L8)))))))
      have c1 := (HC_one.out _ (HE2.out.trans (HE3.out.trans (HE4.out.trans (HE5.out.trans (HE6.out.trans (HE7.out.trans (Ext.refl L8))))))))
      obtain ⟨zn, hzn, rn⟩ := (HR_n.out _ (HE5.out.trans (HE6.out.trans (HE7.out.trans (Ext.refl L8)))))
      rw [hzn.eq hG c0] at rn
      clear hzn
      have heq : i_n = i_s3 := (tr_xor hG pt tt c0 c1 (HR_s3.out _ (Ext.refl L8)) rn).symm
      clear hG pt tt c0 c1 rn
      subst heq
      have ne_i_n : (i_n != i_n) = false := by simp
      clear HI_s3
      go_wp2_with fail
      refine (bin_ses HS.out 8 i_t i_one (by decide) (by decide) HI_t.out.1 HI_one.out.1 (46000+500+1+1+1+516+516+532+516) 62 HN.out (Nat.le_trans HI_t.out.2 (by decide)) (Nat.le_trans HI_one.out.2 (by decide)) (by omega)).mono ?_
      rintro e w9 ⟨i_s4, L9, rfl, q1, q2, q3, q4⟩
      have HS2 := Lib.hid q1
      have HN2 : Hid (L9.length ≤ 46000+500+1+1+1+516+516+532+516+516) := q3
      have HR_s4 := Lib.hid q2.run
      have HJ : Hid (Know L9 i_s4 64) := ⟨q2.has, q4⟩
      have HE8 : Hid (Ext L8 L9) := q2.ext
      have HT := Lib.hid (HI_t.out.ext HE8.out)
      clear HI_t
      have HI_t := HT
      clear HT
      have HT := Lib.hid (HI_one.out.ext HE8.out)
      clear HI_one
      have HI_one := HT
      clear HT
      have HT := Lib.hid (HI_zero.out.ext HE8.out)
      clear HI_zero
      have HI_zero := HT
      clear HT
      have HT := Lib.hid (HI_num.out.ext HE8.out)
      clear HI_num
      have HI_num := HT
      clear HT
      have HT := Lib.hid (HI_n.out.ext HE8.out)
      clear HI_n
      have HI_n := HT
      clear HT
      clear q1 q2 q3 q4
      have HI_s4 := HJ
      clear HJ
      clear HS
      have HS := HS2
      clear HS2
      clear HN
      have HN := HN2
      clear HN2
      have hG := HS.out.good
      have pt := HTT.out.1.ext HGT.out (HE1.out.trans (HE2.out.trans (HE3.out.trans (HE4.out.trans (HE5.out.trans (HE6.out.trans (HE7.out.trans (HE8.out.trans (Ext.refl L9)))))))))
      have tt : truthN (ndAt L9 i_t) = true := by
        rw [((HE1.out.trans (HE2.out.trans (HE3.out.trans (HE4.out.trans (HE5.out.trans (HE6.out.trans (HE7.out.trans (HE8.out.trans (Ext.refl L9))))))))) : Ext L1 L9).nd HTT.out.1.has]
        exact HTT.out.2
      have c0 := (HC_zero.out _ (HE3.out.trans (HE4.out.trans (HE5.out.trans (HE6.out.trans (HE7.out.trans (HE8.out.trans (Ext.refl L9))))))))
      have c1 := (HC_one.out _ (HE2.out.trans (HE3.out.trans (HE4.out.trans (HE5.out.trans (HE6.out.trans (HE7.out.trans (HE8.out.trans (Ext.refl L9)))))))))
      obtain ⟨zn, hzn, rn⟩ := (HR_n.out _ (HE5.out.trans (HE6.out.trans (HE7.out.trans (HE8.out.trans (Ext.refl L9))))))
      rw [hzn.eq hG c0] at rn
      clear hzn
      have heq : i_t = i_s4 := (tr_and hG pt tt c1 (HR_s4.out _ (Ext.refl L9))).symm
      clear hG pt tt c0 c1 rn
      subst heq
      clear HI_s4
      go_wp2_with fail
      refine (bin_ses HS.out 16 i_t i_zero (by decide) (by decide) HI_t.out.1 HI_zero.out.1 (46000+500+1+1+1+516+516+532+516+516) 62 HN.out (Nat.le_trans HI_t.out.2 (by decide)) (Nat.le_trans HI_zero.out.2 (by decide)) (by omega)).mono ?_
      rintro e w10 ⟨i_s5, L10, rfl, q1, q2, q3, q4⟩
      have HS2 := Lib.hid q1
      have HN2 : Hid (L10.length ≤ 46000+500+1+1+1+516+516+532+516+516+516) := q3
      have HR_s5 := Lib.hid q2.run
      have HJ : Hid (Know L10 i_s5 64) := ⟨q2.has, q4⟩
      have HE9 : Hid (Ext L9 L10) := q2.ext
      have HT := Lib.hid (HI_t.out.ext HE9.out)
      clear HI_t
      have HI_t := HT
      clear HT
      have HT := Lib.hid (HI_one.out.ext HE9.out)
      clear HI_one
      have HI_one := HT
      clear HT
      have HT := Lib.hid (HI_zero.out.ext HE9.out)
      clear HI_zero
      have HI_zero := HT
      clear HT
      have HT := Lib.hid (HI_num.out.ext HE9.out)
      clear HI_num
      have HI_num := HT
      clear HT
      have HT := Lib.hid (HI_n.out.ext HE9.out)
      clear HI_n
      have HI_n := HT
      clear HT
      clear q1 q2 q3 q4
      have HI_s5 := HJ
      clear HJ
      clear HS
      have HS := HS2
      clear HS2
      clear HN
      have HN := HN2
      clear HN2
      have hG := HS.out.good
      have pt := HTT.out.1.ext HGT.out (HE1.out.trans (HE2.out.trans (HE3.out.trans (HE4.out.trans (HE5.out.trans (HE6.out.trans (HE7.out.trans (HE8.out.trans (HE9.out.trans (Ext.refl L10))))))))))
      have tt : truthN (ndAt L10 i_t) = true := by
        rw [((HE1.out.trans (HE2.out.trans (HE3.out.trans (HE4.out.trans (HE5.out.trans (HE6.out.trans (HE7.out.trans (HE8.out.trans (HE9.out.trans (Ext.refl L10)))))))))) : Ext L1 L10).nd HTT.out.1.has]
        exact HTT.out.2
      have c0 := (HC_zero.out _ (HE3.out.trans (HE4.out.trans (HE5.out.trans (HE6.out.trans (HE7.out.trans (HE8.out.trans (HE9.out.trans (Ext.refl L10)))))))))
      have c1 := (HC_one.out _ (HE2.out.trans (HE3.out.trans (HE4.out.trans (HE5.out.trans (HE6.out.trans (HE7.out.trans (HE8.out.trans (HE9.out.trans (Ext.refl L10))))))))))
      obtain ⟨zn, hzn, rn⟩ := (HR_n.out _ (HE5.out.trans (HE6.out.trans (HE7.out.trans (HE8.out.trans (HE9.out.trans (Ext.refl L10)))))))
      rw [hzn.eq hG c0] at rn
      clear hzn
      have heq : i_n = i_s5 := rn.eq hG (HR_s5.out _ (Ext.refl L10))
      clear hG pt tt c0 c1 rn
      subst heq
      clear HI_s5
      by_cases hc0 : c = 0
      · have b0 : (c == 0) = true := beq_iff_eq.2 hc0
        clear hc0
        go_wp2_with fail
        refine (works_any _ (HL.out.1.kept HS.out.kept) (HL.out.2.below HS.out.kept)).mono ?_
        rintro e w52 ⟨rfl, hk⟩
        have HK9 := Lib.hid (HS.out.kept.trans hk)
        clear hk
        go_wp2
        go_ret
        exact ⟨rfl, HK9.out⟩
      have b0 : (c == 0) = false := beq_eq_false_iff_ne.2 hc0
      by_cases hc1 : c = 1
      · have b1 : (c == 1) = true := beq_iff_eq.2 hc1
        clear hc1 hc0
        go_wp2_with fail
        refine (works_any _ (HL.out.1.kept HS.out.kept) (HL.out.2.below HS.out.kept)).mono ?_
        rintro e w52 ⟨rfl, hk⟩
        have HK9 := Lib.hid (HS.out.kept.trans hk)
        clear hk
        go_wp2
        go_ret
        exact ⟨rfl, HK9.out⟩
      have b1 : (c == 1) = false := beq_eq_false_iff_ne.2 hc1
      have HCC := Lib.hid (And.intro hc0 hc1)
      clear hc0 hc1
      go_wp2_with fail
      refine (bin_ses HS.out 16 i_t i_num (by decide) (by decide) HI_t.out.1 HI_num.out.1 (46000+500+1+1+1+516+516+532+516+516+516) 62 HN.out (Nat.le_trans HI_t.out.2 (by decide)) (Nat.le_trans HI_num.out.2 (by decide)) (by omega)).mono ?_
      rintro e w11 ⟨i_s6, L11, rfl, q1, q2, q3, q4⟩
      have HS2 := Lib.hid q1
      have HN2 : Hid (L11.length ≤ 46000+500+1+1+1+516+516+532+516+516+516+516) := q3
      have HR_s6 := Lib.hid q2.run
      have HJ : Hid (Know L11 i_s6 64) := ⟨q2.has, q4⟩
      have HE10 : Hid (Ext L10 L11) := q2.ext
      have HT := Lib.hid (HI_t.out.ext HE10.out)
      clear HI_t
      have HI_t := HT
      clear HT
      have HT := Lib.hid (HI_one.out.ext HE10.out)
      clear HI_one
      have HI_one := HT
      clear HT
      have HT := Lib.hid (HI_zero.out.ext HE10.out)
      clear HI_zero
      have HI_zero := HT
      clear HT
      have HT := Lib.hid (HI_num.out.ext HE10.out)
      clear HI_num
      have HI_num := HT
      clear HT
      have HT := Lib.hid (HI_n.out.ext HE10.out)
      clear HI_n
      have HI_n := HT
      clear HT
      clear q1 q2 q3 q4
      have HI_s6 := HJ
      clear HJ
      clear HS
      have HS := HS2
      clear HS2
      clear HN
      have HN := HN2
      clear HN2
      have hG := HS.out.good
      have pt := HTT.out.1.ext HGT.out (HE1.out.trans (HE2.out.trans (HE3.out.trans (HE4.out.trans (HE5.out.trans (HE6.out.trans (HE7.out.trans (HE8.out.trans (HE9.out.trans (HE10.out.trans (Ext.refl L11)))))))))))
      have tt : truthN (ndAt L11 i_t) = true := by
        rw [((HE1.out.trans (HE2.out.trans (HE3.out.trans (HE4.out.trans (HE5.out.trans (HE6.out.trans (HE7.out.trans (HE8.out.trans (HE9.out.trans (HE10.out.trans (Ext.refl L11))))))))))) : Ext L1 L11).nd HTT.out.1.has]
        exact HTT.out.2
      have c0 := (HC_zero.out _ (HE3.out.trans (HE4.out.trans (HE5.out.trans (HE6.out.trans (HE7.out.trans (HE8.out.trans (HE9.out.trans (HE10.out.trans (Ext.refl L11))))))))))
      have c1 := (HC_one.out _ (HE2.out.trans (HE3.out.trans (HE4.out.trans (HE5.out.trans (HE6.out.trans (HE7.out.trans (HE8.out.trans (HE9.out.trans (HE10.out.trans (Ext.refl L11)))))))))))
      obtain ⟨zn, hzn, rn⟩ := (HR_n.out _ (HE5.out.trans (HE6.out.trans (HE7.out.trans (HE8.out.trans (HE9.out.trans (HE10.out.trans (Ext.refl L11))))))))
      rw [hzn.eq hG c0] at rn
      clear hzn
      have heq : i_zero = i_s6 := c0.eq hG (tr_no hG pt tt (HC_num.out _ (HE4.out.trans (HE5.out.trans (HE6.out.trans (HE7.out.trans (HE8.out.trans (HE9.out.trans (HE10.out.trans (Ext.refl L11))))))))) HCC.out.1 HCC.out.2 (HR_s6.out _ (Ext.refl L11)))
      clear hG pt tt c0 c1 rn
      subst heq
      have eqz : (i_zero == i_zero) = true := by simp
      go_wp2_with fail
      refine (works_any _ (HL.out.1.kept HS.out.kept) (HL.out.2.below HS.out.kept)).mono ?_
      rintro e w52 ⟨rfl, hk⟩
      have HK9 := Lib.hid (HS.out.kept.trans hk)
      clear hk
      go_wp2
      go_ret
      exact ⟨rfl, HK9.out⟩
  · have d30 : decide ((30 : Int) < (n : Int)) = true := decide_eq_true (by omega)
    go_wp2_with fail
    refine (works_any _ HL.out.1 HL.out.2).mono ?_
    rintro e w2 ⟨rfl, hk2⟩
    have HK2 := Lib.hid hk2
    clear hk2
    go_wp2
    go_ret
    exact ⟨rfl, HK2.out⟩
end Go.Proofs.YtgkjdmojbndicaaGreatDoor

namespace Go.Proofs.YtgkjdmojbndicaaGreatDoor
open Go Go.RowKit

set_option maxHeartbeats 2000000 in
theorem area_nilg (b n : Nat) (x : Int) (w : World) (hn : 0 < n) (hx : w.cell? ⟨b, 0, none⟩ = some (.int .i64 x)) :
    Calls Tryz.prog 43 #[.pointer none, .slice (some ⟨b, 0, none⟩) n n] w fun e w' => e = .returned (.bool false) ∧ Kept w w' := by
  have HX := Lib.hid hx
  have n0 : (0 : Int) < (n : Int) := by omega
  clear hx
  go_enter Tryz.func43, Tryz.ntmps43
  go_wp2
  go_loopw [11] (fun i wr => i = .int .i64 0 ∧ wr = w) (fun i _ => 1)
  case atStart => exact ⟨rfl, rfl⟩
  case round =>
    obtain ⟨rfl, rfl⟩ := hrel
    have x0 := HX.out
    go_wp2_with fail
    refine (node_nil x _).mono ?_
    rintro e w2 ⟨rfl, hk2⟩
    simp only [Nd.val, nd0]
    have HK2 := Lib.hid hk2
    clear hk2 x0
    go_wp2
    go_ret
    exact ⟨rfl, HK2.out.alloc _⟩
set_option maxHeartbeats 1000000 in
theorem bin_nilg (w : World) :
    Calls Tryz.prog 13 #[.pointer none, .int .u8 1, .int .i64 0, .int .i64 0] w fun e w' => e = .returned (.int .i64 (-1)) ∧ Kept w w' := by
  have HX : Hid ((w.alloc (.cells #[.int .i64 0, .int .i64 0] 35)).cell? ⟨w.heap.size, 0, none⟩ = some (.int .i64 0)) := by
    show _ = _
    rw [cell_of_row _ _ _ _ _ _ (MapKept.heap_alloc w (.cells #[.int .i64 0, .int .i64 0] 35)).1]; rfl
  go_enter Tryz.func13, Tryz.ntmps13
  go_wp2_with fail
  refine (known_any 1 _).mono ?_
  rintro e w' ⟨rfl, rfl⟩
  rw [show knownB 1 = true from rfl]
  go_wp2_with fail
  refine (area_nilg _ 2 0 _ (by decide) HX.out).mono ?_
  rintro e w2 ⟨rfl, hk2⟩
  have HK2 := Lib.hid (((Kept.refl _).alloc _).trans hk2)
  clear hk2
  go_wp2
  go_ret
  exact ⟨rfl, HK2.out⟩
set_option maxHeartbeats 1000000 in
theorem ofn_nilg (w : World) :
    Calls Tryz.prog 24 #[.pointer none, .int .i64 0] w fun e w' => e = .returned (.int .i64 (-1)) ∧ Kept w w' := by
  have HX : Hid ((w.alloc (.cells #[.int .i64 0] 35)).cell? ⟨w.heap.size, 0, none⟩ = some (.int .i64 0)) := by
    show _ = _
    rw [cell_of_row _ _ _ _ _ _ (MapKept.heap_alloc w (.cells #[.int .i64 0] 35)).1]; rfl
  go_enter Tryz.func24, Tryz.ntmps24
  go_wp2_with fail
  refine (area_nilg _ 1 0 _ (by decide) HX.out).mono ?_
  rintro e w2 ⟨rfl, hk2⟩
  have HK2 := Lib.hid (((Kept.refl _).alloc _).trans hk2)
  clear hk2
  go_wp2
  go_ret
  exact ⟨rfl, HK2.out⟩
set_option maxHeartbeats 1000000 in
theorem const_nilg (w : World) :
    Calls Tryz.prog 26 #[.pointer none, .int .i64 1] w fun e w' => e = .returned (.int .i64 (-1)) ∧ Kept w w' := by
  go_enter Tryz.func26, Tryz.ntmps26
  go_wp2_with fail
  refine (add_nil ⟨1, 1, 0, 0, 0, 0⟩ _).mono ?_
  rintro e w2 ⟨rfl, hk2⟩
  have HK2 := Lib.hid hk2
  clear hk2
  go_wp2
  go_ret
  exact ⟨rfl, HK2.out⟩
set_option maxHeartbeats 1000000 in
theorem bool_nilg (w : World) :
    Calls Tryz.prog 19 #[.pointer none, .int .i64 0] w fun e w' => e = .returned (.bool false) ∧ Kept w w' := by
  go_enter Tryz.func19, Tryz.ntmps19
  go_wp2_with fail
  refine (node_nil 0 _).mono ?_
  rintro e w1 ⟨rfl, hk1⟩
  have HK1 := Lib.hid hk1
  clear hk1
  simp only [Nd.val]
  go_wp2_with fail
  refine (istruth_any nd0 _).mono ?_
  rintro e w2 ⟨rfl, hk2⟩
  have HK2 := Lib.hid ((HK1.out.alloc _).trans hk2)
  clear hk2
  rw [show truthN nd0 = false from rfl]
  go_wp2
  go_ret
  exact ⟨rfl, HK2.out⟩
theorem nodes_lit {w : World} {b : Nat} {cs : Array Value} {t : TypeId} {ds : List Nd} (h : w.heap[b]? = some (.cells cs t (0, 0))) (hcs : cs.toList = nodeCells ds) (hok : ∀ d ∈ ds, d.Ok) : NodesAt w (some ⟨b, 0, none⟩) ds.length ds := by
  refine ⟨rfl, hok, fun _ => ⟨b, 0, rfl, fun j d hd i v hv => ?_⟩⟩
  have hi : i < 6 := by
    rcases Nat.lt_or_ge i 6 with h6 | h6
    · exact h6
    · rw [List.getElem?_eq_none (by rw [Nd.cells_len]; exact h6)] at hv; cases hv
  have hf := flat_get Nd.cells 6 Nd.cells_len ds j i d hd hi
  rw [hv] at hf
  have hf' : (nodeCells ds)[j * 6 + i]? = some v := hf
  rw [Nat.zero_add, cell_of_row _ _ _ _ _ _ h, ← Array.getElem?_toList, hcs]
  exact hf'
theorem cell_lit {w : World} {b : Nat} {cs : Array Value} {t : TypeId} {c : Cl} (h : w.heap[b]? = some (.cells cs t (0, 0))) (hcs : cs.toList = c.cells) (hok : c.Ok) : CellsAt w (some ⟨b, 0, none⟩) 1 [c] := by
  refine ⟨rfl, fun x hx => by rw [List.mem_singleton.1 hx]; exact hok, fun _ => ⟨b, 0, rfl, fun j d hd i v hv => ?_⟩⟩
  match j, hd with
  | 0, hd =>
    obtain rfl : c = d := by simpa using hd
    show w.cell? ⟨b, 0 + 0 * 4 + i, none⟩ = some v
    rw [Nat.zero_mul, Nat.add_zero, Nat.zero_add, cell_of_row _ _ _ _ _ _ h, ← Array.getElem?_toList, hcs]
    exact hv
theorem ints_lit {w : World} {b : Nat} {cs : Array Value} {t : TypeId} {zs : List Int} (h : w.heap[b]? = some (.cells cs t (0, 0))) (hcs : cs.toList = zs.map (Value.int .i64)) (hz : ∀ x ∈ zs, InR x) : RootsAt w (some ⟨b, 0, none⟩) zs.length zs := by
  refine ⟨rfl, hz, fun _ => ⟨b, 0, rfl, fun j x hx => ?_⟩⟩
  rw [Nat.zero_add, cell_of_row _ _ _ _ _ _ h, ← Array.getElem?_toList, hcs, List.getElem?_map, hx]
  rfl
def lds : List Nd := [⟨2, 0, 0, 0, 0, 0⟩, ⟨2, 1, 0, 0, 0, 0⟩, ⟨1, 8, 0, 0, 0, 0⟩, ⟨4, 0, 0, 1, 0, 2⟩, ⟨4, 0, 0, 14, 0, 1⟩, ⟨1, 1, 0, 0, 0, 0⟩, ⟨4, 0, 0, 10, 0, 5⟩, ⟨4, 0, 0, 10, 4, 2⟩, ⟨4, 0, 0, 3, 2, 1⟩, ⟨3, 0, 1, 0, 0, 3⟩, ⟨1, -9223372036854775808, 0, 0, 0, 0⟩, ⟨4, 0, 0, 2, 1, 0⟩, ⟨1, -1, 0, 0, 0, 0⟩, ⟨4, 0, 0, 16, 4, 5⟩]
theorem lds_ok : ∀ d ∈ lds, d.Ok := by
  intro d hd
  simp only [lds, List.mem_cons, List.not_mem_nil, or_false] at hd
  rcases hd with rfl | rfl | rfl | rfl | rfl | rfl | rfl | rfl | rfl | rfl | rfl | rfl | rfl | rfl <;> simp [Nd.Ok, InB, InR]
def lnums : List Int := [0, 1, -1, 2, 3, 64, 4611686018427387904, -9223372036854775808]
theorem lnums_in : ∀ x ∈ lnums, InR x := by
  intro x hx
  simp only [lnums, List.mem_cons, List.not_mem_nil, or_false] at hx
  rcases hx with rfl | rfl | rfl | rfl | rfl | rfl | rfl | rfl <;> (unfold InR; decide)
end Go.Proofs.YtgkjdmojbndicaaGreatDoor

namespace Go.Proofs.YtgkjdmojbndicaaGreatDoor
open Go Go.RowKit

abbrev oA : Obj := .cells #[.int .u8 2, .int .i64 0, .int .i64 0, .int .u8 0, .int .i64 0, .int .i64 0, .int .u8 2, .int .i64 1, .int .i64 0, .int .u8 0, .int .i64 0, .int .i64 0, .int .u8 1, .int .i64 8, .int .i64 0, .int .u8 0, .int .i64 0, .int .i64 0, .int .u8 4, .int .i64 0, .int .i64 0, .int .u8 1, .int .i64 0, .int .i64 2, .int .u8 4, .int .i64 0, .int .i64 0, .int .u8 14, .int .i64 0, .int .i64 1, .int .u8 1, .int .i64 1, .int .i64 0, .int .u8 0, .int .i64 0, .int .i64 0, .int .u8 4, .int .i64 0, .int .i64 0, .int .u8 10, .int .i64 0, .int .i64 5, .int .u8 4, .int .i64 0, .int .i64 0, .int .u8 10, .int .i64 4, .int .i64 2, .int .u8 4, .int .i64 0, .int .i64 0, .int .u8 3, .int .i64 2, .int .i64 1, .int .u8 3, .int .i64 0, .int .i64 1, .int .u8 0, .int .i64 0, .int .i64 3, .int .u8 1, .int .i64 (-9223372036854775808), .int .i64 0, .int .u8 0, .int .i64 0, .int .i64 0, .int .u8 4, .int .i64 0, .int .i64 0, .int .u8 2, .int .i64 1, .int .i64 0, .int .u8 1, .int .i64 (-1), .int .i64 0, .int .u8 0, .int .i64 0, .int .i64 0, .int .u8 4, .int .i64 0, .int .i64 0, .int .u8 16, .int .i64 4, .int .i64 5] 42
abbrev oB : Obj := .cells #[.int .i64 5, .int .i64 (-3)] 2
abbrev oC : Obj := .cells #[.int .i64 1, .int .i64 0, .int .i64 13, .int .i64 4] 69
abbrev oD (n : Nat) : Obj := .cells #[.slice (some ⟨n + 1, 0, none⟩) 2 2, .slice (some ⟨n + 1 + 1, 0, none⟩) 1 1] 26
abbrev oE : Obj := .cells #[.int .i64 0, .int .i64 1, .int .i64 (-1), .int .i64 2, .int .i64 3, .int .i64 64, .int .i64 4611686018427387904, .int .i64 (-9223372036854775808)] 2
abbrev kS (n : Nat) : Sl := ⟨some ⟨n + 1, 0, none⟩, 2, 2, some ⟨n + 1 + 1, 0, none⟩, 1, 1⟩
abbrev kC : List Cl := [⟨1, 0, 13, 4⟩]
/-- What the literals of the closed law hold. -/
structure Lits (n : Nat) (W : World) : Prop where
  nodes : NodesAt W (some ⟨n, 0, none⟩) 14 lds
  env : EnvAt W (kS n).sa (kS n).sn (kS n).ca (kS n).cn [5, -3] kC
  box : EnvB W (n + 1 + 1 + 1) (kS n)
  nums : RootsAt W (some ⟨n + 1 + 1 + 1 + 1, 0, none⟩) 8 lnums
theorem Lits.kept {n : Nat} {W W' : World} (h : Lits n W) (k : Kept W W') : Lits n W' := ⟨h.nodes.kept k, h.env.kept k, k.row h.box, h.nums.kept k⟩
theorem lits_are (w : World) : Lits w.heap.size (((((w.alloc oA).alloc oB).alloc oC).alloc (oD w.heap.size)).alloc oE) := by
  have s1 : (w.alloc oA).heap.size = w.heap.size + 1 := by simp
  have s2 : ((w.alloc oA).alloc oB).heap.size = w.heap.size + 1 + 1 := by simp
  have s3 : (((w.alloc oA).alloc oB).alloc oC).heap.size = w.heap.size + 1 + 1 + 1 := by simp
  have s4 : ((((w.alloc oA).alloc oB).alloc oC).alloc (oD w.heap.size)).heap.size = w.heap.size + 1 + 1 + 1 + 1 := by simp
  have bA := (MapKept.heap_alloc w oA).1
  have bB := (MapKept.heap_alloc (w.alloc oA) oB).1
  have bC := (MapKept.heap_alloc ((w.alloc oA).alloc oB) oC).1
  have bD := (MapKept.heap_alloc (((w.alloc oA).alloc oB).alloc oC) (oD w.heap.size)).1
  have bE := (MapKept.heap_alloc ((((w.alloc oA).alloc oB).alloc oC).alloc (oD w.heap.size)) oE).1
  rw [s1] at bB
  rw [s2] at bC
  rw [s3] at bD
  rw [s4] at bE
  have k4 := (Kept.refl ((((w.alloc oA).alloc oB).alloc oC).alloc (oD w.heap.size))).alloc oE
  have k3 := ((Kept.refl (((w.alloc oA).alloc oB).alloc oC)).alloc (oD w.heap.size)).alloc oE
  have k2 := (((Kept.refl ((w.alloc oA).alloc oB)).alloc oC).alloc (oD w.heap.size)).alloc oE
  have k1 := ((((Kept.refl (w.alloc oA)).alloc oB).alloc oC).alloc (oD w.heap.size)).alloc oE
  refine ⟨nodes_lit (ds := lds) (k1.row bA) rfl lds_ok, ⟨ints_lit (zs := [5, -3]) (k2.row bB) rfl ?_, cell_lit (c := ⟨1, 0, 13, 4⟩) (k3.row bC) rfl ?_⟩, k4.row bD, ints_lit (zs := lnums) bE rfl lnums_in⟩
  · intro x hx
    simp only [List.mem_cons, List.not_mem_nil, or_false] at hx
    rcases hx with rfl | rfl <;> (unfold InR; decide)
  · simp [Cl.Ok, InR]
theorem lits_facts {n : Nat} {W : World} (h : Lits n W) : W.cell? ⟨n + 1 + 1 + 1, 0, none⟩ = some (.slice (some ⟨n + 1, 0, none⟩) 2 2) ∧ W.cell? ⟨n + 1 + 1 + 1, 1, none⟩ = some (.slice (some ⟨n + 1 + 1, 0, none⟩) 1 1) := h.box.facts
theorem lits_num {n : Nat} {W : World} (h : Lits n W) (j : Nat) (hj : j < 8) : ∃ v, InR v ∧ W.cell? ⟨n + 1 + 1 + 1 + 1, j, none⟩ = some (.int .i64 v) := by
  obtain ⟨b, off, hl, hc⟩ := h.nums.at_ (by decide)
  simp only [Option.some.injEq, Addr.mk.injEq] at hl
  obtain ⟨rfl, rfl, _⟩ := hl
  have hk : j < lnums.length := by show j < 8; exact hj
  exact ⟨lnums[j], lnums_in _ (List.getElem_mem hk), by have := hc j _ (List.getElem?_eq_getElem hk); rwa [Nat.zero_add] at this⟩
theorem env_none (w : World) : EnvAt w none 0 none 0 [] [] := ⟨⟨rfl, (fun x hx => by cases hx), fun h => absurd h (by decide)⟩, ⟨rfl, (fun x hx => by cases hx), fun h => absurd h (by decide)⟩⟩

set_option maxRecDepth 100000 in
set_option maxHeartbeats 16000000 in
theorem normknown_any (w : World) (hL : Laid w) (hT : Tab w) :
    Calls Tryz.prog 8 #[] w fun e w' => e = .returned (.bool true) ∧ Kept w w' := by
  have HL0 := Lib.hid (And.intro hL hT)
  have HLI := Lib.hid (lits_are w)
  have HK0 := Lib.hid ((((((Kept.refl w).alloc oA).alloc oB).alloc oC).alloc (oD w.heap.size)).alloc oE)
  clear hL hT
  go_enter Tryz.func8, Tryz.ntmps8
  go_upto_region 4 with (fail)
  change Code.wp _ _ _ _ (((((w.alloc oA).alloc oB).alloc oC).alloc (oD w.heap.size)).alloc oE)
  generalize ((((w.alloc oA).alloc oB).alloc oC).alloc (oD w.heap.size)).alloc oE = W5 at *
  have HL : Hid (Laid W5 ∧ Tab W5) := ⟨HL0.out.1.kept HK0.out, HL0.out.2.below HK0.out⟩
  obtain ⟨n0, hn0⟩ : ∃ n0 : Nat, n0 = w.heap.size := ⟨_, rfl⟩
  rw [← hn0] at HLI ⊢
  clear hn0 HL0
  go_wp2
  go_loopw [4] (fun i wr => ∃ o : Nat, o ≤ 18 ∧ i = .int .u8 o ∧ Hid (Kept W5 wr)) (fun i _ => 18 - (intOf i).toNat)
  case atStart => exact ⟨0, by decide, rfl, Kept.refl _⟩
  case round =>
    obtain ⟨o, ho, rfl, HK⟩ := hrel
    by_cases hol : o < 18
    · have o1 : (o : Int) < 18 := by omega
      have o0 : (0 : Int) ≤ (o : Int) := Int.natCast_nonneg _
      obtain ⟨wo, rfl⟩ : ∃ wo, wo = wr := ⟨_, rfl⟩
      go_wp2
      go_loopw [5] (fun i wr => ∃ a : Nat, a ≤ 14 ∧ i = .int .i64 a ∧ Hid (Kept W5 wr)) (fun i _ => 14 - (intOf i).toNat)
      case atStart => exact ⟨0, by decide, rfl, HK⟩
      case round =>
        obtain ⟨a, ha, rfl, HK2⟩ := hrel
        by_cases hal : a < 14
        · have a1 : (a : Int) < 14 := by omega
          have a0 : (0 : Int) ≤ (a : Int) := Int.natCast_nonneg _
          obtain ⟨wa, rfl⟩ : ∃ wo, wo = wr := ⟨_, rfl⟩
          go_wp2
          go_loopw [6] (fun i wr => ∃ k : Nat, k ≤ 14 ∧ i = .int .i64 k ∧ Hid (Kept W5 wr)) (fun i _ => 14 - (intOf i).toNat)
          case atStart => exact ⟨0, by decide, rfl, HK2⟩
          case round =>
            obtain ⟨k, hk, rfl, HK3⟩ := hrel
            by_cases hkl : k < 14
            · have k1 : (k : Int) < 14 := by omega
              have k0 : (0 : Int) ≤ (k : Int) := Int.natCast_nonneg _
              obtain ⟨p, hp, hpl⟩ : ∃ p : Nat, ((a : Int) + (k : Int)).tmod 8 = (p : Int) ∧ p < 8 := ⟨(a + k) % 8, by rw [Int.tmod_eq_emod_of_nonneg (by omega)]; rfl, Nat.mod_lt _ (by decide)⟩
              obtain ⟨r, hr, hrl⟩ : ∃ r : Nat, ((a : Int) * 3 + (k : Int)).tmod 8 = (r : Int) ∧ r < 8 := ⟨(a * 3 + k) % 8, by rw [Int.tmod_eq_emod_of_nonneg (by omega)]; rfl, Nat.mod_lt _ (by decide)⟩
              obtain ⟨c, hc, cc⟩ := lits_num (HLI.out.kept HK3.out) p hpl
              obtain ⟨d, hd, cd⟩ := lits_num (HLI.out.kept HK3.out) r hrl
              have HC := Lib.hid (And.intro hc hd)
              clear hc hd
              go_wp2
              go_region
              clear cc cd hp hr
              generalize hwx : wr.drew = wx
              have HK4 : Hid (Kept W5 wx) := by
                show Kept W5 wx
                rw [← hwx]
                exact HK3.out.drew
              clear hwx
              have ef := lits_facts (HLI.out.kept HK4.out)
              have e0 := ef.1
              have e1 := ef.2
              clear ef
              go_wp2_with fail
              refine (normbin_any (some ⟨n0, 0, none⟩) 14 14 lds (kS n0) [5, -3] kC (o : Int) (a : Int) (k : Int) _ (HLI.out.kept HK4.out).nodes (HLI.out.kept HK4.out).env ⟨by omega, by omega⟩ ⟨by omega, by omega⟩ (HL.out.1.kept HK4.out) (HL.out.2.below HK4.out)).mono ?_
              rintro e w1 ⟨rfl, hk1⟩
              have HK5 := Lib.hid (HK4.out.trans hk1)
              clear hk1 e0 e1
              go_wp2_with fail
              refine (normsame_any (some ⟨n0, 0, none⟩) 14 14 lds (o : Int) (a : Int) (k : Int) c d _ (HLI.out.kept HK5.out).nodes ⟨by omega, by omega⟩ ⟨by omega, by omega⟩ HC.out.1 HC.out.2 (HL.out.1.kept HK5.out) (HL.out.2.below HK5.out)).mono ?_
              rintro e w2 ⟨rfl, hk2⟩
              have HK6 := Lib.hid (HK5.out.trans hk2)
              clear hk2
              by_cases ho3 : o < 3
              · have d3 : decide ((o : Int) < 3) = true := decide_eq_true (by omega)
                go_wp2_with fail
                refine (normmoved_any (some ⟨n0, 0, none⟩) 14 14 lds (a : Int) (k : Int) c d _ (HLI.out.kept HK6.out).nodes ⟨by omega, by omega⟩ ⟨by omega, by omega⟩ HC.out.1 HC.out.2 (HL.out.1.kept HK6.out) (HL.out.2.below HK6.out)).mono ?_
                rintro e w3 ⟨rfl, hk3⟩
                have HK7 := Lib.hid (HK6.out.trans hk3)
                clear hk3
                go_wp2_with fail
                refine (normtruth_any (some ⟨n0, 0, none⟩) 14 14 lds (a : Int) (k : Int) (o : Int) c _ (HLI.out.kept HK7.out).nodes ⟨by omega, by omega⟩ ⟨by omega, by omega⟩ ⟨by omega, by omega⟩ HC.out.1 (HL.out.1.kept HK7.out) (HL.out.2.below HK7.out)).mono ?_
                rintro e w4 ⟨rfl, hk4⟩
                have HK8 := Lib.hid (HK7.out.trans hk4)
                clear hk4
                go_wp2
                go_roundw
                case rel => exact ⟨k + 1, by omega, by go_num, HK8⟩
                case measure => simp [intOf]; omega
              · have d3 : decide ((o : Int) < 3) = false := decide_eq_false (by omega)
                go_wp2
                go_roundw
                case rel => exact ⟨k + 1, by omega, by go_num, HK6⟩
                case measure => simp [intOf]; omega
            · obtain rfl : k = 14 := by omega
              go_wp2
              go_roundw
              case rel => exact ⟨a + 1, by omega, by go_num, HK3⟩
              case measure => simp [intOf]; omega
        · obtain rfl : a = 14 := by omega
          go_wp2
          go_roundw
          case rel => exact ⟨o + 1, by omega, by go_num, HK2⟩
          case measure => simp [intOf]; omega
    · obtain rfl : o = 18 := by omega
      have ef := lits_facts (HLI.out.kept HK.out)
      have e0 := ef.1
      have e1 := ef.2
      clear ef
      go_wp2_with fail
      refine (normof_any (some ⟨n0, 0, none⟩) 14 14 lds (kS n0) [5, -3] kC _ (HLI.out.kept HK.out).nodes (HLI.out.kept HK.out).env (HL.out.1.kept HK.out) (HL.out.2.below HK.out)).mono ?_
      rintro e w1 ⟨rfl, hk1⟩
      have HK2 := Lib.hid (HK.out.trans hk1)
      clear hk1 e0 e1
      go_wp2_with fail
      refine (normof_any (some ⟨n0, 0, none⟩) 14 14 lds ⟨none, 0, 0, none, 0, 0⟩ [] [] _ (HLI.out.kept HK2.out).nodes (env_none _) (HL.out.1.kept HK2.out) (HL.out.2.below HK2.out)).mono ?_
      rintro e w2 ⟨rfl, hk2⟩
      have HK3 := Lib.hid (HK2.out.trans hk2)
      clear hk2
      go_wp2_with fail
      refine (const_nilg _).mono ?_
      rintro e w3 ⟨rfl, hk3⟩
      have HK4 := Lib.hid (HK3.out.trans hk3)
      clear hk3
      go_wp2_with fail
      refine (bin_nilg _).mono ?_
      rintro e w4 ⟨rfl, hk4⟩
      have HK5 := Lib.hid (HK4.out.trans hk4)
      clear hk4
      go_wp2_with fail
      refine (ofn_nilg _).mono ?_
      rintro e w5 ⟨rfl, hk5⟩
      have HK6 := Lib.hid (HK5.out.trans hk5)
      clear hk5
      go_wp2_with fail
      refine (bool_nilg _).mono ?_
      rintro e w6 ⟨rfl, hk6⟩
      have HK7 := Lib.hid (HK6.out.trans hk6)
      clear hk6
      go_wp2_with fail
      refine (works_any _ (HL.out.1.kept HK7.out) (HL.out.2.below HK7.out)).mono ?_
      rintro e w7 ⟨rfl, hk7⟩
      have HK8 := Lib.hid (HK0.out.trans (HK7.out.trans hk7))
      clear hk7
      go_wp2
      go_ret
      exact ⟨rfl, HK8.out⟩
end Go.Proofs.YtgkjdmojbndicaaGreatDoor
