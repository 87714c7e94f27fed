/-
  Several texts in one: NMovedM: Layer 4, NormMoved: the numbers that the law makes of c and d, as the operations of layer 1 make them. It speaks of no program.; NMovedL: Layer 4, NormMoved: what is the same by another operation: the law's walk..
-/
import Derived.Test.YtgkjdmojbndicaaGreatDoorME
import Derived.Test.YtgkjdmojbndicaaGreatDoorMX
namespace Go.Proofs.YtgkjdmojbndicaaGreatDoor
open Go Go.RowKit

theorem and63_toNat (c : Int) : (bv c &&& bv 63).toNat = far c := by
  rw [BitVec.toNat_and]
  show (bv c).toNat &&& 63 = _
  rw [show (63 : Nat) = 2 ^ 6 - 1 from rfl, Nat.and_two_pow_sub_one_eq_mod]; rfl
theorem op8_63 (c : Int) : opI 8 c 63 = (far c : Int) := by
  show (bv c &&& bv 63).toInt = _
  rw [BitVec.toInt_eq_toNat_of_lt (by rw [and63_toNat]; have := far_lt c; omega), and63_toNat]
theorem bits63 (c : Int) : bits .and .i64 c 63 = (far c : Int) := by
  rw [and_i64]; exact op8_63 c
theorem bv_power (c : Int) : bv (opI 11 1 c) = (1 : BitVec 64) <<< far c := by
  rw [bv_opI]; rfl
theorem power_nat (c : Int) : (bv (opI 11 1 c)).toNat = 2 ^ far c := by
  rw [bv_power, BitVec.toNat_shiftLeft, Nat.shiftLeft_eq]
  show 1 * 2 ^ far c % 2 ^ 64 = 2 ^ far c
  rw [Nat.one_mul]
  exact Nat.mod_eq_of_lt (Nat.pow_lt_pow_right (by decide) (far_lt c))
theorem power_pow (c : Int) : powB (opI 11 1 c) = true := (powB_iff _).2 ⟨far c, far_lt c, power_nat c⟩
theorem power_log (c : Int) : powN (opI 11 1 c) = (far c : Int) := by
  obtain ⟨k, hk, h1, h2⟩ := Lw.pow_is (power_pow c)
  rw [power_nat] at h1
  rw [h2, (Nat.pow_right_inj (by decide)).1 h1]
theorem shl_one (c : Int) : IntKind.i64.wrap (1 * 2 ^ far c) = opI 11 1 c := by
  rw [wrap_i64_bv, shl_bv]; rfl
theorem neg_op (c : Int) : IntKind.i64.wrap (-c) = opI 2 0 c := by
  rw [wrap_i64_bv, bv_neg]
  show _ = (bv 0 - bv c).toInt
  show _ = (0#64 - bv c).toInt
  rw [BitVec.zero_sub]
theorem sub_op (a b : Int) : IntKind.i64.wrap (a - b) = opI 2 a b := by
  rw [wrap_i64_bv, bv_sub]; rfl
theorem far_in (c : Int) : InR (far c : Int) := ⟨by have := far_lt c; omega, by have := far_lt c; omega⟩
end Go.Proofs.YtgkjdmojbndicaaGreatDoor

namespace Go.Proofs.YtgkjdmojbndicaaGreatDoor
open Go Go.RowKit

set_option maxRecDepth 100000 in
set_option maxHeartbeats 16000000 in
theorem normmoved_any (la : Option Addr) (n lc : Nat) (ds : List Nd) (x y c d : Int) (w : World) (hds : NodesAt w la n ds) (hx : InR x) (hy : InR y) (hc : InR c) (hd : InR d) (hL : Laid w) (hT : Tab w) :
    Calls Tryz.prog 6 #[.slice la n lc, .int .i64 x, .int .i64 y, .int .i64 c, .int .i64 d] w fun e w' => e = .returned (.bool true) ∧ Kept w w' := by
  have HD := Lib.hid hds
  have HL := Lib.hid (And.intro hL hT)
  have HX := Lib.hid (And.intro hx hy)
  have HCD := Lib.hid (And.intro hc hd)
  clear hds hL hT hx hy hc hd
  go_enter Tryz.func6, Tryz.ntmps6
  by_cases h30 : n ≤ 30
  · have d30 : decide ((30 : Int) < (n : Int)) = false := decide_eq_false (by omega)
    have H30 := Lib.hid h30
    clear h30
    go_wp2_with fail
    refine (plains_any la n lc ds x y 0 w HD.out H30.out HX.out.1 HX.out.2 in0 HL.out.1 HL.out.2).mono ?_
    rintro e w1 hq
    rcases hq with ⟨g, rfl, hk⟩ | ⟨g, m, i_a, i_b, i_z, L0, rfl, hS, hP, hDn, hl⟩
    · have HK1 := Lib.hid hk
      clear hk
      go_wp2_with fail
      refine (works_any _ (HL.out.1.kept HK1.out) (HL.out.2.below HK1.out)).mono ?_
      rintro e w2 ⟨rfl, hk2⟩
      have HK2 := Lib.hid (HK1.out.trans hk2)
      clear hk2
      go_wp2
      go_ret
      exact ⟨rfl, HK2.out⟩
    · have HS := Lib.hid hS
      have HPA := Lib.hid hP.1
      have HPB := Lib.hid hP.2.1
      have HI_a : Hid (Know L0 i_a 60) := ⟨hP.1.has, hDn.1⟩
      have HI_b : Hid (Know L0 i_b 60) := ⟨hP.2.1.has, hDn.2.1⟩
      have HN := Lib.hid hl
      have HG0 := Lib.hid hS.good
      clear hS hP hDn hl
      have hs := bits63 c
      have hf := far_lt c
      have l1 : (0 : Int) ≤ (far c : Int) := by omega
      have l2 : (far c : Int) ≤ 64 := by omega
      clear hf
      go_upto_region 8 with (fail)
      have hw : wrap64 (2 ^ far c) = opI 11 1 c := by rw [← shl_one, Int.one_mul, IntWalk.i64_left]
      rw [hw]
      obtain ⟨pw, hpw⟩ : ∃ p : Int, p = opI 11 1 c := ⟨_, rfl⟩
      obtain ⟨kk, hkk⟩ : ∃ p : Int, p = (far c : Int) := ⟨_, rfl⟩
      have hneg : wrap64 (-c) = opI 2 0 c := by rw [← neg_op, IntWalk.i64_left]
      have hp1 : wrap64 (pw - 1) = opI 2 pw 1 := by rw [← sub_op, IntWalk.i64_left]
      have hdc : wrap64 (d - c) = opI 2 d c := by rw [← sub_op, IntWalk.i64_left]
      obtain ⟨nc, hnc⟩ : ∃ p : Int, p = opI 2 0 c := ⟨_, rfl⟩
      obtain ⟨p1, hpp⟩ : ∃ p : Int, p = opI 2 pw 1 := ⟨_, rfl⟩
      obtain ⟨dc, hdd⟩ : ∃ p : Int, p = opI 2 d c := ⟨_, rfl⟩
      rw [← hnc] at hneg
      rw [← hpp] at hp1
      rw [← hdd] at hdc
      rw [← hpw, ← hkk]
      have HIN : Hid (InR pw ∧ InR kk ∧ InR nc ∧ InR p1 ∧ InR dc) := ⟨by rw [hpw]; exact opI_in .., by rw [hkk]; exact far_in c, by rw [hnc]; exact opI_in .., by rw [hpp]; exact opI_in .., by rw [hdd]; exact opI_in ..⟩
      have HEQ := Lib.hid (And.intro hpw (And.intro hkk (And.intro hnc (And.intro hpp hdd))))
      clear hpw hkk hnc hpp hdd hs l1 l2 hw
      go_wp2_with fail
      refine (num_ses HS.out (c) (HCD.out.1) (by have := HN.out; omega)).mono ?_
      rintro e w1 ⟨i_c0, L1, rfl, q1, q2, q3, q4⟩
      have HS2 := Lib.hid q1
      have HN2 : Hid (L1.length ≤ 46000+1) := Nat.le_trans q4 (Nat.succ_le_succ HN.out)
      have HC_c0 := Lib.hid (fun L'' (e2 : Ext L1 L'') => CN.ext q3 e2)
      have HJ := Lib.hid (know_cn q1.good q3)
      have HE0 : Hid (Ext L0 L1) := q2
      have HT := Lib.hid (HI_a.out.ext HE0.out)
      clear HI_a
      have HI_a := HT
      clear HT
      have HT := Lib.hid (HI_b.out.ext HE0.out)
      clear HI_b
      have HI_b := HT
      clear HT
      clear q1 q2 q3 q4
      have HI_c0 := HJ
      clear HJ
      clear HS
      have HS := HS2
      clear HS2
      clear HN
      have HN := HN2
      clear HN2
      go_wp2_with fail
      refine (bin_ses HS.out 2 i_a i_c0 (by decide) (by decide) HI_a.out.1 HI_c0.out.1 (46000+1) 60 HN.out (Nat.le_trans HI_a.out.2 (by decide)) (Nat.le_trans HI_c0.out.2 (by decide)) (by omega)).mono ?_
      rintro e w2 ⟨i_t0, L2, rfl, q1, q2, q3, q4⟩
      have HS2 := Lib.hid q1
      have HN2 : Hid (L2.length ≤ 46000+1+500) := q3
      have HR_t0 := Lib.hid q2.run
      have HJ : Hid (Know L2 i_t0 62) := ⟨q2.has, q4⟩
      have HE1 : Hid (Ext L1 L2) := q2.ext
      have HT := Lib.hid (HI_a.out.ext HE1.out)
      clear HI_a
      have HI_a := HT
      clear HT
      have HT := Lib.hid (HI_b.out.ext HE1.out)
      clear HI_b
      have HI_b := HT
      clear HT
      have HT := Lib.hid (HI_c0.out.ext HE1.out)
      clear HI_c0
      have HI_c0 := HT
      clear HT
      clear q1 q2 q3 q4
      have HI_t0 := HJ
      clear HJ
      clear HS
      have HS := HS2
      clear HS2
      clear HN
      have HN := HN2
      clear HN2
      clear HI_c0
      clear HI_t0
      go_wp2_with fail
      refine (num_ses HS.out (nc) (HIN.out.2.2.1) (by have := HN.out; omega)).mono ?_
      rintro e w3 ⟨i_n0, L3, rfl, q1, q2, q3, q4⟩
      have HS2 := Lib.hid q1
      have HN2 : Hid (L3.length ≤ 46000+1+500+1) := Nat.le_trans q4 (Nat.succ_le_succ HN.out)
      have HC_n0 := Lib.hid (fun L'' (e2 : Ext L3 L'') => CN.ext q3 e2)
      have HJ := Lib.hid (know_cn q1.good q3)
      have HE2 : Hid (Ext L2 L3) := q2
      have HT := Lib.hid (HI_a.out.ext HE2.out)
      clear HI_a
      have HI_a := HT
      clear HT
      have HT := Lib.hid (HI_b.out.ext HE2.out)
      clear HI_b
      have HI_b := HT
      clear HT
      clear q1 q2 q3 q4
      have HI_n0 := HJ
      clear HJ
      clear HS
      have HS := HS2
      clear HS2
      clear HN
      have HN := HN2
      clear HN2
      go_wp2_with fail
      refine (bin_ses HS.out 1 i_a i_n0 (by decide) (by decide) HI_a.out.1 HI_n0.out.1 (46000+1+500+1) 60 HN.out (Nat.le_trans HI_a.out.2 (by decide)) (Nat.le_trans HI_n0.out.2 (by decide)) (by omega)).mono ?_
      rintro e w4 ⟨i_u0, L4, rfl, q1, q2, q3, q4⟩
      have HS2 := Lib.hid q1
      have HN2 : Hid (L4.length ≤ 46000+1+500+1+500) := q3
      have HR_u0 := Lib.hid q2.run
      have HJ : Hid (Know L4 i_u0 62) := ⟨q2.has, q4⟩
      have HE3 : Hid (Ext L3 L4) := q2.ext
      have HT := Lib.hid (HI_a.out.ext HE3.out)
      clear HI_a
      have HI_a := HT
      clear HT
      have HT := Lib.hid (HI_b.out.ext HE3.out)
      clear HI_b
      have HI_b := HT
      clear HT
      have HT := Lib.hid (HI_n0.out.ext HE3.out)
      clear HI_n0
      have HI_n0 := HT
      clear HT
      clear q1 q2 q3 q4
      have HI_u0 := HJ
      clear HJ
      clear HS
      have HS := HS2
      clear HS2
      clear HN
      have HN := HN2
      clear HN2
      clear HI_n0
      clear HI_u0
      go_wp2_with fail
      refine (num_ses HS.out (c) (HCD.out.1) (by have := HN.out; omega)).mono ?_
      rintro e w5 ⟨i_c1, L5, rfl, q1, q2, q3, q4⟩
      have HS2 := Lib.hid q1
      have HN2 : Hid (L5.length ≤ 46000+1+500+1+500+1) := Nat.le_trans q4 (Nat.succ_le_succ HN.out)
      have HC_c1 := Lib.hid (fun L'' (e2 : Ext L5 L'') => CN.ext q3 e2)
      have HJ := Lib.hid (know_cn q1.good q3)
      have HE4 : Hid (Ext L4 L5) := q2
      have HT := Lib.hid (HI_a.out.ext HE4.out)
      clear HI_a
      have HI_a := HT
      clear HT
      have HT := Lib.hid (HI_b.out.ext HE4.out)
      clear HI_b
      have HI_b := HT
      clear HT
      clear q1 q2 q3 q4
      have HI_c1 := HJ
      clear HJ
      clear HS
      have HS := HS2
      clear HS2
      clear HN
      have HN := HN2
      clear HN2
      go_wp2_with fail
      refine (bin_ses HS.out 11 i_a i_c1 (by decide) (by decide) HI_a.out.1 HI_c1.out.1 (46000+1+500+1+500+1) 60 HN.out (Nat.le_trans HI_a.out.2 (by decide)) (Nat.le_trans HI_c1.out.2 (by decide)) (by omega)).mono ?_
      rintro e w6 ⟨i_t1, L6, rfl, q1, q2, q3, q4⟩
      have HS2 := Lib.hid q1
      have HN2 : Hid (L6.length ≤ 46000+1+500+1+500+1+500) := q3
      have HR_t1 := Lib.hid q2.run
      have HJ : Hid (Know L6 i_t1 62) := ⟨q2.has, q4⟩
      have HE5 : Hid (Ext L5 L6) := q2.ext
      have HT := Lib.hid (HI_a.out.ext HE5.out)
      clear HI_a
      have HI_a := HT
      clear HT
      have HT := Lib.hid (HI_b.out.ext HE5.out)
      clear HI_b
      have HI_b := HT
      clear HT
      have HT := Lib.hid (HI_c1.out.ext HE5.out)
      clear HI_c1
      have HI_c1 := HT
      clear HT
      clear q1 q2 q3 q4
      have HI_t1 := HJ
      clear HJ
      clear HS
      have HS := HS2
      clear HS2
      clear HN
      have HN := HN2
      clear HN2
      clear HI_c1
      clear HI_t1
      go_wp2_with fail
      refine (num_ses HS.out (pw) (HIN.out.1) (by have := HN.out; omega)).mono ?_
      rintro e w7 ⟨i_n1, L7, rfl, q1, q2, q3, q4⟩
      have HS2 := Lib.hid q1
      have HN2 : Hid (L7.length ≤ 46000+1+500+1+500+1+500+1) := Nat.le_trans q4 (Nat.succ_le_succ HN.out)
      have HC_n1 := Lib.hid (fun L'' (e2 : Ext L7 L'') => CN.ext q3 e2)
      have HJ := Lib.hid (know_cn q1.good q3)
      have HE6 : Hid (Ext L6 L7) := q2
      have HT := Lib.hid (HI_a.out.ext HE6.out)
      clear HI_a
      have HI_a := HT
      clear HT
      have HT := Lib.hid (HI_b.out.ext HE6.out)
      clear HI_b
      have HI_b := HT
      clear HT
      clear q1 q2 q3 q4
      have HI_n1 := HJ
      clear HJ
      clear HS
      have HS := HS2
      clear HS2
      clear HN
      have HN := HN2
      clear HN2
      go_wp2_with fail
      refine (bin_ses HS.out 3 i_a i_n1 (by decide) (by decide) HI_a.out.1 HI_n1.out.1 (46000+1+500+1+500+1+500+1) 60 HN.out (Nat.le_trans HI_a.out.2 (by decide)) (Nat.le_trans HI_n1.out.2 (by decide)) (by omega)).mono ?_
      rintro e w8 ⟨i_u1, L8, rfl, q1, q2, q3, q4⟩
      have HS2 := Lib.hid q1
      have HN2 : Hid (L8.length ≤ 46000+1+500+1+500+1+500+1+500) := q3
      have HR_u1 := Lib.hid q2.run
      have HJ : Hid (Know L8 i_u1 62) := ⟨q2.has, q4⟩
      have HE7 : Hid (Ext L7 L8) := q2.ext
      have HT := Lib.hid (HI_a.out.ext HE7.out)
      clear HI_a
      have HI_a := HT
      clear HT
      have HT := Lib.hid (HI_b.out.ext HE7.out)
      clear HI_b
      have HI_b := HT
      clear HT
      have HT := Lib.hid (HI_n1.out.ext HE7.out)
      clear HI_n1
      have HI_n1 := HT
      clear HT
      clear q1 q2 q3 q4
      have HI_u1 := HJ
      clear HJ
      clear HS
      have HS := HS2
      clear HS2
      clear HN
      have HN := HN2
      clear HN2
      clear HI_n1
      clear HI_u1
      go_wp2_with fail
      refine (num_ses HS.out (c) (HCD.out.1) (by have := HN.out; omega)).mono ?_
      rintro e w9 ⟨i_c2, L9, rfl, q1, q2, q3, q4⟩
      have HS2 := Lib.hid q1
      have HN2 : Hid (L9.length ≤ 46000+1+500+1+500+1+500+1+500+1) := Nat.le_trans q4 (Nat.succ_le_succ HN.out)
      have HC_c2 := Lib.hid (fun L'' (e2 : Ext L9 L'') => CN.ext q3 e2)
      have HJ := Lib.hid (know_cn q1.good q3)
      have HE8 : Hid (Ext L8 L9) := q2
      have HT := Lib.hid (HI_a.out.ext HE8.out)
      clear HI_a
      have HI_a := HT
      clear HT
      have HT := Lib.hid (HI_b.out.ext HE8.out)
      clear HI_b
      have HI_b := HT
      clear HT
      clear q1 q2 q3 q4
      have HI_c2 := HJ
      clear HJ
      clear HS
      have HS := HS2
      clear HS2
      clear HN
      have HN := HN2
      clear HN2
      go_wp2_with fail
      refine (bin_ses HS.out 12 i_a i_c2 (by decide) (by decide) HI_a.out.1 HI_c2.out.1 (46000+1+500+1+500+1+500+1+500+1) 60 HN.out (Nat.le_trans HI_a.out.2 (by decide)) (Nat.le_trans HI_c2.out.2 (by decide)) (by omega)).mono ?_
      rintro e w10 ⟨i_t2, L10, rfl, q1, q2, q3, q4⟩
      have HS2 := Lib.hid q1
      have HN2 : Hid (L10.length ≤ 46000+1+500+1+500+1+500+1+500+1+500) := q3
      have HR_t2 := Lib.hid q2.run
      have HJ : Hid (Know L10 i_t2 62) := ⟨q2.has, q4⟩
      have HE9 : Hid (Ext L9 L10) := q2.ext
      have HT := Lib.hid (HI_a.out.ext HE9.out)
      clear HI_a
      have HI_a := HT
      clear HT
      have HT := Lib.hid (HI_b.out.ext HE9.out)
      clear HI_b
      have HI_b := HT
      clear HT
      have HT := Lib.hid (HI_c2.out.ext HE9.out)
      clear HI_c2
      have HI_c2 := HT
      clear HT
      clear q1 q2 q3 q4
      have HI_t2 := HJ
      clear HJ
      clear HS
      have HS := HS2
      clear HS2
      clear HN
      have HN := HN2
      clear HN2
      clear HI_c2
      clear HI_t2
      go_wp2_with fail
      refine (num_ses HS.out (kk) (HIN.out.2.1) (by have := HN.out; omega)).mono ?_
      rintro e w11 ⟨i_n2, L11, rfl, q1, q2, q3, q4⟩
      have HS2 := Lib.hid q1
      have HN2 : Hid (L11.length ≤ 46000+1+500+1+500+1+500+1+500+1+500+1) := Nat.le_trans q4 (Nat.succ_le_succ HN.out)
      have HC_n2 := Lib.hid (fun L'' (e2 : Ext L11 L'') => CN.ext q3 e2)
      have HJ := Lib.hid (know_cn q1.good q3)
      have HE10 : Hid (Ext L10 L11) := q2
      have HT := Lib.hid (HI_a.out.ext HE10.out)
      clear HI_a
      have HI_a := HT
      clear HT
      have HT := Lib.hid (HI_b.out.ext HE10.out)
      clear HI_b
      have HI_b := HT
      clear HT
      clear q1 q2 q3 q4
      have HI_n2 := HJ
      clear HJ
      clear HS
      have HS := HS2
      clear HS2
      clear HN
      have HN := HN2
      clear HN2
      go_wp2_with fail
      refine (bin_ses HS.out 12 i_a i_n2 (by decide) (by decide) HI_a.out.1 HI_n2.out.1 (46000+1+500+1+500+1+500+1+500+1+500+1) 60 HN.out (Nat.le_trans HI_a.out.2 (by decide)) (Nat.le_trans HI_n2.out.2 (by decide)) (by omega)).mono ?_
      rintro e w12 ⟨i_u2, L12, rfl, q1, q2, q3, q4⟩
      have HS2 := Lib.hid q1
      have HN2 : Hid (L12.length ≤ 46000+1+500+1+500+1+500+1+500+1+500+1+500) := q3
      have HR_u2 := Lib.hid q2.run
      have HJ : Hid (Know L12 i_u2 62) := ⟨q2.has, q4⟩
      have HE11 : Hid (Ext L11 L12) := q2.ext
      have HT := Lib.hid (HI_a.out.ext HE11.out)
      clear HI_a
      have HI_a := HT
      clear HT
      have HT := Lib.hid (HI_b.out.ext HE11.out)
      clear HI_b
      have HI_b := HT
      clear HT
      have HT := Lib.hid (HI_n2.out.ext HE11.out)
      clear HI_n2
      have HI_n2 := HT
      clear HT
      clear q1 q2 q3 q4
      have HI_u2 := HJ
      clear HJ
      clear HS
      have HS := HS2
      clear HS2
      clear HN
      have HN := HN2
      clear HN2
      clear HI_n2
      clear HI_u2
      go_wp2_with fail
      refine (num_ses HS.out (c) (HCD.out.1) (by have := HN.out; omega)).mono ?_
      rintro e w13 ⟨i_c3, L13, rfl, q1, q2, q3, q4⟩
      have HS2 := Lib.hid q1
      have HN2 : Hid (L13.length ≤ 46000+1+500+1+500+1+500+1+500+1+500+1+500+1) := Nat.le_trans q4 (Nat.succ_le_succ HN.out)
      have HC_c3 := Lib.hid (fun L'' (e2 : Ext L13 L'') => CN.ext q3 e2)
      have HJ := Lib.hid (know_cn q1.good q3)
      have HE12 : Hid (Ext L12 L13) := q2
      have HT := Lib.hid (HI_a.out.ext HE12.out)
      clear HI_a
      have HI_a := HT
      clear HT
      have HT := Lib.hid (HI_b.out.ext HE12.out)
      clear HI_b
      have HI_b := HT
      clear HT
      clear q1 q2 q3 q4
      have HI_c3 := HJ
      clear HJ
      clear HS
      have HS := HS2
      clear HS2
      clear HN
      have HN := HN2
      clear HN2
      go_wp2_with fail
      refine (bin_ses HS.out 13 i_a i_c3 (by decide) (by decide) HI_a.out.1 HI_c3.out.1 (46000+1+500+1+500+1+500+1+500+1+500+1+500+1) 60 HN.out (Nat.le_trans HI_a.out.2 (by decide)) (Nat.le_trans HI_c3.out.2 (by decide)) (by omega)).mono ?_
      rintro e w14 ⟨i_t3, L14, rfl, q1, q2, q3, q4⟩
      have HS2 := Lib.hid q1
      have HN2 : Hid (L14.length ≤ 46000+1+500+1+500+1+500+1+500+1+500+1+500+1+500) := q3
      have HR_t3 := Lib.hid q2.run
      have HJ : Hid (Know L14 i_t3 62) := ⟨q2.has, q4⟩
      have HE13 : Hid (Ext L13 L14) := q2.ext
      have HT := Lib.hid (HI_a.out.ext HE13.out)
      clear HI_a
      have HI_a := HT
      clear HT
      have HT := Lib.hid (HI_b.out.ext HE13.out)
      clear HI_b
      have HI_b := HT
      clear HT
      have HT := Lib.hid (HI_c3.out.ext HE13.out)
      clear HI_c3
      have HI_c3 := HT
      clear HT
      clear q1 q2 q3 q4
      have HI_t3 := HJ
      clear HJ
      clear HS
      have HS := HS2
      clear HS2
      clear HN
      have HN := HN2
      clear HN2
      clear HI_c3
      clear HI_t3
      go_wp2_with fail
      refine (num_ses HS.out (kk) (HIN.out.2.1) (by have := HN.out; omega)).mono ?_
      rintro e w15 ⟨i_n3, L15, rfl, q1, q2, q3, q4⟩
      have HS2 := Lib.hid q1
      have HN2 : Hid (L15.length ≤ 46000+1+500+1+500+1+500+1+500+1+500+1+500+1+500+1) := Nat.le_trans q4 (Nat.succ_le_succ HN.out)
      have HC_n3 := Lib.hid (fun L'' (e2 : Ext L15 L'') => CN.ext q3 e2)
      have HJ := Lib.hid (know_cn q1.good q3)
      have HE14 : Hid (Ext L14 L15) := q2
      have HT := Lib.hid (HI_a.out.ext HE14.out)
      clear HI_a
      have HI_a := HT
      clear HT
      have HT := Lib.hid (HI_b.out.ext HE14.out)
      clear HI_b
      have HI_b := HT
      clear HT
      clear q1 q2 q3 q4
      have HI_n3 := HJ
      clear HJ
      clear HS
      have HS := HS2
      clear HS2
      clear HN
      have HN := HN2
      clear HN2
      go_wp2_with fail
      refine (bin_ses HS.out 13 i_a i_n3 (by decide) (by decide) HI_a.out.1 HI_n3.out.1 (46000+1+500+1+500+1+500+1+500+1+500+1+500+1+500+1) 60 HN.out (Nat.le_trans HI_a.out.2 (by decide)) (Nat.le_trans HI_n3.out.2 (by decide)) (by omega)).mono ?_
      rintro e w16 ⟨i_u3, L16, rfl, q1, q2, q3, q4⟩
      have HS2 := Lib.hid q1
      have HN2 : Hid (L16.length ≤ 46000+1+500+1+500+1+500+1+500+1+500+1+500+1+500+1+500) := q3
      have HR_u3 := Lib.hid q2.run
      have HJ : Hid (Know L16 i_u3 62) := ⟨q2.has, q4⟩
      have HE15 : Hid (Ext L15 L16) := q2.ext
      have HT := Lib.hid (HI_a.out.ext HE15.out)
      clear HI_a
      have HI_a := HT
      clear HT
      have HT := Lib.hid (HI_b.out.ext HE15.out)
      clear HI_b
      have HI_b := HT
      clear HT
      have HT := Lib.hid (HI_n3.out.ext HE15.out)
      clear HI_n3
      have HI_n3 := HT
      clear HT
      clear q1 q2 q3 q4
      have HI_u3 := HJ
      clear HJ
      clear HS
      have HS := HS2
      clear HS2
      clear HN
      have HN := HN2
      clear HN2
      clear HI_n3
      clear HI_u3
      go_wp2_with fail
      refine (num_ses HS.out (pw) (HIN.out.1) (by have := HN.out; omega)).mono ?_
      rintro e w17 ⟨i_c4, L17, rfl, q1, q2, q3, q4⟩
      have HS2 := Lib.hid q1
      have HN2 : Hid (L17.length ≤ 46000+1+500+1+500+1+500+1+500+1+500+1+500+1+500+1+500+1) := Nat.le_trans q4 (Nat.succ_le_succ HN.out)
      have HC_c4 := Lib.hid (fun L'' (e2 : Ext L17 L'') => CN.ext q3 e2)
      have HJ := Lib.hid (know_cn q1.good q3)
      have HE16 : Hid (Ext L16 L17) := q2
      have HT := Lib.hid (HI_a.out.ext HE16.out)
      clear HI_a
      have HI_a := HT
      clear HT
      have HT := Lib.hid (HI_b.out.ext HE16.out)
      clear HI_b
      have HI_b := HT
      clear HT
      clear q1 q2 q3 q4
      have HI_c4 := HJ
      clear HJ
      clear HS
      have HS := HS2
      clear HS2
      clear HN
      have HN := HN2
      clear HN2
      go_wp2_with fail
      refine (bin_ses HS.out 6 i_a i_c4 (by decide) (by decide) HI_a.out.1 HI_c4.out.1 (46000+1+500+1+500+1+500+1+500+1+500+1+500+1+500+1+500+1) 60 HN.out (Nat.le_trans HI_a.out.2 (by decide)) (Nat.le_trans HI_c4.out.2 (by decide)) (by omega)).mono ?_
      rintro e w18 ⟨i_t4, L18, rfl, q1, q2, q3, q4⟩
      have HS2 := Lib.hid q1
      have HN2 : Hid (L18.length ≤ 46000+1+500+1+500+1+500+1+500+1+500+1+500+1+500+1+500+1+500) := q3
      have HR_t4 := Lib.hid q2.run
      have HJ : Hid (Know L18 i_t4 62) := ⟨q2.has, q4⟩
      have HE17 : Hid (Ext L17 L18) := q2.ext
      have HT := Lib.hid (HI_a.out.ext HE17.out)
      clear HI_a
      have HI_a := HT
      clear HT
      have HT := Lib.hid (HI_b.out.ext HE17.out)
      clear HI_b
      have HI_b := HT
      clear HT
      have HT := Lib.hid (HI_c4.out.ext HE17.out)
      clear HI_c4
      have HI_c4 := HT
      clear HT
      clear q1 q2 q3 q4
      have HI_t4 := HJ
      clear HJ
      clear HS
      have HS := HS2
      clear HS2
      clear HN
      have HN := HN2
      clear HN2
      clear HI_c4
      clear HI_t4
      go_wp2_with fail
      refine (num_ses HS.out (kk) (HIN.out.2.1) (by have := HN.out; omega)).mono ?_
      rintro e w19 ⟨i_n4, L19, rfl, q1, q2, q3, q4⟩
      have HS2 := Lib.hid q1
      have HN2 : Hid (L19.length ≤ 46000+1+500+1+500+1+500+1+500+1+500+1+500+1+500+1+500+1+500+1) := Nat.le_trans q4 (Nat.succ_le_succ HN.out)
      have HC_n4 := Lib.hid (fun L'' (e2 : Ext L19 L'') => CN.ext q3 e2)
      have HJ := Lib.hid (know_cn q1.good q3)
      have HE18 : Hid (Ext L18 L19) := q2
      have HT := Lib.hid (HI_a.out.ext HE18.out)
      clear HI_a
      have HI_a := HT
      clear HT
      have HT := Lib.hid (HI_b.out.ext HE18.out)
      clear HI_b
      have HI_b := HT
      clear HT
      clear q1 q2 q3 q4
      have HI_n4 := HJ
      clear HJ
      clear HS
      have HS := HS2
      clear HS2
      clear HN
      have HN := HN2
      clear HN2
      go_wp2_with fail
      refine (bin_ses HS.out 12 i_a i_n4 (by decide) (by decide) HI_a.out.1 HI_n4.out.1 (46000+1+500+1+500+1+500+1+500+1+500+1+500+1+500+1+500+1+500+1) 60 HN.out (Nat.le_trans HI_a.out.2 (by decide)) (Nat.le_trans HI_n4.out.2 (by decide)) (by omega)).mono ?_
      rintro e w20 ⟨i_u4, L20, rfl, q1, q2, q3, q4⟩
      have HS2 := Lib.hid q1
      have HN2 : Hid (L20.length ≤ 46000+1+500+1+500+1+500+1+500+1+500+1+500+1+500+1+500+1+500+1+500) := q3
      have HR_u4 := Lib.hid q2.run
      have HJ : Hid (Know L20 i_u4 62) := ⟨q2.has, q4⟩
      have HE19 : Hid (Ext L19 L20) := q2.ext
      have HT := Lib.hid (HI_a.out.ext HE19.out)
      clear HI_a
      have HI_a := HT
      clear HT
      have HT := Lib.hid (HI_b.out.ext HE19.out)
      clear HI_b
      have HI_b := HT
      clear HT
      have HT := Lib.hid (HI_n4.out.ext HE19.out)
      clear HI_n4
      have HI_n4 := HT
      clear HT
      clear q1 q2 q3 q4
      have HI_u4 := HJ
      clear HJ
      clear HS
      have HS := HS2
      clear HS2
      clear HN
      have HN := HN2
      clear HN2
      clear HI_n4
      clear HI_u4
      go_wp2_with fail
      refine (num_ses HS.out (pw) (HIN.out.1) (by have := HN.out; omega)).mono ?_
      rintro e w21 ⟨i_c5, L21, rfl, q1, q2, q3, q4⟩
      have HS2 := Lib.hid q1
      have HN2 : Hid (L21.length ≤ 46000+1+500+1+500+1+500+1+500+1+500+1+500+1+500+1+500+1+500+1+500+1) := Nat.le_trans q4 (Nat.succ_le_succ HN.out)
      have HC_c5 := Lib.hid (fun L'' (e2 : Ext L21 L'') => CN.ext q3 e2)
      have HJ := Lib.hid (know_cn q1.good q3)
      have HE20 : Hid (Ext L20 L21) := q2
      have HT := Lib.hid (HI_a.out.ext HE20.out)
      clear HI_a
      have HI_a := HT
      clear HT
      have HT := Lib.hid (HI_b.out.ext HE20.out)
      clear HI_b
      have HI_b := HT
      clear HT
      clear q1 q2 q3 q4
      have HI_c5 := HJ
      clear HJ
      clear HS
      have HS := HS2
      clear HS2
      clear HN
      have HN := HN2
      clear HN2
      go_wp2_with fail
      refine (bin_ses HS.out 7 i_a i_c5 (by decide) (by decide) HI_a.out.1 HI_c5.out.1 (46000+1+500+1+500+1+500+1+500+1+500+1+500+1+500+1+500+1+500+1+500+1) 60 HN.out (Nat.le_trans HI_a.out.2 (by decide)) (Nat.le_trans HI_c5.out.2 (by decide)) (by omega)).mono ?_
      rintro e w22 ⟨i_t5, L22, rfl, q1, q2, q3, q4⟩
      have HS2 := Lib.hid q1
      have HN2 : Hid (L22.length ≤ 46000+1+500+1+500+1+500+1+500+1+500+1+500+1+500+1+500+1+500+1+500+1+500) := q3
      have HR_t5 := Lib.hid q2.run
      have HJ : Hid (Know L22 i_t5 62) := ⟨q2.has, q4⟩
      have HE21 : Hid (Ext L21 L22) := q2.ext
      have HT := Lib.hid (HI_a.out.ext HE21.out)
      clear HI_a
      have HI_a := HT
      clear HT
      have HT := Lib.hid (HI_b.out.ext HE21.out)
      clear HI_b
      have HI_b := HT
      clear HT
      have HT := Lib.hid (HI_c5.out.ext HE21.out)
      clear HI_c5
      have HI_c5 := HT
      clear HT
      clear q1 q2 q3 q4
      have HI_t5 := HJ
      clear HJ
      clear HS
      have HS := HS2
      clear HS2
      clear HN
      have HN := HN2
      clear HN2
      clear HI_c5
      clear HI_t5
      go_wp2_with fail
      refine (num_ses HS.out (p1) (HIN.out.2.2.2.1) (by have := HN.out; omega)).mono ?_
      rintro e w23 ⟨i_n5, L23, rfl, q1, q2, q3, q4⟩
      have HS2 := Lib.hid q1
      have HN2 : Hid (L23.length ≤ 46000+1+500+1+500+1+500+1+500+1+500+1+500+1+500+1+500+1+500+1+500+1+500+1) := Nat.le_trans q4 (Nat.succ_le_succ HN.out)
      have HC_n5 := Lib.hid (fun L'' (e2 : Ext L23 L'') => CN.ext q3 e2)
      have HJ := Lib.hid (know_cn q1.good q3)
      have HE22 : Hid (Ext L22 L23) := q2
      have HT := Lib.hid (HI_a.out.ext HE22.out)
      clear HI_a
      have HI_a := HT
      clear HT
      have HT := Lib.hid (HI_b.out.ext HE22.out)
      clear HI_b
      have HI_b := HT
      clear HT
      clear q1 q2 q3 q4
      have HI_n5 := HJ
      clear HJ
      clear HS
      have HS := HS2
      clear HS2
      clear HN
      have HN := HN2
      clear HN2
      go_wp2_with fail
      refine (bin_ses HS.out 8 i_a i_n5 (by decide) (by decide) HI_a.out.1 HI_n5.out.1 (46000+1+500+1+500+1+500+1+500+1+500+1+500+1+500+1+500+1+500+1+500+1+500+1) 60 HN.out (Nat.le_trans HI_a.out.2 (by decide)) (Nat.le_trans HI_n5.out.2 (by decide)) (by omega)).mono ?_
      rintro e w24 ⟨i_u5, L24, rfl, q1, q2, q3, q4⟩
      have HS2 := Lib.hid q1
      have HN2 : Hid (L24.length ≤ 46000+1+500+1+500+1+500+1+500+1+500+1+500+1+500+1+500+1+500+1+500+1+500+1+500) := q3
      have HR_u5 := Lib.hid q2.run
      have HJ : Hid (Know L24 i_u5 62) := ⟨q2.has, q4⟩
      have HE23 : Hid (Ext L23 L24) := q2.ext
      have HT := Lib.hid (HI_a.out.ext HE23.out)
      clear HI_a
      have HI_a := HT
      clear HT
      have HT := Lib.hid (HI_b.out.ext HE23.out)
      clear HI_b
      have HI_b := HT
      clear HT
      have HT := Lib.hid (HI_n5.out.ext HE23.out)
      clear HI_n5
      have HI_n5 := HT
      clear HT
      clear q1 q2 q3 q4
      have HI_u5 := HJ
      clear HJ
      clear HS
      have HS := HS2
      clear HS2
      clear HN
      have HN := HN2
      clear HN2
      clear HI_n5
      clear HI_u5
      go_wp2_with fail
      refine (bin_ses HS.out 10 i_a i_b (by decide) (by decide) HI_a.out.1 HI_b.out.1 (46000+1+500+1+500+1+500+1+500+1+500+1+500+1+500+1+500+1+500+1+500+1+500+1+500) 60 HN.out (Nat.le_trans HI_a.out.2 (by decide)) (Nat.le_trans HI_b.out.2 (by decide)) (by omega)).mono ?_
      rintro e w25 ⟨i_x6, L25, rfl, q1, q2, q3, q4⟩
      have HS2 := Lib.hid q1
      have HN2 : Hid (L25.length ≤ 46000+1+500+1+500+1+500+1+500+1+500+1+500+1+500+1+500+1+500+1+500+1+500+1+500+500) := q3
      have HR_x6 := Lib.hid q2.run
      have HJ : Hid (Know L25 i_x6 62) := ⟨q2.has, q4⟩
      have HE24 : Hid (Ext L24 L25) := q2.ext
      have HT := Lib.hid (HI_a.out.ext HE24.out)
      clear HI_a
      have HI_a := HT
      clear HT
      have HT := Lib.hid (HI_b.out.ext HE24.out)
      clear HI_b
      have HI_b := HT
      clear HT
      clear q1 q2 q3 q4
      have HI_x6 := HJ
      clear HJ
      clear HS
      have HS := HS2
      clear HS2
      clear HN
      have HN := HN2
      clear HN2
      go_wp2_with fail
      refine (num_ses HS.out (0) (in0) (by have := HN.out; omega)).mono ?_
      rintro e w26 ⟨i_z6, L26, rfl, q1, q2, q3, q4⟩
      have HS2 := Lib.hid q1
      have HN2 : Hid (L26.length ≤ 46000+1+500+1+500+1+500+1+500+1+500+1+500+1+500+1+500+1+500+1+500+1+500+1+500+500+1) := Nat.le_trans q4 (Nat.succ_le_succ HN.out)
      have HC_z6 := Lib.hid (fun L'' (e2 : Ext L26 L'') => CN.ext q3 e2)
      have HJ := Lib.hid (know_cn q1.good q3)
      have HE25 : Hid (Ext L25 L26) := q2
      have HT := Lib.hid (HI_a.out.ext HE25.out)
      clear HI_a
      have HI_a := HT
      clear HT
      have HT := Lib.hid (HI_b.out.ext HE25.out)
      clear HI_b
      have HI_b := HT
      clear HT
      have HT := Lib.hid (HI_x6.out.ext HE25.out)
      clear HI_x6
      have HI_x6 := HT
      clear HT
      clear q1 q2 q3 q4
      have HI_z6 := HJ
      clear HJ
      clear HS
      have HS := HS2
      clear HS2
      clear HN
      have HN := HN2
      clear HN2
      go_wp2_with fail
      refine (bin_ses HS.out 16 i_x6 i_z6 (by decide) (by decide) HI_x6.out.1 HI_z6.out.1 (46000+1+500+1+500+1+500+1+500+1+500+1+500+1+500+1+500+1+500+1+500+1+500+1+500+500+1) 62 HN.out (Nat.le_trans HI_x6.out.2 (by decide)) (Nat.le_trans HI_z6.out.2 (by decide)) (by omega)).mono ?_
      rintro e w27 ⟨i_t6, L27, rfl, q1, q2, q3, q4⟩
      have HS2 := Lib.hid q1
      have HN2 : Hid (L27.length ≤ 46000+1+500+1+500+1+500+1+500+1+500+1+500+1+500+1+500+1+500+1+500+1+500+1+500+500+1+516) := q3
      have HR_t6 := Lib.hid q2.run
      have HJ : Hid (Know L27 i_t6 64) := ⟨q2.has, q4⟩
      have HE26 : Hid (Ext L26 L27) := q2.ext
      have HT := Lib.hid (HI_a.out.ext HE26.out)
      clear HI_a
      have HI_a := HT
      clear HT
      have HT := Lib.hid (HI_b.out.ext HE26.out)
      clear HI_b
      have HI_b := HT
      clear HT
      have HT := Lib.hid (HI_x6.out.ext HE26.out)
      clear HI_x6
      have HI_x6 := HT
      clear HT
      have HT := Lib.hid (HI_z6.out.ext HE26.out)
      clear HI_z6
      have HI_z6 := HT
      clear HT
      clear q1 q2 q3 q4
      have HI_t6 := HJ
      clear HJ
      clear HS
      have HS := HS2
      clear HS2
      clear HN
      have HN := HN2
      clear HN2
      clear HI_x6
      clear HI_z6
      clear HI_t6
      go_wp2_with fail
      refine (bin_ses HS.out 16 i_a i_b (by decide) (by decide) HI_a.out.1 HI_b.out.1 (46000+1+500+1+500+1+500+1+500+1+500+1+500+1+500+1+500+1+500+1+500+1+500+1+500+500+1+516) 60 HN.out (Nat.le_trans HI_a.out.2 (by decide)) (Nat.le_trans HI_b.out.2 (by decide)) (by omega)).mono ?_
      rintro e w28 ⟨i_u6, L28, rfl, q1, q2, q3, q4⟩
      have HS2 := Lib.hid q1
      have HN2 : Hid (L28.length ≤ 46000+1+500+1+500+1+500+1+500+1+500+1+500+1+500+1+500+1+500+1+500+1+500+1+500+500+1+516+500) := q3
      have HR_u6 := Lib.hid q2.run
      have HJ : Hid (Know L28 i_u6 62) := ⟨q2.has, q4⟩
      have HE27 : Hid (Ext L27 L28) := q2.ext
      have HT := Lib.hid (HI_a.out.ext HE27.out)
      clear HI_a
      have HI_a := HT
      clear HT
      have HT := Lib.hid (HI_b.out.ext HE27.out)
      clear HI_b
      have HI_b := HT
      clear HT
      clear q1 q2 q3 q4
      have HI_u6 := HJ
      clear HJ
      clear HS
      have HS := HS2
      clear HS2
      clear HN
      have HN := HN2
      clear HN2
      clear HI_u6
      go_wp2_with fail
      refine (bin_ses HS.out 2 i_a i_b (by decide) (by decide) HI_a.out.1 HI_b.out.1 (46000+1+500+1+500+1+500+1+500+1+500+1+500+1+500+1+500+1+500+1+500+1+500+1+500+500+1+516+500) 60 HN.out (Nat.le_trans HI_a.out.2 (by decide)) (Nat.le_trans HI_b.out.2 (by decide)) (by omega)).mono ?_
      rintro e w29 ⟨i_x7, L29, rfl, q1, q2, q3, q4⟩
      have HS2 := Lib.hid q1
      have HN2 : Hid (L29.length ≤ 46000+1+500+1+500+1+500+1+500+1+500+1+500+1+500+1+500+1+500+1+500+1+500+1+500+500+1+516+500+500) := q3
      have HR_x7 := Lib.hid q2.run
      have HJ : Hid (Know L29 i_x7 62) := ⟨q2.has, q4⟩
      have HE28 : Hid (Ext L28 L29) := q2.ext
      have HT := Lib.hid (HI_a.out.ext HE28.out)
      clear HI_a
      have HI_a := HT
      clear HT
      have HT := Lib.hid (HI_b.out.ext HE28.out)
      clear HI_b
      have HI_b := HT
      clear HT
      clear q1 q2 q3 q4
      have HI_x7 := HJ
      clear HJ
      clear HS
      have HS := HS2
      clear HS2
      clear HN
      have HN := HN2
      clear HN2
      go_wp2_with fail
      refine (num_ses HS.out (0) (in0) (by have := HN.out; omega)).mono ?_
      rintro e w30 ⟨i_z7, L30, rfl, q1, q2, q3, q4⟩
      have HS2 := Lib.hid q1
      have HN2 : Hid (L30.length ≤ 46000+1+500+1+500+1+500+1+500+1+500+1+500+1+500+1+500+1+500+1+500+1+500+1+500+500+1+516+500+500+1) := Nat.le_trans q4 (Nat.succ_le_succ HN.out)
      have HC_z7 := Lib.hid (fun L'' (e2 : Ext L30 L'') => CN.ext q3 e2)
      have HJ := Lib.hid (know_cn q1.good q3)
      have HE29 : Hid (Ext L29 L30) := q2
      have HT := Lib.hid (HI_a.out.ext HE29.out)
      clear HI_a
      have HI_a := HT
      clear HT
      have HT := Lib.hid (HI_b.out.ext HE29.out)
      clear HI_b
      have HI_b := HT
      clear HT
      have HT := Lib.hid (HI_x7.out.ext HE29.out)
      clear HI_x7
      have HI_x7 := HT
      clear HT
      clear q1 q2 q3 q4
      have HI_z7 := HJ
      clear HJ
      clear HS
      have HS := HS2
      clear HS2
      clear HN
      have HN := HN2
      clear HN2
      go_wp2_with fail
      refine (bin_ses HS.out 16 i_x7 i_z7 (by decide) (by decide) HI_x7.out.1 HI_z7.out.1 (46000+1+500+1+500+1+500+1+500+1+500+1+500+1+500+1+500+1+500+1+500+1+500+1+500+500+1+516+500+500+1) 62 HN.out (Nat.le_trans HI_x7.out.2 (by decide)) (Nat.le_trans HI_z7.out.2 (by decide)) (by omega)).mono ?_
      rintro e w31 ⟨i_t7, L31, rfl, q1, q2, q3, q4⟩
      have HS2 := Lib.hid q1
      have HN2 : Hid (L31.length ≤ 46000+1+500+1+500+1+500+1+500+1+500+1+500+1+500+1+500+1+500+1+500+1+500+1+500+500+1+516+500+500+1+516) := q3
      have HR_t7 := Lib.hid q2.run
      have HJ : Hid (Know L31 i_t7 64) := ⟨q2.has, q4⟩
      have HE30 : Hid (Ext L30 L31) := q2.ext
      have HT := Lib.hid (HI_a.out.ext HE30.out)
      clear HI_a
      have HI_a := HT
      clear HT
      have HT := Lib.hid (HI_b.out.ext HE30.out)
      clear HI_b
      have HI_b := HT
      clear HT
      have HT := Lib.hid (HI_x7.out.ext HE30.out)
      clear HI_x7
      have HI_x7 := HT
      clear HT
      have HT := Lib.hid (HI_z7.out.ext HE30.out)
      clear HI_z7
      have HI_z7 := HT
      clear HT
      clear q1 q2 q3 q4
      have HI_t7 := HJ
      clear HJ
      clear HS
      have HS := HS2
      clear HS2
      clear HN
      have HN := HN2
      clear HN2
      clear HI_x7
      clear HI_z7
      clear HI_t7
      go_wp2_with fail
      refine (bin_ses HS.out 16 i_a i_b (by decide) (by decide) HI_a.out.1 HI_b.out.1 (46000+1+500+1+500+1+500+1+500+1+500+1+500+1+500+1+500+1+500+1+500+1+500+1+500+500+1+516+500+500+1+516) 60 HN.out (Nat.le_trans HI_a.out.2 (by decide)) (Nat.le_trans HI_b.out.2 (by decide)) (by omega)).mono ?_
      rintro e w32 ⟨i_u7, L32, rfl, q1, q2, q3, q4⟩
      have HS2 := Lib.hid q1
      have HN2 : Hid (L32.length ≤ 46000+1+500+1+500+1+500+1+500+1+500+1+500+1+500+1+500+1+500+1+500+1+500+1+500+500+1+516+500+500+1+516+500) := q3
      have HR_u7 := Lib.hid q2.run
      have HJ : Hid (Know L32 i_u7 62) := ⟨q2.has, q4⟩
      have HE31 : Hid (Ext L31 L32) := q2.ext
      have HT := Lib.hid (HI_a.out.ext HE31.out)
      clear HI_a
      have HI_a := HT
      clear HT
      have HT := Lib.hid (HI_b.out.ext HE31.out)
      clear HI_b
      have HI_b := HT
      clear HT
      clear q1 q2 q3 q4
      have HI_u7 := HJ
      clear HJ
      clear HS
      have HS := HS2
      clear HS2
      clear HN
      have HN := HN2
      clear HN2
      clear HI_u7
      go_wp2_with fail
      refine (num_ses HS.out (c) (HCD.out.1) (by have := HN.out; omega)).mono ?_
      rintro e w33 ⟨i_c8, L33, rfl, q1, q2, q3, q4⟩
      have HS2 := Lib.hid q1
      have HN2 : Hid (L33.length ≤ 46000+1+500+1+500+1+500+1+500+1+500+1+500+1+500+1+500+1+500+1+500+1+500+1+500+500+1+516+500+500+1+516+500+1) := Nat.le_trans q4 (Nat.succ_le_succ HN.out)
      have HC_c8 := Lib.hid (fun L'' (e2 : Ext L33 L'') => CN.ext q3 e2)
      have HJ := Lib.hid (know_cn q1.good q3)
      have HE32 : Hid (Ext L32 L33) := q2
      have HT := Lib.hid (HI_a.out.ext HE32.out)
      clear HI_a
      have HI_a := HT
      clear HT
      have HT := Lib.hid (HI_b.out.ext HE32.out)
      clear HI_b
      have HI_b := HT
      clear HT
      clear q1 q2 q3 q4
      have HI_c8 := HJ
      clear HJ
      clear HS
      have HS := HS2
      clear HS2
      clear HN
      have HN := HN2
      clear HN2
      go_wp2_with fail
      refine (bin_ses HS.out 1 i_a i_c8 (by decide) (by decide) HI_a.out.1 HI_c8.out.1 (46000+1+500+1+500+1+500+1+500+1+500+1+500+1+500+1+500+1+500+1+500+1+500+1+500+500+1+516+500+500+1+516+500+1) 60 HN.out (Nat.le_trans HI_a.out.2 (by decide)) (Nat.le_trans HI_c8.out.2 (by decide)) (by omega)).mono ?_
      rintro e w34 ⟨i_x8, L34, rfl, q1, q2, q3, q4⟩
      have HS2 := Lib.hid q1
      have HN2 : Hid (L34.length ≤ 46000+1+500+1+500+1+500+1+500+1+500+1+500+1+500+1+500+1+500+1+500+1+500+1+500+500+1+516+500+500+1+516+500+1+500) := q3
      have HR_x8 := Lib.hid q2.run
      have HJ : Hid (Know L34 i_x8 62) := ⟨q2.has, q4⟩
      have HE33 : Hid (Ext L33 L34) := q2.ext
      have HT := Lib.hid (HI_a.out.ext HE33.out)
      clear HI_a
      have HI_a := HT
      clear HT
      have HT := Lib.hid (HI_b.out.ext HE33.out)
      clear HI_b
      have HI_b := HT
      clear HT
      have HT := Lib.hid (HI_c8.out.ext HE33.out)
      clear HI_c8
      have HI_c8 := HT
      clear HT
      clear q1 q2 q3 q4
      have HI_x8 := HJ
      clear HJ
      clear HS
      have HS := HS2
      clear HS2
      clear HN
      have HN := HN2
      clear HN2
      clear HI_c8
      go_wp2_with fail
      refine (num_ses HS.out (d) (HCD.out.2) (by have := HN.out; omega)).mono ?_
      rintro e w35 ⟨i_d8, L35, rfl, q1, q2, q3, q4⟩
      have HS2 := Lib.hid q1
      have HN2 : Hid (L35.length ≤ 46000+1+500+1+500+1+500+1+500+1+500+1+500+1+500+1+500+1+500+1+500+1+500+1+500+500+1+516+500+500+1+516+500+1+500+1) := Nat.le_trans q4 (Nat.succ_le_succ HN.out)
      have HC_d8 := Lib.hid (fun L'' (e2 : Ext L35 L'') => CN.ext q3 e2)
      have HJ := Lib.hid (know_cn q1.good q3)
      have HE34 : Hid (Ext L34 L35) := q2
      have HT := Lib.hid (HI_a.out.ext HE34.out)
      clear HI_a
      have HI_a := HT
      clear HT
      have HT := Lib.hid (HI_b.out.ext HE34.out)
      clear HI_b
      have HI_b := HT
      clear HT
      have HT := Lib.hid (HI_x8.out.ext HE34.out)
      clear HI_x8
      have HI_x8 := HT
      clear HT
      clear q1 q2 q3 q4
      have HI_d8 := HJ
      clear HJ
      clear HS
      have HS := HS2
      clear HS2
      clear HN
      have HN := HN2
      clear HN2
      go_wp2_with fail
      refine (bin_ses HS.out 16 i_x8 i_d8 (by decide) (by decide) HI_x8.out.1 HI_d8.out.1 (46000+1+500+1+500+1+500+1+500+1+500+1+500+1+500+1+500+1+500+1+500+1+500+1+500+500+1+516+500+500+1+516+500+1+500+1) 62 HN.out (Nat.le_trans HI_x8.out.2 (by decide)) (Nat.le_trans HI_d8.out.2 (by decide)) (by omega)).mono ?_
      rintro e w36 ⟨i_t8, L36, rfl, q1, q2, q3, q4⟩
      have HS2 := Lib.hid q1
      have HN2 : Hid (L36.length ≤ 46000+1+500+1+500+1+500+1+500+1+500+1+500+1+500+1+500+1+500+1+500+1+500+1+500+500+1+516+500+500+1+516+500+1+500+1+516) := q3
      have HR_t8 := Lib.hid q2.run
      have HJ : Hid (Know L36 i_t8 64) := ⟨q2.has, q4⟩
      have HE35 : Hid (Ext L35 L36) := q2.ext
      have HT := Lib.hid (HI_a.out.ext HE35.out)
      clear HI_a
      have HI_a := HT
      clear HT
      have HT := Lib.hid (HI_b.out.ext HE35.out)
      clear HI_b
      have HI_b := HT
      clear HT
      have HT := Lib.hid (HI_x8.out.ext HE35.out)
      clear HI_x8
      have HI_x8 := HT
      clear HT
      have HT := Lib.hid (HI_d8.out.ext HE35.out)
      clear HI_d8
      have HI_d8 := HT
      clear HT
      clear q1 q2 q3 q4
      have HI_t8 := HJ
      clear HJ
      clear HS
      have HS := HS2
      clear HS2
      clear HN
      have HN := HN2
      clear HN2
      clear HI_x8
      clear HI_d8
      clear HI_t8
      go_wp2_with fail
      refine (num_ses HS.out (dc) (HIN.out.2.2.2.2) (by have := HN.out; omega)).mono ?_
      rintro e w37 ⟨i_e8, L37, rfl, q1, q2, q3, q4⟩
      have HS2 := Lib.hid q1
      have HN2 : Hid (L37.length ≤ 46000+1+500+1+500+1+500+1+500+1+500+1+500+1+500+1+500+1+500+1+500+1+500+1+500+500+1+516+500+500+1+516+500+1+500+1+516+1) := Nat.le_trans q4 (Nat.succ_le_succ HN.out)
      have HC_e8 := Lib.hid (fun L'' (e2 : Ext L37 L'') => CN.ext q3 e2)
      have HJ := Lib.hid (know_cn q1.good q3)
      have HE36 : Hid (Ext L36 L37) := q2
      have HT := Lib.hid (HI_a.out.ext HE36.out)
      clear HI_a
      have HI_a := HT
      clear HT
      have HT := Lib.hid (HI_b.out.ext HE36.out)
      clear HI_b
      have HI_b := HT
      clear HT
      clear q1 q2 q3 q4
      have HI_e8 := HJ
      clear HJ
      clear HS
      have HS := HS2
      clear HS2
      clear HN
      have HN := HN2
      clear HN2
      go_wp2_with fail
      refine (bin_ses HS.out 16 i_a i_e8 (by decide) (by decide) HI_a.out.1 HI_e8.out.1 (46000+1+500+1+500+1+500+1+500+1+500+1+500+1+500+1+500+1+500+1+500+1+500+1+500+500+1+516+500+500+1+516+500+1+500+1+516+1) 60 HN.out (Nat.le_trans HI_a.out.2 (by decide)) (Nat.le_trans HI_e8.out.2 (by decide)) (by omega)).mono ?_
      rintro e w38 ⟨i_u8, L38, rfl, q1, q2, q3, q4⟩
      have HS2 := Lib.hid q1
      have HN2 : Hid (L38.length ≤ 46000+1+500+1+500+1+500+1+500+1+500+1+500+1+500+1+500+1+500+1+500+1+500+1+500+500+1+516+500+500+1+516+500+1+500+1+516+1+500) := q3
      have HR_u8 := Lib.hid q2.run
      have HJ : Hid (Know L38 i_u8 62) := ⟨q2.has, q4⟩
      have HE37 : Hid (Ext L37 L38) := q2.ext
      have HT := Lib.hid (HI_a.out.ext HE37.out)
      clear HI_a
      have HI_a := HT
      clear HT
      have HT := Lib.hid (HI_b.out.ext HE37.out)
      clear HI_b
      have HI_b := HT
      clear HT
      have HT := Lib.hid (HI_e8.out.ext HE37.out)
      clear HI_e8
      have HI_e8 := HT
      clear HT
      clear q1 q2 q3 q4
      have HI_u8 := HJ
      clear HJ
      clear HS
      have HS := HS2
      clear HS2
      clear HN
      have HN := HN2
      clear HN2
      clear HI_e8
      clear HI_u8
      go_wp2_with fail
      refine (num_ses HS.out (1) (in1) (by have := HN.out; omega)).mono ?_
      rintro e w39 ⟨i_o9, L39, rfl, q1, q2, q3, q4⟩
      have HS2 := Lib.hid q1
      have HN2 : Hid (L39.length ≤ 46000+1+500+1+500+1+500+1+500+1+500+1+500+1+500+1+500+1+500+1+500+1+500+1+500+500+1+516+500+500+1+516+500+1+500+1+516+1+500+1) := Nat.le_trans q4 (Nat.succ_le_succ HN.out)
      have HC_o9 := Lib.hid (fun L'' (e2 : Ext L39 L'') => CN.ext q3 e2)
      have HJ := Lib.hid (know_cn q1.good q3)
      have HE38 : Hid (Ext L38 L39) := q2
      have HT := Lib.hid (HI_a.out.ext HE38.out)
      clear HI_a
      have HI_a := HT
      clear HT
      have HT := Lib.hid (HI_b.out.ext HE38.out)
      clear HI_b
      have HI_b := HT
      clear HT
      clear q1 q2 q3 q4
      have HI_o9 := HJ
      clear HJ
      clear HS
      have HS := HS2
      clear HS2
      clear HN
      have HN := HN2
      clear HN2
      go_wp2_with fail
      refine (bin_ses HS.out 15 i_a i_o9 (by decide) (by decide) HI_a.out.1 HI_o9.out.1 (46000+1+500+1+500+1+500+1+500+1+500+1+500+1+500+1+500+1+500+1+500+1+500+1+500+500+1+516+500+500+1+516+500+1+500+1+516+1+500+1) 60 HN.out (Nat.le_trans HI_a.out.2 (by decide)) (Nat.le_trans HI_o9.out.2 (by decide)) (by omega)).mono ?_
      rintro e w40 ⟨i_t9, L40, rfl, q1, q2, q3, q4⟩
      have HS2 := Lib.hid q1
      have HN2 : Hid (L40.length ≤ 46000+1+500+1+500+1+500+1+500+1+500+1+500+1+500+1+500+1+500+1+500+1+500+1+500+500+1+516+500+500+1+516+500+1+500+1+516+1+500+1+500) := q3
      have HR_t9 := Lib.hid q2.run
      have HJ : Hid (Know L40 i_t9 62) := ⟨q2.has, q4⟩
      have HE39 : Hid (Ext L39 L40) := q2.ext
      have HT := Lib.hid (HI_a.out.ext HE39.out)
      clear HI_a
      have HI_a := HT
      clear HT
      have HT := Lib.hid (HI_b.out.ext HE39.out)
      clear HI_b
      have HI_b := HT
      clear HT
      have HT := Lib.hid (HI_o9.out.ext HE39.out)
      clear HI_o9
      have HI_o9 := HT
      clear HT
      clear q1 q2 q3 q4
      have HI_t9 := HJ
      clear HJ
      clear HS
      have HS := HS2
      clear HS2
      clear HN
      have HN := HN2
      clear HN2
      clear HI_o9
      clear HI_t9
      go_wp2_with fail
      refine (num_ses HS.out (0) (in0) (by have := HN.out; omega)).mono ?_
      rintro e w41 ⟨i_z9, L41, rfl, q1, q2, q3, q4⟩
      have HS2 := Lib.hid q1
      have HN2 : Hid (L41.length ≤ 46000+1+500+1+500+1+500+1+500+1+500+1+500+1+500+1+500+1+500+1+500+1+500+1+500+500+1+516+500+500+1+516+500+1+500+1+516+1+500+1+500+1) := Nat.le_trans q4 (Nat.succ_le_succ HN.out)
      have HC_z9 := Lib.hid (fun L'' (e2 : Ext L41 L'') => CN.ext q3 e2)
      have HJ := Lib.hid (know_cn q1.good q3)
      have HE40 : Hid (Ext L40 L41) := q2
      have HT := Lib.hid (HI_a.out.ext HE40.out)
      clear HI_a
      have HI_a := HT
      clear HT
      have HT := Lib.hid (HI_b.out.ext HE40.out)
      clear HI_b
      have HI_b := HT
      clear HT
      clear q1 q2 q3 q4
      have HI_z9 := HJ
      clear HJ
      clear HS
      have HS := HS2
      clear HS2
      clear HN
      have HN := HN2
      clear HN2
      go_wp2_with fail
      refine (bin_ses HS.out 16 i_a i_z9 (by decide) (by decide) HI_a.out.1 HI_z9.out.1 (46000+1+500+1+500+1+500+1+500+1+500+1+500+1+500+1+500+1+500+1+500+1+500+1+500+500+1+516+500+500+1+516+500+1+500+1+516+1+500+1+500+1) 60 HN.out (Nat.le_trans HI_a.out.2 (by decide)) (Nat.le_trans HI_z9.out.2 (by decide)) (by omega)).mono ?_
      rintro e w42 ⟨i_u9, L42, rfl, q1, q2, q3, q4⟩
      have HS2 := Lib.hid q1
      have HN2 : Hid (L42.length ≤ 46000+1+500+1+500+1+500+1+500+1+500+1+500+1+500+1+500+1+500+1+500+1+500+1+500+500+1+516+500+500+1+516+500+1+500+1+516+1+500+1+500+1+500) := q3
      have HR_u9 := Lib.hid q2.run
      have HJ : Hid (Know L42 i_u9 62) := ⟨q2.has, q4⟩
      have HE41 : Hid (Ext L41 L42) := q2.ext
      have HT := Lib.hid (HI_a.out.ext HE41.out)
      clear HI_a
      have HI_a := HT
      clear HT
      have HT := Lib.hid (HI_b.out.ext HE41.out)
      clear HI_b
      have HI_b := HT
      clear HT
      have HT := Lib.hid (HI_z9.out.ext HE41.out)
      clear HI_z9
      have HI_z9 := HT
      clear HT
      clear q1 q2 q3 q4
      have HI_u9 := HJ
      clear HJ
      clear HS
      have HS := HS2
      clear HS2
      clear HN
      have HN := HN2
      clear HN2
      clear HI_z9
      clear HI_u9
      go_wp2_with fail
      refine (num_ses HS.out (0) (in0) (by have := HN.out; omega)).mono ?_
      rintro e w43 ⟨i_z10, L43, rfl, q1, q2, q3, q4⟩
      have HS2 := Lib.hid q1
      have HN2 : Hid (L43.length ≤ 46000+1+500+1+500+1+500+1+500+1+500+1+500+1+500+1+500+1+500+1+500+1+500+1+500+500+1+516+500+500+1+516+500+1+500+1+516+1+500+1+500+1+500+1) := Nat.le_trans q4 (Nat.succ_le_succ HN.out)
      have HC_z10 := Lib.hid (fun L'' (e2 : Ext L43 L'') => CN.ext q3 e2)
      have HJ := Lib.hid (know_cn q1.good q3)
      have HE42 : Hid (Ext L42 L43) := q2
      have HT := Lib.hid (HI_a.out.ext HE42.out)
      clear HI_a
      have HI_a := HT
      clear HT
      have HT := Lib.hid (HI_b.out.ext HE42.out)
      clear HI_b
      have HI_b := HT
      clear HT
      clear q1 q2 q3 q4
      have HI_z10 := HJ
      clear HJ
      clear HS
      have HS := HS2
      clear HS2
      clear HN
      have HN := HN2
      clear HN2
      go_wp2_with fail
      refine (bin_ses HS.out 15 i_z10 i_a (by decide) (by decide) HI_z10.out.1 HI_a.out.1 (46000+1+500+1+500+1+500+1+500+1+500+1+500+1+500+1+500+1+500+1+500+1+500+1+500+500+1+516+500+500+1+516+500+1+500+1+516+1+500+1+500+1+500+1) 60 HN.out (Nat.le_trans HI_z10.out.2 (by decide)) (Nat.le_trans HI_a.out.2 (by decide)) (by omega)).mono ?_
      rintro e w44 ⟨i_t10, L44, rfl, q1, q2, q3, q4⟩
      have HS2 := Lib.hid q1
      have HN2 : Hid (L44.length ≤ 46000+1+500+1+500+1+500+1+500+1+500+1+500+1+500+1+500+1+500+1+500+1+500+1+500+500+1+516+500+500+1+516+500+1+500+1+516+1+500+1+500+1+500+1+500) := q3
      have HR_t10 := Lib.hid q2.run
      have HJ : Hid (Know L44 i_t10 62) := ⟨q2.has, q4⟩
      have HE43 : Hid (Ext L43 L44) := q2.ext
      have HT := Lib.hid (HI_a.out.ext HE43.out)
      clear HI_a
      have HI_a := HT
      clear HT
      have HT := Lib.hid (HI_b.out.ext HE43.out)
      clear HI_b
      have HI_b := HT
      clear HT
      have HT := Lib.hid (HI_z10.out.ext HE43.out)
      clear HI_z10
      have HI_z10 := HT
      clear HT
      clear q1 q2 q3 q4
      have HI_t10 := HJ
      clear HJ
      clear HS
      have HS := HS2
      clear HS2
      clear HN
      have HN := HN2
      clear HN2
      clear HI_z10
      clear HI_t10
      go_wp2_with fail
      refine (not_ses HS.out i_a HI_a.out.1 (46000+1+500+1+500+1+500+1+500+1+500+1+500+1+500+1+500+1+500+1+500+1+500+1+500+500+1+516+500+500+1+516+500+1+500+1+516+1+500+1+500+1+500+1+500) 60 HN.out HI_a.out.2 (by omega)).mono ?_
      rintro e w45 ⟨i_m10, L45, rfl, q1, q2, q5, q6, q3, q4⟩
      have HS2 := Lib.hid q1
      have HN2 : Hid (L45.length ≤ 46000+1+500+1+500+1+500+1+500+1+500+1+500+1+500+1+500+1+500+1+500+1+500+1+500+500+1+516+500+500+1+516+500+1+500+1+516+1+500+1+500+1+500+1+500+500) := q3
      have HR_m10 := Lib.hid q6
      have HJ : Hid (Know L45 i_m10 62) := ⟨q5, q4⟩
      have HE44 : Hid (Ext L44 L45) := q2
      have HT := Lib.hid (HI_a.out.ext HE44.out)
      clear HI_a
      have HI_a := HT
      clear HT
      have HT := Lib.hid (HI_b.out.ext HE44.out)
      clear HI_b
      have HI_b := HT
      clear HT
      clear q1 q2 q3 q4 q5 q6
      have HI_m10 := HJ
      clear HJ
      clear HS
      have HS := HS2
      clear HS2
      clear HN
      have HN := HN2
      clear HN2
      go_wp2_with fail
      refine (not_ses HS.out i_m10 HI_m10.out.1 (46000+1+500+1+500+1+500+1+500+1+500+1+500+1+500+1+500+1+500+1+500+1+500+1+500+500+1+516+500+500+1+516+500+1+500+1+516+1+500+1+500+1+500+1+500+500) 62 HN.out HI_m10.out.2 (by omega)).mono ?_
      rintro e w46 ⟨i_u10, L46, rfl, q1, q2, q5, q6, q3, q4⟩
      have HS2 := Lib.hid q1
      have HN2 : Hid (L46.length ≤ 46000+1+500+1+500+1+500+1+500+1+500+1+500+1+500+1+500+1+500+1+500+1+500+1+500+500+1+516+500+500+1+516+500+1+500+1+516+1+500+1+500+1+500+1+500+500+516) := q3
      have HR_u10 := Lib.hid q6
      have HJ : Hid (Know L46 i_u10 64) := ⟨q5, q4⟩
      have HE45 : Hid (Ext L45 L46) := q2
      have HT := Lib.hid (HI_a.out.ext HE45.out)
      clear HI_a
      have HI_a := HT
      clear HT
      have HT := Lib.hid (HI_b.out.ext HE45.out)
      clear HI_b
      have HI_b := HT
      clear HT
      have HT := Lib.hid (HI_m10.out.ext HE45.out)
      clear HI_m10
      have HI_m10 := HT
      clear HT
      clear q1 q2 q3 q4 q5 q6
      have HI_u10 := HJ
      clear HJ
      clear HS
      have HS := HS2
      clear HS2
      clear HN
      have HN := HN2
      clear HN2
      clear HI_m10
      clear HI_u10
      go_wp2_with fail
      refine (bin_ses HS.out 10 i_a i_b (by decide) (by decide) HI_a.out.1 HI_b.out.1 (46000+1+500+1+500+1+500+1+500+1+500+1+500+1+500+1+500+1+500+1+500+1+500+1+500+500+1+516+500+500+1+516+500+1+500+1+516+1+500+1+500+1+500+1+500+500+516) 60 HN.out (Nat.le_trans HI_a.out.2 (by decide)) (Nat.le_trans HI_b.out.2 (by decide)) (by omega)).mono ?_
      rintro e w47 ⟨i_x11, L47, rfl, q1, q2, q3, q4⟩
      have HS2 := Lib.hid q1
      have HN2 : Hid (L47.length ≤ 46000+1+500+1+500+1+500+1+500+1+500+1+500+1+500+1+500+1+500+1+500+1+500+1+500+500+1+516+500+500+1+516+500+1+500+1+516+1+500+1+500+1+500+1+500+500+516+500) := q3
      have HR_x11 := Lib.hid q2.run
      have HJ : Hid (Know L47 i_x11 62) := ⟨q2.has, q4⟩
      have HE46 : Hid (Ext L46 L47) := q2.ext
      have HT := Lib.hid (HI_a.out.ext HE46.out)
      clear HI_a
      have HI_a := HT
      clear HT
      have HT := Lib.hid (HI_b.out.ext HE46.out)
      clear HI_b
      have HI_b := HT
      clear HT
      clear q1 q2 q3 q4
      have HI_x11 := HJ
      clear HJ
      clear HS
      have HS := HS2
      clear HS2
      clear HN
      have HN := HN2
      clear HN2
      go_wp2_with fail
      refine (num_ses HS.out (1) (in1) (by have := HN.out; omega)).mono ?_
      rintro e w48 ⟨i_o11, L48, rfl, q1, q2, q3, q4⟩
      have HS2 := Lib.hid q1
      have HN2 : Hid (L48.length ≤ 46000+1+500+1+500+1+500+1+500+1+500+1+500+1+500+1+500+1+500+1+500+1+500+1+500+500+1+516+500+500+1+516+500+1+500+1+516+1+500+1+500+1+500+1+500+500+516+500+1) := Nat.le_trans q4 (Nat.succ_le_succ HN.out)
      have HC_o11 := Lib.hid (fun L'' (e2 : Ext L48 L'') => CN.ext q3 e2)
      have HJ := Lib.hid (know_cn q1.good q3)
      have HE47 : Hid (Ext L47 L48) := q2
      have HT := Lib.hid (HI_a.out.ext HE47.out)
      clear HI_a
      have HI_a := HT
      clear HT
      have HT := Lib.hid (HI_b.out.ext HE47.out)
      clear HI_b
      have HI_b := HT
      clear HT
      have HT := Lib.hid (HI_x11.out.ext HE47.out)
      clear HI_x11
      have HI_x11 := HT
      clear HT
      clear q1 q2 q3 q4
      have HI_o11 := HJ
      clear HJ
      clear HS
      have HS := HS2
      clear HS2
      clear HN
      have HN := HN2
      clear HN2
      go_wp2_with fail
      refine (bin_ses HS.out 15 i_x11 i_o11 (by decide) (by decide) HI_x11.out.1 HI_o11.out.1 (46000+1+500+1+500+1+500+1+500+1+500+1+500+1+500+1+500+1+500+1+500+1+500+1+500+500+1+516+500+500+1+516+500+1+500+1+516+1+500+1+500+1+500+1+500+500+516+500+1) 62 HN.out (Nat.le_trans HI_x11.out.2 (by decide)) (Nat.le_trans HI_o11.out.2 (by decide)) (by omega)).mono ?_
      rintro e w49 ⟨i_t11, L49, rfl, q1, q2, q3, q4⟩
      have HS2 := Lib.hid q1
      have HN2 : Hid (L49.length ≤ 46000+1+500+1+500+1+500+1+500+1+500+1+500+1+500+1+500+1+500+1+500+1+500+1+500+500+1+516+500+500+1+516+500+1+500+1+516+1+500+1+500+1+500+1+500+500+516+500+1+516) := q3
      have HR_t11 := Lib.hid q2.run
      have HJ : Hid (Know L49 i_t11 64) := ⟨q2.has, q4⟩
      have HE48 : Hid (Ext L48 L49) := q2.ext
      have HT := Lib.hid (HI_a.out.ext HE48.out)
      clear HI_a
      have HI_a := HT
      clear HT
      have HT := Lib.hid (HI_b.out.ext HE48.out)
      clear HI_b
      have HI_b := HT
      clear HT
      have HT := Lib.hid (HI_x11.out.ext HE48.out)
      clear HI_x11
      have HI_x11 := HT
      clear HT
      have HT := Lib.hid (HI_o11.out.ext HE48.out)
      clear HI_o11
      have HI_o11 := HT
      clear HT
      clear q1 q2 q3 q4
      have HI_t11 := HJ
      clear HJ
      clear HS
      have HS := HS2
      clear HS2
      clear HN
      have HN := HN2
      clear HN2
      clear HI_x11
      clear HI_o11
      clear HI_t11
      go_wp2_with fail
      refine (bin_ses HS.out 16 i_a i_b (by decide) (by decide) HI_a.out.1 HI_b.out.1 (46000+1+500+1+500+1+500+1+500+1+500+1+500+1+500+1+500+1+500+1+500+1+500+1+500+500+1+516+500+500+1+516+500+1+500+1+516+1+500+1+500+1+500+1+500+500+516+500+1+516) 60 HN.out (Nat.le_trans HI_a.out.2 (by decide)) (Nat.le_trans HI_b.out.2 (by decide)) (by omega)).mono ?_
      rintro e w50 ⟨i_u11, L50, rfl, q1, q2, q3, q4⟩
      have HS2 := Lib.hid q1
      have HN2 : Hid (L50.length ≤ 46000+1+500+1+500+1+500+1+500+1+500+1+500+1+500+1+500+1+500+1+500+1+500+1+500+500+1+516+500+500+1+516+500+1+500+1+516+1+500+1+500+1+500+1+500+500+516+500+1+516+500) := q3
      have HR_u11 := Lib.hid q2.run
      have HJ : Hid (Know L50 i_u11 62) := ⟨q2.has, q4⟩
      have HE49 : Hid (Ext L49 L50) := q2.ext
      have HT := Lib.hid (HI_a.out.ext HE49.out)
      clear HI_a
      have HI_a := HT
      clear HT
      have HT := Lib.hid (HI_b.out.ext HE49.out)
      clear HI_b
      have HI_b := HT
      clear HT
      clear q1 q2 q3 q4
      have HI_u11 := HJ
      clear HJ
      clear HS
      have HS := HS2
      clear HS2
      clear HN
      have HN := HN2
      clear HN2
      clear HI_u11
      have HPA2 := Lib.hid (HPA.out.ext HG0.out (HE0.out.trans (HE1.out.trans (HE2.out.trans (HE3.out.trans (HE4.out.trans (HE5.out.trans (HE6.out.trans (HE7.out.trans (HE8.out.trans (HE9.out.trans (HE10.out.trans (HE11.out.trans (HE12.out.trans (HE13.out.trans (HE14.out.trans (HE15.out.trans (HE16.out.trans (HE17.out.trans (HE18.out.trans (HE19.out.trans (HE20.out.trans (HE21.out.trans (HE22.out.trans (HE23.out.trans (HE24.out.trans (HE25.out.trans (HE26.out.trans (HE27.out.trans (HE28.out.trans (HE29.out.trans (HE30.out.trans (HE31.out.trans (HE32.out.trans (HE33.out.trans (HE34.out.trans (HE35.out.trans (HE36.out.trans (HE37.out.trans (HE38.out.trans (HE39.out.trans (HE40.out.trans (HE41.out.trans (HE42.out.trans (HE43.out.trans (HE44.out.trans (HE45.out.trans (HE46.out.trans (HE47.out.trans (HE48.out.trans (HE49.out.trans (Ext.refl L50))))))))))))))))))))))))))))))))))))))))))))))))))))
      have HPB2 := Lib.hid (HPB.out.ext HG0.out (HE0.out.trans (HE1.out.trans (HE2.out.trans (HE3.out.trans (HE4.out.trans (HE5.out.trans (HE6.out.trans (HE7.out.trans (HE8.out.trans (HE9.out.trans (HE10.out.trans (HE11.out.trans (HE12.out.trans (HE13.out.trans (HE14.out.trans (HE15.out.trans (HE16.out.trans (HE17.out.trans (HE18.out.trans (HE19.out.trans (HE20.out.trans (HE21.out.trans (HE22.out.trans (HE23.out.trans (HE24.out.trans (HE25.out.trans (HE26.out.trans (HE27.out.trans (HE28.out.trans (HE29.out.trans (HE30.out.trans (HE31.out.trans (HE32.out.trans (HE33.out.trans (HE34.out.trans (HE35.out.trans (HE36.out.trans (HE37.out.trans (HE38.out.trans (HE39.out.trans (HE40.out.trans (HE41.out.trans (HE42.out.trans (HE43.out.trans (HE44.out.trans (HE45.out.trans (HE46.out.trans (HE47.out.trans (HE48.out.trans (HE49.out.trans (Ext.refl L50))))))))))))))))))))))))))))))))))))))))))))))))))))
      have HBA : Hid (hasB L50.length i_a = true) := HPA2.out.has
      have HBB : Hid (hasB L50.length i_b = true) := HPB2.out.has
      have HQ0 : Hid (i_t0 = i_u0 ∧ i_t1 = i_u1 ∧ i_t2 = i_u2 ∧ i_t3 = i_u3 ∧ i_t4 = i_u4 ∧ i_t5 = i_u5) := by
        have hG := HS.out.good
        have e1 : CN L50 (opI 2 0 c) i_n0 := by rw [← HEQ.out.2.2.1]; exact (HC_n0.out _ (HE3.out.trans (HE4.out.trans (HE5.out.trans (HE6.out.trans (HE7.out.trans (HE8.out.trans (HE9.out.trans (HE10.out.trans (HE11.out.trans (HE12.out.trans (HE13.out.trans (HE14.out.trans (HE15.out.trans (HE16.out.trans (HE17.out.trans (HE18.out.trans (HE19.out.trans (HE20.out.trans (HE21.out.trans (HE22.out.trans (HE23.out.trans (HE24.out.trans (HE25.out.trans (HE26.out.trans (HE27.out.trans (HE28.out.trans (HE29.out.trans (HE30.out.trans (HE31.out.trans (HE32.out.trans (HE33.out.trans (HE34.out.trans (HE35.out.trans (HE36.out.trans (HE37.out.trans (HE38.out.trans (HE39.out.trans (HE40.out.trans (HE41.out.trans (HE42.out.trans (HE43.out.trans (HE44.out.trans (HE45.out.trans (HE46.out.trans (HE47.out.trans (HE48.out.trans (HE49.out.trans (Ext.refl L50)))))))))))))))))))))))))))))))))))))))))))))))))
        have e2 : CN L50 (opI 11 1 c) i_n1 := by rw [← HEQ.out.1]; exact (HC_n1.out _ (HE7.out.trans (HE8.out.trans (HE9.out.trans (HE10.out.trans (HE11.out.trans (HE12.out.trans (HE13.out.trans (HE14.out.trans (HE15.out.trans (HE16.out.trans (HE17.out.trans (HE18.out.trans (HE19.out.trans (HE20.out.trans (HE21.out.trans (HE22.out.trans (HE23.out.trans (HE24.out.trans (HE25.out.trans (HE26.out.trans (HE27.out.trans (HE28.out.trans (HE29.out.trans (HE30.out.trans (HE31.out.trans (HE32.out.trans (HE33.out.trans (HE34.out.trans (HE35.out.trans (HE36.out.trans (HE37.out.trans (HE38.out.trans (HE39.out.trans (HE40.out.trans (HE41.out.trans (HE42.out.trans (HE43.out.trans (HE44.out.trans (HE45.out.trans (HE46.out.trans (HE47.out.trans (HE48.out.trans (HE49.out.trans (Ext.refl L50)))))))))))))))))))))))))))))))))))))))))))))
        have ek : opI 8 c 63 = kk := by rw [op8_63, HEQ.out.2.1]
        have e3 : CN L50 (opI 8 c 63) i_n2 := by rw [ek]; exact (HC_n2.out _ (HE11.out.trans (HE12.out.trans (HE13.out.trans (HE14.out.trans (HE15.out.trans (HE16.out.trans (HE17.out.trans (HE18.out.trans (HE19.out.trans (HE20.out.trans (HE21.out.trans (HE22.out.trans (HE23.out.trans (HE24.out.trans (HE25.out.trans (HE26.out.trans (HE27.out.trans (HE28.out.trans (HE29.out.trans (HE30.out.trans (HE31.out.trans (HE32.out.trans (HE33.out.trans (HE34.out.trans (HE35.out.trans (HE36.out.trans (HE37.out.trans (HE38.out.trans (HE39.out.trans (HE40.out.trans (HE41.out.trans (HE42.out.trans (HE43.out.trans (HE44.out.trans (HE45.out.trans (HE46.out.trans (HE47.out.trans (HE48.out.trans (HE49.out.trans (Ext.refl L50)))))))))))))))))))))))))))))))))))))))))
        have e4 : CN L50 (opI 8 c 63) i_n3 := by rw [ek]; exact (HC_n3.out _ (HE15.out.trans (HE16.out.trans (HE17.out.trans (HE18.out.trans (HE19.out.trans (HE20.out.trans (HE21.out.trans (HE22.out.trans (HE23.out.trans (HE24.out.trans (HE25.out.trans (HE26.out.trans (HE27.out.trans (HE28.out.trans (HE29.out.trans (HE30.out.trans (HE31.out.trans (HE32.out.trans (HE33.out.trans (HE34.out.trans (HE35.out.trans (HE36.out.trans (HE37.out.trans (HE38.out.trans (HE39.out.trans (HE40.out.trans (HE41.out.trans (HE42.out.trans (HE43.out.trans (HE44.out.trans (HE45.out.trans (HE46.out.trans (HE47.out.trans (HE48.out.trans (HE49.out.trans (Ext.refl L50)))))))))))))))))))))))))))))))))))))
        have ep : powB pw = true := by rw [HEQ.out.1]; exact power_pow c
        have e5 : CN L50 (powN pw) i_n4 := by rw [HEQ.out.1, power_log, ← HEQ.out.2.1]; exact (HC_n4.out _ (HE19.out.trans (HE20.out.trans (HE21.out.trans (HE22.out.trans (HE23.out.trans (HE24.out.trans (HE25.out.trans (HE26.out.trans (HE27.out.trans (HE28.out.trans (HE29.out.trans (HE30.out.trans (HE31.out.trans (HE32.out.trans (HE33.out.trans (HE34.out.trans (HE35.out.trans (HE36.out.trans (HE37.out.trans (HE38.out.trans (HE39.out.trans (HE40.out.trans (HE41.out.trans (HE42.out.trans (HE43.out.trans (HE44.out.trans (HE45.out.trans (HE46.out.trans (HE47.out.trans (HE48.out.trans (HE49.out.trans (Ext.refl L50)))))))))))))))))))))))))))))))))
        have e6 : CN L50 (opI 2 pw 1) i_n5 := by rw [← HEQ.out.2.2.2.1]; exact (HC_n5.out _ (HE23.out.trans (HE24.out.trans (HE25.out.trans (HE26.out.trans (HE27.out.trans (HE28.out.trans (HE29.out.trans (HE30.out.trans (HE31.out.trans (HE32.out.trans (HE33.out.trans (HE34.out.trans (HE35.out.trans (HE36.out.trans (HE37.out.trans (HE38.out.trans (HE39.out.trans (HE40.out.trans (HE41.out.trans (HE42.out.trans (HE43.out.trans (HE44.out.trans (HE45.out.trans (HE46.out.trans (HE47.out.trans (HE48.out.trans (HE49.out.trans (Ext.refl L50)))))))))))))))))))))))))))))
        exact ⟨mv_sub hG HPA2.out (HC_c0.out _ (HE1.out.trans (HE2.out.trans (HE3.out.trans (HE4.out.trans (HE5.out.trans (HE6.out.trans (HE7.out.trans (HE8.out.trans (HE9.out.trans (HE10.out.trans (HE11.out.trans (HE12.out.trans (HE13.out.trans (HE14.out.trans (HE15.out.trans (HE16.out.trans (HE17.out.trans (HE18.out.trans (HE19.out.trans (HE20.out.trans (HE21.out.trans (HE22.out.trans (HE23.out.trans (HE24.out.trans (HE25.out.trans (HE26.out.trans (HE27.out.trans (HE28.out.trans (HE29.out.trans (HE30.out.trans (HE31.out.trans (HE32.out.trans (HE33.out.trans (HE34.out.trans (HE35.out.trans (HE36.out.trans (HE37.out.trans (HE38.out.trans (HE39.out.trans (HE40.out.trans (HE41.out.trans (HE42.out.trans (HE43.out.trans (HE44.out.trans (HE45.out.trans (HE46.out.trans (HE47.out.trans (HE48.out.trans (HE49.out.trans (Ext.refl L50))))))))))))))))))))))))))))))))))))))))))))))))))) e1 (HR_t0.out _ (HE2.out.trans (HE3.out.trans (HE4.out.trans (HE5.out.trans (HE6.out.trans (HE7.out.trans (HE8.out.trans (HE9.out.trans (HE10.out.trans (HE11.out.trans (HE12.out.trans (HE13.out.trans (HE14.out.trans (HE15.out.trans (HE16.out.trans (HE17.out.trans (HE18.out.trans (HE19.out.trans (HE20.out.trans (HE21.out.trans (HE22.out.trans (HE23.out.trans (HE24.out.trans (HE25.out.trans (HE26.out.trans (HE27.out.trans (HE28.out.trans (HE29.out.trans (HE30.out.trans (HE31.out.trans (HE32.out.trans (HE33.out.trans (HE34.out.trans (HE35.out.trans (HE36.out.trans (HE37.out.trans (HE38.out.trans (HE39.out.trans (HE40.out.trans (HE41.out.trans (HE42.out.trans (HE43.out.trans (HE44.out.trans (HE45.out.trans (HE46.out.trans (HE47.out.trans (HE48.out.trans (HE49.out.trans (Ext.refl L50)))))))))))))))))))))))))))))))))))))))))))))))))) (HR_u0.out _ (HE4.out.trans (HE5.out.trans (HE6.out.trans (HE7.out.trans (HE8.out.trans (HE9.out.trans (HE10.out.trans (HE11.out.trans (HE12.out.trans (HE13.out.trans (HE14.out.trans (HE15.out.trans (HE16.out.trans (HE17.out.trans (HE18.out.trans (HE19.out.trans (HE20.out.trans (HE21.out.trans (HE22.out.trans (HE23.out.trans (HE24.out.trans (HE25.out.trans (HE26.out.trans (HE27.out.trans (HE28.out.trans (HE29.out.trans (HE30.out.trans (HE31.out.trans (HE32.out.trans (HE33.out.trans (HE34.out.trans (HE35.out.trans (HE36.out.trans (HE37.out.trans (HE38.out.trans (HE39.out.trans (HE40.out.trans (HE41.out.trans (HE42.out.trans (HE43.out.trans (HE44.out.trans (HE45.out.trans (HE46.out.trans (HE47.out.trans (HE48.out.trans (HE49.out.trans (Ext.refl L50)))))))))))))))))))))))))))))))))))))))))))))))), mv_shl hG HPA2.out (HC_c1.out _ (HE5.out.trans (HE6.out.trans (HE7.out.trans (HE8.out.trans (HE9.out.trans (HE10.out.trans (HE11.out.trans (HE12.out.trans (HE13.out.trans (HE14.out.trans (HE15.out.trans (HE16.out.trans (HE17.out.trans (HE18.out.trans (HE19.out.trans (HE20.out.trans (HE21.out.trans (HE22.out.trans (HE23.out.trans (HE24.out.trans (HE25.out.trans (HE26.out.trans (HE27.out.trans (HE28.out.trans (HE29.out.trans (HE30.out.trans (HE31.out.trans (HE32.out.trans (HE33.out.trans (HE34.out.trans (HE35.out.trans (HE36.out.trans (HE37.out.trans (HE38.out.trans (HE39.out.trans (HE40.out.trans (HE41.out.trans (HE42.out.trans (HE43.out.trans (HE44.out.trans (HE45.out.trans (HE46.out.trans (HE47.out.trans (HE48.out.trans (HE49.out.trans (Ext.refl L50))))))))))))))))))))))))))))))))))))))))))))))) e2 (HR_t1.out _ (HE6.out.trans (HE7.out.trans (HE8.out.trans (HE9.out.trans (HE10.out.trans (HE11.out.trans (HE12.out.trans (HE13.out.trans (HE14.out.trans (HE15.out.trans (HE16.out.trans (HE17.out.trans (HE18.out.trans (HE19.out.trans (HE20.out.trans (HE21.out.trans (HE22.out.trans (HE23.out.trans (HE24.out.trans (HE25.out.trans (HE26.out.trans (HE27.out.trans (HE28.out.trans (HE29.out.trans (HE30.out.trans (HE31.out.trans (HE32.out.trans (HE33.out.trans (HE34.out.trans (HE35.out.trans (HE36.out.trans (HE37.out.trans (HE38.out.trans (HE39.out.trans (HE40.out.trans (HE41.out.trans (HE42.out.trans (HE43.out.trans (HE44.out.trans (HE45.out.trans (HE46.out.trans (HE47.out.trans (HE48.out.trans (HE49.out.trans (Ext.refl L50)))))))))))))))))))))))))))))))))))))))))))))) (HR_u1.out _ (HE8.out.trans (HE9.out.trans (HE10.out.trans (HE11.out.trans (HE12.out.trans (HE13.out.trans (HE14.out.trans (HE15.out.trans (HE16.out.trans (HE17.out.trans (HE18.out.trans (HE19.out.trans (HE20.out.trans (HE21.out.trans (HE22.out.trans (HE23.out.trans (HE24.out.trans (HE25.out.trans (HE26.out.trans (HE27.out.trans (HE28.out.trans (HE29.out.trans (HE30.out.trans (HE31.out.trans (HE32.out.trans (HE33.out.trans (HE34.out.trans (HE35.out.trans (HE36.out.trans (HE37.out.trans (HE38.out.trans (HE39.out.trans (HE40.out.trans (HE41.out.trans (HE42.out.trans (HE43.out.trans (HE44.out.trans (HE45.out.trans (HE46.out.trans (HE47.out.trans (HE48.out.trans (HE49.out.trans (Ext.refl L50)))))))))))))))))))))))))))))))))))))))))))), mv_shr hG (o := 12) (Or.inl rfl) HPA2.out (HC_c2.out _ (HE9.out.trans (HE10.out.trans (HE11.out.trans (HE12.out.trans (HE13.out.trans (HE14.out.trans (HE15.out.trans (HE16.out.trans (HE17.out.trans (HE18.out.trans (HE19.out.trans (HE20.out.trans (HE21.out.trans (HE22.out.trans (HE23.out.trans (HE24.out.trans (HE25.out.trans (HE26.out.trans (HE27.out.trans (HE28.out.trans (HE29.out.trans (HE30.out.trans (HE31.out.trans (HE32.out.trans (HE33.out.trans (HE34.out.trans (HE35.out.trans (HE36.out.trans (HE37.out.trans (HE38.out.trans (HE39.out.trans (HE40.out.trans (HE41.out.trans (HE42.out.trans (HE43.out.trans (HE44.out.trans (HE45.out.trans (HE46.out.trans (HE47.out.trans (HE48.out.trans (HE49.out.trans (Ext.refl L50))))))))))))))))))))))))))))))))))))))))))) e3 (HR_t2.out _ (HE10.out.trans (HE11.out.trans (HE12.out.trans (HE13.out.trans (HE14.out.trans (HE15.out.trans (HE16.out.trans (HE17.out.trans (HE18.out.trans (HE19.out.trans (HE20.out.trans (HE21.out.trans (HE22.out.trans (HE23.out.trans (HE24.out.trans (HE25.out.trans (HE26.out.trans (HE27.out.trans (HE28.out.trans (HE29.out.trans (HE30.out.trans (HE31.out.trans (HE32.out.trans (HE33.out.trans (HE34.out.trans (HE35.out.trans (HE36.out.trans (HE37.out.trans (HE38.out.trans (HE39.out.trans (HE40.out.trans (HE41.out.trans (HE42.out.trans (HE43.out.trans (HE44.out.trans (HE45.out.trans (HE46.out.trans (HE47.out.trans (HE48.out.trans (HE49.out.trans (Ext.refl L50)))))))))))))))))))))))))))))))))))))))))) (HR_u2.out _ (HE12.out.trans (HE13.out.trans (HE14.out.trans (HE15.out.trans (HE16.out.trans (HE17.out.trans (HE18.out.trans (HE19.out.trans (HE20.out.trans (HE21.out.trans (HE22.out.trans (HE23.out.trans (HE24.out.trans (HE25.out.trans (HE26.out.trans (HE27.out.trans (HE28.out.trans (HE29.out.trans (HE30.out.trans (HE31.out.trans (HE32.out.trans (HE33.out.trans (HE34.out.trans (HE35.out.trans (HE36.out.trans (HE37.out.trans (HE38.out.trans (HE39.out.trans (HE40.out.trans (HE41.out.trans (HE42.out.trans (HE43.out.trans (HE44.out.trans (HE45.out.trans (HE46.out.trans (HE47.out.trans (HE48.out.trans (HE49.out.trans (Ext.refl L50)))))))))))))))))))))))))))))))))))))))), mv_shr hG (o := 13) (Or.inr rfl) HPA2.out (HC_c3.out _ (HE13.out.trans (HE14.out.trans (HE15.out.trans (HE16.out.trans (HE17.out.trans (HE18.out.trans (HE19.out.trans (HE20.out.trans (HE21.out.trans (HE22.out.trans (HE23.out.trans (HE24.out.trans (HE25.out.trans (HE26.out.trans (HE27.out.trans (HE28.out.trans (HE29.out.trans (HE30.out.trans (HE31.out.trans (HE32.out.trans (HE33.out.trans (HE34.out.trans (HE35.out.trans (HE36.out.trans (HE37.out.trans (HE38.out.trans (HE39.out.trans (HE40.out.trans (HE41.out.trans (HE42.out.trans (HE43.out.trans (HE44.out.trans (HE45.out.trans (HE46.out.trans (HE47.out.trans (HE48.out.trans (HE49.out.trans (Ext.refl L50))))))))))))))))))))))))))))))))))))))) e4 (HR_t3.out _ (HE14.out.trans (HE15.out.trans (HE16.out.trans (HE17.out.trans (HE18.out.trans (HE19.out.trans (HE20.out.trans (HE21.out.trans (HE22.out.trans (HE23.out.trans (HE24.out.trans (HE25.out.trans (HE26.out.trans (HE27.out.trans (HE28.out.trans (HE29.out.trans (HE30.out.trans (HE31.out.trans (HE32.out.trans (HE33.out.trans (HE34.out.trans (HE35.out.trans (HE36.out.trans (HE37.out.trans (HE38.out.trans (HE39.out.trans (HE40.out.trans (HE41.out.trans (HE42.out.trans (HE43.out.trans (HE44.out.trans (HE45.out.trans (HE46.out.trans (HE47.out.trans (HE48.out.trans (HE49.out.trans (Ext.refl L50)))))))))))))))))))))))))))))))))))))) (HR_u3.out _ (HE16.out.trans (HE17.out.trans (HE18.out.trans (HE19.out.trans (HE20.out.trans (HE21.out.trans (HE22.out.trans (HE23.out.trans (HE24.out.trans (HE25.out.trans (HE26.out.trans (HE27.out.trans (HE28.out.trans (HE29.out.trans (HE30.out.trans (HE31.out.trans (HE32.out.trans (HE33.out.trans (HE34.out.trans (HE35.out.trans (HE36.out.trans (HE37.out.trans (HE38.out.trans (HE39.out.trans (HE40.out.trans (HE41.out.trans (HE42.out.trans (HE43.out.trans (HE44.out.trans (HE45.out.trans (HE46.out.trans (HE47.out.trans (HE48.out.trans (HE49.out.trans (Ext.refl L50)))))))))))))))))))))))))))))))))))), mv_div hG ep HPA2.out (HC_c4.out _ (HE17.out.trans (HE18.out.trans (HE19.out.trans (HE20.out.trans (HE21.out.trans (HE22.out.trans (HE23.out.trans (HE24.out.trans (HE25.out.trans (HE26.out.trans (HE27.out.trans (HE28.out.trans (HE29.out.trans (HE30.out.trans (HE31.out.trans (HE32.out.trans (HE33.out.trans (HE34.out.trans (HE35.out.trans (HE36.out.trans (HE37.out.trans (HE38.out.trans (HE39.out.trans (HE40.out.trans (HE41.out.trans (HE42.out.trans (HE43.out.trans (HE44.out.trans (HE45.out.trans (HE46.out.trans (HE47.out.trans (HE48.out.trans (HE49.out.trans (Ext.refl L50))))))))))))))))))))))))))))))))))) e5 (HR_t4.out _ (HE18.out.trans (HE19.out.trans (HE20.out.trans (HE21.out.trans (HE22.out.trans (HE23.out.trans (HE24.out.trans (HE25.out.trans (HE26.out.trans (HE27.out.trans (HE28.out.trans (HE29.out.trans (HE30.out.trans (HE31.out.trans (HE32.out.trans (HE33.out.trans (HE34.out.trans (HE35.out.trans (HE36.out.trans (HE37.out.trans (HE38.out.trans (HE39.out.trans (HE40.out.trans (HE41.out.trans (HE42.out.trans (HE43.out.trans (HE44.out.trans (HE45.out.trans (HE46.out.trans (HE47.out.trans (HE48.out.trans (HE49.out.trans (Ext.refl L50)))))))))))))))))))))))))))))))))) (HR_u4.out _ (HE20.out.trans (HE21.out.trans (HE22.out.trans (HE23.out.trans (HE24.out.trans (HE25.out.trans (HE26.out.trans (HE27.out.trans (HE28.out.trans (HE29.out.trans (HE30.out.trans (HE31.out.trans (HE32.out.trans (HE33.out.trans (HE34.out.trans (HE35.out.trans (HE36.out.trans (HE37.out.trans (HE38.out.trans (HE39.out.trans (HE40.out.trans (HE41.out.trans (HE42.out.trans (HE43.out.trans (HE44.out.trans (HE45.out.trans (HE46.out.trans (HE47.out.trans (HE48.out.trans (HE49.out.trans (Ext.refl L50)))))))))))))))))))))))))))))))), mv_rem hG ep HPA2.out (HC_c5.out _ (HE21.out.trans (HE22.out.trans (HE23.out.trans (HE24.out.trans (HE25.out.trans (HE26.out.trans (HE27.out.trans (HE28.out.trans (HE29.out.trans (HE30.out.trans (HE31.out.trans (HE32.out.trans (HE33.out.trans (HE34.out.trans (HE35.out.trans (HE36.out.trans (HE37.out.trans (HE38.out.trans (HE39.out.trans (HE40.out.trans (HE41.out.trans (HE42.out.trans (HE43.out.trans (HE44.out.trans (HE45.out.trans (HE46.out.trans (HE47.out.trans (HE48.out.trans (HE49.out.trans (Ext.refl L50))))))))))))))))))))))))))))))) e6 (HR_t5.out _ (HE22.out.trans (HE23.out.trans (HE24.out.trans (HE25.out.trans (HE26.out.trans (HE27.out.trans (HE28.out.trans (HE29.out.trans (HE30.out.trans (HE31.out.trans (HE32.out.trans (HE33.out.trans (HE34.out.trans (HE35.out.trans (HE36.out.trans (HE37.out.trans (HE38.out.trans (HE39.out.trans (HE40.out.trans (HE41.out.trans (HE42.out.trans (HE43.out.trans (HE44.out.trans (HE45.out.trans (HE46.out.trans (HE47.out.trans (HE48.out.trans (HE49.out.trans (Ext.refl L50)))))))))))))))))))))))))))))) (HR_u5.out _ (HE24.out.trans (HE25.out.trans (HE26.out.trans (HE27.out.trans (HE28.out.trans (HE29.out.trans (HE30.out.trans (HE31.out.trans (HE32.out.trans (HE33.out.trans (HE34.out.trans (HE35.out.trans (HE36.out.trans (HE37.out.trans (HE38.out.trans (HE39.out.trans (HE40.out.trans (HE41.out.trans (HE42.out.trans (HE43.out.trans (HE44.out.trans (HE45.out.trans (HE46.out.trans (HE47.out.trans (HE48.out.trans (HE49.out.trans (Ext.refl L50))))))))))))))))))))))))))))⟩
      have HQ1 : Hid (i_t6 = i_u6 ∧ i_t7 = i_u7 ∧ i_t8 = i_u8 ∧ i_t9 = i_u9 ∧ i_t10 = i_u10 ∧ i_t11 = i_u11) := by
        have hG := HS.out.good
        have q6 := mv_eq hG (o := 10) (Or.inr rfl) HPA2.out HPB2.out (HC_z6.out _ (HE26.out.trans (HE27.out.trans (HE28.out.trans (HE29.out.trans (HE30.out.trans (HE31.out.trans (HE32.out.trans (HE33.out.trans (HE34.out.trans (HE35.out.trans (HE36.out.trans (HE37.out.trans (HE38.out.trans (HE39.out.trans (HE40.out.trans (HE41.out.trans (HE42.out.trans (HE43.out.trans (HE44.out.trans (HE45.out.trans (HE46.out.trans (HE47.out.trans (HE48.out.trans (HE49.out.trans (Ext.refl L50)))))))))))))))))))))))))) (HR_x6.out _ (HE25.out.trans (HE26.out.trans (HE27.out.trans (HE28.out.trans (HE29.out.trans (HE30.out.trans (HE31.out.trans (HE32.out.trans (HE33.out.trans (HE34.out.trans (HE35.out.trans (HE36.out.trans (HE37.out.trans (HE38.out.trans (HE39.out.trans (HE40.out.trans (HE41.out.trans (HE42.out.trans (HE43.out.trans (HE44.out.trans (HE45.out.trans (HE46.out.trans (HE47.out.trans (HE48.out.trans (HE49.out.trans (Ext.refl L50))))))))))))))))))))))))))) (HR_t6.out _ (HE27.out.trans (HE28.out.trans (HE29.out.trans (HE30.out.trans (HE31.out.trans (HE32.out.trans (HE33.out.trans (HE34.out.trans (HE35.out.trans (HE36.out.trans (HE37.out.trans (HE38.out.trans (HE39.out.trans (HE40.out.trans (HE41.out.trans (HE42.out.trans (HE43.out.trans (HE44.out.trans (HE45.out.trans (HE46.out.trans (HE47.out.trans (HE48.out.trans (HE49.out.trans (Ext.refl L50))))))))))))))))))))))))) (HR_u6.out _ (HE28.out.trans (HE29.out.trans (HE30.out.trans (HE31.out.trans (HE32.out.trans (HE33.out.trans (HE34.out.trans (HE35.out.trans (HE36.out.trans (HE37.out.trans (HE38.out.trans (HE39.out.trans (HE40.out.trans (HE41.out.trans (HE42.out.trans (HE43.out.trans (HE44.out.trans (HE45.out.trans (HE46.out.trans (HE47.out.trans (HE48.out.trans (HE49.out.trans (Ext.refl L50))))))))))))))))))))))))
        have q7 := mv_eq hG (o := 2) (Or.inl rfl) HPA2.out HPB2.out (HC_z7.out _ (HE30.out.trans (HE31.out.trans (HE32.out.trans (HE33.out.trans (HE34.out.trans (HE35.out.trans (HE36.out.trans (HE37.out.trans (HE38.out.trans (HE39.out.trans (HE40.out.trans (HE41.out.trans (HE42.out.trans (HE43.out.trans (HE44.out.trans (HE45.out.trans (HE46.out.trans (HE47.out.trans (HE48.out.trans (HE49.out.trans (Ext.refl L50)))))))))))))))))))))) (HR_x7.out _ (HE29.out.trans (HE30.out.trans (HE31.out.trans (HE32.out.trans (HE33.out.trans (HE34.out.trans (HE35.out.trans (HE36.out.trans (HE37.out.trans (HE38.out.trans (HE39.out.trans (HE40.out.trans (HE41.out.trans (HE42.out.trans (HE43.out.trans (HE44.out.trans (HE45.out.trans (HE46.out.trans (HE47.out.trans (HE48.out.trans (HE49.out.trans (Ext.refl L50))))))))))))))))))))))) (HR_t7.out _ (HE31.out.trans (HE32.out.trans (HE33.out.trans (HE34.out.trans (HE35.out.trans (HE36.out.trans (HE37.out.trans (HE38.out.trans (HE39.out.trans (HE40.out.trans (HE41.out.trans (HE42.out.trans (HE43.out.trans (HE44.out.trans (HE45.out.trans (HE46.out.trans (HE47.out.trans (HE48.out.trans (HE49.out.trans (Ext.refl L50))))))))))))))))))))) (HR_u7.out _ (HE32.out.trans (HE33.out.trans (HE34.out.trans (HE35.out.trans (HE36.out.trans (HE37.out.trans (HE38.out.trans (HE39.out.trans (HE40.out.trans (HE41.out.trans (HE42.out.trans (HE43.out.trans (HE44.out.trans (HE45.out.trans (HE46.out.trans (HE47.out.trans (HE48.out.trans (HE49.out.trans (Ext.refl L50))))))))))))))))))))
        have e8 : CN L50 (opI 2 d c) i_e8 := by rw [← HEQ.out.2.2.2.2]; exact (HC_e8.out _ (HE37.out.trans (HE38.out.trans (HE39.out.trans (HE40.out.trans (HE41.out.trans (HE42.out.trans (HE43.out.trans (HE44.out.trans (HE45.out.trans (HE46.out.trans (HE47.out.trans (HE48.out.trans (HE49.out.trans (Ext.refl L50)))))))))))))))
        have q8 := mv_add hG HPA2.out (HC_c8.out _ (HE33.out.trans (HE34.out.trans (HE35.out.trans (HE36.out.trans (HE37.out.trans (HE38.out.trans (HE39.out.trans (HE40.out.trans (HE41.out.trans (HE42.out.trans (HE43.out.trans (HE44.out.trans (HE45.out.trans (HE46.out.trans (HE47.out.trans (HE48.out.trans (HE49.out.trans (Ext.refl L50))))))))))))))))))) (HC_d8.out _ (HE35.out.trans (HE36.out.trans (HE37.out.trans (HE38.out.trans (HE39.out.trans (HE40.out.trans (HE41.out.trans (HE42.out.trans (HE43.out.trans (HE44.out.trans (HE45.out.trans (HE46.out.trans (HE47.out.trans (HE48.out.trans (HE49.out.trans (Ext.refl L50))))))))))))))))) e8 (HR_x8.out _ (HE34.out.trans (HE35.out.trans (HE36.out.trans (HE37.out.trans (HE38.out.trans (HE39.out.trans (HE40.out.trans (HE41.out.trans (HE42.out.trans (HE43.out.trans (HE44.out.trans (HE45.out.trans (HE46.out.trans (HE47.out.trans (HE48.out.trans (HE49.out.trans (Ext.refl L50)))))))))))))))))) (HR_t8.out _ (HE36.out.trans (HE37.out.trans (HE38.out.trans (HE39.out.trans (HE40.out.trans (HE41.out.trans (HE42.out.trans (HE43.out.trans (HE44.out.trans (HE45.out.trans (HE46.out.trans (HE47.out.trans (HE48.out.trans (HE49.out.trans (Ext.refl L50)))))))))))))))) (HR_u8.out _ (HE38.out.trans (HE39.out.trans (HE40.out.trans (HE41.out.trans (HE42.out.trans (HE43.out.trans (HE44.out.trans (HE45.out.trans (HE46.out.trans (HE47.out.trans (HE48.out.trans (HE49.out.trans (Ext.refl L50))))))))))))))
        have q9 := mv_ltu hG HPA2.out (HC_o9.out _ (HE39.out.trans (HE40.out.trans (HE41.out.trans (HE42.out.trans (HE43.out.trans (HE44.out.trans (HE45.out.trans (HE46.out.trans (HE47.out.trans (HE48.out.trans (HE49.out.trans (Ext.refl L50))))))))))))) (HC_z9.out _ (HE41.out.trans (HE42.out.trans (HE43.out.trans (HE44.out.trans (HE45.out.trans (HE46.out.trans (HE47.out.trans (HE48.out.trans (HE49.out.trans (Ext.refl L50))))))))))) (HR_t9.out _ (HE40.out.trans (HE41.out.trans (HE42.out.trans (HE43.out.trans (HE44.out.trans (HE45.out.trans (HE46.out.trans (HE47.out.trans (HE48.out.trans (HE49.out.trans (Ext.refl L50)))))))))))) (HR_u9.out _ (HE42.out.trans (HE43.out.trans (HE44.out.trans (HE45.out.trans (HE46.out.trans (HE47.out.trans (HE48.out.trans (HE49.out.trans (Ext.refl L50))))))))))
        obtain ⟨za, hza, ra⟩ := (HR_m10.out _ (HE45.out.trans (HE46.out.trans (HE47.out.trans (HE48.out.trans (HE49.out.trans (Ext.refl L50)))))))
        obtain ⟨zb, hzb, rb⟩ := (HR_u10.out _ (HE46.out.trans (HE47.out.trans (HE48.out.trans (HE49.out.trans (Ext.refl L50))))))
        rw [hza.eq hG (HC_z10.out _ (HE43.out.trans (HE44.out.trans (HE45.out.trans (HE46.out.trans (HE47.out.trans (HE48.out.trans (HE49.out.trans (Ext.refl L50)))))))))] at ra
        rw [hzb.eq hG (HC_z10.out _ (HE43.out.trans (HE44.out.trans (HE45.out.trans (HE46.out.trans (HE47.out.trans (HE48.out.trans (HE49.out.trans (Ext.refl L50)))))))))] at rb
        have q10 := mv_nn hG HPA2.out (HC_z10.out _ (HE43.out.trans (HE44.out.trans (HE45.out.trans (HE46.out.trans (HE47.out.trans (HE48.out.trans (HE49.out.trans (Ext.refl L50))))))))) (HR_t10.out _ (HE44.out.trans (HE45.out.trans (HE46.out.trans (HE47.out.trans (HE48.out.trans (HE49.out.trans (Ext.refl L50)))))))) ra rb
        have qx := ((HR_x11.out _ (HE47.out.trans (HE48.out.trans (HE49.out.trans (Ext.refl L50)))))).eq hG (HR_x6.out _ (HE25.out.trans (HE26.out.trans (HE27.out.trans (HE28.out.trans (HE29.out.trans (HE30.out.trans (HE31.out.trans (HE32.out.trans (HE33.out.trans (HE34.out.trans (HE35.out.trans (HE36.out.trans (HE37.out.trans (HE38.out.trans (HE39.out.trans (HE40.out.trans (HE41.out.trans (HE42.out.trans (HE43.out.trans (HE44.out.trans (HE45.out.trans (HE46.out.trans (HE47.out.trans (HE48.out.trans (HE49.out.trans (Ext.refl L50)))))))))))))))))))))))))))
        have hpx : Pl L50 i_x6 := run_pl hG (HR_x6.out _ (HE25.out.trans (HE26.out.trans (HE27.out.trans (HE28.out.trans (HE29.out.trans (HE30.out.trans (HE31.out.trans (HE32.out.trans (HE33.out.trans (HE34.out.trans (HE35.out.trans (HE36.out.trans (HE37.out.trans (HE38.out.trans (HE39.out.trans (HE40.out.trans (HE41.out.trans (HE42.out.trans (HE43.out.trans (HE44.out.trans (HE45.out.trans (HE46.out.trans (HE47.out.trans (HE48.out.trans (HE49.out.trans (Ext.refl L50))))))))))))))))))))))))))) ⟨(by show (1 : Int) ≤ 10; decide), (by show (10 : Int) ≤ 16; decide), HBA.out, HBB.out⟩ HPA2.out HPB2.out
        have r11 := (HR_t11.out _ (HE49.out.trans (Ext.refl L50)))
        rw [qx] at r11
        have q11 := mv_ltu hG hpx (HC_o11.out _ (HE48.out.trans (HE49.out.trans (Ext.refl L50)))) (HC_z6.out _ (HE26.out.trans (HE27.out.trans (HE28.out.trans (HE29.out.trans (HE30.out.trans (HE31.out.trans (HE32.out.trans (HE33.out.trans (HE34.out.trans (HE35.out.trans (HE36.out.trans (HE37.out.trans (HE38.out.trans (HE39.out.trans (HE40.out.trans (HE41.out.trans (HE42.out.trans (HE43.out.trans (HE44.out.trans (HE45.out.trans (HE46.out.trans (HE47.out.trans (HE48.out.trans (HE49.out.trans (Ext.refl L50)))))))))))))))))))))))))) r11 (HR_t6.out _ (HE27.out.trans (HE28.out.trans (HE29.out.trans (HE30.out.trans (HE31.out.trans (HE32.out.trans (HE33.out.trans (HE34.out.trans (HE35.out.trans (HE36.out.trans (HE37.out.trans (HE38.out.trans (HE39.out.trans (HE40.out.trans (HE41.out.trans (HE42.out.trans (HE43.out.trans (HE44.out.trans (HE45.out.trans (HE46.out.trans (HE47.out.trans (HE48.out.trans (HE49.out.trans (Ext.refl L50)))))))))))))))))))))))))
        have qe := ((HR_u11.out _ (Ext.refl L50))).eq hG (HR_u6.out _ (HE28.out.trans (HE29.out.trans (HE30.out.trans (HE31.out.trans (HE32.out.trans (HE33.out.trans (HE34.out.trans (HE35.out.trans (HE36.out.trans (HE37.out.trans (HE38.out.trans (HE39.out.trans (HE40.out.trans (HE41.out.trans (HE42.out.trans (HE43.out.trans (HE44.out.trans (HE45.out.trans (HE46.out.trans (HE47.out.trans (HE48.out.trans (HE49.out.trans (Ext.refl L50))))))))))))))))))))))))
        exact ⟨q6, q7, q8, q9, q10, q11.trans (q6.trans qe.symm)⟩
      have HB : Hid (i_u0 ≠ -1 ∧ i_u1 ≠ -1 ∧ i_u2 ≠ -1 ∧ i_u3 ≠ -1 ∧ i_u4 ≠ -1 ∧ i_u5 ≠ -1 ∧ i_u6 ≠ -1 ∧ i_u7 ≠ -1 ∧ i_u8 ≠ -1 ∧ i_u9 ≠ -1 ∧ i_u10 ≠ -1 ∧ i_u11 ≠ -1) := by
        have hG := HS.out.good
        have ne : ∀ {o y i : Int}, Run L50 ⟨o, i_a, y⟩ i → 1 ≤ o → o ≤ 16 → hasB L50.length y = true → i ≠ -1 := fun r h1 h2 hy => by
          have := ((hasB_iff _ _).1 (run_has hG r ⟨h1, h2, HBA.out, hy⟩)).1
          omega
        obtain ⟨zb, hzb, rb⟩ := (HR_u10.out _ (HE46.out.trans (HE47.out.trans (HE48.out.trans (HE49.out.trans (Ext.refl L50))))))
        obtain ⟨za, hza, ra⟩ := (HR_m10.out _ (HE45.out.trans (HE46.out.trans (HE47.out.trans (HE48.out.trans (HE49.out.trans (Ext.refl L50)))))))
        refine ⟨ne (HR_u0.out _ (HE4.out.trans (HE5.out.trans (HE6.out.trans (HE7.out.trans (HE8.out.trans (HE9.out.trans (HE10.out.trans (HE11.out.trans (HE12.out.trans (HE13.out.trans (HE14.out.trans (HE15.out.trans (HE16.out.trans (HE17.out.trans (HE18.out.trans (HE19.out.trans (HE20.out.trans (HE21.out.trans (HE22.out.trans (HE23.out.trans (HE24.out.trans (HE25.out.trans (HE26.out.trans (HE27.out.trans (HE28.out.trans (HE29.out.trans (HE30.out.trans (HE31.out.trans (HE32.out.trans (HE33.out.trans (HE34.out.trans (HE35.out.trans (HE36.out.trans (HE37.out.trans (HE38.out.trans (HE39.out.trans (HE40.out.trans (HE41.out.trans (HE42.out.trans (HE43.out.trans (HE44.out.trans (HE45.out.trans (HE46.out.trans (HE47.out.trans (HE48.out.trans (HE49.out.trans (Ext.refl L50)))))))))))))))))))))))))))))))))))))))))))))))) (by decide) (by decide) (HC_n0.out _ (HE3.out.trans (HE4.out.trans (HE5.out.trans (HE6.out.trans (HE7.out.trans (HE8.out.trans (HE9.out.trans (HE10.out.trans (HE11.out.trans (HE12.out.trans (HE13.out.trans (HE14.out.trans (HE15.out.trans (HE16.out.trans (HE17.out.trans (HE18.out.trans (HE19.out.trans (HE20.out.trans (HE21.out.trans (HE22.out.trans (HE23.out.trans (HE24.out.trans (HE25.out.trans (HE26.out.trans (HE27.out.trans (HE28.out.trans (HE29.out.trans (HE30.out.trans (HE31.out.trans (HE32.out.trans (HE33.out.trans (HE34.out.trans (HE35.out.trans (HE36.out.trans (HE37.out.trans (HE38.out.trans (HE39.out.trans (HE40.out.trans (HE41.out.trans (HE42.out.trans (HE43.out.trans (HE44.out.trans (HE45.out.trans (HE46.out.trans (HE47.out.trans (HE48.out.trans (HE49.out.trans (Ext.refl L50))))))))))))))))))))))))))))))))))))))))))))))))).1, ne (HR_u1.out _ (HE8.out.trans (HE9.out.trans (HE10.out.trans (HE11.out.trans (HE12.out.trans (HE13.out.trans (HE14.out.trans (HE15.out.trans (HE16.out.trans (HE17.out.trans (HE18.out.trans (HE19.out.trans (HE20.out.trans (HE21.out.trans (HE22.out.trans (HE23.out.trans (HE24.out.trans (HE25.out.trans (HE26.out.trans (HE27.out.trans (HE28.out.trans (HE29.out.trans (HE30.out.trans (HE31.out.trans (HE32.out.trans (HE33.out.trans (HE34.out.trans (HE35.out.trans (HE36.out.trans (HE37.out.trans (HE38.out.trans (HE39.out.trans (HE40.out.trans (HE41.out.trans (HE42.out.trans (HE43.out.trans (HE44.out.trans (HE45.out.trans (HE46.out.trans (HE47.out.trans (HE48.out.trans (HE49.out.trans (Ext.refl L50)))))))))))))))))))))))))))))))))))))))))))) (by decide) (by decide) (HC_n1.out _ (HE7.out.trans (HE8.out.trans (HE9.out.trans (HE10.out.trans (HE11.out.trans (HE12.out.trans (HE13.out.trans (HE14.out.trans (HE15.out.trans (HE16.out.trans (HE17.out.trans (HE18.out.trans (HE19.out.trans (HE20.out.trans (HE21.out.trans (HE22.out.trans (HE23.out.trans (HE24.out.trans (HE25.out.trans (HE26.out.trans (HE27.out.trans (HE28.out.trans (HE29.out.trans (HE30.out.trans (HE31.out.trans (HE32.out.trans (HE33.out.trans (HE34.out.trans (HE35.out.trans (HE36.out.trans (HE37.out.trans (HE38.out.trans (HE39.out.trans (HE40.out.trans (HE41.out.trans (HE42.out.trans (HE43.out.trans (HE44.out.trans (HE45.out.trans (HE46.out.trans (HE47.out.trans (HE48.out.trans (HE49.out.trans (Ext.refl L50))))))))))))))))))))))))))))))))))))))))))))).1, ne (HR_u2.out _ (HE12.out.trans (HE13.out.trans (HE14.out.trans (HE15.out.trans (HE16.out.trans (HE17.out.trans (HE18.out.trans (HE19.out.trans (HE20.out.trans (HE21.out.trans (HE22.out.trans (HE23.out.trans (HE24.out.trans (HE25.out.trans (HE26.out.trans (HE27.out.trans (HE28.out.trans (HE29.out.trans (HE30.out.trans (HE31.out.trans (HE32.out.trans (HE33.out.trans (HE34.out.trans (HE35.out.trans (HE36.out.trans (HE37.out.trans (HE38.out.trans (HE39.out.trans (HE40.out.trans (HE41.out.trans (HE42.out.trans (HE43.out.trans (HE44.out.trans (HE45.out.trans (HE46.out.trans (HE47.out.trans (HE48.out.trans (HE49.out.trans (Ext.refl L50)))))))))))))))))))))))))))))))))))))))) (by decide) (by decide) (HC_n2.out _ (HE11.out.trans (HE12.out.trans (HE13.out.trans (HE14.out.trans (HE15.out.trans (HE16.out.trans (HE17.out.trans (HE18.out.trans (HE19.out.trans (HE20.out.trans (HE21.out.trans (HE22.out.trans (HE23.out.trans (HE24.out.trans (HE25.out.trans (HE26.out.trans (HE27.out.trans (HE28.out.trans (HE29.out.trans (HE30.out.trans (HE31.out.trans (HE32.out.trans (HE33.out.trans (HE34.out.trans (HE35.out.trans (HE36.out.trans (HE37.out.trans (HE38.out.trans (HE39.out.trans (HE40.out.trans (HE41.out.trans (HE42.out.trans (HE43.out.trans (HE44.out.trans (HE45.out.trans (HE46.out.trans (HE47.out.trans (HE48.out.trans (HE49.out.trans (Ext.refl L50))))))))))))))))))))))))))))))))))))))))).1, ne (HR_u3.out _ (HE16.out.trans (HE17.out.trans (HE18.out.trans (HE19.out.trans (HE20.out.trans (HE21.out.trans (HE22.out.trans (HE23.out.trans (HE24.out.trans (HE25.out.trans (HE26.out.trans (HE27.out.trans (HE28.out.trans (HE29.out.trans (HE30.out.trans (HE31.out.trans (HE32.out.trans (HE33.out.trans (HE34.out.trans (HE35.out.trans (HE36.out.trans (HE37.out.trans (HE38.out.trans (HE39.out.trans (HE40.out.trans (HE41.out.trans (HE42.out.trans (HE43.out.trans (HE44.out.trans (HE45.out.trans (HE46.out.trans (HE47.out.trans (HE48.out.trans (HE49.out.trans (Ext.refl L50)))))))))))))))))))))))))))))))))))) (by decide) (by decide) (HC_n3.out _ (HE15.out.trans (HE16.out.trans (HE17.out.trans (HE18.out.trans (HE19.out.trans (HE20.out.trans (HE21.out.trans (HE22.out.trans (HE23.out.trans (HE24.out.trans (HE25.out.trans (HE26.out.trans (HE27.out.trans (HE28.out.trans (HE29.out.trans (HE30.out.trans (HE31.out.trans (HE32.out.trans (HE33.out.trans (HE34.out.trans (HE35.out.trans (HE36.out.trans (HE37.out.trans (HE38.out.trans (HE39.out.trans (HE40.out.trans (HE41.out.trans (HE42.out.trans (HE43.out.trans (HE44.out.trans (HE45.out.trans (HE46.out.trans (HE47.out.trans (HE48.out.trans (HE49.out.trans (Ext.refl L50))))))))))))))))))))))))))))))))))))).1, ne (HR_u4.out _ (HE20.out.trans (HE21.out.trans (HE22.out.trans (HE23.out.trans (HE24.out.trans (HE25.out.trans (HE26.out.trans (HE27.out.trans (HE28.out.trans (HE29.out.trans (HE30.out.trans (HE31.out.trans (HE32.out.trans (HE33.out.trans (HE34.out.trans (HE35.out.trans (HE36.out.trans (HE37.out.trans (HE38.out.trans (HE39.out.trans (HE40.out.trans (HE41.out.trans (HE42.out.trans (HE43.out.trans (HE44.out.trans (HE45.out.trans (HE46.out.trans (HE47.out.trans (HE48.out.trans (HE49.out.trans (Ext.refl L50)))))))))))))))))))))))))))))))) (by decide) (by decide) (HC_n4.out _ (HE19.out.trans (HE20.out.trans (HE21.out.trans (HE22.out.trans (HE23.out.trans (HE24.out.trans (HE25.out.trans (HE26.out.trans (HE27.out.trans (HE28.out.trans (HE29.out.trans (HE30.out.trans (HE31.out.trans (HE32.out.trans (HE33.out.trans (HE34.out.trans (HE35.out.trans (HE36.out.trans (HE37.out.trans (HE38.out.trans (HE39.out.trans (HE40.out.trans (HE41.out.trans (HE42.out.trans (HE43.out.trans (HE44.out.trans (HE45.out.trans (HE46.out.trans (HE47.out.trans (HE48.out.trans (HE49.out.trans (Ext.refl L50))))))))))))))))))))))))))))))))).1, ne (HR_u5.out _ (HE24.out.trans (HE25.out.trans (HE26.out.trans (HE27.out.trans (HE28.out.trans (HE29.out.trans (HE30.out.trans (HE31.out.trans (HE32.out.trans (HE33.out.trans (HE34.out.trans (HE35.out.trans (HE36.out.trans (HE37.out.trans (HE38.out.trans (HE39.out.trans (HE40.out.trans (HE41.out.trans (HE42.out.trans (HE43.out.trans (HE44.out.trans (HE45.out.trans (HE46.out.trans (HE47.out.trans (HE48.out.trans (HE49.out.trans (Ext.refl L50)))))))))))))))))))))))))))) (by decide) (by decide) (HC_n5.out _ (HE23.out.trans (HE24.out.trans (HE25.out.trans (HE26.out.trans (HE27.out.trans (HE28.out.trans (HE29.out.trans (HE30.out.trans (HE31.out.trans (HE32.out.trans (HE33.out.trans (HE34.out.trans (HE35.out.trans (HE36.out.trans (HE37.out.trans (HE38.out.trans (HE39.out.trans (HE40.out.trans (HE41.out.trans (HE42.out.trans (HE43.out.trans (HE44.out.trans (HE45.out.trans (HE46.out.trans (HE47.out.trans (HE48.out.trans (HE49.out.trans (Ext.refl L50))))))))))))))))))))))))))))).1, ne (HR_u6.out _ (HE28.out.trans (HE29.out.trans (HE30.out.trans (HE31.out.trans (HE32.out.trans (HE33.out.trans (HE34.out.trans (HE35.out.trans (HE36.out.trans (HE37.out.trans (HE38.out.trans (HE39.out.trans (HE40.out.trans (HE41.out.trans (HE42.out.trans (HE43.out.trans (HE44.out.trans (HE45.out.trans (HE46.out.trans (HE47.out.trans (HE48.out.trans (HE49.out.trans (Ext.refl L50)))))))))))))))))))))))) (by decide) (by decide) HBB.out, ne (HR_u7.out _ (HE32.out.trans (HE33.out.trans (HE34.out.trans (HE35.out.trans (HE36.out.trans (HE37.out.trans (HE38.out.trans (HE39.out.trans (HE40.out.trans (HE41.out.trans (HE42.out.trans (HE43.out.trans (HE44.out.trans (HE45.out.trans (HE46.out.trans (HE47.out.trans (HE48.out.trans (HE49.out.trans (Ext.refl L50)))))))))))))))))))) (by decide) (by decide) HBB.out, ne (HR_u8.out _ (HE38.out.trans (HE39.out.trans (HE40.out.trans (HE41.out.trans (HE42.out.trans (HE43.out.trans (HE44.out.trans (HE45.out.trans (HE46.out.trans (HE47.out.trans (HE48.out.trans (HE49.out.trans (Ext.refl L50)))))))))))))) (by decide) (by decide) (HC_e8.out _ (HE37.out.trans (HE38.out.trans (HE39.out.trans (HE40.out.trans (HE41.out.trans (HE42.out.trans (HE43.out.trans (HE44.out.trans (HE45.out.trans (HE46.out.trans (HE47.out.trans (HE48.out.trans (HE49.out.trans (Ext.refl L50))))))))))))))).1, ne (HR_u9.out _ (HE42.out.trans (HE43.out.trans (HE44.out.trans (HE45.out.trans (HE46.out.trans (HE47.out.trans (HE48.out.trans (HE49.out.trans (Ext.refl L50)))))))))) (by decide) (by decide) (HC_z9.out _ (HE41.out.trans (HE42.out.trans (HE43.out.trans (HE44.out.trans (HE45.out.trans (HE46.out.trans (HE47.out.trans (HE48.out.trans (HE49.out.trans (Ext.refl L50))))))))))).1, ?_, ne (HR_u11.out _ (Ext.refl L50)) (by decide) (by decide) HBB.out⟩
        have hm := run_has hG ra ⟨(by show (1 : Int) ≤ 16; decide), (by show (16 : Int) ≤ 16; decide), HBA.out, hza.1⟩
        have := ((hasB_iff _ _).1 (run_has hG rb ⟨(by show (1 : Int) ≤ 16; decide), (by show (16 : Int) ≤ 16; decide), hm, hzb.1⟩)).1
        omega
      rw [HQ0.out.1, HQ0.out.2.1, HQ0.out.2.2.1, HQ0.out.2.2.2.1, HQ0.out.2.2.2.2.1, HQ0.out.2.2.2.2.2, HQ1.out.1, HQ1.out.2.1, HQ1.out.2.2.1, HQ1.out.2.2.2.1, HQ1.out.2.2.2.2.1, HQ1.out.2.2.2.2.2]
      clear hneg hp1 hdc
      have HKL := Lib.hid HS.out.kept
      go_upto_region 10 with (fail)
      obtain ⟨ob, hob⟩ : ∃ ob : Nat, ob = w50.heap.size := ⟨_, rfl⟩
      obtain ⟨W5, hW5⟩ : ∃ W5 : World, W5 = w50.alloc (Obj.cells #[Value.int IntKind.i64 i_u0, Value.int IntKind.i64 i_u0, Value.int IntKind.i64 i_u1, Value.int IntKind.i64 i_u1, Value.int IntKind.i64 i_u2, Value.int IntKind.i64 i_u2, Value.int IntKind.i64 i_u3, Value.int IntKind.i64 i_u3, Value.int IntKind.i64 i_u4, Value.int IntKind.i64 i_u4, Value.int IntKind.i64 i_u5, Value.int IntKind.i64 i_u5, Value.int IntKind.i64 i_u6, Value.int IntKind.i64 i_u6, Value.int IntKind.i64 i_u7, Value.int IntKind.i64 i_u7, Value.int IntKind.i64 i_u8, Value.int IntKind.i64 i_u8, Value.int IntKind.i64 i_u9, Value.int IntKind.i64 i_u9, Value.int IntKind.i64 i_u10, Value.int IntKind.i64 i_u10, Value.int IntKind.i64 i_u11, Value.int IntKind.i64 i_u11] 61) := ⟨_, rfl⟩
      have HROW : Hid (∀ q : Nat, q < 12 → ∃ v : Int, v ≠ -1 ∧ W5.cell? ⟨ob, q * 2, none⟩ = some (.int .i64 v) ∧ W5.cell? ⟨ob, q * 2 + 1, none⟩ = some (.int .i64 v)) := by
        have hb := (MapKept.heap_alloc w50 (Obj.cells #[Value.int IntKind.i64 i_u0, Value.int IntKind.i64 i_u0, Value.int IntKind.i64 i_u1, Value.int IntKind.i64 i_u1, Value.int IntKind.i64 i_u2, Value.int IntKind.i64 i_u2, Value.int IntKind.i64 i_u3, Value.int IntKind.i64 i_u3, Value.int IntKind.i64 i_u4, Value.int IntKind.i64 i_u4, Value.int IntKind.i64 i_u5, Value.int IntKind.i64 i_u5, Value.int IntKind.i64 i_u6, Value.int IntKind.i64 i_u6, Value.int IntKind.i64 i_u7, Value.int IntKind.i64 i_u7, Value.int IntKind.i64 i_u8, Value.int IntKind.i64 i_u8, Value.int IntKind.i64 i_u9, Value.int IntKind.i64 i_u9, Value.int IntKind.i64 i_u10, Value.int IntKind.i64 i_u10, Value.int IntKind.i64 i_u11, Value.int IntKind.i64 i_u11] 61)).1
        rw [← hW5, ← hob] at hb
        intro q hq
        obtain ⟨b0, b1, b2, b3, b4, b5, b6, b7, b8, b9, b10, b11⟩ := HB.out
        obtain rfl | rfl | rfl | rfl | rfl | rfl | rfl | rfl | rfl | rfl | rfl | rfl : q = 0 ∨ q = 1 ∨ q = 2 ∨ q = 3 ∨ q = 4 ∨ q = 5 ∨ q = 6 ∨ q = 7 ∨ q = 8 ∨ q = 9 ∨ q = 10 ∨ q = 11 := by omega
        · exact ⟨_, b0, (cell_of_row _ _ _ _ _ _ hb).trans rfl, (cell_of_row _ _ _ _ _ _ hb).trans rfl⟩
        · exact ⟨_, b1, (cell_of_row _ _ _ _ _ _ hb).trans rfl, (cell_of_row _ _ _ _ _ _ hb).trans rfl⟩
        · exact ⟨_, b2, (cell_of_row _ _ _ _ _ _ hb).trans rfl, (cell_of_row _ _ _ _ _ _ hb).trans rfl⟩
        · exact ⟨_, b3, (cell_of_row _ _ _ _ _ _ hb).trans rfl, (cell_of_row _ _ _ _ _ _ hb).trans rfl⟩
        · exact ⟨_, b4, (cell_of_row _ _ _ _ _ _ hb).trans rfl, (cell_of_row _ _ _ _ _ _ hb).trans rfl⟩
        · exact ⟨_, b5, (cell_of_row _ _ _ _ _ _ hb).trans rfl, (cell_of_row _ _ _ _ _ _ hb).trans rfl⟩
        · exact ⟨_, b6, (cell_of_row _ _ _ _ _ _ hb).trans rfl, (cell_of_row _ _ _ _ _ _ hb).trans rfl⟩
        · exact ⟨_, b7, (cell_of_row _ _ _ _ _ _ hb).trans rfl, (cell_of_row _ _ _ _ _ _ hb).trans rfl⟩
        · exact ⟨_, b8, (cell_of_row _ _ _ _ _ _ hb).trans rfl, (cell_of_row _ _ _ _ _ _ hb).trans rfl⟩
        · exact ⟨_, b9, (cell_of_row _ _ _ _ _ _ hb).trans rfl, (cell_of_row _ _ _ _ _ _ hb).trans rfl⟩
        · exact ⟨_, b10, (cell_of_row _ _ _ _ _ _ hb).trans rfl, (cell_of_row _ _ _ _ _ _ hb).trans rfl⟩
        · exact ⟨_, b11, (cell_of_row _ _ _ _ _ _ hb).trans rfl, (cell_of_row _ _ _ _ _ _ hb).trans rfl⟩
      have HKW : Hid (Kept w W5) := by rw [hW5]; exact HKL.out.alloc _
      change Code.wp _ _ _ _ (w50.alloc (Obj.cells #[Value.int IntKind.i64 i_u0, Value.int IntKind.i64 i_u0, Value.int IntKind.i64 i_u1, Value.int IntKind.i64 i_u1, Value.int IntKind.i64 i_u2, Value.int IntKind.i64 i_u2, Value.int IntKind.i64 i_u3, Value.int IntKind.i64 i_u3, Value.int IntKind.i64 i_u4, Value.int IntKind.i64 i_u4, Value.int IntKind.i64 i_u5, Value.int IntKind.i64 i_u5, Value.int IntKind.i64 i_u6, Value.int IntKind.i64 i_u6, Value.int IntKind.i64 i_u7, Value.int IntKind.i64 i_u7, Value.int IntKind.i64 i_u8, Value.int IntKind.i64 i_u8, Value.int IntKind.i64 i_u9, Value.int IntKind.i64 i_u9, Value.int IntKind.i64 i_u10, Value.int IntKind.i64 i_u10, Value.int IntKind.i64 i_u11, Value.int IntKind.i64 i_u11] 61))
      rw [← hW5, ← hob]
      clear hW5 hob
      have HW5 : Hid (Laid W5 ∧ Tab W5) := ⟨HL.out.1.kept HKW.out, HL.out.2.below HKW.out⟩
      clear HS HN HQ0 HQ1 HB
      go_loopw [19] (fun i wr => ∃ q : Nat, q ≤ 12 ∧ i = .int .i64 q ∧ Hid (Kept W5 wr)) (fun i _ => 12 - (intOf i).toNat)
      case atStart => exact ⟨0, by decide, rfl, Kept.refl _⟩
      case round =>
        obtain ⟨q, hq, rfl, hkr⟩ := hrel
        by_cases hlt : q < 12
        · obtain ⟨v, hv, c0', c1'⟩ := HROW.out q hlt
          have c0 := hkr.out.cell c0'
          have c1 := hkr.out.cell c1'
          clear c0' c1'
          have n0 : (v != v) = false := by simp
          have n1 : (v == -1) = false := beq_eq_false_iff_ne.2 hv
          have i1 : (q : Int) < 12 := by omega
          have q1 : (q : Int) + 1 ≤ 12 := by omega
          go_wp2
          go_region
          clear c0 c1
          generalize hwx : wr.drew = wx
          have HKX : Hid (Kept W5 wx) := by
            show Kept W5 wx
            rw [← hwx]
            exact hkr.out.drew
          clear hwx
          go_wp2
          go_roundw
          case rel => exact ⟨q + 1, by omega, by go_num, HKX⟩
          case measure => simp [intOf]; omega
        · obtain rfl : q = 12 := by omega
          go_wp2_with fail
          refine (works_any _ (HW5.out.1.kept hkr.out) (HW5.out.2.below hkr.out)).mono ?_
          rintro e w52 ⟨rfl, hk⟩
          have HK9 := Lib.hid (HKW.out.trans (hkr.out.trans hk))
          clear hk
          go_wp2
          go_ret
          exact ⟨rfl, HK9.out⟩
  · have d30 : decide ((30 : Int) < (n : Int)) = true := decide_eq_true (by omega)
    go_wp2_with fail
    refine (works_any _ HL.out.1 HL.out.2).mono ?_
    rintro e w2 ⟨rfl, hk2⟩
    have HK2 := Lib.hid hk2
    clear hk2
    go_wp2
    go_ret
    exact ⟨rfl, HK2.out⟩
end Go.Proofs.YtgkjdmojbndicaaGreatDoor
