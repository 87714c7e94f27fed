/-
  Layer 1, WordMoves: its walk: moves one behind the other are one move, up and down again the upper bits are gone, of all numbers.
-/
import Derived.Test.YtfibonciioipnaaDoorWorks
import Derived.Test.YtfibonciioipnaaDoorOrderM
namespace Go.Proofs.YtfibonciioipnaaDoor
open Go.RowKit

namespace Mov
theorem bnf {a b : Int} (h : a = b) : (a != b) = false := by rw [bne_eq_false_iff_eq]; exact h
theorem beq {a b : Int} (h : a = b) : (a == b) = true := beq_iff_eq.2 h
theorem small (m : Nat) (h : m < 64) : (bv (m : Int)).toNat % 64 = m := by
  rw [Pw.toNat_bv m (by omega), Nat.mod_eq_of_lt h]
theorem up (x : BitVec 64) (m n : Nat) : x <<< m <<< n = x <<< (m + n) := (BitVec.shiftLeft_add x m n).symm
theorem down (x : BitVec 64) (m n : Nat) : x >>> m >>> n = x >>> (m + n) := (BitVec.shiftRight_add x m n).symm
theorem sown (x : BitVec 64) (m n : Nat) : (x.sshiftRight m).sshiftRight n = x.sshiftRight (m + n) := BitVec.sshiftRight_add.symm
theorem two (k : Int) (hk : k = 11 ∨ k = 12 ∨ k = 13) (a : Int) (m n : Nat) (h : m + n < 64) : opI k (opI k a m) n = opI k a ((m : Int) + (n : Int)) := by
  have hm := small m (by omega)
  have hn := small n (by omega)
  have hs := small (m + n) h
  rw [Int.natCast_add] at hs
  rcases hk with rfl | rfl | rfl
  · show (bv (opI 11 a m) <<< ((bv (n : Int)).toNat % 64)).toInt = (bv a <<< ((bv ((m : Int) + (n : Int))).toNat % 64)).toInt
    rw [bv_opI, hn, hs, ← up]
    show ((bv a <<< ((bv (m : Int)).toNat % 64)) <<< n).toInt = _
    rw [hm]
  · show (bv (opI 12 a m) >>> ((bv (n : Int)).toNat % 64)).toInt = (bv a >>> ((bv ((m : Int) + (n : Int))).toNat % 64)).toInt
    rw [bv_opI, hn, hs, ← down]
    show ((bv a >>> ((bv (m : Int)).toNat % 64)) >>> n).toInt = _
    rw [hm]
  · show ((bv (opI 13 a m)).sshiftRight ((bv (n : Int)).toNat % 64)).toInt = ((bv a).sshiftRight ((bv ((m : Int) + (n : Int))).toNat % 64)).toInt
    rw [bv_opI, hn, hs, ← sown]
    show (((bv a).sshiftRight ((bv (m : Int)).toNat % 64)).sshiftRight n).toInt = _
    rw [hm]
theorem low (k : Int) (hk : k = 11 ∨ k = 12 ∨ k = 13) (a x : Int) : opI k a x = opI k a (far x : Int) := by
  have hm := small (far x) (far_lt x)
  rcases hk with rfl | rfl | rfl
  · show (bv a <<< (far x)).toInt = (bv a <<< ((bv (far x : Int)).toNat % 64)).toInt
    rw [hm]
  · show (bv a >>> (far x)).toInt = (bv a >>> ((bv (far x : Int)).toNat % 64)).toInt
    rw [hm]
  · show ((bv a).sshiftRight (far x)).toInt = ((bv a).sshiftRight ((bv (far x : Int)).toNat % 64)).toInt
    rw [hm]
theorem back (a : Int) (m : Nat) (h : m < 64) : opI 12 (opI 11 a m) m = opI 8 a (opI 12 (-1) m) := by
  have hm := small m h
  show (bv (opI 11 a m) >>> ((bv (m : Int)).toNat % 64)).toInt = (bv a &&& bv (opI 12 (-1) m)).toInt
  rw [bv_opI, bv_opI, hm]
  show ((bv a <<< ((bv (m : Int)).toNat % 64)) >>> m).toInt = (bv a &&& (bv (-1) >>> ((bv (m : Int)).toNat % 64))).toInt
  rw [hm]
  refine congrArg BitVec.toInt ?_
  show _ = bv a &&& (BitVec.allOnes 64 >>> m)
  apply BitVec.eq_of_getLsbD_eq
  intro i hi
  rw [BitVec.getLsbD_and, BitVec.getLsbD_ushiftRight, BitVec.getLsbD_ushiftRight, BitVec.getLsbD_shiftLeft, BitVec.getLsbD_allOnes]
  by_cases hc : m + i < 64
  · simp [hc]
  · simp [hc]
theorem same {a : Int} (ha : InR a) (h : ¬ a < 0) (m : Nat) : opI 13 a m = opI 12 a m := by
  show ((bv a).sshiftRight ((bv (m : Int)).toNat % 64)).toInt = (bv a >>> ((bv (m : Int)).toNat % 64)).toInt
  have hb : (bv a).msb = false := by
    rw [BitVec.msb_eq_toInt, toInt_bv ha]; simpa using h
  rw [BitVec.sshiftRight_eq_of_msb_false hb]
theorem and63i (x : Int) : bits .and .i64 x 63 = (far x : Int) := by
  have e : (bv x &&& bv 63) = bv (far x : Int) := by
    apply BitVec.eq_of_toNat_eq
    rw [BitVec.toNat_and, Pw.toNat_bv (far x) (by have := far_lt x; omega)]
    show (bv x).toNat &&& 63 = _
    rw [show (63 : Nat) = 2 ^ 6 - 1 from rfl, Nat.and_two_pow_sub_one_eq_mod]; rfl
  rw [and_i64, e, toInt_bv ⟨by omega, by have := far_lt x; omega⟩]
end Mov

set_option maxHeartbeats 4000000 in
theorem moves_any (a x y : Int) (w : World) (ha : InR a) (hx : InR x) (_hy : InR y) (hT : Tab w) :
    Calls Tryd.prog 7 #[.int .i64 a, .int .i64 x, .int .i64 y] w fun e w' => e = .returned (.bool true) ∧ Kept w w' := by
  have HT := Lib.hid hT; clear hT
  have hQ := Kept.refl w
  have ex := Mov.and63i x
  have ey := Mov.and63i y
  have lm := far_lt x
  have ln := far_lt y
  have l1 := Mov.bnf (Mov.low 11 (by decide) a x)
  have l2 := Mov.bnf (Mov.low 12 (by decide) a x)
  have l3 := Mov.bnf (Mov.low 13 (by decide) a x)
  have bk := Mov.bnf (Mov.back a (far x) lm)
  have tw := fun k hk h => Mov.bnf (Mov.two k hk a (far x) (far y) h)
  have sm := fun h => Mov.beq (Mov.same ha h (far x))
  have im : InR (far x : Int) := ⟨by omega, by omega⟩
  have iy : InR (far y : Int) := ⟨by omega, by omega⟩
  have is : InR ((far x : Int) + (far y : Int)) := ⟨by omega, by omega⟩
  generalize far x = m at *
  generalize far y = n at *
  have TW := Lib.hid tw; clear tw
  have SM := Lib.hid sm; clear sm
  by_cases hmn : (m : Int) + (n : Int) < 64
  all_goals by_cases h0 : a < 0
  all_goals
    first
      | (have w1 := TW.out 11 (by decide) (by omega); have w2 := TW.out 12 (by decide) (by omega); have w3 := TW.out 13 (by decide) (by omega))
      | skip
    first
      | (have sm := SM.out h0)
      | skip
    clear TW SM
    go_enter Tryd.func7, Tryd.ntmps7
    go_wp2_with (first
      | (go_at_call 14; refine (works_any _ (hQ.tab HT.out)).mono ?_; rintro e w' ⟨rfl, hk⟩; replace hQ := Kept.trans hQ hk; clear hk)
      | (go_at_call 10; refine (do_any _ _ _ _ (by first | assumption | exact opI_in _ _ _ | exact ⟨by decide, by decide⟩) (by first | assumption | exact opI_in _ _ _ | exact ⟨by decide, by decide⟩)).mono ?_; rintro e w' ⟨rfl, hk⟩; replace hQ := Kept.trans hQ hk; clear hk))
    have c0 : (w.alloc (Obj.cells #[Value.int IntKind.u8 11, Value.int IntKind.u8 12, Value.int IntKind.u8 13] 22)).cell? ⟨w.heap.size, 0, none⟩ = some (.int .u8 11) := by simp
    have c1 : (w.alloc (Obj.cells #[Value.int IntKind.u8 11, Value.int IntKind.u8 12, Value.int IntKind.u8 13] 22)).cell? ⟨w.heap.size, 1, none⟩ = some (.int .u8 12) := by simp
    have c2 : (w.alloc (Obj.cells #[Value.int IntKind.u8 11, Value.int IntKind.u8 12, Value.int IntKind.u8 13] 22)).cell? ⟨w.heap.size, 2, none⟩ = some (.int .u8 13) := by simp
    have hlt : w.heap.size < (w.alloc (Obj.cells #[Value.int IntKind.u8 11, Value.int IntKind.u8 12, Value.int IntKind.u8 13] 22)).heap.size := by simp
    replace hQ : Kept w (w.alloc (Obj.cells #[Value.int IntKind.u8 11, Value.int IntKind.u8 12, Value.int IntKind.u8 13] 22)) := (Below.refl _ _).alloc (Nat.le_refl _) _
    generalize w.alloc (Obj.cells #[Value.int IntKind.u8 11, Value.int IntKind.u8 12, Value.int IntKind.u8 13] 22) = W1 at *
    generalize w.heap.size = B at *
    refine wp_loop_rounds 4 ?_
    rw [rounds_succ]
    go_wp2_with (first
      | (go_at_call 14; refine (works_any _ (hQ.tab HT.out)).mono ?_; rintro e w' ⟨rfl, hk⟩; replace hQ := Kept.trans hQ hk; clear hk)
      | (go_at_call 10; refine (do_any _ _ _ _ (by first | assumption | exact opI_in _ _ _ | exact ⟨by decide, by decide⟩) (by first | assumption | exact opI_in _ _ _ | exact ⟨by decide, by decide⟩)).mono ?_; rintro e w' ⟨rfl, hk⟩; replace hQ := Kept.trans hQ hk; replace c0 := (Below.cell hk hlt).trans c0; replace c1 := (Below.cell hk hlt).trans c1; replace c2 := (Below.cell hk hlt).trans c2; replace hlt := Nat.lt_of_lt_of_le hlt (Below.size hk); clear hk))
    rw [rounds_succ]
    go_wp2_with (first
      | (go_at_call 14; refine (works_any _ (hQ.tab HT.out)).mono ?_; rintro e w' ⟨rfl, hk⟩; replace hQ := Kept.trans hQ hk; clear hk)
      | (go_at_call 10; refine (do_any _ _ _ _ (by first | assumption | exact opI_in _ _ _ | exact ⟨by decide, by decide⟩) (by first | assumption | exact opI_in _ _ _ | exact ⟨by decide, by decide⟩)).mono ?_; rintro e w' ⟨rfl, hk⟩; replace hQ := Kept.trans hQ hk; replace c0 := (Below.cell hk hlt).trans c0; replace c1 := (Below.cell hk hlt).trans c1; replace c2 := (Below.cell hk hlt).trans c2; replace hlt := Nat.lt_of_lt_of_le hlt (Below.size hk); clear hk))
    rw [rounds_succ]
    go_wp2_with (first
      | (go_at_call 14; refine (works_any _ (hQ.tab HT.out)).mono ?_; rintro e w' ⟨rfl, hk⟩; replace hQ := Kept.trans hQ hk; clear hk)
      | (go_at_call 10; refine (do_any _ _ _ _ (by first | assumption | exact opI_in _ _ _ | exact ⟨by decide, by decide⟩) (by first | assumption | exact opI_in _ _ _ | exact ⟨by decide, by decide⟩)).mono ?_; rintro e w' ⟨rfl, hk⟩; replace hQ := Kept.trans hQ hk; replace c0 := (Below.cell hk hlt).trans c0; replace c1 := (Below.cell hk hlt).trans c1; replace c2 := (Below.cell hk hlt).trans c2; replace hlt := Nat.lt_of_lt_of_le hlt (Below.size hk); clear hk))
    rw [rounds_succ]
    go_wp2_with (first
      | (go_at_call 14; refine (works_any _ (hQ.tab HT.out)).mono ?_; rintro e w' ⟨rfl, hk⟩; replace hQ := Kept.trans hQ hk; clear hk)
      | (go_at_call 10; refine (do_any _ _ _ _ (by first | assumption | exact opI_in _ _ _ | exact ⟨by decide, by decide⟩) (by first | assumption | exact opI_in _ _ _ | exact ⟨by decide, by decide⟩)).mono ?_; rintro e w' ⟨rfl, hk⟩; replace hQ := Kept.trans hQ hk; replace c0 := (Below.cell hk hlt).trans c0; replace c1 := (Below.cell hk hlt).trans c1; replace c2 := (Below.cell hk hlt).trans c2; replace hlt := Nat.lt_of_lt_of_le hlt (Below.size hk); clear hk))
    go_ret
    exact ⟨rfl, hQ⟩
end Go.Proofs.YtfibonciioipnaaDoor
