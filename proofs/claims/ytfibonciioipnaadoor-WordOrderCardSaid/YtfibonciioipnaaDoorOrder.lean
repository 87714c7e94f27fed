/-
  Layer 1, WordOrder: its walk: order, sums and sets of bits go together as told, of all numbers.
-/
import Derived.Test.YtfibonciioipnaaDoorWorks
import Derived.Test.YtfibonciioipnaaDoorOrderM
namespace Go.Proofs.YtfibonciioipnaaDoor
open Go.RowKit

namespace Ord
theorem bnf {a b : Int} (h : a = b) : (a != b) = false := by rw [bne_eq_false_iff_eq]; exact h
theorem beq {a b : Int} (h : a = b) : (a == b) = true := beq_iff_eq.2 h
theorem t1 (a b : Int) : opI 14 a b = opI 15 (opI 10 a (-9223372036854775808)) (opI 10 b (-9223372036854775808)) := by
  rw [opI_14, opI_15, bv_opI, bv_opI, slt_low]; rfl
theorem t2 (a b c : Int) : opI 16 a b = opI 16 (opI 1 a c) (opI 1 b c) := by
  rw [opI_16, opI_16, bv_opI, bv_opI]
  show _ = if bv a + bv c = bv b + bv c then _ else _
  simp only [BitVec.add_left_inj]
theorem t3 (a b c : Int) : opI 3 a (opI 1 b c) = opI 1 (opI 3 a b) (opI 3 a c) := by
  show (bv a * bv (opI 1 b c)).toInt = (bv (opI 3 a b) + bv (opI 3 a c)).toInt
  rw [bv_opI, bv_opI, bv_opI]
  exact congrArg BitVec.toInt BitVec.mul_add
theorem t4 (a b c : Int) : opI 8 a (opI 9 b c) = opI 9 (opI 8 a b) (opI 8 a c) := by
  show (bv a &&& bv (opI 9 b c)).toInt = (bv (opI 8 a b) ||| bv (opI 8 a c)).toInt
  rw [bv_opI, bv_opI, bv_opI]
  exact congrArg BitVec.toInt (BitVec.and_or_distrib_left ..)
theorem t5 (a b : Int) : opI 1 (opI 10 a b) (opI 3 2 (opI 8 a b)) = opI 1 a b := by
  show (bv (opI 10 a b) + bv (opI 3 2 (opI 8 a b))).toInt = _
  rw [bv_opI, bv_opI, bv_opI]
  exact congrArg BitVec.toInt (add_xor_and (bv a) (bv b))
theorem t6 (a b : Int) : opI 2 (opI 9 a b) (opI 8 a b) = opI 10 a b := by
  show (bv (opI 9 a b) - bv (opI 8 a b)).toInt = _
  rw [bv_opI, bv_opI]
  exact congrArg BitVec.toInt (or_sub_and (bv a) (bv b))
theorem lt14 {a b : Int} (ha : InR a) (hb : InR b) : opI 14 a b = if a < b then 1 else 0 := by
  rw [opI_14, slt_bv ha hb]; simp
theorem lt15 (a b : Int) : opI 15 a b = if (bv a).toNat < (bv b).toNat then 1 else 0 := by
  rw [opI_15, BitVec.ult]; simp
theorem tr14 {a b c : Int} (ha : InR a) (hb : InR b) (hc : InR c) (h1 : (opI 14 a b == 1) = true) (h2 : (opI 14 b c == 1) = true) : (opI 14 a c != 1) = false := by
  rw [lt14 ha hb] at h1
  rw [lt14 hb hc] at h2
  rw [lt14 ha hc]
  split at h1 <;> split at h2 <;> first | (rw [if_pos (by omega)]; rfl) | exact absurd h1 (by decide) | exact absurd h2 (by decide)
theorem tr15 {a b c : Int} (h1 : (opI 15 a b == 1) = true) (h2 : (opI 15 b c == 1) = true) : (opI 15 a c != 1) = false := by
  rw [lt15] at h1 h2 ⊢
  split at h1 <;> split at h2 <;> first | (rw [if_pos (by omega)]; rfl) | exact absurd h1 (by decide) | exact absurd h2 (by decide)
end Ord

/-- Two tests, one behind the other, and what follows where both hold. -/
def Tests (op a b c : Int) : Prop := (opI op a b == 1) = false ∨ (opI op a b == 1) = true ∧ (opI op b c == 1) = false ∨ (opI op a b == 1) = true ∧ (opI op b c == 1) = true ∧ (opI op a c != 1) = false
theorem tests14 {a b c : Int} (ha : InR a) (hb : InR b) (hc : InR c) : Tests 14 a b c := by
  unfold Tests
  cases h1 : (opI 14 a b == 1)
  · exact Or.inl rfl
  · cases h2 : (opI 14 b c == 1)
    · exact Or.inr (Or.inl ⟨rfl, rfl⟩)
    · exact Or.inr (Or.inr ⟨rfl, rfl, Ord.tr14 ha hb hc h1 h2⟩)
theorem tests15 (a b c : Int) : Tests 15 a b c := by
  unfold Tests
  cases h1 : (opI 15 a b == 1)
  · exact Or.inl rfl
  · cases h2 : (opI 15 b c == 1)
    · exact Or.inr (Or.inl ⟨rfl, rfl⟩)
    · exact Or.inr (Or.inr ⟨rfl, rfl, Ord.tr15 h1 h2⟩)

set_option maxHeartbeats 4000000 in
theorem order_any (a b c : Int) (w : World) (ha : InR a) (hb : InR b) (hc : InR c) (hT : Tab w) :
    Calls Tryd.prog 8 #[.int .i64 a, .int .i64 b, .int .i64 c] w fun e w' => e = .returned (.bool true) ∧ Kept w w' := by
  have HT := Lib.hid hT; clear hT
  have hQ := Kept.refl w
  have t1 := Ord.bnf (Ord.t1 a b)
  have t2 := Ord.bnf (Ord.t2 a b c)
  have t3 := Ord.bnf (Ord.t3 a b c)
  have t4 := Ord.bnf (Ord.t4 a b c)
  have t5 := Ord.beq (Ord.t5 a b)
  have t6 := Ord.beq (Ord.t6 a b)
  rcases tests14 ha hb hc with h1 | ⟨h1, h2⟩ | ⟨h1, h2, h3⟩
  all_goals rcases tests15 a b c with g1 | ⟨g1, g2⟩ | ⟨g1, g2, g3⟩
  all_goals
    go_enter Tryd.func8, Tryd.ntmps8
    go_wp2_with (first
    | (go_at_call 14; refine (works_any _ (hQ.tab HT.out)).mono ?_; rintro e w' ⟨rfl, hk⟩; replace hQ := Kept.trans hQ hk; clear hk)
      | (go_at_call 10; refine (do_any _ _ _ _ (by first | assumption | exact opI_in _ _ _ | exact ⟨by decide, by decide⟩) (by first | assumption | exact opI_in _ _ _ | exact ⟨by decide, by decide⟩)).mono ?_; rintro e w' ⟨rfl, hk⟩; replace hQ := Kept.trans hQ hk; clear hk))
    have c0 : (w'.alloc (Obj.cells #[Value.int IntKind.u8 14, Value.int IntKind.u8 15] 22)).cell? ⟨w'.heap.size, 0, none⟩ = some (.int .u8 14) := by simp
    have c1 : (w'.alloc (Obj.cells #[Value.int IntKind.u8 14, Value.int IntKind.u8 15] 22)).cell? ⟨w'.heap.size, 1, none⟩ = some (.int .u8 15) := by simp
    have hlt : w'.heap.size < (w'.alloc (Obj.cells #[Value.int IntKind.u8 14, Value.int IntKind.u8 15] 22)).heap.size := by simp
    replace hQ : Kept w (w'.alloc (Obj.cells #[Value.int IntKind.u8 14, Value.int IntKind.u8 15] 22)) := Kept.trans hQ ((Below.refl _ _).alloc (Nat.le_refl _) _)
    generalize w'.alloc (Obj.cells #[Value.int IntKind.u8 14, Value.int IntKind.u8 15] 22) = W1 at *
    generalize w'.heap.size = B at *
    refine wp_loop_rounds 3 ?_
    rw [rounds_succ]
    go_wp2_with (first
    | (go_at_call 14; refine (works_any _ (hQ.tab HT.out)).mono ?_; rintro e w' ⟨rfl, hk⟩; replace hQ := Kept.trans hQ hk; clear hk)
      | (go_at_call 10; refine (do_any _ _ _ _ (by first | assumption | exact opI_in _ _ _ | exact ⟨by decide, by decide⟩) (by first | assumption | exact opI_in _ _ _ | exact ⟨by decide, by decide⟩)).mono ?_; rintro e w' ⟨rfl, hk⟩; replace hQ := Kept.trans hQ hk; replace c0 := (Below.cell hk hlt).trans c0; replace c1 := (Below.cell hk hlt).trans c1; replace hlt := Nat.lt_of_lt_of_le hlt (Below.size hk); clear hk))
    rw [rounds_succ]
    go_wp2_with (first
    | (go_at_call 14; refine (works_any _ (hQ.tab HT.out)).mono ?_; rintro e w' ⟨rfl, hk⟩; replace hQ := Kept.trans hQ hk; clear hk)
      | (go_at_call 10; refine (do_any _ _ _ _ (by first | assumption | exact opI_in _ _ _ | exact ⟨by decide, by decide⟩) (by first | assumption | exact opI_in _ _ _ | exact ⟨by decide, by decide⟩)).mono ?_; rintro e w' ⟨rfl, hk⟩; replace hQ := Kept.trans hQ hk; replace c0 := (Below.cell hk hlt).trans c0; replace c1 := (Below.cell hk hlt).trans c1; replace hlt := Nat.lt_of_lt_of_le hlt (Below.size hk); clear hk))
    rw [rounds_succ]
    go_wp2_with (first
    | (go_at_call 14; refine (works_any _ (hQ.tab HT.out)).mono ?_; rintro e w' ⟨rfl, hk⟩; replace hQ := Kept.trans hQ hk; clear hk)
      | (go_at_call 10; refine (do_any _ _ _ _ (by first | assumption | exact opI_in _ _ _ | exact ⟨by decide, by decide⟩) (by first | assumption | exact opI_in _ _ _ | exact ⟨by decide, by decide⟩)).mono ?_; rintro e w' ⟨rfl, hk⟩; replace hQ := Kept.trans hQ hk; replace c0 := (Below.cell hk hlt).trans c0; replace c1 := (Below.cell hk hlt).trans c1; replace hlt := Nat.lt_of_lt_of_le hlt (Below.size hk); clear hk))
    go_ret
    exact ⟨rfl, hQ⟩
end Go.Proofs.YtfibonciioipnaaDoor
