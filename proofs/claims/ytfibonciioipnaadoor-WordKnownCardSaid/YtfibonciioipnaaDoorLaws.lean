/-
  Layer 1, WordLaws: its walk: where an operation is told to swap, group, or keep, it does so; quotients and what is left go together; powers of 2; Sub; just one of below, above, same: of all numbers.
-/
import Derived.Test.YtfibonciioipnaaDoorLawsM
namespace Go.Proofs.YtfibonciioipnaaDoor
open Go.RowKit

/-- The ways through the law's tests on its second number: it is 0; it is not, and no power of 2; it is a power of 2. -/
theorem ways_b (b : Int) : ((b == 0) = true ∧ (b != 0) = false ∧ powB b = false) ∨ ((b == 0) = false ∧ (b != 0) = true ∧ powB b = false ∧ ¬ b = 0) ∨ ((b == 0) = false ∧ (b != 0) = true ∧ powB b = true ∧ ¬ b = 0) := by
  by_cases h : b = 0
  · subst h; exact Or.inl ⟨rfl, rfl, by decide +kernel⟩
  · have h1 : (b == 0) = false := beq_eq_false_iff_ne.2 h
    have h2 : (b != 0) = true := by rw [bne, h1]; rfl
    cases hp : powB b
    · exact Or.inr (Or.inl ⟨h1, h2, rfl, h⟩)
    · exact Or.inr (Or.inr ⟨h1, h2, rfl, h⟩)

set_option maxRecDepth 100000 in
set_option maxHeartbeats 8000000 in
theorem laws_tt (op a b c : Int) (w : World) (ha : InR a) (hb : InR b) (hc : InR c) (hT : Tab w) (hs : swapsB op = true) (hg : groupsB op = true) :
    Calls Tryd.prog 6 #[.int .u8 op, .int .i64 a, .int .i64 b, .int .i64 c] w fun e w' => e = .returned (.bool true) ∧ Kept w w' := by
  have HT := Lib.hid hT; clear hT
  have hQ := Kept.refl w
  have s1 := Lw.bnf (Lw.swap hs a b)
  have s2 := Lw.bnf (Lw.group hg a b c)
  have kn := Lw.keeps_in op
  have pn := Lw.pow_in b
  have o1 := Lw.one14 ha hb
  have o2 := Lw.one15 a b
  have sb := Lw.beq (Lw.sub0 a b)
  have K := Lib.hid (fun h => Lw.bnf (Lw.keep (op := op) h ha))
  have D1 := Lib.hid (fun h => Lw.bnf (Lw.both ha hb h))
  have D2 := Lib.hid (fun h => Lw.bnf (Lw.bothU ha hb h))
  have D3 := Lib.hid (fun h => Lw.bnf (Lw.left (a := a) hb h))
  have P1 := Lib.hid (fun h => Lw.bnf (Lw.mulp (a := a) (b := b) h))
  have P2 := Lib.hid (fun h => Lw.bnf (Lw.divp (a := a) (b := b) h))
  have P3 := Lib.hid (fun h => Lw.bnf (Lw.modp (a := a) (b := b) h))
  rcases ways_b b with ⟨b1, b2, b3⟩ | ⟨b1, b2, b3, b4⟩ | ⟨b1, b2, b3, b4⟩
  all_goals cases hk : keepsB op
  all_goals
    first
      | (have k1 := K.out hk)
      | skip
    first
      | (have d1 := D1.out b4; have d2 := D2.out b4; have d3 := D3.out b4; clear b4)
      | skip
    first
      | (have p1 := P1.out b3; have p2 := P2.out b3; have p3 := P3.out b3)
      | skip
    clear K D1 D2 D3 P1 P2 P3
    go_enter Tryd.func6, Tryd.ntmps6
    go_wp2_with (first
      | (go_at_call 14; refine (works_any _ (hQ.tab HT.out)).mono ?_; rintro e w' ⟨rfl, hk⟩; replace hQ := Kept.trans hQ hk; clear hk)
      | (go_at_call 21; refine (swaps_any _ _).mono ?_; rintro e w' ⟨rfl, rfl⟩)
      | (go_at_call 23; refine (groups_any _ _).mono ?_; rintro e w' ⟨rfl, rfl⟩)
      | (go_at_call 17; refine (keeps_any _ _).mono ?_; rintro e w' ⟨rfl, rfl⟩)
      | (go_at_call 19; refine (power_any _ _ (hQ.tab HT.out)).mono ?_; rintro e w' ⟨rfl, rfl⟩)
      | (go_at_call 10; refine (do_any _ _ _ _ (by first | assumption | exact opI_in _ _ _ | exact ⟨by decide, by decide⟩) (by first | assumption | exact opI_in _ _ _ | exact ⟨by decide, by decide⟩)).mono ?_; rintro e w' ⟨rfl, hk⟩; replace hQ := Kept.trans hQ hk; clear hk))
    go_ret
    exact ⟨rfl, hQ⟩

set_option maxRecDepth 100000 in
set_option maxHeartbeats 8000000 in
theorem laws_tf (op a b c : Int) (w : World) (ha : InR a) (hb : InR b) (hc : InR c) (hT : Tab w) (hs : swapsB op = true) (hg : groupsB op = false) :
    Calls Tryd.prog 6 #[.int .u8 op, .int .i64 a, .int .i64 b, .int .i64 c] w fun e w' => e = .returned (.bool true) ∧ Kept w w' := by
  have HT := Lib.hid hT; clear hT
  have hQ := Kept.refl w
  have s1 := Lw.bnf (Lw.swap hs a b)
  have kn := Lw.keeps_in op
  have pn := Lw.pow_in b
  have o1 := Lw.one14 ha hb
  have o2 := Lw.one15 a b
  have sb := Lw.beq (Lw.sub0 a b)
  have K := Lib.hid (fun h => Lw.bnf (Lw.keep (op := op) h ha))
  have D1 := Lib.hid (fun h => Lw.bnf (Lw.both ha hb h))
  have D2 := Lib.hid (fun h => Lw.bnf (Lw.bothU ha hb h))
  have D3 := Lib.hid (fun h => Lw.bnf (Lw.left (a := a) hb h))
  have P1 := Lib.hid (fun h => Lw.bnf (Lw.mulp (a := a) (b := b) h))
  have P2 := Lib.hid (fun h => Lw.bnf (Lw.divp (a := a) (b := b) h))
  have P3 := Lib.hid (fun h => Lw.bnf (Lw.modp (a := a) (b := b) h))
  rcases ways_b b with ⟨b1, b2, b3⟩ | ⟨b1, b2, b3, b4⟩ | ⟨b1, b2, b3, b4⟩
  all_goals cases hk : keepsB op
  all_goals
    first
      | (have k1 := K.out hk)
      | skip
    first
      | (have d1 := D1.out b4; have d2 := D2.out b4; have d3 := D3.out b4; clear b4)
      | skip
    first
      | (have p1 := P1.out b3; have p2 := P2.out b3; have p3 := P3.out b3)
      | skip
    clear K D1 D2 D3 P1 P2 P3
    go_enter Tryd.func6, Tryd.ntmps6
    go_wp2_with (first
      | (go_at_call 14; refine (works_any _ (hQ.tab HT.out)).mono ?_; rintro e w' ⟨rfl, hk⟩; replace hQ := Kept.trans hQ hk; clear hk)
      | (go_at_call 21; refine (swaps_any _ _).mono ?_; rintro e w' ⟨rfl, rfl⟩)
      | (go_at_call 23; refine (groups_any _ _).mono ?_; rintro e w' ⟨rfl, rfl⟩)
      | (go_at_call 17; refine (keeps_any _ _).mono ?_; rintro e w' ⟨rfl, rfl⟩)
      | (go_at_call 19; refine (power_any _ _ (hQ.tab HT.out)).mono ?_; rintro e w' ⟨rfl, rfl⟩)
      | (go_at_call 10; refine (do_any _ _ _ _ (by first | assumption | exact opI_in _ _ _ | exact ⟨by decide, by decide⟩) (by first | assumption | exact opI_in _ _ _ | exact ⟨by decide, by decide⟩)).mono ?_; rintro e w' ⟨rfl, hk⟩; replace hQ := Kept.trans hQ hk; clear hk))
    go_ret
    exact ⟨rfl, hQ⟩

set_option maxRecDepth 100000 in
set_option maxHeartbeats 8000000 in
theorem laws_ff (op a b c : Int) (w : World) (ha : InR a) (hb : InR b) (hc : InR c) (hT : Tab w) (hs : swapsB op = false) (hg : groupsB op = false) :
    Calls Tryd.prog 6 #[.int .u8 op, .int .i64 a, .int .i64 b, .int .i64 c] w fun e w' => e = .returned (.bool true) ∧ Kept w w' := by
  have HT := Lib.hid hT; clear hT
  have hQ := Kept.refl w
  have kn := Lw.keeps_in op
  have pn := Lw.pow_in b
  have o1 := Lw.one14 ha hb
  have o2 := Lw.one15 a b
  have sb := Lw.beq (Lw.sub0 a b)
  have K := Lib.hid (fun h => Lw.bnf (Lw.keep (op := op) h ha))
  have D1 := Lib.hid (fun h => Lw.bnf (Lw.both ha hb h))
  have D2 := Lib.hid (fun h => Lw.bnf (Lw.bothU ha hb h))
  have D3 := Lib.hid (fun h => Lw.bnf (Lw.left (a := a) hb h))
  have P1 := Lib.hid (fun h => Lw.bnf (Lw.mulp (a := a) (b := b) h))
  have P2 := Lib.hid (fun h => Lw.bnf (Lw.divp (a := a) (b := b) h))
  have P3 := Lib.hid (fun h => Lw.bnf (Lw.modp (a := a) (b := b) h))
  rcases ways_b b with ⟨b1, b2, b3⟩ | ⟨b1, b2, b3, b4⟩ | ⟨b1, b2, b3, b4⟩
  all_goals cases hk : keepsB op
  all_goals
    first
      | (have k1 := K.out hk)
      | skip
    first
      | (have d1 := D1.out b4; have d2 := D2.out b4; have d3 := D3.out b4; clear b4)
      | skip
    first
      | (have p1 := P1.out b3; have p2 := P2.out b3; have p3 := P3.out b3)
      | skip
    clear K D1 D2 D3 P1 P2 P3
    go_enter Tryd.func6, Tryd.ntmps6
    go_wp2_with (first
      | (go_at_call 14; refine (works_any _ (hQ.tab HT.out)).mono ?_; rintro e w' ⟨rfl, hk⟩; replace hQ := Kept.trans hQ hk; clear hk)
      | (go_at_call 21; refine (swaps_any _ _).mono ?_; rintro e w' ⟨rfl, rfl⟩)
      | (go_at_call 23; refine (groups_any _ _).mono ?_; rintro e w' ⟨rfl, rfl⟩)
      | (go_at_call 17; refine (keeps_any _ _).mono ?_; rintro e w' ⟨rfl, rfl⟩)
      | (go_at_call 19; refine (power_any _ _ (hQ.tab HT.out)).mono ?_; rintro e w' ⟨rfl, rfl⟩)
      | (go_at_call 10; refine (do_any _ _ _ _ (by first | assumption | exact opI_in _ _ _ | exact ⟨by decide, by decide⟩) (by first | assumption | exact opI_in _ _ _ | exact ⟨by decide, by decide⟩)).mono ?_; rintro e w' ⟨rfl, hk⟩; replace hQ := Kept.trans hQ hk; clear hk))
    go_ret
    exact ⟨rfl, hQ⟩

theorem laws_any (op a b c : Int) (w : World) (ha : InR a) (hb : InR b) (hc : InR c) (hT : Tab w) :
    Calls Tryd.prog 6 #[.int .u8 op, .int .i64 a, .int .i64 b, .int .i64 c] w fun e w' => e = .returned (.bool true) ∧ Kept w w' := by
  cases hg : groupsB op
  · cases hs : swapsB op
    · exact laws_ff op a b c w ha hb hc hT hs hg
    · exact laws_tf op a b c w ha hb hc hT hs hg
  · have hs : swapsB op = true := by unfold swapsB; rw [hg]; simp
    exact laws_tt op a b c w ha hb hc hT hs hg
end Go.Proofs.YtfibonciioipnaaDoor
