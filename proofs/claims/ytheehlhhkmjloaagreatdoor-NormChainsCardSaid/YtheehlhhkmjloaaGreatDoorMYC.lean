/-
  Several texts in one: NChainsM: Layer 4, NormChains: numbers put one by one to a plain term: what they come to, whatever their order. It speaks of no program.; NAll: Layer 4, NormChains: what All of word answers: of many numbers, from the left on.; NOpenC: Layer 4: an argument that is a slice of numbers: its length and its capacity.; NChainsL: Layer 4, NormChains: numbers put to a plain term by an operation that groups: the law's walk..
-/
import Derived.Test.YtheehlhhkmjloaaGreatDoorME
import Derived.Test.YtheehlhhkmjloaaGreatDoorMQ
import Derived.Test.YtheehlhhkmjloaaGreatDoorMX
namespace Go.Proofs.YtheehlhhkmjloaaGreatDoor
open Go

section
variable {L L' : List Nd}
/-- From the left on: the first one, and so many more. -/
def accTo (op : Int) (z : Nat → Int) : Nat → Int
  | 0 => z 0
  | k + 1 => opI op (accTo op z k) (z (k + 1))
theorem acc_in {op : Int} {z : Nat → Int} (h : InR (z 0)) (k : Nat) : InR (accTo op z k) := by
  cases k with
  | zero => exact h
  | succ k => exact opI_in ..
/-- From a number on: so many more. -/
def accF (o k : Int) (z : Nat → Int) : Nat → Int
  | 0 => k
  | t + 1 => opI o (accF o k z t) (z t)
theorem accF_in {o k : Int} {z : Nat → Int} (hk : InR k) (t : Nat) : InR (accF o k z t) := by
  cases t with
  | zero => exact hk
  | succ t => exact opI_in ..
theorem swaps_of {o : Int} (hg : groupsB o = true) : swapsB o = true := by
  rcases grp hg with rfl | rfl | rfl | rfl | rfl <;> decide
theorem accF_left {o k : Int} (hg : groupsB o = true) (z : Nat → Int) (x : Int) (t : Nat) : accF o (opI o k x) z t = opI o (accF o k z t) x := by
  induction t with
  | zero => rfl
  | succ t ih =>
    show opI o (accF o (opI o k x) z t) (z t) = opI o (opI o (accF o k z t) (z t)) x
    rw [ih, Lw.group hg, Lw.group hg, Lw.swap (swaps_of hg) x]
theorem accF_add {o k : Int} (z : Nat → Int) (s t : Nat) : accF o k z (s + t) = accF o (accF o k z s) (fun i => z (s + i)) t := by
  induction t with
  | zero => rfl
  | succ t ih =>
    show opI o (accF o k z (s + t)) (z (s + t)) = _
    rw [ih]; rfl
theorem accF_congr {o k : Int} {y z : Nat → Int} (t : Nat) (h : ∀ i, i < t → y i = z i) : accF o k y t = accF o k z t := by
  induction t with
  | zero => rfl
  | succ t ih =>
    show opI o (accF o k y t) (y t) = opI o (accF o k z t) (z t)
    rw [ih (fun i hi => h i (by omega)), h t (by omega)]
theorem accF_comm {o k : Int} (hg : groupsB o = true) (y z : Nat → Int) (s t : Nat) : accF o (accF o k y s) z t = accF o (accF o k z t) y s := by
  induction s with
  | zero => rfl
  | succ s ih =>
    show accF o (opI o (accF o k y s) (y s)) z t = opI o (accF o (accF o k z t) y s) (y s)
    rw [accF_left hg, ih]
/-- Turned round: the same. -/
theorem accF_turn {o k : Int} (hg : groupsB o = true) (z : Nat → Int) (r n : Nat) (hr : r ≤ n) : accF o k (fun i => z ((i + r) % n)) n = accF o k z n := by
  obtain ⟨m, rfl⟩ : ∃ m, n = m + r := ⟨n - r, by omega⟩
  have e1 := accF_add (o := o) (k := k) (fun i => z ((i + r) % (m + r))) m r
  have e2 : accF o k (fun i => z ((i + r) % (m + r))) m = accF o k (fun i => z (r + i)) m := accF_congr m fun i hi => by
    show z ((i + r) % (m + r)) = z (r + i)
    rw [Nat.mod_eq_of_lt (by omega), Nat.add_comm]
  have e3 : accF o (accF o k (fun i => z (r + i)) m) (fun i => z ((m + i + r) % (m + r))) r = accF o (accF o k (fun i => z (r + i)) m) z r := accF_congr r fun i hi => by
    show z ((m + i + r) % (m + r)) = z i
    rw [show m + i + r = i + (m + r) from by omega, Nat.add_mod_right, Nat.mod_eq_of_lt (by omega)]
  rw [e1, e2, e3, accF_comm hg, show m + r = r + m from by omega, accF_add (o := o) (k := k) z r m]
theorem accF_one {o k : Int} (hg : groupsB o = true) (z : Nat → Int) (t : Nat) : accF o k z (t + 1) = opI o k (accTo o z t) := by
  induction t with
  | zero => rfl
  | succ t ih =>
    show opI o (accF o k z (t + 1)) (z (t + 1)) = opI o k (opI o (accTo o z t) (z (t + 1)))
    rw [ih, Lw.group hg]
/-- Numbers put to a term, one by one. -/
def Ch (L : List Nd) (o : Int) (z : Nat → Int) : Nat → Int → Int → Prop
  | 0, a, x => x = a
  | t + 1, a, x => ∃ y c, Ch L o z t a y ∧ hasB L.length y = true ∧ CN L (z t) c ∧ Run L ⟨o, y, c⟩ x
theorem Ch.ext (hG : Good L) (e : Ext L L') {o : Int} (h1 : 1 ≤ o) (h2 : o ≤ 16) {z : Nat → Int} : ∀ {t : Nat} {a x : Int}, Ch L o z t a x → Ch L' o z t a x
  | 0, _, _, h => h
  | _ + 1, _, _, ⟨y, c, h, hy, hc, r⟩ => ⟨y, c, Ch.ext hG e h1 h2 h, e.has hy, hc.ext e, run_ext hG e r ⟨h1, h2, hy, hc.1⟩⟩
theorem Ch.rep (hG : Good L) {o : Int} (hg : groupsB o = true) {z : Nat → Int} {s : Option Int} {k : Int} (hk : InR k) : ∀ {t : Nat} {a x : Int}, Rep L o s k a → Ch L o z t a x → Rep L o s (accF o k z t) x
  | 0, _, _, h, e => by
    have e' := e
    unfold Ch at e'
    subst e'
    exact h
  | t + 1, _, _, h, ⟨_, _, h1, hy, hc, r⟩ => rep_put hG hg (accF_in hk t) (cn_in hG hc) (Ch.rep hG hg hk h h1) hy hc r
/-- In whatever order: the same term. -/
theorem ch_same (hG : Good L) {o : Int} (hg : groupsB o = true) {a x y : Int} (h : Pl L a) {z : Nat → Int} {r n : Nat} (hr : r ≤ n) (h1 : Ch L o z n a x) (h2 : Ch L o (fun i => z ((i + r) % n)) n a y) : x = y := by
  obtain ⟨s, k, hk, hR⟩ := rep_of hG hg h
  have q1 := Ch.rep hG hg hk hR h1
  have q2 := Ch.rep hG hg hk hR h2
  rw [accF_turn hg z r n hr] at q2
  exact q1.eq hG q2
/-- Together: the same term. -/
theorem ch_all (hG : Good L) {o : Int} (hg : groupsB o = true) {a x y c : Int} (h : Pl L a) {z : Nat → Int} {t : Nat} (h1 : Ch L o z (t + 1) a x) (hc : CN L (accTo o z t) c) (r : Run L ⟨o, a, c⟩ y) : x = y := by
  obtain ⟨s, k, hk, hR⟩ := rep_of hG hg h
  have q1 := Ch.rep hG hg hk hR h1
  rw [accF_one hg] at q1
  exact q1.eq hG (rep_put hG hg hk (cn_in hG hc) hR h.has hc r)
end
end Go.Proofs.YtheehlhhkmjloaaGreatDoor

namespace Go.Proofs.YtheehlhhkmjloaaGreatDoor
open Go.RowKit

set_option maxHeartbeats 1000000 in
theorem all_none (op : Int) (a : Option Addr) (cap : Nat) (w : World) :
    Calls Tryz.prog 35 #[.int .u8 op, .slice a 0 cap] w fun e w' => e = .returned (.int .i64 0) ∧ w = w' := by
  go_enter Tryz.func35, Tryz.ntmps35
  go_wp2
  go_ret
  exact ⟨rfl, rfl⟩
set_option maxHeartbeats 2000000 in
theorem all_some (op : Int) (b off n m : Nat) (z : Nat → Int) (w : World) (h2 : n ≤ m + 1) (hm : m + 2 ≤ 9223372036854775807) (hb : b < w.heap.size)
    (hz : ∀ i, i ≤ n → InR (z i)) (hc : ∀ i, i ≤ n → w.cell? ⟨b, off + i, none⟩ = some (.int .i64 (z i))) :
    Calls Tryz.prog 35 #[.int .u8 op, .slice (some ⟨b, off, none⟩) (n + 1) (m + 2)] w fun e w' => e = .returned (.int .i64 (accTo op z n)) ∧ Kept w w' := by
  have c0 : w.cell? ⟨b, off, none⟩ = some (.int .i64 (z 0)) := hc 0 (by omega)
  have HZ := Lib.hid hz; clear hz
  have HC := Lib.hid hc; clear hc
  have HB := Lib.hid hb; clear hb
  have z0 : ((n : Int) + 1 == 0) = false := beq_eq_false_iff_ne.2 (by omega)
  have ez : z 0 = accTo op z 0 := rfl
  rw [ez] at c0
  clear ez
  go_enter Tryz.func35, Tryz.ntmps35
  go_wp2
  go_loopw [5, 17] (fun s i wr => ∃ k : Nat, k ≤ n ∧ i = .int .i64 k ∧ s = .int .i64 (accTo op z k) ∧ Kept w wr) (fun _ i _ => n - (intOf i).toNat)
  case atStart => exact ⟨0, Nat.zero_le _, rfl, rfl, Kept.refl w⟩
  case round =>
    obtain ⟨k, hk, rfl, rfl, hQ⟩ := hrel
    by_cases hlt : k < n
    · have HI := Lib.hid (acc_in (op := op) (z := z) (HZ.out 0 (by omega)) k)
      have HZk := Lib.hid (HZ.out (k + 1) (by omega))
      have ck := (Below.cell hQ (p := ⟨b, off + (k + 1), none⟩) HB.out).trans (HC.out (k + 1) (by omega))
      rw [show off + (k + 1) = off + 1 + k from by omega] at ck
      have HE : Hid (opI op (accTo op z k) (z (k + 1)) = accTo op z (k + 1)) := rfl
      clear c0 HZ HC
      go_wp2_with (go_at_call 27; refine (do_any _ _ _ _ HI.out HZk.out).mono ?_; rintro e w' ⟨rfl, hk'⟩; replace hQ := Kept.trans hQ hk'; clear hk')
      rw [HE.out]
      go_roundw
      case rel => exact ⟨k + 1, by omega, by go_num, rfl, hQ⟩
      case measure => simp [intOf]; omega
    · have hk' : k = n := by omega
      subst hk'
      clear c0
      go_wp2
      go_ret
      exact ⟨rfl, hQ⟩
set_option maxHeartbeats 2000000 in
theorem all_lone (op : Int) (b off : Nat) (z : Int) (w : World) (hc : w.cell? ⟨b, off, none⟩ = some (.int .i64 z)) :
    Calls Tryz.prog 35 #[.int .u8 op, .slice (some ⟨b, off, none⟩) 1 1] w fun e w' => e = .returned (.int .i64 z) ∧ Kept w w' := by
  go_enter Tryz.func35, Tryz.ntmps35
  go_wp2
  refine wp_loop_rounds 1 ?_
  rw [rounds_succ]
  go_wp2
  go_ret
  exact ⟨rfl, Kept.refl _⟩
end Go.Proofs.YtheehlhhkmjloaaGreatDoor

namespace Go.Proofs.YtheehlhhkmjloaaGreatDoor
open Go Go.RowKit Go.ChangeShapes Go.WideShapes Go.Deep

section
variable {H : Type} {enc : TypeId × Value → H} {w : World} {base : Nat} {spare : Nat → Bool}
theorem open_caps {fuel : Nat} {a : Option Addr} {n c : Nat} {x : DataW H × List MemPlace} (h : DataW.trod enc Tryz.prog w base spare true fuel 23 [.slice a n c] = some x) : n ≤ c ∧ c ≤ 9223372036854775807 := by
  rcases open_ints Tryz.underlying23 Tryz.underlying2 TA.cellsI64 h with ⟨hcs, hx⟩ | ⟨ad, len, cap, zs, hcs, _, hl, hm, hz, hx, hcell, hwz⟩
  · simp at hcs
    obtain ⟨rfl, rfl, rfl⟩ := hcs
    exact ⟨Nat.le_refl _, by decide⟩
  · simp at hcs
    obtain ⟨rfl, rfl, rfl⟩ := hcs
    exact ⟨by omega, Nat.le_trans hm (by decide)⟩
end
end Go.Proofs.YtheehlhhkmjloaaGreatDoor

namespace Go.Proofs.YtheehlhhkmjloaaGreatDoor
open Go Go.RowKit

theorem roots_nums {w : World} {la : Option Addr} {k : Nat} {us : List Int} (h : RootsAt w la k us) (hk : 0 < k) : ∃ b off, la = some ⟨b, off, none⟩ ∧ ∀ t, t < k → w.cell? ⟨b, off + t, none⟩ = some (.int .i64 (us.getD t 0)) := by
  obtain ⟨b, off, hl, hc⟩ := h.at_ hk
  refine ⟨b, off, hl, fun t ht => hc t _ ?_⟩
  have : t < us.length := by rw [h.len]; exact ht
  rw [List.getD_eq_getElem?_getD, List.getElem?_eq_getElem this]; rfl
theorem roots_inr {w : World} {la : Option Addr} {k : Nat} {us : List Int} (h : RootsAt w la k us) (t : Nat) : InR (us.getD t 0) := by
  rw [List.getD_eq_getElem?_getD]
  cases e : us[t]? with
  | none => exact in0
  | some v => exact h.inr v (List.mem_of_getElem? e)
theorem all_nums {w : World} {b off k kc : Nat} {z : Nat → Int} (o : Int) (hk : 0 < k) (h1 : k ≤ kc) (h2 : kc ≤ 9223372036854775807) (hz : ∀ i, InR (z i)) (hc : ∀ i, i < k → w.cell? ⟨b, off + i, none⟩ = some (.int .i64 (z i))) :
    Calls Tryz.prog 35 #[.int .u8 o, .slice (some ⟨b, off, none⟩) k kc] w fun e w' => e = .returned (.int .i64 (accTo o z (k - 1))) ∧ Kept w w' := by
  have hb : b < w.heap.size := by
    rcases Nat.lt_or_ge b w.heap.size with h1 | h1
    · exact h1
    · have := hc 0 hk
      simp [World.cell?, Array.getElem?_eq_none h1] at this
  obtain ⟨n, rfl⟩ : ∃ n, k = n + 1 := ⟨k - 1, by omega⟩
  by_cases h3 : kc = 1
  · subst h3
    obtain rfl : n = 0 := by omega
    exact all_lone o b off (z 0) w (hc 0 hk)
  · obtain ⟨m, rfl⟩ : ∃ m, kc = m + 2 := ⟨kc - 2, by omega⟩
    exact all_some o b off n m z w (by omega) h2 hb (fun i _ => hz i) (fun i hi => hc i (by omega))
def chainopsL : List Value := [.int .u8 1, .int .u8 3, .int .u8 8, .int .u8 9, .int .u8 10]
theorem chainop_at {j : Nat} (hj : j < 5) : ∃ o : Int, groupsB o = true ∧ 1 ≤ o ∧ o ≤ 16 ∧ chainopsL[j]'hj = .int .u8 o := by
  obtain rfl | rfl | rfl | rfl | rfl : j = 0 ∨ j = 1 ∨ j = 2 ∨ j = 3 ∨ j = 4 := by omega
  · exact ⟨1, by decide, by decide, by decide, rfl⟩
  · exact ⟨3, by decide, by decide, by decide, rfl⟩
  · exact ⟨8, by decide, by decide, by decide, rfl⟩
  · exact ⟨9, by decide, by decide, by decide, rfl⟩
  · exact ⟨10, by decide, by decide, by decide, rfl⟩
set_option maxRecDepth 100000 in
set_option maxHeartbeats 16000000 in
theorem normchains_any (la na : Option Addr) (n lc k kc : Nat) (ds : List Nd) (x which : Int) (us : List Int) (turn : Int) (w : World) (hds : NodesAt w la n ds) (hx : InR x) (hwh : InB which) (hns : RootsAt w na k us) (hcap : k ≤ kc ∧ kc ≤ 9223372036854775807) (ht : InR turn) (hL : Laid w) (hT : Tab w) :
    Calls Tryz.prog 7 #[.slice la n lc, .int .i64 x, .int .u8 which, .slice na k kc, .int .i64 turn] w fun e w' => e = .returned (.bool true) ∧ Kept w w' := by
  have HD := Lib.hid hds
  have HL := Lib.hid (And.intro hL hT)
  have HX := Lib.hid (And.intro hx ht)
  have HR := Lib.hid hns
  have HC := Lib.hid hcap
  clear hds hL hT hx ht hns hcap
  go_enter Tryz.func7, Tryz.ntmps7
  by_cases h20 : n ≤ 20
  · have d20 : decide ((20 : Int) < (n : Int)) = false := decide_eq_false (by omega)
    by_cases h10 : k ≤ 10
    · have d10 : decide ((10 : Int) < (k : Int)) = false := decide_eq_false (by omega)
      have H10 := Lib.hid h10
      go_wp2_with fail
      refine (plains_any la n lc ds x 0 0 w HD.out (by omega) HX.out.1 in0 in0 HL.out.1 HL.out.2).mono ?_
      rintro e w1 hq
      rcases hq with ⟨g, rfl, hk⟩ | ⟨g, m, a, b, c, L, rfl, hS, hP, hDn, hl⟩
      · have HK1 := Lib.hid hk
        clear hk
        go_wp2_with fail
        refine (works_any _ (HL.out.1.kept HK1.out) (HL.out.2.below HK1.out)).mono ?_
        rintro e w2 ⟨rfl, hk2⟩
        have HK2 := Lib.hid (HK1.out.trans hk2)
        clear hk2
        go_wp2
        go_ret
        exact ⟨rfl, HK2.out⟩
      · have HS := Lib.hid hS
        have HP := Lib.hid hP.1
        have HG0 := Lib.hid hS.good
        have HDA := Lib.hid hDn.1
        have HLL := Lib.hid hl
        clear hS hP hDn hl
        obtain ⟨j, hj, hjt⟩ : ∃ j : Nat, j < 5 ∧ which.tmod 5 = (j : Int) := by
          have h1 := hwh.1
          have h2 := Int.tmod_nonneg 5 h1
          have h3 := Int.tmod_lt_of_pos which (show (0 : Int) < 5 by decide)
          exact ⟨(which.tmod 5).toNat, by omega, by omega⟩
        go_upto_region 7 with (fail)
        obtain ⟨o, hg, ho1, ho2, hoe⟩ := chainop_at hj
        have hoe' : [Value.int IntKind.u8 1, Value.int IntKind.u8 3, Value.int IntKind.u8 8, Value.int IntKind.u8 9, Value.int IntKind.u8 10][j]'hj = .int .u8 o := hoe
        rw [hoe']
        have HG := Lib.hid hg
        have HO := Lib.hid (And.intro ho1 ho2)
        obtain ⟨P, HS1⟩ : ∃ P, Hid (Ses w w.heap.size g m P (w1.alloc (Obj.cells #[Value.int IntKind.u8 1, Value.int IntKind.u8 3, Value.int IntKind.u8 8, Value.int IntKind.u8 9, Value.int IntKind.u8 10] 27)) L) := ⟨_, HS.out.new _⟩
        clear HS hoe hoe' hg ho1 ho2 hjt hj
        change Code.wp _ _ _ _ (w1.alloc (Obj.cells #[Value.int IntKind.u8 1, Value.int IntKind.u8 3, Value.int IntKind.u8 8, Value.int IntKind.u8 9, Value.int IntKind.u8 10] 27))
        generalize w1.alloc (Obj.cells #[Value.int IntKind.u8 1, Value.int IntKind.u8 3, Value.int IntKind.u8 8, Value.int IntKind.u8 9, Value.int IntKind.u8 10] 27) = W1 at *
        generalize w1.heap.size = ob at *
        obtain ⟨z, hz⟩ : ∃ z : Nat → Int, z = fun i => us.getD i 0 := ⟨_, rfl⟩
        have HZ : Hid (∀ t, InR (z t)) := by rw [hz]; exact fun t => roots_inr HR.out t
        have HN : Hid (0 < k → ∃ b off, na = some ⟨b, off, none⟩ ∧ ∀ t, t < k → w.cell? ⟨b, off + t, none⟩ = some (.int .i64 (z t))) := by rw [hz]; exact fun h => roots_nums HR.out h
        clear hz HR
        go_wp2_with fail
        refine (pick_any turn k _ HX.out.2 (by omega)).mono ?_
        rintro e w' ⟨rfl, rfl⟩
        obtain ⟨r, hr, hrk⟩ : ∃ r : Nat, pickI turn k = (r : Int) ∧ r ≤ k := by
          unfold pickI
          by_cases h : k = 0
          · exact ⟨0, by rw [if_pos h]; rfl, by omega⟩
          · rw [if_neg h]
            have h1 := Int.emod_nonneg turn (show (k : Int) ≠ 0 by omega)
            have h2 := Int.emod_lt_of_pos turn (show (0 : Int) < k by omega)
            exact ⟨(turn % k).toNat, by omega, by omega⟩
        rw [hr]
        clear hr
        obtain ⟨z', hz'⟩ : ∃ z' : Nat → Int, z' = fun i => z ((i + r) % k) := ⟨_, rfl⟩
        have HZ' := Lib.hid hz'
        clear hz'
        go_wp2
        go_loopw [18, 19, 20] (fun o1 o2 i wr => ∃ (t : Nat) (x1 x2 : Int) (Lt : List Nd), t ≤ k ∧ i = .int .i64 t ∧ o1 = .int .i64 x1 ∧ o2 = .int .i64 x2 ∧ Ses w w.heap.size g m P wr Lt ∧ Ext L Lt ∧ Hid (Ch Lt o z t a x1 ∧ Ch Lt o z' t a x2) ∧ Hid (Know Lt x1 (60 + 2 * t) ∧ Know Lt x2 (60 + 2 * t)) ∧ Hid (Lt.length ≤ 46000 + t * 1400)) (fun _ _ i _ => k - (intOf i).toNat)
        case atStart => exact ⟨0, a, a, L, Nat.zero_le _, rfl, rfl, rfl, HS1.out, Ext.refl _, ⟨rfl, rfl⟩, ⟨⟨HP.out.has, HDA.out⟩, ⟨HP.out.has, HDA.out⟩⟩, by have := HLL.out; show _ ≤ _; omega⟩
        case round =>
          obtain ⟨t, x1, x2, Lt, htk, rfl, rfl, rfl, hS, hE, hCh, hKn, hLn⟩ := hrel
          have HS := Lib.hid hS
          have HE := Lib.hid hE
          clear hS hE HS1
          by_cases hlt : t < k
          · obtain ⟨nb, off, rfl, hcell⟩ := HN.out (by omega)
            have HCE := Lib.hid hcell
            clear hcell
            obtain ⟨q, hq, hqk⟩ : ∃ q : Nat, ((t : Int) + (r : Int)).tmod (k : Int) = (q : Int) ∧ q < k ∧ (t + r) % k = q := by
              have h1 := Nat.mod_lt (t + r) (show 0 < k by omega)
              refine ⟨(t + r) % k, ?_, h1, rfl⟩
              rw [Int.tmod_eq_emod_of_nonneg (by omega)]
              rfl
            have HQ := Lib.hid hqk.2
            have hqk2 := hqk.1
            clear hqk
            have kz : ((k : Int) == 0) = false := beq_eq_false_iff_ne.2 (by omega)
            have c0 := HS.out.kept.cell (HCE.out t hlt)
            go_wp2_with fail
            refine (num_ses HS.out (z t) (HZ.out t) (by have := hLn.out; omega)).mono ?_
            rintro e w3 ⟨i1, L1, rfl, q1, q2, q3, q4⟩
            have HS1 := Lib.hid q1
            have HE1 := Lib.hid q2
            have HC1 := Lib.hid q3
            have HN1 : Hid (L1.length ≤ 46000 + t * 1400 + 1) := by have := hLn.out; show _ ≤ _; omega
            clear q1 q2 q3 q4 c0
            go_wp2_with fail
            refine (bin_ses HS1.out o x1 i1 HO.out.1 HO.out.2 (hKn.out.1.ext HE1.out).1 HC1.out.1 (46000 + t * 1400 + 1) (60 + 2 * t) HN1.out (hKn.out.1.ext HE1.out).2 (Nat.le_trans (know_cn HS1.out.good HC1.out).2 (by omega)) (by omega)).mono ?_
            rintro e w4 ⟨y1, L2, rfl, q1, q2, q3, q4⟩
            have HS2 := Lib.hid q1
            have HA2 := Lib.hid q2
            have HN2 : Hid (L2.length ≤ 46000 + t * 1400 + 662) := by show _ ≤ _; omega
            have HD2 : Hid (dN L2 y1 ≤ 60 + 2 * t + 2) := q4
            clear q1 q2 q3 q4
            have c1 := HS2.out.kept.cell (HCE.out q hqk2)
            go_wp2_with fail
            refine (num_ses HS2.out (z q) (HZ.out q) (by have := HN2.out; omega)).mono ?_
            rintro e w5 ⟨i2, L3, rfl, q1, q2, q3, q4⟩
            have HS3 := Lib.hid q1
            have HE3 := Lib.hid q2
            have HC3 := Lib.hid q3
            have HN3 : Hid (L3.length ≤ 46000 + t * 1400 + 663) := by have := HN2.out; show _ ≤ _; omega
            clear q1 q2 q3 q4 c1
            have HK3 := Lib.hid (hKn.out.2.ext (HE1.out.trans (HA2.out.ext.trans HE3.out)))
            go_wp2_with fail
            refine (bin_ses HS3.out o i2 x2 HO.out.1 HO.out.2 HC3.out.1 HK3.out.1 (46000 + t * 1400 + 663) (60 + 2 * t) HN3.out (Nat.le_trans (know_cn HS3.out.good HC3.out).2 (by omega)) HK3.out.2 (by omega)).mono ?_
            rintro e w6 ⟨y2, L4, rfl, q1, q2, q3, q4⟩
            have HS4 := Lib.hid q1
            have HA4 := Lib.hid q2
            have HN4 : Hid (L4.length ≤ 46000 + (t + 1) * 1400) := by show _ ≤ _; omega
            have HD4 : Hid (dN L4 y2 ≤ 60 + 2 * (t + 1)) := by show _ ≤ _; omega
            clear q1 q2 q3 q4
            have HEE : Hid (Ext Lt L4) := HE1.out.trans (HA2.out.ext.trans (HE3.out.trans HA4.out.ext))
            have HCC : Hid (Ch L4 o z (t + 1) a y1 ∧ Ch L4 o z' (t + 1) a y2) := by
              have hG4 := HS4.out.good
              refine ⟨⟨x1, i1, hCh.out.1.ext HS.out.good HEE.out HO.out.1 HO.out.2, (hKn.out.1.ext HEE.out).1, HC1.out.ext (HA2.out.ext.trans (HE3.out.trans HA4.out.ext)), HA2.out.run _ (HE3.out.trans HA4.out.ext)⟩, x2, i2, hCh.out.2.ext HS.out.good HEE.out HO.out.1 HO.out.2, (hKn.out.2.ext HEE.out).1, ?_, ?_⟩
              · rw [HZ'.out]
                show CN L4 (z ((t + r) % k)) i2
                rw [HQ.out]
                exact HC3.out.ext HA4.out.ext
              · have hh : hasB L4.length i2 = true := HA4.out.ext.has HC3.out.1
                exact run_swap hG4 (swaps_of HG.out) ⟨HO.out.1, HO.out.2, hh, (hKn.out.2.ext HEE.out).1⟩ (HA4.out.run _ (Ext.refl _))
            have HKK : Hid (Know L4 y1 (60 + 2 * (t + 1)) ∧ Know L4 y2 (60 + 2 * (t + 1))) :=
              ⟨(show Know L2 y1 (60 + 2 * (t + 1)) from ⟨HA2.out.has, HD2.out⟩).ext (HE3.out.trans HA4.out.ext), HA4.out.has, HD4.out⟩
            go_wp2
            go_roundw
            case rel => exact ⟨t + 1, y1, y2, L4, by omega, by go_num, rfl, rfl, HS4.out, HE.out.trans HEE.out, HCC, HKK, HN4⟩
            case measure => simp [intOf]; omega
          · obtain rfl : t = k := by omega
            have hxx : x1 = x2 := by
              have h2 := hCh.out.2
              rw [HZ'.out] at h2
              exact ch_same HS.out.good HG.out (HP.out.ext HG0.out HE.out) hrk hCh.out.1 h2
            subst hxx
            have hne : (x1 != x1) = false := by simp
            by_cases hk0 : t = 0
            · have d0 : ((t : Int) == 0) = true := by rw [hk0]; rfl
              go_wp2_with fail
              refine (works_any _ (HL.out.1.kept HS.out.kept) (HL.out.2.below HS.out.kept)).mono ?_
              rintro e w5 ⟨rfl, hk5⟩
              have HK5 := Lib.hid (HS.out.kept.trans hk5)
              clear hk5
              go_wp2
              go_ret
              exact ⟨rfl, HK5.out⟩
            · have d0 : ((t : Int) == 0) = false := beq_eq_false_iff_ne.2 (by omega)
              obtain ⟨nb, off, rfl, hcell⟩ := HN.out (by omega)
              have HCE := Lib.hid hcell
              clear hcell
              go_wp2_with fail
              refine (all_nums o (by omega) HC.out.1 HC.out.2 HZ.out (fun i hi => HS.out.kept.cell (HCE.out i hi))).mono ?_
              rintro e w3 ⟨rfl, hk3⟩
              have HS3 := Lib.hid (HS.out.then hk3)
              clear hk3
              have HIA := Lib.hid (acc_in (op := o) (z := z) (HZ.out 0) (t - 1))
              obtain ⟨v, hv⟩ : ∃ v, v = accTo o z (t - 1) := ⟨_, rfl⟩
              rw [← hv] at HIA ⊢
              have HV := Lib.hid hv
              clear hv
              go_wp2_with fail
              refine (num_ses HS3.out v HIA.out (by have := hLn.out; omega)).mono ?_
              rintro e w4 ⟨i1, L1, rfl, q1, q2, q3, q4⟩
              have HS4 := Lib.hid q1
              have HE4 := Lib.hid q2
              have HC4 := Lib.hid q3
              have HN4 : Hid (L1.length ≤ 46000 + 10 * 1400 + 1) := by have := hLn.out; show _ ≤ _; omega
              clear q1 q2 q3 q4
              have HKA := Lib.hid ((show Know L a 60 from ⟨HP.out.has, HDA.out⟩).ext (HE.out.trans HE4.out))
              go_wp2_with fail
              refine (bin_ses HS4.out o a i1 HO.out.1 HO.out.2 HKA.out.1 HC4.out.1 (46000 + 10 * 1400 + 1) 60 HN4.out HKA.out.2 (Nat.le_trans (know_cn HS4.out.good HC4.out).2 (by omega)) (by omega)).mono ?_
              rintro e w5 ⟨u, L2, rfl, q1, q2, q3, q4⟩
              have HS5 := Lib.hid q1
              have HA5 := Lib.hid q2
              clear q1 q2 q3 q4
              have hxu : x1 = u := by
                obtain ⟨t', rfl⟩ : ∃ t', t = t' + 1 := ⟨t - 1, by omega⟩
                have h1 := hCh.out.1.ext HS.out.good (HE4.out.trans HA5.out.ext) HO.out.1 HO.out.2
                have h2 := HC4.out.ext HA5.out.ext
                rw [HV.out] at h2
                exact ch_all HS5.out.good HG.out (HP.out.ext HG0.out (HE.out.trans (HE4.out.trans HA5.out.ext))) h1 h2 (HA5.out.run _ (Ext.refl _))
              subst hxu
              have heq : (x1 == x1) = true := by simp
              go_wp2_with fail
              refine (works_any _ (HL.out.1.kept HS5.out.kept) (HL.out.2.below HS5.out.kept)).mono ?_
              rintro e w6 ⟨rfl, hk6⟩
              have HK6 := Lib.hid (HS5.out.kept.trans hk6)
              clear hk6
              go_wp2
              go_ret
              exact ⟨rfl, HK6.out⟩
    · have d10 : decide ((10 : Int) < (k : Int)) = true := decide_eq_true (by omega)
      go_wp2_with fail
      refine (works_any _ HL.out.1 HL.out.2).mono ?_
      rintro e w2 ⟨rfl, hk2⟩
      have HK2 := Lib.hid hk2
      clear hk2
      go_wp2
      go_ret
      exact ⟨rfl, HK2.out⟩
  · have d20 : decide ((20 : Int) < (n : Int)) = true := decide_eq_true (by omega)
    go_wp2_with fail
    refine (works_any _ HL.out.1 HL.out.2).mono ?_
    rintro e w2 ⟨rfl, hk2⟩
    have HK2 := Lib.hid hk2
    clear hk2
    go_wp2
    go_ret
    exact ⟨rfl, HK2.out⟩
end Go.Proofs.YtheehlhhkmjloaaGreatDoor
