/-
  Layer 5, ClauseKnown: the closed law's walk: a formula's text, each byte of it another one; clauses of each two literals; bounds.
  Before it: Layer 5, ClauseModels (the stage's theorem): the law's walk.
-/
import Derived.Test.YtlikokeknfhejaaGreatDoorCModels0
import Derived.Test.YtlikokeknfhejaaGreatDoorCAssign
import Derived.Deep.DeepCutAuto
import Derived.Deep.OwnRows
import Derived.Test.YtlikokeknfhejaaGreatDoorKMText
import Derived.Test.YtlikokeknfhejaaGreatDoorKMHold
import Derived.Test.YtlikokeknfhejaaGreatDoorKMUnit
namespace Go.Proofs.YtlikokeknfhejaaGreatDoor
open Go Go.RowKit Go.Lib

set_option maxHeartbeats 1000000 in
theorem pick_is (i : Int) (n : Nat) (hn0 : n ≠ 0) (hn : n ≤ 1000000000) : ∃ k : Nat, k < n ∧ ∀ w, Calls Tryz.prog 20 #[.int .i64 i, .int .i64 n] w fun e w' => e = .returned (.int .i64 k) ∧ w' = w := by
  have h0 := hn0
  obtain ⟨p1, p2, p3⟩ := pick_arith i n h0 hn
  have HP := Lib.hid p1
  have d0 : decide ((n : Int) ≤ 0) = false := decide_eq_false (by omega)
  have n0 : ((n : Int) == 0) = false := beq_eq_false_iff_ne.2 (by omega)
  have n1 : (n : Int) ≤ 1000000000 := by omega
  have n2 : 0 < (n : Int) := by omega
  have q1 := Int.emod_nonneg i (show (n : Int) ≠ 0 by omega)
  have q2 := Int.emod_lt_of_pos i (show (0 : Int) < n by omega)
  obtain ⟨k, hk⟩ : ∃ k : Nat, (k : Int) = i % n := ⟨(i % n).toNat, by omega⟩
  have HKK := Lib.hid hk
  have hkn : k < n := by omega
  obtain ⟨t, ht⟩ : ∃ t : Int, t = i.tmod n := ⟨_, rfl⟩
  rw [← ht] at p2 p3
  have HT := Lib.hid ht
  clear p1 h0 hn hn0 q1 q2 hk ht
  refine ⟨k, hkn, fun w => ?_⟩
  go_enter Tryz.func20, Tryz.ntmps20
  go_wp2
  go_ret
  refine ⟨?_, rfl⟩
  rw [HKK.out, ← HP.out, ← HT.out]
  have e : wrap64 (t + n) = t + n := IntWalk.wrap64_in _ (by omega)
  simp only [e]; rfl
theorem few_len {C : List (List Int)} {top : Int} (h : fewF C top = true) : (C.length : Int) ≤ top ∧ ∀ c ∈ C, c.length ≤ 30 := by
  unfold fewF at h
  simpa using h
/-- Assign's answer as one form. -/
theorem AsgPost.one {V : Int} {C : List (List Int)} {lits : List Int} {w w' : World} {e : Ending} (h : AsgPost V C lits w e w') : Kept w w' ∧ ∃ LV a k c ok, e = .returned (.tuple #[.agg #[.int .i64 LV, .slice a k c], .bool ok]) ∧ (ok = true → LV = V ∧ AsgOk V C lits ∧ ClsAt w' a k (asg C lits)) := by
  obtain ⟨hk, ⟨_, rfl⟩ | ⟨ho, a, k, c, rfl, hC⟩⟩ := h
  · exact ⟨hk, 0, none, 0, 0, false, rfl, fun h => by cases h⟩
  · exact ⟨hk, V, a, k, c, true, rfl, fun _ => ⟨rfl, ho, hC⟩⟩
theorem UPost.one {V : Int} {C : List (List Int)} {w w' : World} {e : Ending} (h : UPost V C w e w') (hr : rightB V C = true) : Kept w w' ∧ ∃ a k c ok, e = .returned (.tuple #[.slice a k c, .bool ok]) ∧ (ok = true → ∃ K, UnitsRes C (some K) ∧ IntsAt w' a k K ∧ Fit a k c) ∧ (ok = false → UnitsRes C none) := by
  obtain ⟨hk, ⟨hno, _⟩ | ⟨_, ⟨hu, rfl⟩ | ⟨a, k, c, K, hu, rfl, hI, hF⟩⟩⟩ := h
  · rw [hr] at hno; cases hno
  · exact ⟨hk, none, 0, 0, false, rfl, (fun h => by cases h), fun _ => hu⟩
  · exact ⟨hk, a, k, c, true, rfl, (fun _ => ⟨K, hu, hI, hF⟩), fun h => by cases h⟩
theorem ResPost.one {a b : List Int} {v : Int} {w w' : World} {e : Ending} (h : ResPost a b v w e w') : Kept w w' ∧ ∃ r k c ok, e = .returned (.tuple #[.slice r k c, .bool ok]) ∧ (ok = true → ResOk a b v ∧ ∃ K, CleanRes (both a b v) (some K) ∧ IntsAt w' r k K ∧ K.length ≤ a.length + b.length) := by
  obtain ⟨hk, ⟨_, rfl⟩ | ⟨ho, r, k, c, K, hK, rfl, hI, hl⟩⟩ := h
  · exact ⟨hk, none, 0, 0, false, rfl, fun h => by cases h⟩
  · exact ⟨hk, r, k, c, true, rfl, fun _ => ⟨ho, K, hK, hI, hl⟩⟩
/-- A row that was taken of the clauses, or none. -/
def RowIn (V : Int) (w : World) (s : Value) (A : List Int) : Prop := ∃ a k c, s = .slice a k c ∧ IntsAt w a k A ∧ (a = none → k = 0 ∧ c = 0) ∧ k ≤ 30 ∧ allB V A = true
theorem RowIn.kept {V : Int} {w w' : World} {s : Value} {A : List Int} (h : RowIn V w s A) (k : Kept w w') : RowIn V w' s A := by
  obtain ⟨a, n, c, h1, h2, h3⟩ := h
  exact ⟨a, n, c, h1, h2.kept k, h3⟩
theorem RowIn.none (V : Int) (w : World) : RowIn V w (.slice none 0 0) [] := ⟨_, 0, 0, rfl, ⟨rfl, by simp, fun h => absurd h (by decide)⟩, fun _ => ⟨rfl, rfl⟩, by decide, rfl⟩
theorem right_row {V : Int} {C : List (List Int)} (h : rightB V C = true) {c : List Int} (hc : c ∈ C) : allB V c = true := by
  obtain ⟨_, _, _, h4⟩ := (rightB_iff V C).1 h
  exact (allB_iff V c).2 (h4 c hc)
theorem right_nz {V : Int} {C : List (List Int)} (h : rightB V C = true) : NoZero C := fun c hc x hx => (((rightB_iff V C).1 h).2.2.2 c hc x hx).1

theorem setCellM_row {w : World} {b : Nat} {cs : Array Value} {t : TypeId} {fr : Nat × Nat} (h : w.heap[b]? = some (.cells cs t fr)) (o : Nat) (v : Value) : (w.setCell ⟨b, o, none⟩ v).heap[b]? = some (.cells (cs.setIfInBounds o v) t fr) := by
  simp only [World.setCell, Array.getElem?_modify, if_true, h]
  rfl
theorem infoBool : (Tryz.prog.info? 4).map (fun i => (i.zero, i.size, i.bytes)) = some (some (.bool false), 1, 1) := by kernel_rfl
/-- A model's row. -/
def RowM (w : World) (b : Nat) (M : List Bool) : Prop := w.heap[b]? = some (.cells (M.map Value.bool).toArray 4 (0, 0))
theorem RowM.made (w : World) (u : Nat) : RowM (w.alloc (.cells (madeCells #[.bool false] u) 4)) w.heap.size (List.replicate u false) := by
  have h := (MapKept.heap_alloc w (.cells (madeCells #[.bool false] u) 4)).1
  have e : madeCells #[.bool false] u = ((List.replicate u false).map Value.bool).toArray := by
    apply Array.toList_inj.1
    rw [toList_madeCells_one]
    simp
  rw [e] at h
  unfold RowM
  rw [e]
  exact h
theorem RowM.set {w : World} {b : Nat} {M : List Bool} (h : RowM w b M) (j : Nat) (x : Bool) : RowM (w.setCell ⟨b, j, none⟩ (.bool x)) b (M.set j x) := by
  have h1 := setCellM_row h j (.bool x)
  unfold RowM
  rw [h1]
  simp [List.setIfInBounds_toArray, List.map_set]
theorem RowM.kept {w w' : World} {b : Nat} {M : List Bool} (h : RowM w b M) (k : Kept w w') : RowM w' b M := k.row h
theorem RowM.bools {w : World} {b : Nat} {M : List Bool} (h : RowM w b M) : BoolsAt w (some ⟨b, 0, none⟩) M.length M := ⟨rfl, fun _ => ⟨b, 0, rfl, fun j x hx => by
  rw [Nat.zero_add, cell_of_row _ _ _ _ _ _ h, ← Array.getElem?_toList]
  simp [hx]⟩⟩
theorem RowM.facts {w : World} {b : Nat} {M : List Bool} (h : RowM w b M) {j : Nat} (hj : j < M.length) : w.cell? ⟨b, j, none⟩ = some (.bool (M[j])) ∧ w.frozen? ⟨b, j, none⟩ = false ∧ b < w.heap.size :=
  ⟨by
    have := (h.bools.at_ (by omega))
    rw [cell_of_row _ _ _ _ _ _ h, ← Array.getElem?_toList]
    simp [List.getElem?_eq_getElem hj], frozen_of_row h j, (Array.getElem?_eq_some_iff.1 h).1⟩

theorem asg_right {V : Int} {C : List (List Int)} (h : rightB V C = true) (lits : List Int) : rightB V (asg C lits) = true := by
  obtain ⟨h1, h2, h3, h4⟩ := (rightB_iff V C).1 h
  refine (rightB_iff V _).2 ⟨h1, h2, ?_, ?_⟩
  · unfold asg
    rw [List.length_map]
    exact Nat.le_trans (List.length_filter_le _ _) h3
  · intro c hc x hx
    unfold asg at hc
    obtain ⟨d, hd, rfl⟩ := List.mem_map.1 hc
    exact h4 d (List.mem_filter.1 hd).1 x (List.mem_filter.1 hx).1
theorem asg_short {C : List (List Int)} {b : Nat} (h : ∀ c ∈ C, c.length ≤ b) (lits : List Int) : ∀ c ∈ asg C lits, c.length ≤ b := by
  intro c hc
  unfold asg at hc
  obtain ⟨d, hd, rfl⟩ := List.mem_map.1 hc
  exact Nat.le_trans (List.length_filter_le _ _) (h d (List.mem_filter.1 hd).1)
theorem asg_le (C : List (List Int)) (lits : List Int) : (asg C lits).length ≤ C.length := by
  unfold asg
  rw [List.length_map]
  exact List.length_filter_le _ _
theorem holdsB_in {u : Nat} {C : List (List Int)} {M : List Bool} (h : rightB (u : Int) C = true) (hM : M.length = u) : holdsB (u : Int) C M = hf M C := by
  unfold holdsB
  rw [h, hM]; simp
theorem fits_all {u : Nat} {L : List Int} (h : allB (u : Int) L = true) : FitsM u L := (allB_iff _ L).1 h
theorem fits_units {u : Nat} {C : List (List Int)} (h : rightB (u : Int) C = true) {K : List Int} (hK : UnitsRes C (some K)) : FitsM u K := by
  obtain ⟨F, hF, _, _, hm⟩ := hK
  intro x hx
  obtain ⟨c, hc, hxc⟩ := hF.from x ((hm x).1 hx)
  exact ((rightB_iff _ C).1 h).2.2.2 c hc x hxc
theorem each_units {C : List (List Int)} {M : List Bool} {K : List Int} (hC : NoZero C) (hm : hf M C = true) (hK : UnitsRes C (some K)) : eachB M K = true := by
  obtain ⟨S, hS, h⟩ := units_hold hC hm hK
  obtain rfl := Option.some.inj hS
  exact List.all_eq_true.2 h
theorem fits_both {u : Nat} {a b K : List Int} {v : Int} (ha : allB (u : Int) a = true) (hb : allB (u : Int) b = true) (hK : CleanRes (both a b v) (some K)) : FitsM u K := by
  intro x hx
  have h1 := (hK.2.2 x).1 hx
  unfold both at h1
  rcases List.mem_append.1 h1 with h | h
  · exact (allB_iff _ a).1 ha x (List.mem_filter.1 h).1
  · exact (allB_iff _ b).1 hb x (List.mem_filter.1 h).1

set_option maxRecDepth 100000 in
set_option maxHeartbeats 16000000 in
theorem clausemodels_any (V : Int) (ca la : Option Addr) (cn cc n c : Nat) (C : List (List Int)) (lits : List Int) (i k v : Int) (w : World) (hV : InR V) (hC : ClsAt w ca cn C) (hFC : Fit ca cn cc) (hL : IntsAt w la n lits) (hFL : Fit la n c) (hv : InR v) (hW : Laid w) :
    Calls Tryz.prog 10 #[.agg #[.int .i64 V, .slice ca cn cc], .slice la n c, .int .i64 i, .int .i64 k, .int .i64 v] w fun e w' => e = .returned (.bool true) ∧ Kept w w' := by
  have HK0 := Lib.hid ((Kept.refl w).alloc (fObj V ca cn cc))
  have HC := Lib.hid (hC.kept HK0.out)
  have HL := Lib.hid (hL.kept HK0.out)
  have HW := Lib.hid (hW.kept HK0.out)
  have HB := Lib.hid (MapKept.heap_alloc w (fObj V ca cn cc)).1
  have HV := Lib.hid hV
  have HVV := Lib.hid hv
  have HFL := Lib.hid hFL
  have HFC := Lib.hid hFC
  clear hC hL hW hV hv hFL hFC
  go_enter Tryz.func10, Tryz.ntmps10
  go_upto_region 1 with (fail)
  change Code.wp _ _ _ _ (w.alloc (fObj V ca cn cc))
  generalize w.alloc (fObj V ca cn cc) = W at *
  obtain ⟨fb, hfb⟩ : ∃ b : Nat, b = w.heap.size := ⟨_, rfl⟩
  rw [← hfb] at HB ⊢
  clear hfb
  obtain ⟨f0, f1⟩ := box_facts HB.out (Kept.refl W)
  go_wp2_with fail
  refine (few_any V 30 ca cn cc C W HC.out (Nat.le_trans HFC.out.2.1 HFC.out.2.2) (by unfold InR; decide)).mono ?_
  rintro e w1 ⟨rfl, hk1⟩
  have HK1 := Lib.hid hk1
  clear hk1 f0 f1
  cases hfew : fewF C 30 with
  | false =>
    clear hfew
    go_wp2_with fail
    refine (works_any _ (HW.out.kept HK1.out)).mono ?_
    rintro e w2 ⟨rfl, hk2⟩
    have HK2 := Lib.hid (HK0.out.trans (HK1.out.trans hk2))
    clear hk2
    go_wp2
    go_ret
    exact ⟨rfl, HK2.out⟩
  | true =>
  have HFW : Hid (C.length ≤ 30 ∧ ∀ c ∈ C, c.length ≤ 30) := by
    have := few_len hfew
    exact ⟨by omega, this.2⟩
  clear hfew
  have hcn : cn ≤ 30 := by rw [← HC.out.len]; exact HFW.out.1
  obtain ⟨f0, f1⟩ := box_facts HB.out HK1.out
  go_wp2_with fail
  refine (right_any V ca cn cc C w1 HV.out (HC.out.kept HK1.out) (by omega) (fun c hc => Nat.le_trans (HFW.out.2 c hc) (by decide))).mono ?_
  rintro e w2 ⟨rfl, hk2⟩
  have HK2 := Lib.hid (HK1.out.trans hk2)
  clear hk2 f0 f1
  cases hr : rightB V C with
  | false =>
    clear hr
    go_wp2_with fail
    refine (works_any _ (HW.out.kept HK2.out)).mono ?_
    rintro e w3 ⟨rfl, hk3⟩
    have HK3 := Lib.hid (HK0.out.trans (HK2.out.trans hk3))
    clear hk3
    go_wp2
    go_ret
    exact ⟨rfl, HK3.out⟩
  | true =>
  have HR := Lib.hid hr
  clear hr
  obtain ⟨f0, f1⟩ := box_facts HB.out HK2.out
  by_cases h8 : V ≤ 8
  case neg =>
    have d8 : decide (8 < V) = true := decide_eq_true (by omega)
    clear h8
    go_wp2_with fail
    refine (works_any _ (HW.out.kept HK2.out)).mono ?_
    rintro e w3 ⟨rfl, hk3⟩
    have HK3 := Lib.hid (HK0.out.trans (HK2.out.trans hk3))
    clear hk3
    go_wp2
    go_ret
    exact ⟨rfl, HK3.out⟩
  have d8 : decide (8 < V) = false := decide_eq_false (by omega)
  by_cases h10 : n ≤ 10
  case neg =>
    have d10 : decide ((10 : Int) < (n : Int)) = true := decide_eq_true (by omega)
    clear h8 h10
    go_wp2_with fail
    refine (works_any _ (HW.out.kept HK2.out)).mono ?_
    rintro e w3 ⟨rfl, hk3⟩
    have HK3 := Lib.hid (HK0.out.trans (HK2.out.trans hk3))
    clear hk3
    go_wp2
    go_ret
    exact ⟨rfl, HK3.out⟩
  have d10 : decide ((10 : Int) < (n : Int)) = false := decide_eq_false (by omega)
  have H8 := Lib.hid (And.intro h8 h10)
  clear h8 h10
  go_wp2_with fail
  refine (assign_any V ca la cn cc n c C lits w2 HV.out (HC.out.kept HK2.out) (by omega) (fun c hc => Nat.le_trans (HFW.out.2 c hc) (by decide)) (HL.out.kept HK2.out) (by have := H8.out.2; omega)).mono ?_
  rintro e w3 hpost
  obtain ⟨hk3, LV, ga, gk, gc, okA, rfl, hA⟩ := hpost.one
  have HASG := Lib.hid hA
  have HK3 := Lib.hid (HK2.out.trans hk3)
  clear hk3 hpost hA f0 f1 d8 d10
  go_upto_region 4 with (fail)
  have HBL := Lib.hid (MapKept.heap_alloc w3 (fObj LV ga gk gc)).1
  have HK4 := Lib.hid ((Kept.refl w3).alloc (fObj LV ga gk gc))
  change Code.wp _ _ _ _ (w3.alloc (fObj LV ga gk gc))
  generalize w3.alloc (fObj LV ga gk gc) = W4 at *
  obtain ⟨lb, hlb⟩ : ∃ b : Nat, b = w3.heap.size := ⟨_, rfl⟩
  rw [← hlb] at HBL ⊢
  clear hlb
  obtain ⟨f0, f1⟩ := box_facts HB.out (HK3.out.trans HK4.out)
  go_wp2_with fail
  refine (units_any V ca cn cc C W4 HV.out (HC.out.kept (HK3.out.trans HK4.out)) (by omega) (fun c hc => Nat.le_trans (HFW.out.2 c hc) (by decide)) (Nat.le_trans (flat_len HFW.out.2) (by have := HFW.out.1; omega))).mono ?_
  rintro e w5 hpost
  obtain ⟨hk5, ua, uk, uc, okU, rfl, hU, hU'⟩ := hpost.one HR.out
  have HU := Lib.hid hU
  have HU' := Lib.hid hU'
  have HK5 := Lib.hid (HK4.out.trans hk5)
  have HKW := Lib.hid (HK3.out.trans HK5.out)
  have HBL5 := Lib.hid (hk5.row HBL.out)
  clear hk5 hpost hU hU' f0 f1
  obtain ⟨f0, f1⟩ := box_facts HB.out HKW.out
  go_upto_if 56 with (fail)
  go_cut [15, 16] (fun sa sb wx => Kept w5 wx ∧ ∃ A1 A2, RowIn V wx sa A1 ∧ RowIn V wx sb A2)
  case first =>
    by_cases hc0 : cn = 0
    · subst hc0
      go_wp2
      go_meet
      case rel => exact ⟨Kept.refl _, [], [], RowIn.none _ _, RowIn.none _ _⟩
    · have d0 : decide ((0 : Int) < (cn : Int)) = true := decide_eq_true (by omega)
      obtain ⟨p, hp, hpick⟩ := pick_is i cn hc0 (by omega)
      obtain ⟨q, hq, hqick⟩ := pick_is k cn hc0 (by omega)
      have HP := Lib.hid hpick
      have HQ := Lib.hid hqick
      have HC5 := Lib.hid (HC.out.kept HKW.out)
      obtain ⟨cb, off, rfl, hat⟩ := HC5.out.at_ (by omega)
      obtain ⟨c1, hc1⟩ : ∃ c1, C[p]? = some c1 := ⟨_, List.getElem?_eq_getElem (by rw [HC.out.len]; exact hp)⟩
      obtain ⟨c2, hc2⟩ : ∃ c2, C[q]? = some c2 := ⟨_, List.getElem?_eq_getElem (by rw [HC.out.len]; exact hq)⟩
      obtain ⟨a1, k1, cap1, x1, hI1, hz1, hl1, _⟩ := hat p c1 hc1
      obtain ⟨a2, k2, cap2, x2, hI2, hz2, hl2, _⟩ := hat q c2 hc2
      have HR1 : Hid (RowIn V w5 (.slice a1 k1 cap1) c1) := ⟨a1, k1, cap1, rfl, hI1, (fun h => ⟨(hz1 h).1, (hz1 h).2⟩), by rw [← hI1.len]; exact HFW.out.2 c1 (List.mem_of_getElem? hc1), right_row HR.out (List.mem_of_getElem? hc1)⟩
      have HR2 : Hid (RowIn V w5 (.slice a2 k2 cap2) c2) := ⟨a2, k2, cap2, rfl, hI2, (fun h => ⟨(hz2 h).1, (hz2 h).2⟩), by rw [← hI2.len]; exact HFW.out.2 c2 (List.mem_of_getElem? hc2), right_row HR.out (List.mem_of_getElem? hc2)⟩
      have HX2 := Lib.hid x2
      have p1 : (p : Int) < (cn : Int) := by omega
      have q1 : (q : Int) < (cn : Int) := by omega
      clear hc0 hpick hqick hat hc1 hc2 hI1 hz1 hl1 hI2 hz2 hl2 x2
      go_wp2_with fail
      go_quiet ((go_at_call 20; exact Calls.quiet_of_same (HP.out _)))
      clear x1 f0 f1
      have HKQ := Lib.hid (Kept.drewN (Kept.refl w5) nq)
      generalize w5.drewN nq = w6 at *
      obtain ⟨f0, f1⟩ := box_facts HB.out (HKW.out.trans HKQ.out)
      have x2 := HKQ.out.cell HX2.out
      go_wp2_with fail
      go_quiet ((go_at_call 20; exact Calls.quiet_of_same (HQ.out _)))
      clear x2 f0 f1
      go_wp2
      go_meet
      case rel => exact ⟨Kept.drewN HKQ.out _, c1, c2, HR1.out.kept (Kept.drewN HKQ.out _), HR2.out.kept (Kept.drewN HKQ.out _)⟩
  case rest =>
    obtain ⟨hk6, A1, A2, ⟨a1, k1, c1, rfl, hI1, hz1, hl1, hr1⟩, a2, k2, c2, rfl, hI2, hz2, hl2, hr2⟩ := hcut
    have HK6 := Lib.hid (HKW.out.trans hk6)
    have HI1 := Lib.hid hI1
    have HI2 := Lib.hid hI2
    have HZ := Lib.hid (And.intro hz1 hz2)
    have HR12 := Lib.hid (And.intro hr1 hr2)
    have HU6 : Hid (okU = true → ∃ K, UnitsRes C (some K) ∧ IntsAt wc ua uk K ∧ Fit ua uk uc) := fun h => by
      obtain ⟨K, h1, h2, h3⟩ := HU.out h
      exact ⟨K, h1, h2.kept hk6, h3⟩
    have HA6 : Hid (okA = true → LV = V ∧ AsgOk V C lits ∧ ClsAt wc ga gk (asg C lits)) := fun h => by
      obtain ⟨h1, h2, h3⟩ := HASG.out h
      exact ⟨h1, h2, h3.kept (HK5.out.trans hk6)⟩
    have HBL6 := Lib.hid (hk6.row HBL5.out)
    clear hk6 hI1 hI2 hz1 hz2 hr1 hr2 f0 f1 HU HASG
    go_wp2_with fail
    refine (resolve_any a1 a2 k1 c1 k2 c2 A1 A2 v wc HI1.out HI2.out (by omega) (by omega) HZ.out.1 HZ.out.2 HVV.out).mono ?_
    rintro e w7 hpost
    obtain ⟨hk7, ra, rk, rc, okR, rfl, hR⟩ := hpost.one
    have HRR := Lib.hid hR
    have HK7 := Lib.hid hk7
    have HKW7 := Lib.hid (HK6.out.trans hk7)
    have HBL7 := Lib.hid (hk7.row HBL6.out)
    clear hk7 hpost hR
    obtain ⟨u, hu⟩ : ∃ u : Nat, V = (u : Int) := ⟨V.toNat, by have := ((rightB_iff V C).1 HR.out).1; omega⟩
    have u8 : u ≤ 8 := by have := H8.out.1; omega
    obtain ⟨T, hT⟩ : ∃ T : Nat, T = 2 ^ u := ⟨_, rfl⟩
    have hT9 : T ≤ 256 := by
      rw [hT]
      have := Nat.pow_le_pow_right (show 0 < 2 by decide) u8
      omega
    have hw : wrap64 (2 ^ u) = (T : Int) := by
      have : ((2 : Int) ^ u) = (T : Int) := by rw [hT]; simp
      rw [this]
      exact IntWalk.wrap64_in _ (by omega)
    subst hu
    have HTT := Lib.hid hT
    clear hT
    go_wp2
    run_tac do
      let g ← Lean.Elab.Tactic.getMainGoal
      let ty ← Lean.instantiateMVars (← g.getType)
      Lean.logInfo m!"GOAL {ty}"
    go_loopw [19] (fun s wr => ∃ mm : Nat, mm ≤ T ∧ s = .int .i64 mm ∧ Hid (Kept w7 wr)) (fun s _ => T - (intOf s).toNat)
    case atStart => exact ⟨0, by omega, rfl, Kept.refl _⟩
    case round =>
      obtain ⟨mm, hm, rfl, HKR⟩ := hrel
      by_cases hml : mm < T
      · have m1 : (mm : Int) < (T : Int) := by omega
        have m0 : (0 : Int) ≤ (mm : Int) := Int.natCast_nonneg _
        have l1 : (0 : Int) ≤ (u : Int) := Int.natCast_nonneg _
        have l2 : (u : Int) ≤ 8 := by omega
        obtain ⟨f0, f1⟩ := box_facts HB.out (HKW7.out.trans HKR.out)
        have hmk := run_make_row' (P := Tryz.prog) 32 4 (.bool false) 1 Tryz.underlying32 infoBool rfl .i64 .i64 u (by omega) (by omega)
        go_upto_region 14 with (fail)
        have HRM := Lib.hid (RowM.made wr u)
        have HKA := Lib.hid ((Kept.refl wr).alloc (.cells (madeCells #[.bool false] u) 4))
        change Code.wp _ _ _ _ (wr.alloc (.cells (madeCells #[.bool false] u) 4))
        obtain ⟨bm, hbm⟩ : ∃ b : Nat, b = wr.heap.size := ⟨_, rfl⟩
        rw [← hbm] at HRM ⊢
        have HBM := Lib.hid hbm
        generalize wr.alloc (.cells (madeCells #[.bool false] u) 4) = wa at *
        obtain ⟨wo, rfl⟩ : ∃ wo, wo = wr := ⟨_, rfl⟩
        clear hmk f0 f1 hbm hw m1
        go_wp2
        go_loopw [21] (fun s wr => ∃ (j : Nat) (M : List Bool), j ≤ u ∧ s = .int .i64 j ∧ M.length = u ∧ Hid (RowM wr bm M) ∧ Hid (Kept wo wr)) (fun s _ => u - (intOf s).toNat)
        case atStart => exact ⟨0, _, Nat.zero_le _, rfl, by simp, HRM.out, HKA.out⟩
        case round =>
          obtain ⟨j, M, hj, rfl, hMl, HRW, HKJ⟩ := hrel
          have HML := Lib.hid hMl
          have j0 : (0 : Int) ≤ (j : Int) := Int.natCast_nonneg _
          obtain ⟨f0, f1⟩ := box_facts HB.out (HKW7.out.trans (HKR.out.trans HKJ.out))
          by_cases hjl : j < u
          · have j1 : (j : Int) < (u : Int) := by omega
            have j2 : (j : Int) ≤ 64 := by omega
            obtain ⟨g0, g1, g2⟩ := HRW.out.facts (j := j) (by rw [HML.out]; exact hjl)
            clear hMl
            go_wp2
            go_roundw
            case rel => exact ⟨j + 1, M.set j _, by omega, by go_num, by rw [List.length_set]; exact HML.out, HRW.out.set j _, HKJ.out.setCell (p := ⟨bm, j, none⟩) (by have := HBM.out; show _ ≤ bm; omega) _⟩
            case measure => simp [intOf]; omega
          · obtain rfl : j = u := by omega
            have HCR := Lib.hid (HKW7.out.trans (HKR.out.trans HKJ.out))
            have HMB : Hid (BoolsAt wr (some ⟨bm, 0, none⟩) j M) := by
              have := HRW.out.bools
              rw [HML.out] at this
              exact this
            clear hMl
            go_wp2_with fail
            refine (holds_any (j : Int) ca (some ⟨bm, 0, none⟩) cn cc j j C M wr HV.out (HC.out.kept HCR.out) (by omega) (fun c hc => Nat.le_trans (HFW.out.2 c hc) (by decide)) HMB.out (by omega)).mono ?_
            rintro e w8 ⟨rfl, hk8⟩
            rw [holdsB_in HR.out HML.out]
            have HK8 := Lib.hid ((HKR.out.trans HKJ.out).trans hk8)
            have HMB8 := Lib.hid (HMB.out.kept hk8)
            clear hk8 f0 f1
            go_upto_region 19 with (fail)
            go_cut [22, 134] (fun _ s wx => s = .bool false ∧ Kept w8 wx)
            case first =>
              cases hh : hf M C with
              | false =>
                have HHF := Lib.hid hh
                clear hh
                cases okA with
                | false =>
                  go_wp2
                  go_meet
                  case rel => exact ⟨rfl, Kept.refl _⟩
                | true =>
                  obtain ⟨rfl, hok, hCA⟩ := HA6.out rfl
                  have HOK := Lib.hid hok
                  have HCA := Lib.hid (hCA.kept (HK7.out.trans HK8.out))
                  clear hok hCA
                  go_wp2_with fail
                  refine (each_any la (some ⟨bm, 0, none⟩) n c j j lits M w8 (HL.out.kept (HKW7.out.trans HK8.out)) HMB8.out HFL.out.2.1 HFL.out.2.2 (by omega) (fits_all HOK.out.2.1)).mono ?_
                  rintro e w' ⟨rfl, rfl⟩
                  cases he : eachB M lits with
                  | false =>
                    clear he
                    go_wp2
                    go_meet
                    case rel => exact ⟨rfl, Kept.refl _⟩
                  | true =>
                    have HEL := Lib.hid he
                    clear he
                    obtain ⟨l0, l1⟩ := box_facts HBL7.out HK8.out
                    go_wp2_with fail
                    refine (holds_any (j : Int) ga (some ⟨bm, 0, none⟩) gk gc j j (asg C lits) M w8 HV.out HCA.out (by have h1 := HCA.out.len; have h2 := asg_le C lits; have h3 := HFW.out.1; omega) (fun c hc => Nat.le_trans (asg_short HFW.out.2 lits c hc) (by decide)) HMB8.out (by omega)).mono ?_
                    rintro e w10 ⟨rfl, hk10⟩
                    rw [holdsB_in (asg_right HR.out lits) HML.out, asg_holds (right_nz HR.out) (List.all_eq_true.1 HEL.out), HHF.out]
                    have HKX := Lib.hid hk10
                    clear hk10 l0 l1
                    go_wp2
                    go_meet
                    case rel => exact ⟨rfl, HKX.out⟩
              | true =>
                have HHF := Lib.hid hh
                clear hh
                cases okU with
                | false =>
                  exfalso
                  obtain ⟨S, hS, _⟩ := units_hold (right_nz HR.out) HHF.out (HU'.out rfl)
                  cases hS
                | true =>
                  obtain ⟨K, hK, hIK, hFK⟩ := HU6.out rfl
                  have HUK := Lib.hid hK
                  have HIK := Lib.hid (hIK.kept (HK7.out.trans HK8.out))
                  have HFK := Lib.hid hFK
                  clear hK hIK hFK
                  go_wp2_with fail
                  refine (each_any ua (some ⟨bm, 0, none⟩) uk uc j j K M w8 HIK.out HMB8.out HFK.out.2.1 HFK.out.2.2 (by omega) (fits_units HR.out HUK.out)).mono ?_
                  rintro e w' ⟨rfl, rfl⟩
                  rw [each_units (right_nz HR.out) HHF.out HUK.out]
                  cases okA with
                  | false =>
                    go_wp2
                    go_meet
                    case rel => exact ⟨rfl, Kept.refl _⟩
                  | true =>
                    obtain ⟨rfl, hok, hCA⟩ := HA6.out rfl
                    have HOK := Lib.hid hok
                    have HCA := Lib.hid (hCA.kept (HK7.out.trans HK8.out))
                    clear hok hCA
                    go_wp2_with fail
                    refine (each_any la (some ⟨bm, 0, none⟩) n c j j lits M w8 (HL.out.kept (HKW7.out.trans HK8.out)) HMB8.out HFL.out.2.1 HFL.out.2.2 (by omega) (fits_all HOK.out.2.1)).mono ?_
                    rintro e w' ⟨rfl, rfl⟩
                    cases he : eachB M lits with
                    | false =>
                      clear he
                      go_wp2
                      go_meet
                      case rel => exact ⟨rfl, Kept.refl _⟩
                    | true =>
                      have HEL := Lib.hid he
                      clear he
                      obtain ⟨l0, l1⟩ := box_facts HBL7.out HK8.out
                      go_wp2_with fail
                      refine (holds_any (j : Int) ga (some ⟨bm, 0, none⟩) gk gc j j (asg C lits) M w8 HV.out HCA.out (by have h1 := HCA.out.len; have h2 := asg_le C lits; have h3 := HFW.out.1; omega) (fun c hc => Nat.le_trans (asg_short HFW.out.2 lits c hc) (by decide)) HMB8.out (by omega)).mono ?_
                      rintro e w10 ⟨rfl, hk10⟩
                      rw [holdsB_in (asg_right HR.out lits) HML.out, asg_holds (right_nz HR.out) (List.all_eq_true.1 HEL.out), HHF.out]
                      have HKX := Lib.hid hk10
                      clear hk10 l0 l1
                      go_wp2
                      go_meet
                      case rel => exact ⟨rfl, HKX.out⟩
            case rest =>
              obtain ⟨rfl, hk9⟩ := hcut
              have HK9 := Lib.hid (HK8.out.trans hk9)
              have HMB9 := Lib.hid (HMB8.out.kept hk9)
              clear hk9
              go_upto_region 21 with (fail)
              go_cut [151] (fun s wx => s = .bool false ∧ Kept wc wx)
              case first =>
                cases okR with
                | false =>
                  go_wp2
                  go_meet
                  case rel => exact ⟨rfl, Kept.refl _⟩
                | true =>
                  obtain ⟨hRes, K, hK, hIK, hKl⟩ := HRR.out rfl
                  have HRes := Lib.hid hRes
                  have HCK := Lib.hid hK
                  have HIK := Lib.hid (hIK.kept HK9.out)
                  have hrk : rk ≤ 1000000 := by
                    have h1 := hIK.len
                    have h2 := HI1.out.len
                    have h3 := HI2.out.len
                    omega
                  clear hRes hK hIK hKl
                  go_wp2_with fail
                  refine (rclause_any a1 (some ⟨bm, 0, none⟩) k1 c1 j j A1 M wc (HI1.out.kept (HK7.out.trans HK9.out)) HMB9.out (by omega) (by omega) (fits_all HR12.out.1)).mono ?_
                  rintro e w' ⟨rfl, rfl⟩
                  cases e1 : hc M A1 with
                  | false =>
                    clear e1
                    go_wp2
                    go_meet
                    case rel => exact ⟨rfl, Kept.refl _⟩
                  | true =>
                    have HE1 := Lib.hid e1
                    clear e1
                    go_wp2_with fail
                    refine (rclause_any a2 (some ⟨bm, 0, none⟩) k2 c2 j j A2 M wc (HI2.out.kept (HK7.out.trans HK9.out)) HMB9.out (by omega) (by omega) (fits_all HR12.out.2)).mono ?_
                    rintro e w' ⟨rfl, rfl⟩
                    cases e2 : hc M A2 with
                    | false =>
                      clear e2
                      go_wp2
                      go_meet
                      case rel => exact ⟨rfl, Kept.refl _⟩
                    | true =>
                      have HE2 := Lib.hid e2
                      clear e2
                      go_wp2_with fail
                      refine (rclause_any ra (some ⟨bm, 0, none⟩) rk rc j j K M wc HIK.out HMB9.out hrk (by omega) (fits_both HR12.out.1 HR12.out.2 HCK.out)).mono ?_
                      rintro e w' ⟨rfl, rfl⟩
                      rw [both_holds (by have := HRes.out.1; omega) HCK.out.2.2 HE1.out HE2.out]
                      go_wp2
                      go_meet
                      case rel => exact ⟨rfl, Kept.refl _⟩
              case rest =>
                obtain ⟨rfl, hk10⟩ := hcut
                have HK10 := Lib.hid (HK9.out.trans hk10)
                clear hk10
                go_wp2
                go_roundw
                case rel => exact ⟨mm + 1, by omega, by go_num, HK10.out⟩
                case measure => simp [intOf]; omega
      · obtain rfl : mm = T := by omega
        have l1 : (0 : Int) ≤ (u : Int) := Int.natCast_nonneg _
        have l2 : (u : Int) ≤ 64 := by omega
        obtain ⟨f0, f1⟩ := box_facts HB.out (HKW7.out.trans HKR.out)
        go_wp2_with fail
        refine (works_any _ (HW.out.kept (HKW7.out.trans HKR.out))).mono ?_
        rintro e w9 ⟨rfl, hk9⟩
        have HK9 := Lib.hid (HK0.out.trans (HKW7.out.trans (HKR.out.trans hk9)))
        clear hk9
        go_wp2
        go_ret
        exact ⟨rfl, HK9.out⟩
end Go.Proofs.YtlikokeknfhejaaGreatDoor

namespace Go.Proofs.YtlikokeknfhejaaGreatDoor
open Go Go.RowKit Go.Lib

/-! ### Literals of formulas, as the walk lays them -/
abbrev rowO (L : List Int) : Obj := .cells (L.map (Value.int .i64)).toArray 3
/-- Rows, laid one behind the other. -/
def laidRows (w : World) : List (List Int) → World
  | [] => w
  | L :: Ls => laidRows (w.alloc (rowO L)) Ls
def cellsRows (n : Nat) : List (List Int) → List Value
  | [] => []
  | L :: Ls => .slice (some ⟨n, 0, none⟩) L.length L.length :: cellsRows (n + 1) Ls
abbrev clsO (n : Nat) (Ls : List (List Int)) : Obj := .cells (cellsRows n Ls).toArray 22
theorem laidRows_kept {w0 : World} : ∀ (Ls : List (List Int)) (w : World), Kept w0 w → Kept w0 (laidRows w Ls)
  | [], _, h => h
  | L :: Ls, _, h => laidRows_kept Ls _ (h.alloc (rowO L))
theorem laidRows_size : ∀ (Ls : List (List Int)) (w : World), (laidRows w Ls).heap.size = w.heap.size + Ls.length
  | [], _ => rfl
  | L :: Ls, w => by
    show (laidRows (w.alloc (rowO L)) Ls).heap.size = _
    rw [laidRows_size Ls, List.length_cons]
    simp; omega
theorem cellsRows_get : ∀ (Ls : List (List Int)) (n j : Nat) (c : List Int), Ls[j]? = some c → (cellsRows n Ls)[j]? = some (.slice (some ⟨n + j, 0, none⟩) c.length c.length)
  | [], _, _, _, h => by cases h
  | L :: Ls, n, 0, c, h => by
    obtain rfl : L = c := by simpa using h
    rfl
  | L :: Ls, n, j + 1, c, h => by
    have := cellsRows_get Ls (n + 1) j c (by simpa using h)
    rw [cellsRows, List.getElem?_cons_succ, this]
    congr 4
    omega
theorem laidRows_row : ∀ (Ls : List (List Int)) (w : World) (j : Nat) (c : List Int), Ls[j]? = some c → (laidRows w Ls).heap[w.heap.size + j]? = some (.cells (c.map (Value.int .i64)).toArray 3 (0, 0))
  | [], _, _, _, h => by cases h
  | L :: Ls, w, 0, c, h => by
    obtain rfl : L = c := by simpa using h
    exact (laidRows_kept Ls _ (Kept.refl (w.alloc (rowO L)))).row (MapKept.heap_alloc w (rowO L)).1
  | L :: Ls, w, j + 1, c, h => by
    have := laidRows_row Ls (w.alloc (rowO L)) j c (by simpa using h)
    have hs : (w.alloc (rowO L)).heap.size = w.heap.size + 1 := by simp
    rw [hs] at this
    rw [show w.heap.size + (j + 1) = w.heap.size + 1 + j by omega]
    exact this
theorem cls_laid (w : World) (Ls : List (List Int)) (n : Nat) (hn : n = w.heap.size) (m : Nat) (hm : m = Ls.length) (a : Option Addr) (ha : a = some ⟨n + m, 0, none⟩) (hin : ∀ L ∈ Ls, ∀ x ∈ L, InR x) (hl : ∀ L ∈ Ls, L.length ≤ 1000) : ClsAt ((laidRows w Ls).alloc (clsO n Ls)) a m Ls := by
  subst ha; subst hm; subst hn
  have hD := (MapKept.heap_alloc (laidRows w Ls) (clsO w.heap.size Ls)).1
  rw [laidRows_size] at hD
  refine cls_lit hD fun j c hj => ⟨some ⟨w.heap.size + j, 0, none⟩, c.length, c.length, ?_, ?_, (fun h => by cases h), Nat.le_refl _, ?_⟩
  · rw [← Array.getElem?_toList]; exact cellsRows_get Ls _ j c hj
  · exact ints_lit (((Kept.refl _).alloc _).row (laidRows_row Ls w j c hj)) rfl (hin c (List.mem_of_getElem? hj))
  · have := hl c (List.mem_of_getElem? hj); omega
abbrev kC : List (List Int) := [[1], [-1, 2], [-2, 3, 3], [], [2, -2]]
abbrev kG (a b : Int) : List (List Int) := [[a], [a, b], [b, a, b], [-a, -b]]
theorem kC_in : ∀ L ∈ kC, ∀ x ∈ L, InR x := by
  intro L hL x hx
  simp only [List.mem_cons, List.not_mem_nil, or_false] at hL
  rcases hL with rfl | rfl | rfl | rfl | rfl <;> simp only [List.mem_cons, List.not_mem_nil, or_false] at hx <;> (unfold InR; omega)
theorem kG_in {a b : Int} (ha : -3 ≤ a ∧ a ≤ 3) (hb : -3 ≤ b ∧ b ≤ 3) : ∀ L ∈ kG a b, ∀ x ∈ L, InR x := by
  intro L hL x hx
  simp only [List.mem_cons, List.not_mem_nil, or_false] at hL
  rcases hL with rfl | rfl | rfl | rfl <;> simp only [List.mem_cons, List.not_mem_nil, or_false] at hx <;> (unfold InR; omega)
theorem short_of {Ls : List (List Int)} {n : Nat} (h : Ls.all (fun L => decide (L.length ≤ n)) = true) : ∀ L ∈ Ls, L.length ≤ n := fun L hL => by simpa using List.all_eq_true.1 h L hL

/-! ### A text's bytes in new memory -/
/-- A row of bytes, which is marked behind its cells. -/
def MarkedRow (w : World) (b : Nat) (L : List UInt8) : Prop := ∃ cs m, w.heap[b]? = some (.cells cs 5 (m, m + 1)) ∧ L.length ≤ m ∧ ∀ (j : Nat) (x : UInt8), L[j]? = some x → cs[j]? = some (.int .u8 (x.toNat : Int))
theorem MarkedRow.kept {w w' : World} {b : Nat} {L : List UInt8} (h : MarkedRow w b L) (k : Kept w w') : MarkedRow w' b L := by
  obtain ⟨cs, m, h1, h2⟩ := h
  exact ⟨cs, m, k.row h1, h2⟩
theorem cell_marked {w : World} {b : Nat} {cs : Array Value} {t : TypeId} {f : Nat × Nat} (h : w.heap[b]? = some (.cells cs t f)) (j : Nat) : w.cell? ⟨b, j, none⟩ = cs[j]? := by
  unfold World.cell?
  rw [h]; rfl
theorem MarkedRow.bytes {w : World} {b : Nat} {L : List UInt8} (h : MarkedRow w b L) : BytesAt w (some ⟨b, 0, none⟩) L.length L := by
  obtain ⟨cs, m, h1, h2, h3⟩ := h
  exact ⟨rfl, fun _ => ⟨b, 0, rfl, fun j x hj => by rw [Nat.zero_add, cell_marked h1]; exact h3 j x hj⟩⟩
theorem MarkedRow.facts {w : World} {b : Nat} {L : List UInt8} (h : MarkedRow w b L) {j : Nat} (hj : j < L.length) : w.cell? ⟨b, j, none⟩ = some (.int .u8 (L[j].toNat : Int)) ∧ w.frozen? ⟨b, j, none⟩ = false ∧ b < w.heap.size := by
  obtain ⟨cs, m, h1, h2, h3⟩ := h
  refine ⟨by rw [cell_marked h1]; exact h3 j _ (List.getElem?_eq_getElem hj), ?_, (Array.getElem?_eq_some_iff.1 h1).1⟩
  unfold World.frozen?
  rw [h1]
  simp; omega
theorem setCell_row {w : World} {b : Nat} {cs : Array Value} {t : TypeId} {fr : Nat × Nat} (h : w.heap[b]? = some (.cells cs t fr)) (o : Nat) (v : Value) : (w.setCell ⟨b, o, none⟩ v).heap[b]? = some (.cells (cs.setIfInBounds o v) t fr) := by
  simp only [World.setCell, Array.getElem?_modify, if_true, h]
  rfl
theorem MarkedRow.set {w : World} {b : Nat} {L : List UInt8} (h : MarkedRow w b L) {j : Nat} (hj : j < L.length) (x : UInt8) : MarkedRow (w.setCell ⟨b, j, none⟩ (.int .u8 (x.toNat : Int))) b (L.set j x) := by
  obtain ⟨cs, m, h1, h2, h3⟩ := h
  refine ⟨_, m, setCell_row h1 j _, by rw [List.length_set]; exact h2, fun i y hy => ?_⟩
  have h4 := h3 j _ (List.getElem?_eq_getElem hj)
  have hjs : j < cs.size := (Array.getElem?_eq_some_iff.1 h4).1
  rw [Array.getElem?_setIfInBounds]
  by_cases hij : j = i
  · subst hij
    rw [List.getElem?_set_self hj] at hy
    obtain rfl : x = y := by simpa using hy
    rw [if_pos rfl, if_pos hjs]
  · rw [if_neg hij]
    rw [List.getElem?_set_ne hij] at hy
    exact h3 i y hy
theorem conv_new (w : World) (T : List UInt8) (hT : T.length ≤ 100000) : ∃ cap W1, (convert 9 26 (.string ⟨T.toArray⟩)).run Tryz.prog w = .ok (.slice (some ⟨w.heap.size, 0, none⟩) T.length cap) W1 ∧ T.length ≤ cap ∧ cap ≤ 9223372036854775807 ∧ Kept w W1 ∧ MarkedRow W1 w.heap.size T := by
  have h := Lib.run_convert_string_bytes (P := Tryz.prog) w 9 26 5 ⟨T.toArray⟩ Tryz.underlying9 Tryz.underlying26 Tryz.underlying5
  have hs : (⟨T.toArray⟩ : ByteArray).size = T.length := by simp [ByteArray.size]
  rw [hs] at h
  have h1 := grownCap_ge w T.length 0 5
  have h2 := grownCap_le_maxLen w T.length 0 5 (by unfold maxLen; omega)
  refine ⟨_, _, h, h1, by unfold maxLen at h2; omega, ⟨rfl, rfl, rfl, ?_, fun i hi => Lib.bytesWorld_at_old _ _ _ i hi⟩, _, _, Lib.bytesWorld_at_new _ _ _, ?_, fun j x hj => ?_⟩
  · rw [Lib.bytesWorld_size]; omega
  · unfold Lib.bytesCells
    simp
  · have hjl := (List.getElem?_eq_some_iff.1 hj).1
    have hc := Lib.bytesWorld_cell w 5 ⟨T.toArray⟩ j (by rw [hs]; exact hjl)
    rw [cell_marked (Lib.bytesWorld_at_new _ _ _)] at hc
    rw [hc]
    simp [List.getD_eq_getElem?_getD, hj]
theorem conv_const (w : World) (C : Array Value) (n m : Nat) (hm : m = C.size) : (convert 26 26 (.slice (some ⟨w.heap.size, 0, none⟩) n n)).run Tryz.prog (w.alloc (.cells C 5)) = .ok (.slice (some ⟨w.heap.size, 0, none⟩) n n) (w.alloc (.cells C 5 (m, m + 1))) := by
  subst hm
  exact Lib.run_convert_bytes_const (P := Tryz.prog) w 26 5 C n n Tryz.underlying26 Tryz.underlying5
abbrev c7 : Array Value := #[.int .u8 48, .int .u8 32, .int .u8 49, .int .u8 45, .int .u8 10, .int .u8 112, .int .u8 51]
abbrev o7 : Obj := .cells c7 5 (7, 8)
theorem o7_at (p : Nat) (hp : p < 7) : ∃ x : UInt8, ∀ W : World, (W.alloc o7).cell? ⟨W.heap.size, p, none⟩ = some (.int .u8 (x.toNat : Int)) := by
  have h : ∃ x : UInt8, c7[p]? = some (.int .u8 (x.toNat : Int)) := by
    have : p = 0 ∨ p = 1 ∨ p = 2 ∨ p = 3 ∨ p = 4 ∨ p = 5 ∨ p = 6 := by omega
    rcases this with rfl | rfl | rfl | rfl | rfl | rfl | rfl
    · exact ⟨48, rfl⟩
    · exact ⟨32, rfl⟩
    · exact ⟨49, rfl⟩
    · exact ⟨45, rfl⟩
    · exact ⟨10, rfl⟩
    · exact ⟨112, rfl⟩
    · exact ⟨51, rfl⟩
  obtain ⟨x, hx⟩ := h
  exact ⟨x, fun W => by rw [cell_marked (MapKept.heap_alloc W o7).1]; exact hx⟩
abbrev c10 : Array Value := #[.int .u8 112, .int .u8 32, .int .u8 99, .int .u8 110, .int .u8 102, .int .u8 32, .int .u8 48, .int .u8 32, .int .u8 48, .int .u8 10]
abbrev o10 : Obj := .cells c10 5 (10, 11)
theorem o10_row (W : World) : MarkedRow (W.alloc o10) W.heap.size [112, 32, 99, 110, 102, 32, 48, 32, 48, 10] := by
  refine ⟨_, 10, (MapKept.heap_alloc W o10).1, by decide, fun j x hj => ?_⟩
  have h : c10 = (([112, 32, 99, 110, 102, 32, 48, 32, 48, 10] : List UInt8).map fun x => Value.int .u8 (x.toNat : Int)).toArray := rfl
  rw [h, List.getElem?_toArray, List.getElem?_map, hj]; rfl
theorem kC_put : (putT 3 kC).length ≤ 100000 ∧ 0 < (putT 3 kC).length := by decide +kernel

/-! ### Rows that are laid -/
theorem row0 (w : World) (L : List Int) (hin : ∀ x ∈ L, InR x) (n : Nat) (hn : n = L.length) : IntsAt (w.alloc (rowO L)) (some ⟨w.heap.size, 0, none⟩) n L := by
  subst hn
  exact ints_lit (MapKept.heap_alloc w (rowO L)).1 rfl hin
theorem bools0 (w : World) : BoolsAt (w.alloc (.cells #[.bool true, .bool false] 4)) (some ⟨w.heap.size, 0, none⟩) 2 [true, false] := by
  refine ⟨rfl, fun _ => ⟨w.heap.size, 0, rfl, fun j x hx => ?_⟩⟩
  rw [Nat.zero_add, cell_marked (MapKept.heap_alloc w _).1]
  match j, hx with
  | 0, hx => obtain rfl : true = x := by simpa using hx
             rfl
  | 1, hx => obtain rfl : false = x := by simpa using hx
             rfl
theorem size1 (w : World) (o : Obj) : (w.alloc o).heap.size = w.heap.size + 1 := by simp
theorem kfit (a : Addr) (k : Nat) (h : k ≤ 9223372036854775807) : Fit (some a) k k := ⟨fun h => (by cases h), Nat.le_refl _, h⟩
theorem nfit : Fit none 0 0 := ⟨fun _ => ⟨rfl, rfl⟩, Nat.le_refl _, by decide⟩
theorem inr3 {a : Int} (h : -3 ≤ a ∧ a ≤ 3) : InR a := ⟨by omega, by omega⟩

/-- Rows of nothing, as many as are made. -/
theorem cls_made (w : World) (u : Nat) : ClsAt (w.alloc (.cells (madeCells #[.slice none 0 0] u) 22)) (some ⟨w.heap.size, 0, none⟩) u (List.replicate u []) := by
  have h := (MapKept.heap_alloc w (.cells (madeCells #[.slice none 0 0] u) 22)).1
  refine ⟨List.length_replicate, fun _ => ⟨w.heap.size, 0, rfl, fun j c hj => ?_⟩⟩
  have hj1 := (List.getElem?_eq_some_iff.1 hj).1
  rw [List.length_replicate] at hj1
  obtain rfl : [] = c := by
    rw [List.getElem?_replicate, if_pos hj1] at hj
    exact Option.some.inj hj
  refine ⟨none, 0, 0, ?_, IntsAt.nil _ _, fun _ => ⟨rfl, rfl⟩, Nat.le_refl _, by decide⟩
  rw [Nat.zero_add, cell_marked h, ← Array.getElem?_toList, toList_madeCells_one, List.getElem?_replicate, if_pos hj1]
theorem right_big : rightB 0 (List.replicate 1048577 []) = false := by
  cases h : rightB 0 (List.replicate 1048577 []) with
  | false => rfl
  | true =>
    have := ((rightB_iff _ _).1 h).2.2.1
    rw [List.length_replicate] at this
    omega
theorem short_made : Short (List.replicate 1048577 []) := fun c hc => by
  rw [(List.mem_replicate.1 hc).2]
  exact Nat.zero_le _

set_option maxRecDepth 100000 in
set_option maxHeartbeats 16000000 in
theorem clauseknown_any (w : World) (hW : Laid w) (hT : Tabs w) :
    Calls Tryz.prog 3 #[] w fun e w' => e = .returned (.bool true) ∧ Kept w w' := by
  have HW0 := Lib.hid hW
  have HT0 := Lib.hid hT
  clear hW hT
  have HC0 := Lib.hid ((cls_laid w kC w.heap.size rfl 5 rfl _ rfl kC_in (short_of (by decide))).kept ((Kept.refl _).alloc (fObj 3 (some ⟨w.heap.size + 1 + 1 + 1 + 1 + 1, 0, none⟩) 5 5)))
  have HK0 := Lib.hid (((laidRows_kept kC w (Kept.refl w)).alloc (clsO w.heap.size kC)).alloc (fObj 3 (some ⟨w.heap.size + 1 + 1 + 1 + 1 + 1, 0, none⟩) 5 5))
  have HB0 := Lib.hid (MapKept.heap_alloc ((laidRows w kC).alloc (clsO w.heap.size kC)) (fObj 3 (some ⟨w.heap.size + 1 + 1 + 1 + 1 + 1, 0, none⟩) 5 5)).1
  go_enter Tryz.func3, Tryz.ntmps3
  go_upto_region 2 with (fail)
  have e0 : ((laidRows w kC).alloc (clsO w.heap.size kC)).heap.size = w.heap.size + 1 + 1 + 1 + 1 + 1 + 1 := by rw [size1, laidRows_size]; rfl
  rw [e0] at HB0
  clear e0
  change Code.wp _ _ _ _ (((laidRows w kC).alloc (clsO w.heap.size kC)).alloc (fObj 3 (some ⟨w.heap.size + 1 + 1 + 1 + 1 + 1, 0, none⟩) 5 5))
  generalize ((laidRows w kC).alloc (clsO w.heap.size kC)).alloc (fObj 3 (some ⟨w.heap.size + 1 + 1 + 1 + 1 + 1, 0, none⟩) 5 5) = W at *
  obtain ⟨n0, hn0⟩ : ∃ n0 : Nat, n0 = w.heap.size := ⟨_, rfl⟩
  obtain ⟨fa, hfa⟩ : ∃ fa : Option Addr, fa = some ⟨w.heap.size + 1 + 1 + 1 + 1 + 1, 0, none⟩ := ⟨_, rfl⟩
  have HFA : Hid (Fit fa 5 5) := by show Fit fa 5 5; rw [hfa]; exact kfit _ _ (by decide)
  have HC : Hid (ClsAt W fa 5 kC) := by show ClsAt W fa 5 kC; rw [hfa]; exact HC0.out
  have HB : Hid (W.heap[w.heap.size + 1 + 1 + 1 + 1 + 1 + 1]? = some (fObj 3 fa 5 5)) := by rw [hfa]; exact HB0.out
  rw [← hfa]
  clear hfa HC0 HB0
  rw [← hn0] at HB ⊢
  clear hn0
  obtain ⟨fb, hfb⟩ : ∃ fb : Nat, fb = n0 + 1 + 1 + 1 + 1 + 1 + 1 := ⟨_, rfl⟩
  rw [← hfb] at HB ⊢
  clear hfb
  have HW := Lib.hid (HW0.out.kept HK0.out)
  have HT := Lib.hid (HT0.out.kept HK0.out)
  clear HW0 HT0
  -- Put
  obtain ⟨f0, f1⟩ := box_facts HB.out (Kept.refl W)
  go_wp2_with fail
  refine (put_any 3 fa 5 5 kC W (by unfold InR; decide) HC.out (by decide) (short_of (by decide)) HW.out).mono ?_
  rintro e w2 hpost
  obtain ⟨hk2, pa, pc, T, x, rfl, hPF, hPB, hPT, hPS⟩ := hpost.told
  have hr : rightB 3 kC = true := by decide
  rcases hPF with ⟨_, hTp, rfl⟩ | ⟨hr2, _, _⟩
  case inr => rw [hr] at hr2; cases hr2
  have HTL : Hid (T.length ≤ 100000 ∧ 0 < T.length) := by show _ ∧ _; rw [hTp]; exact kC_put
  clear hTp hr hpost
  obtain ⟨pd, rfl⟩ : ∃ pd, pa = some pd := by
    cases pa with
    | some pd => exact ⟨pd, rfl⟩
    | none => exact absurd (hPT.1 rfl).1 (by have := HTL.out.2; omega)
  obtain ⟨pb, po, ps⟩ := pd
  obtain rfl : ps = none := hPS _ rfl
  have HK2 := Lib.hid hk2
  have HPB := Lib.hid hPB
  have HPT := Lib.hid hPT
  clear hk2 hPB hPT hPS f0 f1
  obtain ⟨f0, f1⟩ := box_facts HB.out HK2.out
  go_wp2_with fail
  refine (clausetext_any 3 fa (some ⟨pb, po, none⟩) 5 5 T.length pc kC T w2 (by unfold InR; decide) (HC.out.kept HK2.out) HFA.out HPB.out HPT.out (HW.out.kept HK2.out) (HT.out.kept HK2.out)).mono ?_
  rintro e w3 ⟨rfl, hk3⟩
  have HK3 := Lib.hid (HK2.out.trans hk3)
  have HPB3 := Lib.hid (HPB.out.kept hk3)
  clear hk3 f0 f1 HPB HK2
  have t1 : (T.length : Int) ≤ 100000 := by have := HTL.out.1; omega
  have t2 : (T.length : Int) ≤ (pc : Int) := by have := HPT.out.2.1; omega
  go_wp2
  go_loopw [4] (fun i wr => ∃ j : Nat, j ≤ T.length ∧ i = .int .i64 j ∧ Hid (Kept w3 wr)) (fun i _ => T.length - (intOf i).toNat)
  case atStart => exact ⟨0, Nat.zero_le _, rfl, Lib.hid (Kept.refl _)⟩
  case round =>
    obtain ⟨j, hj, rfl, HK⟩ := hrel
    have j0 : (0 : Int) ≤ (j : Int) := Int.natCast_nonneg _
    by_cases hlt : j < T.length
    · have j1 : (j : Int) ≤ (pc : Int) := by omega
      have cv := conv_str (c := pc) (HPB3.out.kept HK.out) (fun h => by cases h) (fun ad h => by cases h; rfl)
      obtain ⟨cap, W1, cn, hc1, hc2, hk1, hm1⟩ := conv_new wr T HTL.out.1
      have HK1 := Lib.hid hk1
      have HM1 := Lib.hid hm1
      have HCP := Lib.hid (And.intro hc1 hc2)
      clear hk1 hm1 hc1 hc2
      go_upto_region 9 with (fail)
      clear cv cn
      obtain ⟨b1, hb1⟩ : ∃ b : Nat, b = wr.heap.size := ⟨_, rfl⟩
      have HBL : Hid (wr.heap.size ≤ b1) := by show _ ≤ _; omega
      rw [← hb1] at HM1 ⊢
      clear hb1
      obtain ⟨p, hp, hpl⟩ : ∃ p : Nat, (j : Int) % 7 = (p : Int) ∧ p < 7 := ⟨j % 7, by omega, Nat.mod_lt _ (by decide)⟩
      obtain ⟨x, hx⟩ := o7_at p hpl
      have cx := hx W1
      clear hx
      have cc := conv_const W1 c7 7 7 rfl
      have HKO := Lib.hid ((Kept.refl W1).alloc o7)
      have HM2 := Lib.hid (HM1.out.kept HKO.out)
      obtain ⟨m0, m1, m2⟩ := HM2.out.facts hlt
      have p0 : (p : Int) < 7 := by omega
      go_upto_region 10 with (fail)
      clear cx cc m0 m1 m2 hp
      change Code.wp _ _ _ _ ((W1.alloc o7).setCell ⟨b1, j, none⟩ (.int .u8 (x.toNat : Int)))
      have HM3 := Lib.hid (HM2.out.set hlt x)
      have HK4 := Lib.hid ((HK1.out.trans HKO.out).setCell (p := ⟨b1, j, none⟩) HBL.out (.int .u8 (x.toNat : Int)))
      generalize (W1.alloc o7).setCell ⟨b1, j, none⟩ (.int .u8 (x.toNat : Int)) = W4 at *
      have HK5 := Lib.hid (HK.out.trans HK4.out)
      have HK6 := Lib.hid (HK3.out.trans HK5.out)
      have FN : Hid (∀ w', Kept W4 w' → Kept W4 w' ∧ w'.cell? ⟨fb, 0, none⟩ = some (.int .i64 3) ∧ w'.cell? ⟨fb, 1, none⟩ = some (.slice fa 5 5)) := fun w' hk => ⟨hk, box_facts HB.out (HK6.out.trans hk)⟩
      have HCT : Hid (∀ u w', Kept W4 w' → (u = .slice (some ⟨b1, 0, none⟩) T.length cap ∨ u = .slice (some ⟨pb, po, none⟩) j pc) → Calls Tryz.prog 7 #[.agg #[.int .i64 3, .slice fa 5 5], u] w' fun e w'' => e = .returned (.bool true) ∧ Kept w' w'') := fun u w' hk hu => by
        rcases hu with rfl | rfl
        · exact clausetext_any 3 fa (some ⟨b1, 0, none⟩) 5 5 T.length cap kC (T.set j x) w' (by unfold InR; decide) (HC.out.kept (HK6.out.trans hk)) HFA.out (by have := (HM3.out.kept hk).bytes; rwa [List.length_set] at this) ⟨fun h => (by cases h), HCP.out.1, HCP.out.2⟩ (HW.out.kept (HK6.out.trans hk)) (HT.out.kept (HK6.out.trans hk))
        · exact clausetext_any 3 fa (some ⟨pb, po, none⟩) 5 5 j pc kC (T.take j) w' (by unfold InR; decide) (HC.out.kept (HK6.out.trans hk)) HFA.out ((HPB3.out.kept (HK5.out.trans hk)).sub 0 j (by omega)) ⟨fun h => (by cases h), by omega, HPT.out.2.2⟩ (HW.out.kept (HK6.out.trans hk)) (HT.out.kept (HK6.out.trans hk))
      go_region_held3 (fun w' => Kept W4 w' ∧ w'.cell? ⟨fb, 0, none⟩ = some (.int .i64 3) ∧ w'.cell? ⟨fb, 1, none⟩ = some (.slice fa 5 5))
        (first | exact FN.out _ (Kept.refl _) | exact FN.out _ (Kept.drew (Kept.refl _)) | assumption | exact FN.out _ (Kept.trans (And.left ‹Kept W4 _ ∧ _›) (by assumption)))
        ((go_at_call 7; refine (HCT.out _ _ (And.left ‹Kept W4 _ ∧ _›) (by first | exact Or.inl rfl | exact Or.inr rfl)).mono ?_; rintro e w10 ⟨rfl, hk10⟩))
      have HKQ := Lib.hid (HK5.out.trans (And.left ‹Kept W4 _ ∧ _›))
      go_wp2
      go_roundw
      case rel => exact ⟨j + 1, by omega, by go_num, HKQ⟩
      case measure => simp [intOf]; omega
    · obtain rfl : j = T.length := by omega
      have HKL := Lib.hid (HK3.out.trans HK.out)
      clear HK hj HPB3 HK3 t1 t2 hlt HTL HPT
      obtain ⟨w4, rfl⟩ : ∃ wo, wo = wr := ⟨_, rfl⟩
      go_wp2
      go_loopw [6] (fun i wr => ∃ a : Int, (-3 ≤ a ∧ a ≤ 4) ∧ i = .int .i64 a ∧ Hid (Kept w4 wr)) (fun i _ => (4 - intOf i).toNat)
      case atStart => exact ⟨-3, by decide, rfl, Lib.hid (Kept.refl _)⟩
      case round =>
        obtain ⟨a, ha, rfl, HKA⟩ := hrel
        by_cases hla : a < 4
        · have HA3 : Hid (-3 ≤ a ∧ a ≤ 3) := ⟨ha.1, by omega⟩
          have a0 : -3 ≤ a := ha.1
          have a1 : a ≤ 3 := by omega
          obtain ⟨wa, rfl⟩ : ∃ wo, wo = wr := ⟨_, rfl⟩
          go_wp2
          go_loopw [7] (fun i wr => ∃ b : Int, (-3 ≤ b ∧ b ≤ 4) ∧ i = .int .i64 b ∧ Hid (Kept w4 wr)) (fun i _ => (4 - intOf i).toNat)
          case atStart => exact ⟨-3, by decide, rfl, HKA⟩
          case round =>
            obtain ⟨b, hb, rfl, HKB⟩ := hrel
            by_cases hlb : b < 4
            · have HB3 : Hid (-3 ≤ b ∧ b ≤ 3) := ⟨hb.1, by omega⟩
              have b0 : -3 ≤ b := hb.1
              have b1 : b ≤ 3 := by omega
              obtain ⟨wb, rfl⟩ : ∃ wo, wo = wr := ⟨_, rfl⟩
              have HC5 := Lib.hid ((cls_laid wb (kG a b) wb.heap.size rfl 4 rfl _ rfl (kG_in HA3.out HB3.out) (short_of (by simp))).kept ((Kept.refl _).alloc (fObj 2 (some ⟨wb.heap.size + 1 + 1 + 1 + 1, 0, none⟩) 4 4)))
              have HK5 := Lib.hid (((laidRows_kept (kG a b) wb (Kept.refl wb)).alloc (clsO wb.heap.size (kG a b))).alloc (fObj 2 (some ⟨wb.heap.size + 1 + 1 + 1 + 1, 0, none⟩) 4 4))
              have HB5 := Lib.hid (MapKept.heap_alloc ((laidRows wb (kG a b)).alloc (clsO wb.heap.size (kG a b))) (fObj 2 (some ⟨wb.heap.size + 1 + 1 + 1 + 1, 0, none⟩) 4 4)).1
              have e0 : ((laidRows wb (kG a b)).alloc (clsO wb.heap.size (kG a b))).heap.size = wb.heap.size + 1 + 1 + 1 + 1 + 1 := by rw [size1, laidRows_size]; rfl
              rw [e0] at HB5
              clear e0
              go_upto_region 19 with (fail)
              change Code.wp _ _ _ _ (((laidRows wb (kG a b)).alloc (clsO wb.heap.size (kG a b))).alloc (fObj 2 (some ⟨wb.heap.size + 1 + 1 + 1 + 1, 0, none⟩) 4 4))
              generalize ((laidRows wb (kG a b)).alloc (clsO wb.heap.size (kG a b))).alloc (fObj 2 (some ⟨wb.heap.size + 1 + 1 + 1 + 1, 0, none⟩) 4 4) = W5 at *
              obtain ⟨ga, hga⟩ : ∃ ga : Option Addr, ga = some ⟨wb.heap.size + 1 + 1 + 1 + 1, 0, none⟩ := ⟨_, rfl⟩
              have HGA : Hid (Fit ga 4 4) := by show Fit ga 4 4; rw [hga]; exact kfit _ _ (by decide)
              have HG : Hid (ClsAt W5 ga 4 (kG a b)) := by show ClsAt W5 ga 4 _; rw [hga]; exact HC5.out
              rw [← hga] at HB5 ⊢
              clear hga HC5
              obtain ⟨gb, hgb⟩ : ∃ gb : Nat, gb = wb.heap.size + 1 + 1 + 1 + 1 + 1 := ⟨_, rfl⟩
              rw [← hgb] at HB5 ⊢
              clear hgb
              have HK6 := Lib.hid (HKL.out.trans (HKB.out.trans HK5.out))
              have HI2 : Hid (InR 2) := by show InR 2; unfold InR; decide
              -- ClauseHolds
              obtain ⟨g0, g1⟩ := box_facts HB5.out (Kept.refl W5)
              go_wp2_with fail
              change Calls _ _ _ (((W5.alloc (.cells #[.bool true, .bool false] 4)).alloc (rowO [a, b])).alloc (rowO [-a, b, 3])) _
              have HKX := Lib.hid ((((Kept.refl W5).alloc (.cells #[.bool true, .bool false] 4)).alloc (rowO [a, b])).alloc (rowO [-a, b, 3]))
              have HM1 := Lib.hid ((bools0 W5).kept (((Kept.refl _).alloc (rowO [a, b])).alloc (rowO [-a, b, 3])))
              have HR1 := Lib.hid ((row0 (W5.alloc (.cells #[.bool true, .bool false] 4)) [a, b] (fun x hx => by simp at hx; rcases hx with rfl | rfl <;> exact inr3 (by first | exact HA3.out | exact HB3.out)) 2 rfl).kept ((Kept.refl _).alloc (rowO [-a, b, 3])))
              have HR2 := Lib.hid (row0 ((W5.alloc (.cells #[.bool true, .bool false] 4)).alloc (rowO [a, b])) [-a, b, 3] (fun x hx => by simp at hx; rcases hx with rfl | rfl | rfl <;> exact inr3 (by have := HA3.out; have := HB3.out; omega)) 3 rfl)
              rw [size1] at HR1 HR2
              rw [size1] at HR2
              refine (clauseholds_any 2 ga (some ⟨W5.heap.size, 0, none⟩) (some ⟨W5.heap.size + 1, 0, none⟩) (some ⟨W5.heap.size + 1 + 1, 0, none⟩) 4 4 2 2 2 2 3 3 (kG a b) [true, false] [a, b] [-a, b, 3] a _ HI2.out (HG.out.kept HKX.out) HGA.out HM1.out HR1.out (kfit _ _ (by decide)) HR2.out (kfit _ _ (by decide)) (inr3 HA3.out) (HW.out.kept (HK6.out.trans HKX.out)) (by decide) (by decide) (by decide)).mono ?_
              rintro e w6 ⟨rfl, hk6⟩
              have HK7 := Lib.hid (HKX.out.trans hk6)
              clear hk6 HKX HM1 HR1 HR2 g0 g1
              -- ClauseUnits
              obtain ⟨g0, g1⟩ := box_facts HB5.out HK7.out
              go_wp2_with fail
              change Calls _ _ _ (w6.alloc (rowO [b])) _
              have HKX := Lib.hid ((Kept.refl w6).alloc (rowO [b]))
              have HR1 := Lib.hid (row0 w6 [b] (fun x hx => by simp at hx; subst hx; exact inr3 HB3.out) 1 rfl)
              have HK8 := Lib.hid (HK7.out.trans HKX.out)
              refine (clauseunits_any 2 ga (some ⟨w6.heap.size, 0, none⟩) 4 4 1 1 (kG a b) [b] _ HI2.out (HG.out.kept HK8.out) HGA.out HR1.out (kfit _ _ (by decide)) (HW.out.kept (HK6.out.trans HK8.out))).mono ?_
              rintro e w7 ⟨rfl, hk7⟩
              have HK9 := Lib.hid (HK8.out.trans hk7)
              clear hk7 HKX HR1 g0 g1 HK7 HK8
              obtain ⟨g0, g1⟩ := box_facts HB5.out HK9.out
              go_wp2_with fail
              change Calls _ _ _ (w7.alloc (rowO [a, b])) _
              have HKX := Lib.hid ((Kept.refl w7).alloc (rowO [a, b]))
              have HR1 := Lib.hid (row0 w7 [a, b] (fun x hx => by simp at hx; rcases hx with rfl | rfl <;> exact inr3 (by first | exact HA3.out | exact HB3.out)) 2 rfl)
              have HK8 := Lib.hid (HK9.out.trans HKX.out)
              refine (clauseunits_any 2 ga (some ⟨w7.heap.size, 0, none⟩) 4 4 2 2 (kG a b) [a, b] _ HI2.out (HG.out.kept HK8.out) HGA.out HR1.out (kfit _ _ (by decide)) (HW.out.kept (HK6.out.trans HK8.out))).mono ?_
              rintro e w8 ⟨rfl, hk8⟩
              have HK10 := Lib.hid (HK8.out.trans hk8)
              clear hk8 HKX HR1 g0 g1 HK8 HK9
              -- ClauseText
              obtain ⟨g0, g1⟩ := box_facts HB5.out HK10.out
              go_wp2_with fail
              refine (clausetext_any 2 ga none 4 4 0 0 (kG a b) [] w8 HI2.out (HG.out.kept HK10.out) HGA.out (BytesAt.nil _ _) nfit (HW.out.kept (HK6.out.trans HK10.out)) (HT.out.kept (HK6.out.trans HK10.out))).mono ?_
              rintro e w9 ⟨rfl, hk9⟩
              have HK11 := Lib.hid (HK10.out.trans hk9)
              clear hk9 g0 g1 HK10
              -- ClauseModels
              have HMX : Hid (InR (max 1 b)) := by show InR (max 1 b); have := HB3.out; unfold InR; omega
              obtain ⟨g0, g1⟩ := box_facts HB5.out HK11.out
              go_wp2_with fail
              change Calls _ _ _ (w9.alloc (rowO [a])) _
              have HKX := Lib.hid ((Kept.refl w9).alloc (rowO [a]))
              have HR1 := Lib.hid (row0 w9 [a] (fun x hx => by simp at hx; subst hx; exact inr3 HA3.out) 1 rfl)
              have HK8 := Lib.hid (HK11.out.trans HKX.out)
              refine (clausemodels_any 2 ga (some ⟨w9.heap.size, 0, none⟩) 4 4 1 1 (kG a b) [a] a b (max 1 b) _ HI2.out (HG.out.kept HK8.out) HGA.out HR1.out (kfit _ _ (by decide)) HMX.out (HW.out.kept (HK6.out.trans HK8.out))).mono ?_
              rintro e w10 ⟨rfl, hk10⟩
              have HKE := Lib.hid (HKB.out.trans (HK5.out.trans (HK8.out.trans hk10)))
              clear hk10 HKX HR1 g0 g1 HK8 HK11 HMX
              go_wp2
              go_roundw
              case rel => exact ⟨b + 1, ⟨by omega, by omega⟩, by go_num, HKE⟩
              case measure => simp [intOf]; omega
            · obtain rfl : b = 4 := by omega
              clear hb hlb
              go_wp2
              go_roundw
              case rel => exact ⟨a + 1, ⟨by omega, by omega⟩, by go_num, HKB⟩
              case measure => simp [intOf]; omega
        · obtain rfl : a = 4 := by omega
          clear ha hla
          have HKW := Lib.hid (HKL.out.trans HKA.out)
          obtain ⟨w5, rfl⟩ : ∃ wo, wo = wr := ⟨_, rfl⟩
          -- bounds
          have hb5 := (MapKept.heap_alloc ((w5.alloc (rowO [16777216, -16777216])).alloc (.cells #[.slice (some ⟨w5.heap.size, 0, none⟩) 2 2] 22)) (fObj 16777216 (some ⟨w5.heap.size + 1, 0, none⟩) 1 1)).1
          rw [size1, size1] at hb5
          have HC5 := Lib.hid ((cls_laid w5 [[16777216, -16777216]] w5.heap.size rfl 1 rfl _ rfl (by intro L hL x hx; simp at hL; subst hL; simp at hx; rcases hx with rfl | rfl <;> (unfold InR; omega)) (short_of (by decide))).kept ((Kept.refl _).alloc (fObj 16777216 (some ⟨w5.heap.size + 1, 0, none⟩) 1 1)))
          have HK5 := Lib.hid ((((Kept.refl w5).alloc (rowO [16777216, -16777216])).alloc (.cells #[.slice (some ⟨w5.heap.size, 0, none⟩) 2 2] 22)).alloc (fObj 16777216 (some ⟨w5.heap.size + 1, 0, none⟩) 1 1))
          have HB5 := Lib.hid hb5
          clear hb5
          go_upto_region 23 with (fail)
          change Code.wp _ _ _ _ (((w5.alloc (rowO [16777216, -16777216])).alloc (.cells #[.slice (some ⟨w5.heap.size, 0, none⟩) 2 2] 22)).alloc (fObj 16777216 (some ⟨w5.heap.size + 1, 0, none⟩) 1 1))
          have HG : Hid (ClsAt (((w5.alloc (rowO [16777216, -16777216])).alloc (.cells #[.slice (some ⟨w5.heap.size, 0, none⟩) 2 2] 22)).alloc (fObj 16777216 (some ⟨w5.heap.size + 1, 0, none⟩) 1 1)) (some ⟨w5.heap.size + 1, 0, none⟩) 1 [[16777216, -16777216]]) := HC5.out
          clear HC5
          generalize ((w5.alloc (rowO [16777216, -16777216])).alloc (.cells #[.slice (some ⟨w5.heap.size, 0, none⟩) 2 2] 22)).alloc (fObj 16777216 (some ⟨w5.heap.size + 1, 0, none⟩) 1 1) = W5 at *
          obtain ⟨n5, hn5⟩ : ∃ n5 : Nat, n5 = w5.heap.size := ⟨_, rfl⟩
          rw [← hn5] at HB5 HG ⊢
          clear hn5
          have HK6 := Lib.hid (HKW.out.trans HK5.out)
          obtain ⟨low, hlow⟩ : ∃ low : Int, low = -9223372036854775808 := ⟨_, rfl⟩
          have HLW : Hid (InR low) := by show InR low; rw [hlow]; unfold InR; decide
          rw [← hlow]
          clear hlow
          obtain ⟨g0, g1⟩ := box_facts HB5.out (Kept.refl W5)
          go_wp2_with fail
          change Calls _ _ _ ((W5.alloc (rowO [low])).alloc (rowO [low, 1])) _
          have HKX := Lib.hid (((Kept.refl W5).alloc (rowO [low])).alloc (rowO [low, 1]))
          have HR1 := Lib.hid ((row0 W5 [low] (fun x hx => by simp at hx; subst hx; exact HLW.out) 1 rfl).kept ((Kept.refl _).alloc (rowO [low, 1])))
          have HR2 := Lib.hid (row0 (W5.alloc (rowO [low])) [low, 1] (fun x hx => by simp at hx; rcases hx with rfl | rfl <;> first | exact HLW.out | (unfold InR; decide)) 2 rfl)
          rw [size1] at HR2
          refine (clauseholds_any 16777216 (some ⟨n5 + 1, 0, none⟩) none (some ⟨W5.heap.size, 0, none⟩) (some ⟨W5.heap.size + 1, 0, none⟩) 1 1 0 0 1 1 2 2 [[16777216, -16777216]] [] [low] [low, 1] 1 _ (by unfold InR; decide) (HG.out.kept HKX.out) (kfit _ _ (by decide)) ⟨rfl, fun h => absurd h (by decide)⟩ HR1.out (kfit _ _ (by decide)) HR2.out (kfit _ _ (by decide)) (by unfold InR; decide) (HW.out.kept (HK6.out.trans HKX.out)) (by decide) (by decide) (by decide)).mono ?_
          rintro e w6 ⟨rfl, hk6⟩
          have HK7 := Lib.hid (HK6.out.trans (HKX.out.trans hk6))
          clear hk6 HKX HR1 HR2 g0 g1 HG HB5 HK5
          have hbn : ∀ (W' : World), BoolsAt W' none 0 [] := fun W' => ⟨rfl, fun h => absurd h (by decide)⟩
          have HBN := Lib.hid hbn
          clear hbn
          go_wp2_with fail
          refine (clauseholds_any 16777217 none none none none 0 0 0 0 0 0 0 0 [] [] [] [] low w6 (by unfold InR; decide) (ClsAt.nil _ _) nfit (HBN.out _) (IntsAt.nil _ _) nfit (IntsAt.nil _ _) nfit HLW.out (HW.out.kept HK7.out) (by decide) (by decide) (by decide)).mono ?_
          rintro e w7 ⟨rfl, hk7⟩
          have HK8 := Lib.hid (HK7.out.trans hk7)
          clear hk7
          go_wp2_with fail
          refine (clauseholds_any (-1) none none none none 0 0 0 0 0 0 0 0 [] [] [] [] 0 w7 (by unfold InR; decide) (ClsAt.nil _ _) nfit (HBN.out _) (IntsAt.nil _ _) nfit (IntsAt.nil _ _) nfit (by unfold InR; decide) (HW.out.kept HK8.out) (by decide) (by decide) (by decide)).mono ?_
          rintro e w8 ⟨rfl, hk8⟩
          have HK9 := Lib.hid (HK8.out.trans hk8)
          clear hk8
          -- ClauseUnits of {{low}}, {low}
          go_wp2_with fail
          change Calls _ _ _ (((w8.alloc (rowO [low])).alloc (.cells #[.slice (some ⟨w8.heap.size, 0, none⟩) 1 1] 22)).alloc (rowO [low])) _
          have HC9 := Lib.hid ((cls_laid w8 [[low]] w8.heap.size rfl 1 rfl _ rfl (by intro L hL x hx; simp at hL; subst hL; simp at hx; subst hx; exact HLW.out) (short_of (by simp))).kept ((Kept.refl _).alloc (rowO [low])))
          have HKX := Lib.hid ((((Kept.refl w8).alloc (rowO [low])).alloc (.cells #[.slice (some ⟨w8.heap.size, 0, none⟩) 1 1] 22)).alloc (rowO [low]))
          have HR2 := Lib.hid (row0 ((w8.alloc (rowO [low])).alloc (.cells #[.slice (some ⟨w8.heap.size, 0, none⟩) 1 1] 22)) [low] (fun x hx => by simp at hx; subst hx; exact HLW.out) 1 rfl)
          rw [size1, size1] at HR2
          have HK10 := Lib.hid (HK9.out.trans HKX.out)
          refine (clauseunits_any 1 (some ⟨w8.heap.size + 1, 0, none⟩) (some ⟨w8.heap.size + 1 + 1, 0, none⟩) 1 1 1 1 [[low]] [low] _ (by unfold InR; decide) HC9.out (kfit _ _ (by decide)) HR2.out (kfit _ _ (by decide)) (HW.out.kept HK10.out)).mono ?_
          rintro e w9 ⟨rfl, hk9⟩
          have HK11 := Lib.hid (HK10.out.trans hk9)
          clear hk9 HC9 HKX HR2 HK10
          -- ClauseText of the empty formula
          have cc := conv_const w9 c10 10 10 rfl
          have HM := Lib.hid (o10_row w9)
          have HKX := Lib.hid ((Kept.refl w9).alloc o10)
          have HK12 := Lib.hid (HK11.out.trans HKX.out)
          go_wp2_with fail
          change Calls _ _ _ (w9.alloc o10) _
          refine (clausetext_any 0 none (some ⟨w9.heap.size, 0, none⟩) 0 0 10 10 [] [112, 32, 99, 110, 102, 32, 48, 32, 48, 10] _ (by unfold InR; decide) (ClsAt.nil _ _) nfit HM.out.bytes (kfit _ _ (by decide)) (HW.out.kept HK12.out) (HT.out.kept HK12.out)).mono ?_
          rintro e w10 ⟨rfl, hk10⟩
          have HK13 := Lib.hid (HK12.out.trans hk10)
          clear hk10 cc HM HKX
          -- too many clauses
          have hmk : (Instr.makeSlice 23 (.int .i64 1048577) (.int .i64 1048577)).run Tryz.prog w10 = .ok (.slice (some ⟨w10.heap.size, 0, none⟩) 1048577 1048577) (w10.alloc (.cells (madeCells #[.slice none 0 0] 1048577) 22)) := run_make_row' (P := Tryz.prog) 23 22 (.slice none 0 0) 24 Tryz.underlying23 infoInts rfl .i64 .i64 1048577 (by omega) (by omega) w10
          go_wp2_with fail
          change Calls _ _ _ (w10.alloc (.cells (madeCells #[.slice none 0 0] 1048577) 22)) _
          have HKX := Lib.hid ((Kept.refl w10).alloc (.cells (madeCells #[.slice none 0 0] 1048577) 22))
          have HCM := Lib.hid (cls_made w10 1048577)
          have HK14 := Lib.hid (HK13.out.trans HKX.out)
          refine (right_any 0 (some ⟨w10.heap.size, 0, none⟩) 1048577 1048577 (List.replicate 1048577 []) _ (by unfold InR; decide) HCM.out (by decide) short_made).mono ?_
          rw [right_big]
          rintro e w11 ⟨rfl, hk11⟩
          have HK15 := Lib.hid (HK14.out.trans hk11)
          clear hk11 HKX HCM hmk
          go_wp2_with fail
          refine (works_any _ (HW.out.kept HK15.out)).mono ?_
          rintro e w12 ⟨rfl, hk12⟩
          have HKE := Lib.hid (HK0.out.trans (HK15.out.trans hk12))
          clear hk12
          go_wp2
          go_ret
          exact ⟨rfl, HKE.out⟩
end Go.Proofs.YtlikokeknfhejaaGreatDoor
