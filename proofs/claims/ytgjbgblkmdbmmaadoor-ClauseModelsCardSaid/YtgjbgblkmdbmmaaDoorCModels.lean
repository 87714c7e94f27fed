/-
  Layer 5, ClauseModels (the stage's theorem): the law's walk.
-/
import Derived.Test.YtgjbgblkmdbmmaaDoorCModels0
import Derived.Test.YtgjbgblkmdbmmaaDoorCAssign
import Derived.Deep.DeepCutAuto
import Derived.Deep.OwnRows
namespace Go.Proofs.YtgjbgblkmdbmmaaDoor
open Go Go.RowKit Go.Lib

set_option maxHeartbeats 1000000 in
theorem pick_is (i : Int) (n : Nat) (hn0 : n ≠ 0) (hn : n ≤ 1000000000) : ∃ k : Nat, k < n ∧ ∀ w, Calls Tryd.prog 16 #[.int .i64 i, .int .i64 n] w fun e w' => e = .returned (.int .i64 k) ∧ w' = w := by
  have h0 := hn0
  obtain ⟨p1, p2, p3⟩ := pick_arith i n h0 hn
  have HP := Lib.hid p1
  have d0 : decide ((n : Int) ≤ 0) = false := decide_eq_false (by omega)
  have n0 : ((n : Int) == 0) = false := beq_eq_false_iff_ne.2 (by omega)
  have n1 : (n : Int) ≤ 1000000000 := by omega
  have n2 : 0 < (n : Int) := by omega
  have q1 := Int.emod_nonneg i (show (n : Int) ≠ 0 by omega)
  have q2 := Int.emod_lt_of_pos i (show (0 : Int) < n by omega)
  obtain ⟨k, hk⟩ : ∃ k : Nat, (k : Int) = i % n := ⟨(i % n).toNat, by omega⟩
  have HKK := Lib.hid hk
  have hkn : k < n := by omega
  obtain ⟨t, ht⟩ : ∃ t : Int, t = i.tmod n := ⟨_, rfl⟩
  rw [← ht] at p2 p3
  have HT := Lib.hid ht
  clear p1 h0 hn hn0 q1 q2 hk ht
  refine ⟨k, hkn, fun w => ?_⟩
  go_enter Tryd.func16, Tryd.ntmps16
  go_wp2
  go_ret
  refine ⟨?_, rfl⟩
  rw [HKK.out, ← HP.out, ← HT.out]
  have e : wrap64 (t + n) = t + n := IntWalk.wrap64_in _ (by omega)
  simp only [e]; rfl
theorem few_len {C : List (List Int)} {top : Int} (h : fewF C top = true) : (C.length : Int) ≤ top ∧ ∀ c ∈ C, c.length ≤ 30 := by
  unfold fewF at h
  simpa using h
/-- Assign's answer as one form. -/
theorem AsgPost.one {V : Int} {C : List (List Int)} {lits : List Int} {w w' : World} {e : Ending} (h : AsgPost V C lits w e w') : Kept w w' ∧ ∃ LV a k c ok, e = .returned (.tuple #[.agg #[.int .i64 LV, .slice a k c], .bool ok]) ∧ (ok = true → LV = V ∧ AsgOk V C lits ∧ ClsAt w' a k (asg C lits)) := by
  obtain ⟨hk, ⟨_, rfl⟩ | ⟨ho, a, k, c, rfl, hC⟩⟩ := h
  · exact ⟨hk, 0, none, 0, 0, false, rfl, fun h => by cases h⟩
  · exact ⟨hk, V, a, k, c, true, rfl, fun _ => ⟨rfl, ho, hC⟩⟩
theorem UPost.one {V : Int} {C : List (List Int)} {w w' : World} {e : Ending} (h : UPost V C w e w') (hr : rightB V C = true) : Kept w w' ∧ ∃ a k c ok, e = .returned (.tuple #[.slice a k c, .bool ok]) ∧ (ok = true → ∃ K, UnitsRes C (some K) ∧ IntsAt w' a k K ∧ Fit a k c) ∧ (ok = false → UnitsRes C none) := by
  obtain ⟨hk, ⟨hno, _⟩ | ⟨_, ⟨hu, rfl⟩ | ⟨a, k, c, K, hu, rfl, hI, hF⟩⟩⟩ := h
  · rw [hr] at hno; cases hno
  · exact ⟨hk, none, 0, 0, false, rfl, (fun h => by cases h), fun _ => hu⟩
  · exact ⟨hk, a, k, c, true, rfl, (fun _ => ⟨K, hu, hI, hF⟩), fun h => by cases h⟩
theorem ResPost.one {a b : List Int} {v : Int} {w w' : World} {e : Ending} (h : ResPost a b v w e w') : Kept w w' ∧ ∃ r k c ok, e = .returned (.tuple #[.slice r k c, .bool ok]) ∧ (ok = true → ResOk a b v ∧ ∃ K, CleanRes (both a b v) (some K) ∧ IntsAt w' r k K ∧ K.length ≤ a.length + b.length) := by
  obtain ⟨hk, ⟨_, rfl⟩ | ⟨ho, r, k, c, K, hK, rfl, hI, hl⟩⟩ := h
  · exact ⟨hk, none, 0, 0, false, rfl, fun h => by cases h⟩
  · exact ⟨hk, r, k, c, true, rfl, fun _ => ⟨ho, K, hK, hI, hl⟩⟩
/-- A row that was taken of the clauses, or none. -/
def RowIn (V : Int) (w : World) (s : Value) (A : List Int) : Prop := ∃ a k c, s = .slice a k c ∧ IntsAt w a k A ∧ (a = none → k = 0 ∧ c = 0) ∧ k ≤ 30 ∧ allB V A = true
theorem RowIn.kept {V : Int} {w w' : World} {s : Value} {A : List Int} (h : RowIn V w s A) (k : Kept w w') : RowIn V w' s A := by
  obtain ⟨a, n, c, h1, h2, h3⟩ := h
  exact ⟨a, n, c, h1, h2.kept k, h3⟩
theorem RowIn.none (V : Int) (w : World) : RowIn V w (.slice none 0 0) [] := ⟨_, 0, 0, rfl, ⟨rfl, by simp, fun h => absurd h (by decide)⟩, fun _ => ⟨rfl, rfl⟩, by decide, rfl⟩
theorem right_row {V : Int} {C : List (List Int)} (h : rightB V C = true) {c : List Int} (hc : c ∈ C) : allB V c = true := by
  obtain ⟨_, _, _, h4⟩ := (rightB_iff V C).1 h
  exact (allB_iff V c).2 (h4 c hc)
theorem right_nz {V : Int} {C : List (List Int)} (h : rightB V C = true) : NoZero C := fun c hc x hx => (((rightB_iff V C).1 h).2.2.2 c hc x hx).1

theorem setCellM_row {w : World} {b : Nat} {cs : Array Value} {t : TypeId} {fr : Nat × Nat} (h : w.heap[b]? = some (.cells cs t fr)) (o : Nat) (v : Value) : (w.setCell ⟨b, o, none⟩ v).heap[b]? = some (.cells (cs.setIfInBounds o v) t fr) := by
  simp only [World.setCell, Array.getElem?_modify, if_true, h]
  rfl
theorem infoBool : (Tryd.prog.info? 4).map (fun i => (i.zero, i.size, i.bytes)) = some (some (.bool false), 1, 1) := by kernel_rfl
/-- A model's row. -/
def RowM (w : World) (b : Nat) (M : List Bool) : Prop := w.heap[b]? = some (.cells (M.map Value.bool).toArray 4 (0, 0))
theorem RowM.made (w : World) (u : Nat) : RowM (w.alloc (.cells (madeCells #[.bool false] u) 4)) w.heap.size (List.replicate u false) := by
  have h := (MapKept.heap_alloc w (.cells (madeCells #[.bool false] u) 4)).1
  have e : madeCells #[.bool false] u = ((List.replicate u false).map Value.bool).toArray := by
    apply Array.toList_inj.1
    rw [toList_madeCells_one]
    simp
  rw [e] at h
  unfold RowM
  rw [e]
  exact h
theorem RowM.set {w : World} {b : Nat} {M : List Bool} (h : RowM w b M) (j : Nat) (x : Bool) : RowM (w.setCell ⟨b, j, none⟩ (.bool x)) b (M.set j x) := by
  have h1 := setCellM_row h j (.bool x)
  unfold RowM
  rw [h1]
  simp [List.setIfInBounds_toArray, List.map_set]
theorem RowM.kept {w w' : World} {b : Nat} {M : List Bool} (h : RowM w b M) (k : Kept w w') : RowM w' b M := k.row h
theorem RowM.bools {w : World} {b : Nat} {M : List Bool} (h : RowM w b M) : BoolsAt w (some ⟨b, 0, none⟩) M.length M := ⟨rfl, fun _ => ⟨b, 0, rfl, fun j x hx => by
  rw [Nat.zero_add, cell_of_row _ _ _ _ _ _ h, ← Array.getElem?_toList]
  simp [hx]⟩⟩
theorem RowM.facts {w : World} {b : Nat} {M : List Bool} (h : RowM w b M) {j : Nat} (hj : j < M.length) : w.cell? ⟨b, j, none⟩ = some (.bool (M[j])) ∧ w.frozen? ⟨b, j, none⟩ = false ∧ b < w.heap.size :=
  ⟨by
    have := (h.bools.at_ (by omega))
    rw [cell_of_row _ _ _ _ _ _ h, ← Array.getElem?_toList]
    simp [List.getElem?_eq_getElem hj], frozen_of_row h j, (Array.getElem?_eq_some_iff.1 h).1⟩

theorem asg_right {V : Int} {C : List (List Int)} (h : rightB V C = true) (lits : List Int) : rightB V (asg C lits) = true := by
  obtain ⟨h1, h2, h3, h4⟩ := (rightB_iff V C).1 h
  refine (rightB_iff V _).2 ⟨h1, h2, ?_, ?_⟩
  · unfold asg
    rw [List.length_map]
    exact Nat.le_trans (List.length_filter_le _ _) h3
  · intro c hc x hx
    unfold asg at hc
    obtain ⟨d, hd, rfl⟩ := List.mem_map.1 hc
    exact h4 d (List.mem_filter.1 hd).1 x (List.mem_filter.1 hx).1
theorem asg_short {C : List (List Int)} {b : Nat} (h : ∀ c ∈ C, c.length ≤ b) (lits : List Int) : ∀ c ∈ asg C lits, c.length ≤ b := by
  intro c hc
  unfold asg at hc
  obtain ⟨d, hd, rfl⟩ := List.mem_map.1 hc
  exact Nat.le_trans (List.length_filter_le _ _) (h d (List.mem_filter.1 hd).1)
theorem asg_le (C : List (List Int)) (lits : List Int) : (asg C lits).length ≤ C.length := by
  unfold asg
  rw [List.length_map]
  exact List.length_filter_le _ _
theorem holdsB_in {u : Nat} {C : List (List Int)} {M : List Bool} (h : rightB (u : Int) C = true) (hM : M.length = u) : holdsB (u : Int) C M = hf M C := by
  unfold holdsB
  rw [h, hM]; simp
theorem fits_all {u : Nat} {L : List Int} (h : allB (u : Int) L = true) : FitsM u L := (allB_iff _ L).1 h
theorem fits_units {u : Nat} {C : List (List Int)} (h : rightB (u : Int) C = true) {K : List Int} (hK : UnitsRes C (some K)) : FitsM u K := by
  obtain ⟨F, hF, _, _, hm⟩ := hK
  intro x hx
  obtain ⟨c, hc, hxc⟩ := hF.from x ((hm x).1 hx)
  exact ((rightB_iff _ C).1 h).2.2.2 c hc x hxc
theorem each_units {C : List (List Int)} {M : List Bool} {K : List Int} (hC : NoZero C) (hm : hf M C = true) (hK : UnitsRes C (some K)) : eachB M K = true := by
  obtain ⟨S, hS, h⟩ := units_hold hC hm hK
  obtain rfl := Option.some.inj hS
  exact List.all_eq_true.2 h
theorem fits_both {u : Nat} {a b K : List Int} {v : Int} (ha : allB (u : Int) a = true) (hb : allB (u : Int) b = true) (hK : CleanRes (both a b v) (some K)) : FitsM u K := by
  intro x hx
  have h1 := (hK.2.2 x).1 hx
  unfold both at h1
  rcases List.mem_append.1 h1 with h | h
  · exact (allB_iff _ a).1 ha x (List.mem_filter.1 h).1
  · exact (allB_iff _ b).1 hb x (List.mem_filter.1 h).1

set_option maxRecDepth 100000 in
set_option maxHeartbeats 16000000 in
theorem clausemodels_any (V : Int) (ca la : Option Addr) (cn cc n c : Nat) (C : List (List Int)) (lits : List Int) (i k v : Int) (w : World) (hV : InR V) (hC : ClsAt w ca cn C) (hFC : Fit ca cn cc) (hL : IntsAt w la n lits) (hFL : Fit la n c) (hv : InR v) (hW : Laid w) :
    Calls Tryd.prog 4 #[.agg #[.int .i64 V, .slice ca cn cc], .slice la n c, .int .i64 i, .int .i64 k, .int .i64 v] w fun e w' => e = .returned (.bool true) ∧ Kept w w' := by
  have HK0 := Lib.hid ((Kept.refl w).alloc (fObj V ca cn cc))
  have HC := Lib.hid (hC.kept HK0.out)
  have HL := Lib.hid (hL.kept HK0.out)
  have HW := Lib.hid (hW.kept HK0.out)
  have HB := Lib.hid (MapKept.heap_alloc w (fObj V ca cn cc)).1
  have HV := Lib.hid hV
  have HVV := Lib.hid hv
  have HFL := Lib.hid hFL
  have HFC := Lib.hid hFC
  clear hC hL hW hV hv hFL hFC
  go_enter Tryd.func4, Tryd.ntmps4
  go_upto_region 1 with (fail)
  change Code.wp _ _ _ _ (w.alloc (fObj V ca cn cc))
  generalize w.alloc (fObj V ca cn cc) = W at *
  obtain ⟨fb, hfb⟩ : ∃ b : Nat, b = w.heap.size := ⟨_, rfl⟩
  rw [← hfb] at HB ⊢
  clear hfb
  obtain ⟨f0, f1⟩ := box_facts HB.out (Kept.refl W)
  go_wp2_with fail
  refine (few_any V 30 ca cn cc C W HC.out (Nat.le_trans HFC.out.2.1 HFC.out.2.2) (by unfold InR; decide)).mono ?_
  rintro e w1 ⟨rfl, hk1⟩
  have HK1 := Lib.hid hk1
  clear hk1 f0 f1
  cases hfew : fewF C 30 with
  | false =>
    clear hfew
    go_wp2_with fail
    refine (works_any _ (HW.out.kept HK1.out)).mono ?_
    rintro e w2 ⟨rfl, hk2⟩
    have HK2 := Lib.hid (HK0.out.trans (HK1.out.trans hk2))
    clear hk2
    go_wp2
    go_ret
    exact ⟨rfl, HK2.out⟩
  | true =>
  have HFW : Hid (C.length ≤ 30 ∧ ∀ c ∈ C, c.length ≤ 30) := by
    have := few_len hfew
    exact ⟨by omega, this.2⟩
  clear hfew
  have hcn : cn ≤ 30 := by rw [← HC.out.len]; exact HFW.out.1
  obtain ⟨f0, f1⟩ := box_facts HB.out HK1.out
  go_wp2_with fail
  refine (right_any V ca cn cc C w1 HV.out (HC.out.kept HK1.out) (by omega) (fun c hc => Nat.le_trans (HFW.out.2 c hc) (by decide))).mono ?_
  rintro e w2 ⟨rfl, hk2⟩
  have HK2 := Lib.hid (HK1.out.trans hk2)
  clear hk2 f0 f1
  cases hr : rightB V C with
  | false =>
    clear hr
    go_wp2_with fail
    refine (works_any _ (HW.out.kept HK2.out)).mono ?_
    rintro e w3 ⟨rfl, hk3⟩
    have HK3 := Lib.hid (HK0.out.trans (HK2.out.trans hk3))
    clear hk3
    go_wp2
    go_ret
    exact ⟨rfl, HK3.out⟩
  | true =>
  have HR := Lib.hid hr
  clear hr
  obtain ⟨f0, f1⟩ := box_facts HB.out HK2.out
  by_cases h8 : V ≤ 8
  case neg =>
    have d8 : decide (8 < V) = true := decide_eq_true (by omega)
    clear h8
    go_wp2_with fail
    refine (works_any _ (HW.out.kept HK2.out)).mono ?_
    rintro e w3 ⟨rfl, hk3⟩
    have HK3 := Lib.hid (HK0.out.trans (HK2.out.trans hk3))
    clear hk3
    go_wp2
    go_ret
    exact ⟨rfl, HK3.out⟩
  have d8 : decide (8 < V) = false := decide_eq_false (by omega)
  by_cases h10 : n ≤ 10
  case neg =>
    have d10 : decide ((10 : Int) < (n : Int)) = true := decide_eq_true (by omega)
    clear h8 h10
    go_wp2_with fail
    refine (works_any _ (HW.out.kept HK2.out)).mono ?_
    rintro e w3 ⟨rfl, hk3⟩
    have HK3 := Lib.hid (HK0.out.trans (HK2.out.trans hk3))
    clear hk3
    go_wp2
    go_ret
    exact ⟨rfl, HK3.out⟩
  have d10 : decide ((10 : Int) < (n : Int)) = false := decide_eq_false (by omega)
  have H8 := Lib.hid (And.intro h8 h10)
  clear h8 h10
  go_wp2_with fail
  refine (assign_any V ca la cn cc n c C lits w2 HV.out (HC.out.kept HK2.out) (by omega) (fun c hc => Nat.le_trans (HFW.out.2 c hc) (by decide)) (HL.out.kept HK2.out) (by have := H8.out.2; omega)).mono ?_
  rintro e w3 hpost
  obtain ⟨hk3, LV, ga, gk, gc, okA, rfl, hA⟩ := hpost.one
  have HASG := Lib.hid hA
  have HK3 := Lib.hid (HK2.out.trans hk3)
  clear hk3 hpost hA f0 f1 d8 d10
  go_upto_region 4 with (fail)
  have HBL := Lib.hid (MapKept.heap_alloc w3 (fObj LV ga gk gc)).1
  have HK4 := Lib.hid ((Kept.refl w3).alloc (fObj LV ga gk gc))
  change Code.wp _ _ _ _ (w3.alloc (fObj LV ga gk gc))
  generalize w3.alloc (fObj LV ga gk gc) = W4 at *
  obtain ⟨lb, hlb⟩ : ∃ b : Nat, b = w3.heap.size := ⟨_, rfl⟩
  rw [← hlb] at HBL ⊢
  clear hlb
  obtain ⟨f0, f1⟩ := box_facts HB.out (HK3.out.trans HK4.out)
  go_wp2_with fail
  refine (units_any V ca cn cc C W4 HV.out (HC.out.kept (HK3.out.trans HK4.out)) (by omega) (fun c hc => Nat.le_trans (HFW.out.2 c hc) (by decide)) (Nat.le_trans (flat_len HFW.out.2) (by have := HFW.out.1; omega))).mono ?_
  rintro e w5 hpost
  obtain ⟨hk5, ua, uk, uc, okU, rfl, hU, hU'⟩ := hpost.one HR.out
  have HU := Lib.hid hU
  have HU' := Lib.hid hU'
  have HK5 := Lib.hid (HK4.out.trans hk5)
  have HKW := Lib.hid (HK3.out.trans HK5.out)
  have HBL5 := Lib.hid (hk5.row HBL.out)
  clear hk5 hpost hU hU' f0 f1
  obtain ⟨f0, f1⟩ := box_facts HB.out HKW.out
  go_upto_if 56 with (fail)
  go_cut [15, 16] (fun sa sb wx => Kept w5 wx ∧ ∃ A1 A2, RowIn V wx sa A1 ∧ RowIn V wx sb A2)
  case first =>
    by_cases hc0 : cn = 0
    · subst hc0
      go_wp2
      go_meet
      case rel => exact ⟨Kept.refl _, [], [], RowIn.none _ _, RowIn.none _ _⟩
    · have d0 : decide ((0 : Int) < (cn : Int)) = true := decide_eq_true (by omega)
      obtain ⟨p, hp, hpick⟩ := pick_is i cn hc0 (by omega)
      obtain ⟨q, hq, hqick⟩ := pick_is k cn hc0 (by omega)
      have HP := Lib.hid hpick
      have HQ := Lib.hid hqick
      have HC5 := Lib.hid (HC.out.kept HKW.out)
      obtain ⟨cb, off, rfl, hat⟩ := HC5.out.at_ (by omega)
      obtain ⟨c1, hc1⟩ : ∃ c1, C[p]? = some c1 := ⟨_, List.getElem?_eq_getElem (by rw [HC.out.len]; exact hp)⟩
      obtain ⟨c2, hc2⟩ : ∃ c2, C[q]? = some c2 := ⟨_, List.getElem?_eq_getElem (by rw [HC.out.len]; exact hq)⟩
      obtain ⟨a1, k1, cap1, x1, hI1, hz1, hl1, _⟩ := hat p c1 hc1
      obtain ⟨a2, k2, cap2, x2, hI2, hz2, hl2, _⟩ := hat q c2 hc2
      have HR1 : Hid (RowIn V w5 (.slice a1 k1 cap1) c1) := ⟨a1, k1, cap1, rfl, hI1, (fun h => ⟨(hz1 h).1, (hz1 h).2⟩), by rw [← hI1.len]; exact HFW.out.2 c1 (List.mem_of_getElem? hc1), right_row HR.out (List.mem_of_getElem? hc1)⟩
      have HR2 : Hid (RowIn V w5 (.slice a2 k2 cap2) c2) := ⟨a2, k2, cap2, rfl, hI2, (fun h => ⟨(hz2 h).1, (hz2 h).2⟩), by rw [← hI2.len]; exact HFW.out.2 c2 (List.mem_of_getElem? hc2), right_row HR.out (List.mem_of_getElem? hc2)⟩
      have HX2 := Lib.hid x2
      have p1 : (p : Int) < (cn : Int) := by omega
      have q1 : (q : Int) < (cn : Int) := by omega
      clear hc0 hpick hqick hat hc1 hc2 hI1 hz1 hl1 hI2 hz2 hl2 x2
      go_wp2_with fail
      go_quiet ((go_at_call 16; exact Calls.quiet_of_same (HP.out _)))
      clear x1 f0 f1
      have HKQ := Lib.hid (Kept.drewN (Kept.refl w5) nq)
      generalize w5.drewN nq = w6 at *
      obtain ⟨f0, f1⟩ := box_facts HB.out (HKW.out.trans HKQ.out)
      have x2 := HKQ.out.cell HX2.out
      go_wp2_with fail
      go_quiet ((go_at_call 16; exact Calls.quiet_of_same (HQ.out _)))
      clear x2 f0 f1
      go_wp2
      go_meet
      case rel => exact ⟨Kept.drewN HKQ.out _, c1, c2, HR1.out.kept (Kept.drewN HKQ.out _), HR2.out.kept (Kept.drewN HKQ.out _)⟩
  case rest =>
    obtain ⟨hk6, A1, A2, ⟨a1, k1, c1, rfl, hI1, hz1, hl1, hr1⟩, a2, k2, c2, rfl, hI2, hz2, hl2, hr2⟩ := hcut
    have HK6 := Lib.hid (HKW.out.trans hk6)
    have HI1 := Lib.hid hI1
    have HI2 := Lib.hid hI2
    have HZ := Lib.hid (And.intro hz1 hz2)
    have HR12 := Lib.hid (And.intro hr1 hr2)
    have HU6 : Hid (okU = true → ∃ K, UnitsRes C (some K) ∧ IntsAt wc ua uk K ∧ Fit ua uk uc) := fun h => by
      obtain ⟨K, h1, h2, h3⟩ := HU.out h
      exact ⟨K, h1, h2.kept hk6, h3⟩
    have HA6 : Hid (okA = true → LV = V ∧ AsgOk V C lits ∧ ClsAt wc ga gk (asg C lits)) := fun h => by
      obtain ⟨h1, h2, h3⟩ := HASG.out h
      exact ⟨h1, h2, h3.kept (HK5.out.trans hk6)⟩
    have HBL6 := Lib.hid (hk6.row HBL5.out)
    clear hk6 hI1 hI2 hz1 hz2 hr1 hr2 f0 f1 HU HASG
    go_wp2_with fail
    refine (resolve_any a1 a2 k1 c1 k2 c2 A1 A2 v wc HI1.out HI2.out (by omega) (by omega) HZ.out.1 HZ.out.2 HVV.out).mono ?_
    rintro e w7 hpost
    obtain ⟨hk7, ra, rk, rc, okR, rfl, hR⟩ := hpost.one
    have HRR := Lib.hid hR
    have HK7 := Lib.hid hk7
    have HKW7 := Lib.hid (HK6.out.trans hk7)
    have HBL7 := Lib.hid (hk7.row HBL6.out)
    clear hk7 hpost hR
    obtain ⟨u, hu⟩ : ∃ u : Nat, V = (u : Int) := ⟨V.toNat, by have := ((rightB_iff V C).1 HR.out).1; omega⟩
    have u8 : u ≤ 8 := by have := H8.out.1; omega
    obtain ⟨T, hT⟩ : ∃ T : Nat, T = 2 ^ u := ⟨_, rfl⟩
    have hT9 : T ≤ 256 := by
      rw [hT]
      have := Nat.pow_le_pow_right (show 0 < 2 by decide) u8
      omega
    have hw : wrap64 (2 ^ u) = (T : Int) := by
      have : ((2 : Int) ^ u) = (T : Int) := by rw [hT]; simp
      rw [this]
      exact IntWalk.wrap64_in _ (by omega)
    subst hu
    have HTT := Lib.hid hT
    clear hT
    go_wp2
    run_tac do
      let g ← Lean.Elab.Tactic.getMainGoal
      let ty ← Lean.instantiateMVars (← g.getType)
      Lean.logInfo m!"GOAL {ty}"
    go_loopw [19] (fun s wr => ∃ mm : Nat, mm ≤ T ∧ s = .int .i64 mm ∧ Hid (Kept w7 wr)) (fun s _ => T - (intOf s).toNat)
    case atStart => exact ⟨0, by omega, rfl, Kept.refl _⟩
    case round =>
      obtain ⟨mm, hm, rfl, HKR⟩ := hrel
      by_cases hml : mm < T
      · have m1 : (mm : Int) < (T : Int) := by omega
        have m0 : (0 : Int) ≤ (mm : Int) := Int.natCast_nonneg _
        have l1 : (0 : Int) ≤ (u : Int) := Int.natCast_nonneg _
        have l2 : (u : Int) ≤ 8 := by omega
        obtain ⟨f0, f1⟩ := box_facts HB.out (HKW7.out.trans HKR.out)
        have hmk := run_make_row' (P := Tryd.prog) 43 4 (.bool false) 1 Tryd.underlying43 infoBool rfl .i64 .i64 u (by omega) (by omega)
        go_upto_region 14 with (fail)
        have HRM := Lib.hid (RowM.made wr u)
        have HKA := Lib.hid ((Kept.refl wr).alloc (.cells (madeCells #[.bool false] u) 4))
        change Code.wp _ _ _ _ (wr.alloc (.cells (madeCells #[.bool false] u) 4))
        obtain ⟨bm, hbm⟩ : ∃ b : Nat, b = wr.heap.size := ⟨_, rfl⟩
        rw [← hbm] at HRM ⊢
        have HBM := Lib.hid hbm
        generalize wr.alloc (.cells (madeCells #[.bool false] u) 4) = wa at *
        obtain ⟨wo, rfl⟩ : ∃ wo, wo = wr := ⟨_, rfl⟩
        clear hmk f0 f1 hbm hw m1
        go_wp2
        go_loopw [21] (fun s wr => ∃ (j : Nat) (M : List Bool), j ≤ u ∧ s = .int .i64 j ∧ M.length = u ∧ Hid (RowM wr bm M) ∧ Hid (Kept wo wr)) (fun s _ => u - (intOf s).toNat)
        case atStart => exact ⟨0, _, Nat.zero_le _, rfl, by simp, HRM.out, HKA.out⟩
        case round =>
          obtain ⟨j, M, hj, rfl, hMl, HRW, HKJ⟩ := hrel
          have HML := Lib.hid hMl
          have j0 : (0 : Int) ≤ (j : Int) := Int.natCast_nonneg _
          obtain ⟨f0, f1⟩ := box_facts HB.out (HKW7.out.trans (HKR.out.trans HKJ.out))
          by_cases hjl : j < u
          · have j1 : (j : Int) < (u : Int) := by omega
            have j2 : (j : Int) ≤ 64 := by omega
            obtain ⟨g0, g1, g2⟩ := HRW.out.facts (j := j) (by rw [HML.out]; exact hjl)
            clear hMl
            go_wp2
            go_roundw
            case rel => exact ⟨j + 1, M.set j _, by omega, by go_num, by rw [List.length_set]; exact HML.out, HRW.out.set j _, HKJ.out.setCell (p := ⟨bm, j, none⟩) (by have := HBM.out; show _ ≤ bm; omega) _⟩
            case measure => simp [intOf]; omega
          · obtain rfl : j = u := by omega
            have HCR := Lib.hid (HKW7.out.trans (HKR.out.trans HKJ.out))
            have HMB : Hid (BoolsAt wr (some ⟨bm, 0, none⟩) j M) := by
              have := HRW.out.bools
              rw [HML.out] at this
              exact this
            clear hMl
            go_wp2_with fail
            refine (holds_any (j : Int) ca (some ⟨bm, 0, none⟩) cn cc j j C M wr HV.out (HC.out.kept HCR.out) (by omega) (fun c hc => Nat.le_trans (HFW.out.2 c hc) (by decide)) HMB.out (by omega)).mono ?_
            rintro e w8 ⟨rfl, hk8⟩
            rw [holdsB_in HR.out HML.out]
            have HK8 := Lib.hid ((HKR.out.trans HKJ.out).trans hk8)
            have HMB8 := Lib.hid (HMB.out.kept hk8)
            clear hk8 f0 f1
            go_upto_region 19 with (fail)
            go_cut [22, 134] (fun _ s wx => s = .bool false ∧ Kept w8 wx)
            case first =>
              cases hh : hf M C with
              | false =>
                have HHF := Lib.hid hh
                clear hh
                cases okA with
                | false =>
                  go_wp2
                  go_meet
                  case rel => exact ⟨rfl, Kept.refl _⟩
                | true =>
                  obtain ⟨rfl, hok, hCA⟩ := HA6.out rfl
                  have HOK := Lib.hid hok
                  have HCA := Lib.hid (hCA.kept (HK7.out.trans HK8.out))
                  clear hok hCA
                  go_wp2_with fail
                  refine (each_any la (some ⟨bm, 0, none⟩) n c j j lits M w8 (HL.out.kept (HKW7.out.trans HK8.out)) HMB8.out HFL.out.2.1 HFL.out.2.2 (by omega) (fits_all HOK.out.2.1)).mono ?_
                  rintro e w' ⟨rfl, rfl⟩
                  cases he : eachB M lits with
                  | false =>
                    clear he
                    go_wp2
                    go_meet
                    case rel => exact ⟨rfl, Kept.refl _⟩
                  | true =>
                    have HEL := Lib.hid he
                    clear he
                    obtain ⟨l0, l1⟩ := box_facts HBL7.out HK8.out
                    go_wp2_with fail
                    refine (holds_any (j : Int) ga (some ⟨bm, 0, none⟩) gk gc j j (asg C lits) M w8 HV.out HCA.out (by have h1 := HCA.out.len; have h2 := asg_le C lits; have h3 := HFW.out.1; omega) (fun c hc => Nat.le_trans (asg_short HFW.out.2 lits c hc) (by decide)) HMB8.out (by omega)).mono ?_
                    rintro e w10 ⟨rfl, hk10⟩
                    rw [holdsB_in (asg_right HR.out lits) HML.out, asg_holds (right_nz HR.out) (List.all_eq_true.1 HEL.out), HHF.out]
                    have HKX := Lib.hid hk10
                    clear hk10 l0 l1
                    go_wp2
                    go_meet
                    case rel => exact ⟨rfl, HKX.out⟩
              | true =>
                have HHF := Lib.hid hh
                clear hh
                cases okU with
                | false =>
                  exfalso
                  obtain ⟨S, hS, _⟩ := units_hold (right_nz HR.out) HHF.out (HU'.out rfl)
                  cases hS
                | true =>
                  obtain ⟨K, hK, hIK, hFK⟩ := HU6.out rfl
                  have HUK := Lib.hid hK
                  have HIK := Lib.hid (hIK.kept (HK7.out.trans HK8.out))
                  have HFK := Lib.hid hFK
                  clear hK hIK hFK
                  go_wp2_with fail
                  refine (each_any ua (some ⟨bm, 0, none⟩) uk uc j j K M w8 HIK.out HMB8.out HFK.out.2.1 HFK.out.2.2 (by omega) (fits_units HR.out HUK.out)).mono ?_
                  rintro e w' ⟨rfl, rfl⟩
                  rw [each_units (right_nz HR.out) HHF.out HUK.out]
                  cases okA with
                  | false =>
                    go_wp2
                    go_meet
                    case rel => exact ⟨rfl, Kept.refl _⟩
                  | true =>
                    obtain ⟨rfl, hok, hCA⟩ := HA6.out rfl
                    have HOK := Lib.hid hok
                    have HCA := Lib.hid (hCA.kept (HK7.out.trans HK8.out))
                    clear hok hCA
                    go_wp2_with fail
                    refine (each_any la (some ⟨bm, 0, none⟩) n c j j lits M w8 (HL.out.kept (HKW7.out.trans HK8.out)) HMB8.out HFL.out.2.1 HFL.out.2.2 (by omega) (fits_all HOK.out.2.1)).mono ?_
                    rintro e w' ⟨rfl, rfl⟩
                    cases he : eachB M lits with
                    | false =>
                      clear he
                      go_wp2
                      go_meet
                      case rel => exact ⟨rfl, Kept.refl _⟩
                    | true =>
                      have HEL := Lib.hid he
                      clear he
                      obtain ⟨l0, l1⟩ := box_facts HBL7.out HK8.out
                      go_wp2_with fail
                      refine (holds_any (j : Int) ga (some ⟨bm, 0, none⟩) gk gc j j (asg C lits) M w8 HV.out HCA.out (by have h1 := HCA.out.len; have h2 := asg_le C lits; have h3 := HFW.out.1; omega) (fun c hc => Nat.le_trans (asg_short HFW.out.2 lits c hc) (by decide)) HMB8.out (by omega)).mono ?_
                      rintro e w10 ⟨rfl, hk10⟩
                      rw [holdsB_in (asg_right HR.out lits) HML.out, asg_holds (right_nz HR.out) (List.all_eq_true.1 HEL.out), HHF.out]
                      have HKX := Lib.hid hk10
                      clear hk10 l0 l1
                      go_wp2
                      go_meet
                      case rel => exact ⟨rfl, HKX.out⟩
            case rest =>
              obtain ⟨rfl, hk9⟩ := hcut
              have HK9 := Lib.hid (HK8.out.trans hk9)
              have HMB9 := Lib.hid (HMB8.out.kept hk9)
              clear hk9
              go_upto_region 21 with (fail)
              go_cut [151] (fun s wx => s = .bool false ∧ Kept wc wx)
              case first =>
                cases okR with
                | false =>
                  go_wp2
                  go_meet
                  case rel => exact ⟨rfl, Kept.refl _⟩
                | true =>
                  obtain ⟨hRes, K, hK, hIK, hKl⟩ := HRR.out rfl
                  have HRes := Lib.hid hRes
                  have HCK := Lib.hid hK
                  have HIK := Lib.hid (hIK.kept HK9.out)
                  have hrk : rk ≤ 1000000 := by
                    have h1 := hIK.len
                    have h2 := HI1.out.len
                    have h3 := HI2.out.len
                    omega
                  clear hRes hK hIK hKl
                  go_wp2_with fail
                  refine (rclause_any a1 (some ⟨bm, 0, none⟩) k1 c1 j j A1 M wc (HI1.out.kept (HK7.out.trans HK9.out)) HMB9.out (by omega) (by omega) (fits_all HR12.out.1)).mono ?_
                  rintro e w' ⟨rfl, rfl⟩
                  cases e1 : hc M A1 with
                  | false =>
                    clear e1
                    go_wp2
                    go_meet
                    case rel => exact ⟨rfl, Kept.refl _⟩
                  | true =>
                    have HE1 := Lib.hid e1
                    clear e1
                    go_wp2_with fail
                    refine (rclause_any a2 (some ⟨bm, 0, none⟩) k2 c2 j j A2 M wc (HI2.out.kept (HK7.out.trans HK9.out)) HMB9.out (by omega) (by omega) (fits_all HR12.out.2)).mono ?_
                    rintro e w' ⟨rfl, rfl⟩
                    cases e2 : hc M A2 with
                    | false =>
                      clear e2
                      go_wp2
                      go_meet
                      case rel => exact ⟨rfl, Kept.refl _⟩
                    | true =>
                      have HE2 := Lib.hid e2
                      clear e2
                      go_wp2_with fail
                      refine (rclause_any ra (some ⟨bm, 0, none⟩) rk rc j j K M wc HIK.out HMB9.out hrk (by omega) (fits_both HR12.out.1 HR12.out.2 HCK.out)).mono ?_
                      rintro e w' ⟨rfl, rfl⟩
                      rw [both_holds (by have := HRes.out.1; omega) HCK.out.2.2 HE1.out HE2.out]
                      go_wp2
                      go_meet
                      case rel => exact ⟨rfl, Kept.refl _⟩
              case rest =>
                obtain ⟨rfl, hk10⟩ := hcut
                have HK10 := Lib.hid (HK9.out.trans hk10)
                clear hk10
                go_wp2
                go_roundw
                case rel => exact ⟨mm + 1, by omega, by go_num, HK10.out⟩
                case measure => simp [intOf]; omega
      · obtain rfl : mm = T := by omega
        have l1 : (0 : Int) ≤ (u : Int) := Int.natCast_nonneg _
        have l2 : (u : Int) ≤ 64 := by omega
        obtain ⟨f0, f1⟩ := box_facts HB.out (HKW7.out.trans HKR.out)
        go_wp2_with fail
        refine (works_any _ (HW.out.kept (HKW7.out.trans HKR.out))).mono ?_
        rintro e w9 ⟨rfl, hk9⟩
        have HK9 := Lib.hid (HK0.out.trans (HKW7.out.trans (HKR.out.trans hk9)))
        clear hk9
        go_wp2
        go_ret
        exact ⟨rfl, HK9.out⟩
end Go.Proofs.YtgjbgblkmdbmmaaDoor
