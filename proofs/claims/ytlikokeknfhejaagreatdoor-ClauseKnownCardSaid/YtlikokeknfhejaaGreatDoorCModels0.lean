/-
  Layer 5, ClauseModels: contracts of the statements' helpers: few, each; the reference's Clause.
-/
import Derived.Test.YtlikokeknfhejaaGreatDoorCWorks
import Derived.Test.YtlikokeknfhejaaGreatDoorCHoldsL
namespace Go.Proofs.YtlikokeknfhejaaGreatDoor
open Go Go.RowKit Go.Lib

/-- A clause's literals have a truth in so long a model. -/
def FitsM (n : Nat) (c : List Int) : Prop := ∀ x ∈ c, x ≠ 0 ∧ x ≤ (n : Int) ∧ -(n : Int) ≤ x
theorem any_take {M : List Bool} {L : List Int} {j : Nat} {y : Int} (hj : j < L.length) (hy : L[j]? = some y) : hc M (L.take (j + 1)) = (hc M (L.take j) || hl M y) := by
  unfold hc
  rw [List.take_succ_eq_append_getElem hj, (List.getElem?_eq_some_iff.1 hy).2]
  simp
theorem hc_of {M : List Bool} {L : List Int} {j : Nat} {y : Int} (hy : L[j]? = some y) (h : hl M y = true) : hc M L = true := List.any_eq_true.2 ⟨y, List.mem_of_getElem? hy, h⟩
set_option maxHeartbeats 4000000 in
theorem rclause_any (la ma : Option Addr) (n c k mc : Nat) (L : List Int) (M : List Bool) (w : World) (hL : IntsAt w la n L) (hM : BoolsAt w ma k M) (hn : n ≤ 1000000) (hk : k ≤ 16777216) (hf : FitsM k L) :
    Calls Tryz.prog 53 #[.slice la n c, .slice ma k mc] w fun e w' => e = .returned (.bool (hc M L)) ∧ w = w' := by
  have HL := Lib.hid hL; have HM := Lib.hid hM; have HF := Lib.hid hf
  clear hL hM hf
  go_enter Tryz.func53, Tryz.ntmps53
  go_wp2
  go_loop [5] (fun i => ∃ j : Nat, j ≤ n ∧ i = .int .i64 j ∧ Hid (hc M (L.take j) = false)) (fun i => n - (intOf i).toNat)
  case atStart => exact ⟨0, Nat.zero_le _, rfl, rfl⟩
  case round =>
    obtain ⟨j, hj, rfl, HN⟩ := hrel
    have j0 : (0 : Int) ≤ (j : Int) := Int.natCast_nonneg _
    by_cases hjn : j < n
    · have j1 : (j : Int) < (n : Int) := by omega
      obtain ⟨b, off, rfl, hc0⟩ := HL.out.at_ (by omega)
      have hjl : j < L.length := by rw [HL.out.len]; exact hjn
      obtain ⟨y, hy⟩ : ∃ y, L[j]? = some y := ⟨_, List.getElem?_eq_getElem hjl⟩
      have x0 := hc0 j y hy
      have HY := Lib.hid hy
      have HJL := Lib.hid hjl
      have hfy := HF.out y (List.mem_of_getElem? hy)
      have y1 : -16777216 ≤ y := by omega
      have y2 : y ≤ 16777216 := by omega
      have v1 : 1 ≤ vr y ∧ vr y ≤ (k : Int) := by unfold vr; omega
      obtain ⟨mb, mo, rfl, mcell⟩ := HM.out.at_ (by omega)
      obtain ⟨p, hp⟩ : ∃ p : Nat, (p : Int) = vr y - 1 := ⟨(vr y - 1).toNat, by omega⟩
      have hpk : (vr y - 1).toNat = p := by omega
      obtain ⟨bb, hb⟩ : ∃ b, M[p]? = some b := ⟨_, List.getElem?_eq_getElem (by rw [HM.out.len]; omega)⟩
      have HH := Lib.hid (hl_at hfy.1 (hpk.symm ▸ hb))
      have m0 := mcell _ _ hb
      have p0 : (0 : Int) ≤ (p : Int) := Int.natCast_nonneg _
      have p1 : (p : Int) < (k : Int) := by omega
      clear hc0 hy hjl mcell hb hpk
      by_cases c1 : 0 < y
      · have d1 : decide (0 < y) = true := decide_eq_true c1
        have e1 : y - 1 = (p : Int) := by unfold vr at hp; omega
        rw [if_pos c1] at HH
        clear c1 hfy hp v1
        cases bb with
        | true =>
          go_wp2
          go_ret
          exact ⟨ret_bool (hc_of HY.out HH.out).symm, rfl⟩
        | false =>
          have d2 : decide (y < 0) = false := decide_eq_false (by omega)
          go_wp2
          go_round
          case rel => exact ⟨j + 1, by omega, by go_num, (any_take HJL.out HY.out).trans (by rw [HN.out, HH.out]; rfl)⟩
          case measure => simp [intOf]; omega
      · have d1 : decide (0 < y) = false := decide_eq_false c1
        have d2 : decide (y < 0) = true := decide_eq_true (by omega)
        have e1 : -y - 1 = (p : Int) := by unfold vr at hp; omega
        rw [if_neg c1] at HH
        clear c1 hfy hp v1
        cases bb with
        | false =>
          go_wp2
          go_ret
          exact ⟨ret_bool (hc_of HY.out HH.out).symm, rfl⟩
        | true =>
          go_wp2
          go_round
          case rel => exact ⟨j + 1, by omega, by go_num, (any_take HJL.out HY.out).trans (by rw [HN.out, HH.out]; rfl)⟩
          case measure => simp [intOf]; omega
    · obtain rfl : j = n := by omega
      go_wp2
      go_ret
      refine ⟨ret_bool ?_, rfl⟩
      have h1 := HN.out
      rw [← HL.out.len, List.take_length] at h1
      exact h1.symm
def eachB (M : List Bool) (L : List Int) : Bool := L.all (hl M)
theorem all_take {M : List Bool} {L : List Int} {j : Nat} {y : Int} (hj : j < L.length) (hy : L[j]? = some y) : eachB M (L.take (j + 1)) = (eachB M (L.take j) && hl M y) := by
  unfold eachB
  rw [List.take_succ_eq_append_getElem hj, (List.getElem?_eq_some_iff.1 hy).2]
  simp
set_option maxHeartbeats 4000000 in
theorem each_any (la ma : Option Addr) (n c k mc : Nat) (L : List Int) (M : List Bool) (w : World) (hL : IntsAt w la n L) (hM : BoolsAt w ma k M) (hn : n ≤ c) (hcm : c ≤ 9223372036854775807) (hk : k ≤ 16777216) (hf : FitsM k L) :
    Calls Tryz.prog 52 #[.slice la n c, .slice ma k mc] w fun e w' => e = .returned (.bool (eachB M L)) ∧ w = w' := by
  have HL := Lib.hid hL; have HM := Lib.hid hM; have HF := Lib.hid hf
  clear hL hM hf
  go_enter Tryz.func52, Tryz.ntmps52
  go_wp2
  go_loop [5] (fun i => ∃ j : Nat, j ≤ n ∧ i = .int .i64 j ∧ Hid (eachB M (L.take j) = true)) (fun i => n - (intOf i).toNat)
  case atStart => exact ⟨0, Nat.zero_le _, rfl, rfl⟩
  case round =>
    obtain ⟨j, hj, rfl, HN⟩ := hrel
    have j0 : (0 : Int) ≤ (j : Int) := Int.natCast_nonneg _
    by_cases hjn : j < n
    · have j1 : (j : Int) < (n : Int) := by omega
      have j2 : (j : Int) + 1 ≤ (c : Int) := by omega
      obtain ⟨b, off, rfl, hc0⟩ := HL.out.at_ (by omega)
      have hjl : j < L.length := by rw [HL.out.len]; exact hjn
      obtain ⟨y, hy⟩ : ∃ y, L[j]? = some y := ⟨_, List.getElem?_eq_getElem hjl⟩
      have x0 := hc0 j y hy
      have HY := Lib.hid hy
      have HJL := Lib.hid hjl
      have HI : Hid (IntsAt w (some ⟨b, off + j, none⟩) 1 [y]) := ⟨rfl, fun z hz => by rw [List.mem_singleton.1 hz]; exact HL.out.inr y (List.mem_of_getElem? hy), fun _ => ⟨b, off + j, rfl, fun i z hz => by
        match i, hz with
        | 0, hz =>
          obtain rfl : y = z := by simpa using hz
          exact x0⟩⟩
      have HFY : Hid (FitsM k [y]) := fun z hz => by rw [List.mem_singleton.1 hz]; exact HF.out y (List.mem_of_getElem? hy)
      clear hc0 hy hjl x0
      go_wp2_with fail
      refine (rclause_any (some ⟨b, off + j, none⟩) ma 1 _ k mc [y] M w HI.out HM.out (by decide) hk HFY.out).mono ?_
      rintro e w' ⟨rfl, rfl⟩
      have hs : hc M [y] = hl M y := by unfold hc; simp
      rw [hs]
      clear hs
      cases hh : hl M y with
      | true =>
        have HH := Lib.hid hh
        clear hh
        go_wp2
        go_round
        case rel => exact ⟨j + 1, by omega, by go_num, (all_take HJL.out HY.out).trans (by rw [HN.out, HH.out]; rfl)⟩
        case measure => simp [intOf]; omega
      | false =>
        have HH := Lib.hid hh
        clear hh
        go_wp2
        go_ret
        refine ⟨ret_bool ?_, rfl⟩
        cases e : eachB M L with
        | false => rfl
        | true =>
          have := List.all_eq_true.1 e y (List.mem_of_getElem? HY.out)
          rw [HH.out] at this; cases this
    · obtain rfl : j = n := by omega
      go_wp2
      go_ret
      refine ⟨ret_bool ?_, rfl⟩
      have h1 := HN.out
      rw [← HL.out.len, List.take_length] at h1
      exact h1.symm
/-- At most so many clauses, of at most 30 literals each? -/
def fewF (C : List (List Int)) (top : Int) : Bool := decide ((C.length : Int) ≤ top) && C.all fun c => decide (c.length ≤ 30)
set_option maxHeartbeats 4000000 in
theorem few_any (V top : Int) (ca : Option Addr) (cn cc : Nat) (C : List (List Int)) (w : World) (hC : ClsAt w ca cn C) (hcn : cn ≤ 9223372036854775807) (_ht : InR top) :
    Calls Tryz.prog 35 #[.agg #[.int .i64 V, .slice ca cn cc], .int .i64 top] w fun e w' => e = .returned (.bool (fewF C top)) ∧ Kept w w' := by
  have HC := Lib.hid (hC.kept ((Kept.refl w).alloc (fObj V ca cn cc)))
  have HK := Lib.hid ((Kept.refl w).alloc (fObj V ca cn cc))
  have HB := Lib.hid (MapKept.heap_alloc w (fObj V ca cn cc)).1
  clear hC
  go_enter Tryz.func35, Tryz.ntmps35
  go_upto_region 1 with (fail)
  change Code.wp _ _ _ _ (w.alloc (fObj V ca cn cc))
  generalize w.alloc (fObj V ca cn cc) = W at *
  obtain ⟨b, hb⟩ : ∃ b : Nat, b = w.heap.size := ⟨_, rfl⟩
  rw [← hb] at HB ⊢
  clear hb
  obtain ⟨f0, f1⟩ := box_facts HB.out (Kept.refl W)
  by_cases htop : (cn : Int) ≤ top
  · have d0 : decide (top < (cn : Int)) = false := decide_eq_false (by omega)
    have HT := Lib.hid htop
    clear htop
    go_wp2
    go_loop [5] (fun i => ∃ j : Nat, j ≤ cn ∧ i = .int .i64 j ∧ Hid ((C.take j).all (fun c => decide (c.length ≤ 30)) = true)) (fun i => cn - (intOf i).toNat)
    case atStart => exact ⟨0, Nat.zero_le _, rfl, rfl⟩
    case round =>
      obtain ⟨j, hj, rfl, HN⟩ := hrel
      have j0 : (0 : Int) ≤ (j : Int) := Int.natCast_nonneg _
      by_cases hjn : j < cn
      · have j1 : (j : Int) < (cn : Int) := by omega
        obtain ⟨cb, off, rfl, hc0⟩ := HC.out.at_ (by omega)
        have hjl : j < C.length := by rw [HC.out.len]; exact hjn
        obtain ⟨y, hy⟩ : ∃ y, C[j]? = some y := ⟨_, List.getElem?_eq_getElem hjl⟩
        obtain ⟨a, k, cap, x0, hI, _⟩ := hc0 j y hy
        have HY := Lib.hid hy
        have HJ : Hid (C.take (j + 1) = C.take j ++ [y]) := by
          show _ = _
          rw [List.take_succ_eq_append_getElem hjl, (List.getElem?_eq_some_iff.1 hy).2]
        have HYL := Lib.hid hI.len
        clear hc0 hy hjl hI
        by_cases h30 : k ≤ 30
        · have d1 : decide ((30 : Int) < (k : Int)) = false := decide_eq_false (by omega)
          go_wp2
          go_round
          case rel =>
            refine ⟨j + 1, by omega, by go_num, ?_⟩
            show List.all _ _ = true
            rw [HJ.out, List.all_append, HN.out]
            simp [HYL.out, h30]
          case measure => simp [intOf]; omega
        · have d1 : decide ((30 : Int) < (k : Int)) = true := decide_eq_true (by omega)
          have H30 := Lib.hid h30
          clear h30
          go_wp2
          go_ret
          refine ⟨ret_bool ?_, HK.out⟩
          cases e : fewF C top with
          | false => rfl
          | true =>
            unfold fewF at e
            rw [Bool.and_eq_true] at e
            have := List.all_eq_true.1 e.2 y (List.mem_of_getElem? HY.out)
            have h1 := HYL.out
            have h2 := H30.out
            simp at this
            omega
      · obtain rfl : j = cn := by omega
        go_wp2
        go_ret
        refine ⟨ret_bool ?_, HK.out⟩
        have h1 := HN.out
        rw [← HC.out.len, List.take_length] at h1
        unfold fewF
        rw [h1, HC.out.len, decide_eq_true HT.out]; rfl
  · have d0 : decide (top < (cn : Int)) = true := decide_eq_true (by omega)
    have HT := Lib.hid htop
    clear htop
    go_wp2
    go_ret
    refine ⟨ret_bool ?_, HK.out⟩
    unfold fewF
    rw [HC.out.len, decide_eq_false (by have := HT.out; omega)]; rfl
end Go.Proofs.YtlikokeknfhejaaGreatDoor
