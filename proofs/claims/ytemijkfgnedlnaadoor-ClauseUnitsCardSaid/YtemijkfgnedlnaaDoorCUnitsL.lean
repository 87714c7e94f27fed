/-
  Layer 5, ClauseUnits: the law's walk.
-/
import Derived.Test.YtemijkfgnedlnaaDoorCSame
import Derived.Test.YtemijkfgnedlnaaDoorCRAsg
import Derived.Test.YtemijkfgnedlnaaDoorCRUnits
namespace Go.Proofs.YtemijkfgnedlnaaDoor
open Go Go.RowKit Go.Lib

theorem few_len' {C : List (List Int)} {top : Int} (h : fewF C top = true) : (C.length : Int) ≤ top ∧ ∀ c ∈ C, c.length ≤ 30 := by
  unfold fewF at h
  simpa using h
theorem right_nz' {V : Int} {C : List (List Int)} (h : rightB V C = true) : NoZero C := fun c hc x hx => (((rightB_iff V C).1 h).2.2.2 c hc x hx).1
def AFact (V : Int) (C : List (List Int)) (lits : List Int) (LV : Int) (D : List (List Int)) (ok : Bool) : Prop :=
  (AsgOk V C lits ∧ LV = V ∧ D = asg C lits ∧ ok = true) ∨ (¬ AsgOk V C lits ∧ LV = 0 ∧ D = [] ∧ ok = false)
theorem AFact.eq {V : Int} {C : List (List Int)} {lits : List Int} {L1 L2 : Int} {D1 D2 : List (List Int)} {o1 o2 : Bool} (h : AFact V C lits L1 D1 o1) (k : AFact V C lits L2 D2 o2) : L2 = L1 ∧ D2 = D1 ∧ o2 = o1 := by
  rcases h with ⟨h1, rfl, rfl, rfl⟩ | ⟨h1, rfl, rfl, rfl⟩ <;> rcases k with ⟨k1, rfl, rfl, rfl⟩ | ⟨k1, rfl, rfl, rfl⟩
  · exact ⟨rfl, rfl, rfl⟩
  · exact absurd h1 k1
  · exact absurd k1 h1
  · exact ⟨rfl, rfl, rfl⟩
theorem AFact.small {V : Int} {C : List (List Int)} {lits : List Int} {L1 : Int} {D : List (List Int)} {o1 : Bool} (h : AFact V C lits L1 D o1) {b : Nat} (hC : ∀ c ∈ C, c.length ≤ b) : D.length ≤ C.length ∧ ∀ c ∈ D, c.length ≤ b := by
  rcases h with ⟨_, _, rfl, _⟩ | ⟨_, _, rfl, _⟩
  · refine ⟨asg_len C lits, fun c hc => ?_⟩
    obtain ⟨d, hd, h1, _⟩ := asg_lit hc
    exact Nat.le_trans h1 (hC d hd)
  · exact ⟨Nat.zero_le _, fun c hc => by cases hc⟩
theorem AsgPost.told {V : Int} {C : List (List Int)} {lits : List Int} {w w' : World} {e : Ending} (h : AsgPost V C lits w e w') : Kept w w' ∧ ∃ LV a k c ok D, e = .returned (.tuple #[.agg #[.int .i64 LV, .slice a k c], .bool ok]) ∧ ClsAt w' a k D ∧ AFact V C lits LV D ok := by
  obtain ⟨hk, ⟨ho, rfl⟩ | ⟨ho, a, k, c, rfl, hC⟩⟩ := h
  · exact ⟨hk, 0, none, 0, 0, false, [], rfl, ClsAt.nil _ _, Or.inr ⟨ho, rfl, rfl, rfl⟩⟩
  · exact ⟨hk, V, a, k, c, true, _, rfl, hC, Or.inl ⟨ho, rfl, rfl, rfl⟩⟩
def UFact (V : Int) (C : List (List Int)) (K : List Int) (ok : Bool) : Prop :=
  (rightB V C = true ∧ ok = true ∧ UnitsRes C (some K)) ∨ (K = [] ∧ ok = false ∧ (rightB V C = true → UnitsRes C none))
theorem UFact.eq {V : Int} {C : List (List Int)} {K1 K2 : List Int} {o1 o2 : Bool} (h : UFact V C K1 o1) (k : UFact V C K2 o2) : K2 = K1 ∧ o2 = o1 := by
  rcases h with ⟨h1, rfl, h2⟩ | ⟨rfl, rfl, h2⟩ <;> rcases k with ⟨k1, rfl, k2⟩ | ⟨rfl, rfl, k2⟩
  · exact ⟨Option.some.inj (UnitsRes.eq (right_nz' h1) k2 h2), rfl⟩
  · have := UnitsRes.eq (right_nz' h1) (k2 h1) h2; cases this
  · have := UnitsRes.eq (right_nz' k1) (h2 k1) k2; cases this
  · exact ⟨rfl, rfl⟩
theorem UFact.len {V : Int} {C : List (List Int)} {K : List Int} {ok : Bool} (h : UFact V C K ok) : K.length ≤ C.flatten.length := by
  rcases h with ⟨_, _, F, hF, _, hs, hm⟩ | ⟨rfl, _, _⟩
  · refine nodup_sub_len K C.flatten hs.nodup fun x hx => ?_
    obtain ⟨c, hc, hxc⟩ := hF.from x ((hm x).1 hx)
    exact List.mem_flatten.2 ⟨c, hc, hxc⟩
  · exact Nat.zero_le _
theorem UPost.told {V : Int} {C : List (List Int)} {w w' : World} {e : Ending} (h : UPost V C w e w') : Kept w w' ∧ ∃ a k c ok K, e = .returned (.tuple #[.slice a k c, .bool ok]) ∧ IntsAt w' a k K ∧ UFact V C K ok := by
  obtain ⟨hk, ⟨hno, rfl⟩ | ⟨hr, ⟨hu, rfl⟩ | ⟨a, k, c, K, hu, rfl, hI, _⟩⟩⟩ := h
  · exact ⟨hk, none, 0, 0, false, [], rfl, IntsAt.nil _ _, Or.inr ⟨rfl, rfl, fun h => by rw [hno] at h; cases h⟩⟩
  · exact ⟨hk, none, 0, 0, false, [], rfl, IntsAt.nil _ _, Or.inr ⟨rfl, rfl, fun _ => hu⟩⟩
  · exact ⟨hk, a, k, c, true, K, rfl, hI, Or.inl ⟨hr, rfl, hu⟩⟩
theorem mbox_facts {W w : World} {b : Nat} {V : Int} {ca : Option Addr} {cn cc : Nat} (h : W.heap[b]? = some (mObj V ca cn cc)) (hk : Kept W w) :
    w.cell? ⟨b, 0, none⟩ = some (.int .i64 V) ∧ w.cell? ⟨b, 1, none⟩ = some (.slice ca cn cc) := rbox_facts h hk

set_option maxRecDepth 100000 in
set_option maxHeartbeats 16000000 in
theorem clauseunits_any (V : Int) (ca la : Option Addr) (cn cc n c : Nat) (C : List (List Int)) (lits : List Int) (w : World) (hV : InR V) (hC : ClsAt w ca cn C) (hFC : Fit ca cn cc) (hL : IntsAt w la n lits) (hFL : Fit la n c) (hW : Laid w) :
    Calls Tryd.prog 3 #[.agg #[.int .i64 V, .slice ca cn cc], .slice la n c] w fun e w' => e = .returned (.bool true) ∧ Kept w w' := by
  have HK0 := Lib.hid ((Kept.refl w).alloc (fObj V ca cn cc))
  have HC := Lib.hid (hC.kept HK0.out)
  have HL := Lib.hid (hL.kept HK0.out)
  have HW := Lib.hid (hW.kept HK0.out)
  have HB := Lib.hid (MapKept.heap_alloc w (fObj V ca cn cc)).1
  have HV := Lib.hid hV
  have HFL := Lib.hid hFL
  have HFC := Lib.hid hFC
  clear hC hL hW hV hFL hFC
  go_enter Tryd.func3, Tryd.ntmps3
  go_upto_region 1 with (fail)
  change Code.wp _ _ _ _ (w.alloc (fObj V ca cn cc))
  generalize w.alloc (fObj V ca cn cc) = W at *
  obtain ⟨fb, hfb⟩ : ∃ b : Nat, b = w.heap.size := ⟨_, rfl⟩
  rw [← hfb] at HB ⊢
  clear hfb
  obtain ⟨f0, f1⟩ := box_facts HB.out (Kept.refl W)
  go_wp2_with fail
  refine (few_any V 60 ca cn cc C W HC.out (Nat.le_trans HFC.out.2.1 HFC.out.2.2) (by unfold InR; decide)).mono ?_
  rintro e w1 ⟨rfl, hk1⟩
  have HK1 := Lib.hid hk1
  clear hk1 f0 f1
  cases hfew : fewF C 60 with
  | false =>
    clear hfew
    go_wp2_with fail
    refine (works_any _ (HW.out.kept HK1.out)).mono ?_
    rintro e w2 ⟨rfl, hk2⟩
    have HK2 := Lib.hid (HK0.out.trans (HK1.out.trans hk2))
    clear hk2
    go_wp2
    go_ret
    exact ⟨rfl, HK2.out⟩
  | true =>
  have HFW : Hid (C.length ≤ 60 ∧ ∀ c ∈ C, c.length ≤ 30) := by
    have := few_len' hfew
    exact ⟨by omega, this.2⟩
  clear hfew
  have hcn : cn ≤ 60 := by rw [← HC.out.len]; exact HFW.out.1
  have HSH : Hid (∀ c ∈ C, c.length ≤ 1000000) := fun c hc => Nat.le_trans (HFW.out.2 c hc) (by decide)
  have HFLAT : Hid (C.flatten.length ≤ 1000000) := Nat.le_trans (flat_len HFW.out.2) (by have := HFW.out.1; omega)
  by_cases h30 : n ≤ 30
  case neg =>
    have d30 : decide ((30 : Int) < (n : Int)) = true := decide_eq_true (by omega)
    clear h30
    go_wp2_with fail
    refine (works_any _ (HW.out.kept HK1.out)).mono ?_
    rintro e w3 ⟨rfl, hk3⟩
    have HK3 := Lib.hid (HK0.out.trans (HK1.out.trans hk3))
    clear hk3
    go_wp2
    go_ret
    exact ⟨rfl, HK3.out⟩
  have d30 : decide ((30 : Int) < (n : Int)) = false := decide_eq_false (by omega)
  have H30 := Lib.hid h30
  clear h30
  obtain ⟨f0, f1⟩ := box_facts HB.out HK1.out
  go_wp2_with fail
  refine (fplain_any V ca cn cc w1).mono ?_
  rintro e w2 ⟨rfl, hk2⟩
  have HK2 := Lib.hid (HK1.out.trans hk2)
  clear hk2 f0 f1 d30
  go_upto_region 4 with (fail)
  have HBM := Lib.hid (MapKept.heap_alloc w2 (mObj V ca cn cc)).1
  have HKM := Lib.hid (HK2.out.trans ((Kept.refl w2).alloc (mObj V ca cn cc)))
  change Code.wp _ _ _ _ (w2.alloc (mObj V ca cn cc))
  generalize w2.alloc (mObj V ca cn cc) = W3 at *
  obtain ⟨mb, hmb⟩ : ∃ b : Nat, b = w2.heap.size := ⟨_, rfl⟩
  rw [← hmb] at HBM ⊢
  clear hmb
  obtain ⟨f0, f1⟩ := box_facts HB.out HKM.out
  go_wp2_with fail
  refine (assign_any V ca la cn cc n c C lits W3 HV.out (HC.out.kept HKM.out) (by omega) HSH.out (HL.out.kept HKM.out) (by have := H30.out; omega)).mono ?_
  rintro e w4 hpost
  obtain ⟨hk4, LV, a1, k1, c1, ok1, D1, rfl, hD1, hA1⟩ := hpost.told
  have HD1 := Lib.hid hD1
  have HA1 := Lib.hid hA1
  have HK4 := Lib.hid hk4
  clear hpost hD1 hA1 hk4 f0 f1
  go_upto_region 5 with (fail)
  have HBA := Lib.hid (MapKept.heap_alloc w4 (fObj LV a1 k1 c1)).1
  have HKA := Lib.hid ((Kept.refl w4).alloc (fObj LV a1 k1 c1))
  change Code.wp _ _ _ _ (w4.alloc (fObj LV a1 k1 c1))
  generalize w4.alloc (fObj LV a1 k1 c1) = W5 at *
  obtain ⟨ab, hab⟩ : ∃ b : Nat, b = w4.heap.size := ⟨_, rfl⟩
  rw [← hab] at HBA ⊢
  clear hab
  have HK5 := Lib.hid (HKM.out.trans (HK4.out.trans HKA.out))
  have HBM5 := Lib.hid ((HK4.out.trans HKA.out).row HBM.out)
  have HD5 := Lib.hid (HD1.out.kept HKA.out)
  clear HD1 HBM HKA HK4
  obtain ⟨g0, g1⟩ := mbox_facts HBM5.out (Kept.refl W5)
  go_wp2_with fail
  refine (rassign_any V ca la cn cc n c C lits W5 HV.out (HC.out.kept HK5.out) (by omega) HSH.out (HL.out.kept HK5.out) (by have := H30.out; omega)).mono ?_
  rintro e w6 hpost
  obtain ⟨hk6, LW, a2, k2, c2, ok2, D2, rfl, hD2, hA2⟩ := hpost.told
  obtain ⟨rfl, rfl, rfl⟩ := HA1.out.eq hA2
  have HD2 := Lib.hid hD2
  have HK6 := Lib.hid hk6
  clear hpost hD2 hA2 hk6 g0 g1
  go_upto_region 6 with (fail)
  have HBR := Lib.hid (MapKept.heap_alloc w6 (mObj LW a2 k2 c2)).1
  have HKR := Lib.hid ((Kept.refl w6).alloc (mObj LW a2 k2 c2))
  change Code.wp _ _ _ _ (w6.alloc (mObj LW a2 k2 c2))
  generalize w6.alloc (mObj LW a2 k2 c2) = W7 at *
  obtain ⟨rb, hrb⟩ : ∃ b : Nat, b = w6.heap.size := ⟨_, rfl⟩
  rw [← hrb] at HBR ⊢
  clear hrb
  have HK7 := Lib.hid (HK5.out.trans (HK6.out.trans HKR.out))
  have HBM7 := Lib.hid ((HK6.out.trans HKR.out).row HBM5.out)
  have HBA7 := Lib.hid ((HK6.out.trans HKR.out).row HBA.out)
  have HD7 := Lib.hid (HD5.out.kept (HK6.out.trans HKR.out))
  have HE7 := Lib.hid (HD2.out.kept HKR.out)
  clear HD5 HD2 HBM5 HBA HKR HK6
  obtain ⟨f0, f1⟩ := box_facts HB.out HK7.out
  go_wp2_with fail
  refine (units_any V ca cn cc C W7 HV.out (HC.out.kept HK7.out) (by omega) HSH.out HFLAT.out).mono ?_
  rintro e w8 hpost
  obtain ⟨hk8, ua, uk, uc, okU, K, rfl, hI8, hU8⟩ := hpost.told
  have HK8 := Lib.hid hk8
  have HI8 := Lib.hid hI8
  have HU8 := Lib.hid hU8
  have HKW8 := Lib.hid (HK7.out.trans hk8)
  clear hpost hI8 hU8 hk8 f0 f1
  obtain ⟨g0, g1⟩ := mbox_facts HBM7.out HK8.out
  go_wp2_with fail
  refine (runits_any V ca cn cc C w8 HV.out (HC.out.kept HKW8.out) (by omega) HSH.out HFLAT.out).mono ?_
  rintro e w9 hpost
  obtain ⟨hk9, va, vk, vc, okV, K2, rfl, hI9, hU9⟩ := hpost.told
  obtain ⟨rfl, rfl⟩ := HU8.out.eq hU9
  have HI9 := Lib.hid hI9
  have HK9 := Lib.hid (HK8.out.trans hk9)
  have HI89 := Lib.hid (HI8.out.kept hk9)
  clear hpost hI9 hU9 hk9 g0 g1
  obtain ⟨p0, p1⟩ := box_facts HBA7.out HK9.out
  obtain ⟨g0, g1⟩ := mbox_facts HBR.out HK9.out
  have b0 : (ok2 == ok2) = true := by simp
  have b1 : (okV == okV) = true := by simp
  have hk1 : k1 ≤ 1000000 := by
    have h1 := HD7.out.len
    have h2 := (HA1.out.small HFW.out.2).1
    have h3 := HFW.out.1
    omega
  have huk : uk ≤ 1000000 := by
    have h1 := HI8.out.len
    have h2 := HU8.out.len
    have h3 := HFLAT.out
    omega
  go_wp2_with fail
  refine (fsame_any LW a1 a2 k1 c1 k2 c2 D2 w9 (HD7.out.kept HK9.out) (HE7.out.kept HK9.out) hk1 (fun c hc => Nat.le_trans ((HA1.out.small HFW.out.2).2 c hc) (by decide))).mono ?_
  rintro e w10 ⟨rfl, hk10⟩
  have HK10 := Lib.hid hk10
  clear hk10 p0 p1 g0 g1
  go_wp2_with fail
  refine (same_true ua va uk uc vk vc K2 K2 w10 (HI89.out.kept HK10.out) (HI9.out.kept HK10.out) rfl (by omega)).mono ?_
  rintro e w11 ⟨rfl, hk11⟩
  have HK11 := Lib.hid (HK10.out.trans hk11)
  clear hk11
  go_wp2_with fail
  refine (works_any _ (HW.out.kept (HK7.out.trans (HK9.out.trans HK11.out)))).mono ?_
  rintro e w12 ⟨rfl, hk12⟩
  have HK12 := Lib.hid (HK0.out.trans (HK7.out.trans (HK9.out.trans (HK11.out.trans hk12))))
  clear hk12
  go_wp2
  go_ret
  exact ⟨rfl, HK12.out⟩
end Go.Proofs.YtemijkfgnedlnaaDoor
