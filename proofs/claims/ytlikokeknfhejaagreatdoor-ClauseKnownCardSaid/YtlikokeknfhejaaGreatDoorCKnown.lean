/-
  Layer 5: what is known, as a map in memory; contracts of known's put, holds and fails.
-/
import Derived.Test.YtlikokeknfhejaaGreatDoorCFun
import Derived.Test.YtlikokeknfhejaaGreatDoorCRightL
import Derived.Test.YtlikokeknfhejaaGreatDoorCRef
namespace Go.Proofs.YtlikokeknfhejaaGreatDoor
open Go Go.RowKit Go.ChangeMaps Go.MapKept Go.WideMaps
open Go.Maps (Keyed)

theorem lawInt : Keyed Tryz.prog 3 := Maps.int_keyed Tryz.underlying3
theorem zeroInt' (w : World) : (zeroValue 3).run Tryz.prog w = .ok (.int .i64 0) w := Tryz.zeroValue3 w
theorem wf_i64 {n : Int} (h : InR n) : (Lit.int .i64 n).wf = true := by
  unfold InR at h
  simp [Lit.wf, IntKind.min, IntKind.max, IntKind.signed, IntKind.bits]; omega

theorem run_makeMap_none {t k e : TypeId} (_hu : Tryz.prog.underlying t = some (.map k e)) (w : World) : (Instr.makeMap t none).run Tryz.prog w = .ok (.map (some w.heap.size)) (w.alloc (.map #[] 0)) := by
  simp [Instr.makeMap, Result.andThen]
/-- What is known of a variable: its literal, or 0. -/
def knI (F : List Int) (v : Int) : Int := (F.find? fun l => decide (vr l = v)).getD 0
/-- Literals of which no two are each other's other one. -/
structure One (F : List Int) : Prop where
  nz : ∀ x ∈ F, x ≠ 0
  one : ∀ x ∈ F, -x ∉ F
theorem One.nil : One [] := ⟨by simp, by simp⟩
theorem Cons.toOne {F : List Int} (h : Cons F) : One F := ⟨h.nz, h.one⟩
theorem One.snoc {F : List Int} (h : One F) {l : Int} (h0 : l ≠ 0) (h2 : -l ∉ F) : One (F ++ [l]) := by
  refine ⟨?_, ?_⟩
  · intro x hx
    rcases List.mem_append.1 hx with hx | hx
    · exact h.nz x hx
    · rw [List.mem_singleton.1 hx]; exact h0
  · intro x hx hn
    rcases List.mem_append.1 hx with hx | hx <;> rcases List.mem_append.1 hn with hn | hn
    · exact h.one x hx hn
    · have := List.mem_singleton.1 hn
      apply h2; rw [← this]; simpa using hx
    · rw [List.mem_singleton.1 hx] at hn; exact h2 hn
    · have e1 := List.mem_singleton.1 hx; have e2 := List.mem_singleton.1 hn; omega
theorem knI_is {F : List Int} (h : One F) {l : Int} (h0 : l ≠ 0) : (knI F (vr l) = l ↔ l ∈ F) ∧ (knI F (vr l) = -l ↔ -l ∈ F) := by
  unfold knI
  cases hf : F.find? fun x => decide (vr x = vr l) with
  | none =>
    rw [List.find?_eq_none] at hf
    have h1 : l ∉ F := fun hx => by have := hf l hx; simp at this
    have h2 : -l ∉ F := fun hx => by have := hf (-l) hx; simp [vr_neg] at this
    simp only [Option.getD_none]
    exact ⟨⟨fun e => absurd e.symm h0, fun e => absurd e h1⟩, ⟨fun e => absurd (by omega) h0, fun e => absurd e h2⟩⟩
  | some x =>
    have hx := List.mem_of_find?_eq_some hf
    have hv : vr x = vr l := by have := List.find?_some hf; simpa using this
    simp only [Option.getD_some]
    rcases vr_eq hv with e | e
    · subst e
      exact ⟨⟨fun _ => hx, fun _ => rfl⟩, ⟨fun e => absurd (by omega) h0, fun e => absurd e (h.one _ hx)⟩⟩
    · subst e
      refine ⟨⟨fun e => absurd (by omega) h0, fun e => absurd hx (h.one _ e)⟩, ⟨fun _ => hx, fun _ => rfl⟩⟩
theorem knI_snoc {F : List Int} {l : Int} (h2 : -l ∉ F) (v : Int) : knI (F ++ [l]) v = if v = vr l then l else knI F v := by
  unfold knI
  rw [List.find?_append]
  by_cases hv : v = vr l
  · subst hv
    rw [if_pos rfl]
    cases hf : F.find? fun x => decide (vr x = vr l) with
    | none => simp
    | some x =>
      have hx := List.mem_of_find?_eq_some hf
      have hv : vr x = vr l := by have := List.find?_some hf; simpa using this
      rcases vr_eq hv with e | e
      · subst e; simp
      · subst e; exact absurd hx h2
  · rw [if_neg hv]
    have : ¬ vr l = v := fun e => hv e.symm
    cases hf : F.find? fun x => decide (vr x = v) with
    | none => simp [this]
    | some x => simp

/-- A map that reads as what is known. -/
structure KnowsD (D : DataW Unit) (F : List Int) : Prop where
  map : Maps.IsMap D
  at_ : ∀ v, InR v → D.atKey (.int .i64 v) (.lit (.int .i64 0)) = .lit (.int .i64 (knI F v))
theorem isKey_int (v : Int) : WideAt.IsKeyLit (.int .i64 v) := trivial
theorem KnowsD.nil : KnowsD (.map []) [] := ⟨Maps.isMap_empty, fun _ _ => rfl⟩
theorem KnowsD.put {D : DataW Unit} {F : List Int} (h : KnowsD D F) {l : Int} (h2 : -l ∉ F) : KnowsD (D.put (.int .i64 (vr l)) (.lit (.int .i64 l))) (F ++ [l]) := by
  refine ⟨h.map.put _ _, fun v hv => ?_⟩
  rw [knI_snoc h2]
  by_cases e : v = vr l
  · subst e; rw [if_pos rfl, Maps.atKey_put_same h.map (isKey_int _)]
  · rw [if_neg e, Maps.atKey_put_other (fun e' => e (by cases e'; rfl)), h.at_ v hv]
/-- The map of what is known, in memory. -/
def KnowAt (w : World) (um n : Nat) (F : List Int) : Prop := ∃ D, w.ownsMap Tryz.prog 3 (plainElem Tryz.prog 3) um n D ∧ KnowsD D F
theorem ownsMap_block {w w' : World} {P : Program} {k : TypeId} {R : Value → Option (DataW Unit × List MemPlace)} {b n : Nat} {D : DataW Unit} (h : w.ownsMap P k R b n D) (hb : w'.heap[b]? = w.heap[b]?) : w'.ownsMap P k R b n D := by
  obtain ⟨es, clock, h1, h2⟩ := h
  exact ⟨es, clock, hb.trans h1, h2⟩
theorem KnowAt.lt {w : World} {um n : Nat} {F : List Int} (h : KnowAt w um n F) : um < w.heap.size := by
  obtain ⟨D, h1, _⟩ := h; exact h1.lt
theorem KnowAt.block {w w' : World} {um n : Nat} {F : List Int} (h : KnowAt w um n F) (hb : w'.heap[um]? = w.heap[um]?) : KnowAt w' um n F := by
  obtain ⟨D, h1, h2⟩ := h; exact ⟨D, ownsMap_block h1 hb, h2⟩
theorem KnowAt.kept {w w' : World} {um n : Nat} {F : List Int} (h : KnowAt w um n F) (k : Kept w w') : KnowAt w' um n F := h.block (k.block um h.lt)
theorem KnowAt.look {w : World} {um n : Nat} {F : List Int} (h : KnowAt w um n F) {v : Int} (hv : InR v) :
    (Instr.lookup 153 (.map (some um)) (.int .i64 v) false).run Tryz.prog w = .ok (.int .i64 (knI F v)) w := by
  obtain ⟨D, h1, h2⟩ := h
  obtain ⟨c, hrun, hat, _⟩ := h1.lookup_int lawInt Tryz.underlying153 Tryz.underlying3 (zeroInt' w) (Maps.keyOf_int_mk Tryz.underlying3 (wf_i64 hv))
  rw [h2.at_ v hv] at hat
  have : knI F v = c := by simpa using hat
  rw [this]; exact hrun
/-- A literal of a variable up to 2^24. -/
def Lit24 (l : Int) : Prop := l ≠ 0 ∧ -16777216 ≤ l ∧ l ≤ 16777216
theorem Lit24.inr {l : Int} (h : Lit24 l) : InR l ∧ InR (-l) ∧ InR (vr l) := by unfold Lit24 at h; unfold InR vr; omega
theorem Lit24.neg {l : Int} (h : Lit24 l) : Lit24 (-l) := by unfold Lit24 at *; omega

set_option maxHeartbeats 1000000 in
theorem kholds_any (um n : Nat) (F : List Int) (l : Int) (w : World) (hK : KnowAt w um n F) (hF : One F) (hl : Lit24 l) :
    Calls Tryz.prog 90 #[.map (some um), .int .i64 l] w (BoolPost (hasI F l) w) := by
  have l0 := hK.look hl.inr.2.2
  have HV := Lib.hid (variable_any l w hl.inr.1 (by have := hl.2.1; omega))
  have h1 := (knI_is hF hl.1).1
  cases hb : hasI F l with
  | true =>
    have d1 : (knI F (vr l) == l) = true := by simpa using h1.2 ((hasI_iff F l).1 hb)
    clear h1 hb
    go_enter Tryz.func90, Tryz.ntmps90
    go_wp2_with fail
    refine HV.out.mono ?_
    rintro e w' ⟨rfl, rfl⟩
    go_wp2
    go_ret
    exact ⟨rfl, Kept.refl _⟩
  | false =>
    have d1 : (knI F (vr l) == l) = false := by
      have := (hasI_no F l).1 hb
      simpa using fun e => this (h1.1 e)
    clear h1 hb
    go_enter Tryz.func90, Tryz.ntmps90
    go_wp2_with fail
    refine HV.out.mono ?_
    rintro e w' ⟨rfl, rfl⟩
    go_wp2
    go_ret
    exact ⟨rfl, Kept.refl _⟩
set_option maxHeartbeats 1000000 in
theorem kfails_any (um n : Nat) (F : List Int) (l : Int) (w : World) (hK : KnowAt w um n F) (hF : One F) (hl : Lit24 l) :
    Calls Tryz.prog 91 #[.map (some um), .int .i64 l] w (BoolPost (hasI F (-l)) w) := by
  have l0 := hK.look hl.inr.2.2
  have HV := Lib.hid (variable_any l w hl.inr.1 (by have := hl.2.1; omega))
  have h1 := (knI_is hF hl.1).2
  have b1 : -16777216 ≤ l := hl.2.1
  have b2 : l ≤ 16777216 := hl.2.2
  cases hb : hasI F (-l) with
  | true =>
    have d1 : (knI F (vr l) == -l) = true := by simpa using h1.2 ((hasI_iff F (-l)).1 hb)
    clear h1 hb
    go_enter Tryz.func91, Tryz.ntmps91
    go_wp2_with fail
    refine HV.out.mono ?_
    rintro e w' ⟨rfl, rfl⟩
    go_wp2
    go_ret
    exact ⟨rfl, Kept.refl _⟩
  | false =>
    have d1 : (knI F (vr l) == -l) = false := by
      have := (hasI_no F (-l)).1 hb
      simpa using fun e => this (h1.1 e)
    clear h1 hb
    go_enter Tryz.func91, Tryz.ntmps91
    go_wp2_with fail
    refine HV.out.mono ?_
    rintro e w' ⟨rfl, rfl⟩
    go_wp2
    go_ret
    exact ⟨rfl, Kept.refl _⟩
/-- What put leaves. -/
def PutPost (um n : Nat) (F : List Int) (l : Int) (w : World) (e : Ending) (w' : World) : Prop :=
  e = .returned (.bool true) ∧ KnowAt w' um (n + 1) (F ++ [l]) ∧ Turned (fun q => q = um) w w'
set_option maxHeartbeats 1000000 in
theorem kput_no (um n : Nat) (F : List Int) (l : Int) (w : World) (hK : KnowAt w um n F) (hF : One F) (hl : Lit24 l) (hn : -l ∈ F) :
    Calls Tryz.prog 89 #[.map (some um), .int .i64 l] w (BoolPost false w) := by
  have HC := kfails_any um n F l w hK hF hl
  rw [(hasI_iff F (-l)).2 hn] at HC
  have HCC := Lib.hid HC; clear HC hn
  go_enter Tryz.func89, Tryz.ntmps89
  go_wp2_with fail
  refine HCC.out.mono ?_
  rintro e w' ⟨rfl, hk⟩
  have HK := Lib.hid hk; clear hk
  go_wp2
  go_ret
  exact ⟨rfl, HK.out⟩
set_option maxHeartbeats 1000000 in
theorem kput_yes (um n : Nat) (F : List Int) (l : Int) (w : World) (hK : KnowAt w um n F) (hF : One F) (hl : Lit24 l) (hn : -l ∉ F) (hb : n ≤ 1000000000) :
    Calls Tryz.prog 89 #[.map (some um), .int .i64 l] w (PutPost um n F l w) := by
  have HC := kfails_any um n F l w hK hF hl
  rw [(hasI_no F (-l)).2 hn] at HC
  have HCC := Lib.hid HC; have HN := Lib.hid hn; have HKN := Lib.hid hK; clear HC hn hK
  have HL := Lib.hid hl; clear hl
  go_enter Tryz.func89, Tryz.ntmps89
  go_wp2_with fail
  refine HCC.out.mono ?_
  rintro e w1 ⟨rfl, hk⟩
  obtain ⟨D, hD, hKD⟩ := HKN.out.kept hk
  obtain ⟨w2, hrun, hmap, hgrow⟩ := hD.update lawInt Tryz.underlying153 (by unfold maxLen; omega) (Maps.keyOf_int_mk Tryz.underlying3 (wf_i64 HL.out.inr.2.2)) (plainElem_int Tryz.underlying3 (wf_i64 HL.out.inr.1))
  have HK := Lib.hid hk; have HM := Lib.hid hmap; have HG := Lib.hid hgrow; have HKD := Lib.hid hKD
  have HV := Lib.hid (variable_any l w1 HL.out.inr.1 (by have := HL.out.2.1; omega))
  clear hk hmap hgrow hD hKD
  go_wp2_with fail
  refine HV.out.mono ?_
  rintro e w' ⟨rfl, rfl⟩
  go_wp2
  go_ret
  exact ⟨rfl, ⟨_, HM.out, HKD.out.put HN.out⟩, (HK.out.turned _).trans (Turned.grown HG.out fun k hk => by simpa using hk.symm)⟩
end Go.Proofs.YtlikokeknfhejaaGreatDoor
