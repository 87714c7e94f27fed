/-
  NormOf: made plain, any term has its value in every environment, and is plain: made so again, it is itself: of any nodes and environment the law answers true.
  The input: any slice of nodes, any environment, in whatever memory; the tables as the program's text lays them (the card ties them).
-/
import Derived.Test.YtheehlhhkmjloaaGreatDoorMY
import Derived.Test.YtheehlhhkmjloaaGreatDoorMQ
import Derived.Test.YtheehlhhkmjloaaGreatDoorTie
import Derived.Test.YtheehlhhkmjloaaGreatDoorCards
import Derived.SevenTiedAt
namespace Go.Proofs.YtheehlhhkmjloaaGreatDoor
open Go Go.ChangeShapes Go.WideShapes Go.ChangeAt Go.WideMaps Go.WideElems Go.RowKit

theorem progLaidOut : laidOutB Tryz.prog = true := by kernel_rfl
set_option maxRecDepth 100000 in
theorem normOf_lifted (os : Os) (started : os.Started) (H : Type) (enc : TypeId × Value → H) :
    ReturnsInHanded {} Tryz.checked os 4 .any (fun w args => (Rows.normOfSpec.pre enc Tryz.prog Tryz.f4 [] false w args ∧ laidMetH Tryz.prog theList w) ∧ sizedMet enc Tryz.prog Tryz.f4 (OpenSpec.ofChange Rows.normOfSpec) false w args)
      (Rows.normOfSpec.post enc Tryz.prog Tryz.f4 false true false false) := by
  refine returnsInHanded_of_change_and (C := Tryz.checked) (X := fun w _ => laidMetH Tryz.prog theList w) (fun _ _ _ hh h => h.of_heap hh) ownKnob_none started (by kernel_rfl) Tryz.func4
    (ChangeSpec.witness_shaped (enc := enc) (C := Tryz.checked) (os := os) (X := fun w _ => laidMetH Tryz.prog theList w) false (World.doorLaid Tryz.prog 400 os) #[.slice none 0 0, .agg #[.slice none 0 0, .slice none 0 0]] 8 rfl (World.shaped_of_RefB (by kernel_rfl) (by kernel_rfl)) (by kernel_rfl) (by kernel_rfl) (by kernel_rfl) (door_met os _)) ?_
  intro W base args ds gs before hval0 hW _ _ hL _
  have hval : ∀ (j : Nat) t v, Tryz.f4.params[j]? = some t → args[j]? = some v → Value.okWide Tryz.prog W .any base t v := hval0
  have hW' := hW
  obtain ⟨p, q, hA0, hV, rfl, hfz, hnd⟩ := hW
  have hA : DataW.TrodAll enc Tryz.prog W 0 (fun _ => true) true Tryz.f4.params.toList args.toList ds p := hA0
  rw [Tryz.params4] at hA hval
  obtain ⟨rfl, rfl⟩ := trodVars_none hV
  obtain ⟨al⟩ := args
  simp only at hA
  obtain ⟨v0, vs0, d0, ds0, p0, q0, rfl, rfl, rfl, h0, hr0⟩ := trodAll_cons hA
  obtain ⟨v1, vs1, d1, ds1, p1, q1, rfl, rfl, rfl, h1, hr1⟩ := trodAll_cons hr0
  obtain ⟨rfl, rfl, rfl⟩ := trodAll_nil hr1
  obtain ⟨a0, n0, c0, rfl⟩ := okWide_slice Tryz.underlying22 (hval 0 22 v0 rfl rfl)
  have hT := And.intro (laid_of_list hL) (tab_of_list hL)
  clear hA0 hA hL
  simp only [List.append_nil] at hW'
  have hlt : ∀ x ∈ p0 ++ p1, x.block < W.heap.size := fun x hx => by simpa using hW'.lt x hx
  have t0 : ∀ (W' : World), Kept W W' → DataW.Trod enc Tryz.prog W' 0 (fun b => decide (b < W.heap.size)) true 22 (.slice a0 n0 c0) d0 p0 :=
    fun W' hn => Below.trod progLaidOut (by kernel_rfl) (of_decide_eq_true (by kernel_rfl)) h0 hn (fun x hx => hlt x (List.mem_append_left _ hx))
  have t1 : ∀ (W' : World), Kept W W' → DataW.Trod enc Tryz.prog W' 0 (fun b => decide (b < W.heap.size)) true 26 (v1) d1 p1 :=
    fun W' hn => Below.trod progLaidOut (by kernel_rfl) (of_decide_eq_true (by kernel_rfl)) h1 hn (fun x hx => hlt x (List.mem_append_right _ (hx)))
  obtain ⟨sa1, sn1, sc1, ca1, cn1, cc1, rfl, S1, C1, hn1⟩ := open_env (hval 1 26 v1 rfl rfl) h1
  have e1 : Rows.normOfSpec.fn H ([d0, d1] ++ []) = { results := [.lit (.bool true)], args := [d0, d1] } := rfl
  have hwalk : Calls Tryz.prog 4 #[.slice a0 n0 c0, .agg #[.slice sa1 sn1 sc1, .slice ca1 cn1 cc1]] W fun e w' => e = .returned (.bool true) ∧ Kept W w' := by
    obtain ⟨fu0, hf0⟩ := h0
    obtain ⟨nd0, hn0⟩ := open_nodes (show DataW.trod enc Tryz.prog W 0 (fun _ => true) true fu0 22 [.slice a0 n0 c0] = some (d0, p0) from hf0)
    exact normof_any a0 n0 c0 nd0 ⟨sa1, sn1, sc1, ca1, cn1, cc1⟩ S1 C1 W hn0 hn1 hT.1 hT.2
  refine hwalk.mono fun e W' ⟨he, hk⟩ => ?_
  subst he
  refine ⟨_, rfl, _, _, _, [], p0 ++ p1, [], hW', ?_, ?_, ?_, Below.frame hk _, fun h => by cases h⟩
  · rw [e1]; exact trodAll_mk1 (shut_bool Tryz.underlying4 true)
  · rw [e1]; exact ⟨p0, _, t0 _ hk, (trodAll_mk1 (t1 _ hk)), rfl⟩
  · rw [e1]; rfl

theorem normOf_row : Rows.NormOfSaid :=
  OpenClaim.holds_of_wide 4 Tryz.f4 rfl rfl rfl rfl rfl rfl rfl ⟨rfl, rfl, rfl, rfl, rfl⟩ rfl rfl rfl rfl rfl (by kernel_rfl) Tryz.func4 (by kernel_rfl)
    (of_decide_eq_true (by kernel_rfl)) (by unfold Func.isWrapper; rw [if_neg (of_decide_eq_false (by kernel_rfl))]; exact ⟨rfl, rfl⟩)
    (fun os started H enc _ => normOf_lifted os started H enc)

/-- NormOf: made plain, any term has its value in every environment, and is plain: made so again, it is itself: of any nodes and environment the law answers true. -/
theorem normOf_holds : Rows.NormOfCardSaid :=
  Claim7.holds_tied_plain_at .later [] [.data, .data, .data, .data] true (true, "8de8be242402190da51908ae4a182279fa5ccd1593ff678b7fa5476162445cce") false
    normOf_row (fun _ h => by cases h) (by kernel_rfl) (fun _ h => by cases h) normOf_row_tie rfl ⟨rfl, rfl⟩ (by kernel_rfl) rfl
    (fun f fn hf hfn => by
      obtain rfl : f = 4 := Option.some.inj ((show Tryz.prog.funcNamed "proofmark/proofmarklaw04.NormOf" = some 4 by kernel_rfl).symm.trans hf) |>.symm
      obtain rfl : fn = Tryz.f4 := (Option.some.inj (Tryz.func4.symm.trans hfn)).symm
      exact ⟨by kernel_rfl, fun j t ht => by
        rw [Tryz.params4] at ht
        have hm : t ∈ [22, 26] := by simpa using Array.mem_of_getElem? ht
        have hall : ([22, 26].all fun u => !Tryz.prog.wantsStandIn u) = true := by kernel_rfl
        exact (show Tryz.prog.wantsStandIn t = false by simpa using List.all_eq_true.1 hall t hm)⟩)
    (by kernel_rfl)
end Go.Proofs.YtheehlhhkmjloaaGreatDoor
