/-
  ClauseUnits: of any formula what is left, when literals hold, and what follows by clauses of one literal, is what the document says: of any formula and literals the law answers true.
  The input: any formula, any literals, in whatever memory; the tables as the program's text lays them (the card ties them).
-/
import Derived.Test.YtemijkfgnedlnaaDoorCUnitsL
import Derived.Test.YtemijkfgnedlnaaDoorCOpen
import Derived.Test.YtemijkfgnedlnaaDoorCTab
import Derived.Test.YtemijkfgnedlnaaDoorTie
import Derived.Test.YtemijkfgnedlnaaDoorCards
import Derived.SevenTiedAt
namespace Go.Proofs.YtemijkfgnedlnaaDoor
open Go Go.ChangeShapes Go.WideShapes Go.ChangeAt Go.WideMaps Go.WideElems Go.RowKit

theorem progLaidOut : laidOutB Tryd.prog = true := by kernel_rfl
set_option maxRecDepth 100000 in
theorem clauseUnits_lifted (os : Os) (started : os.Started) (H : Type) (enc : TypeId × Value → H) :
    ReturnsInHanded {} Tryd.checked os 3 .any (fun w args => (Rows.clauseUnitsSpec.pre enc Tryd.prog Tryd.f3 [] false w args ∧ laidMetH Tryd.prog theList w) ∧ sizedMet enc Tryd.prog Tryd.f3 (OpenSpec.ofChange Rows.clauseUnitsSpec) false w args)
      (Rows.clauseUnitsSpec.post enc Tryd.prog Tryd.f3 false true false false) := by
  refine returnsInHanded_of_change_and (C := Tryd.checked) (X := fun w _ => laidMetH Tryd.prog theList w) (fun _ _ _ hh h => h.of_heap hh) ownKnob_none started (by kernel_rfl) Tryd.func3
    (ChangeSpec.witness_shaped (enc := enc) (C := Tryd.checked) (os := os) (X := fun w _ => laidMetH Tryd.prog theList w) false (World.doorLaid Tryd.prog 400 os) #[.agg #[.int .i64 0, .slice none 0 0], .slice none 0 0] 8 rfl (World.shaped_of_RefB (by kernel_rfl) (by kernel_rfl)) (by kernel_rfl) (by kernel_rfl) (by kernel_rfl) (door_met os _)) ?_
  intro W base args ds gs before hval0 hW _ _ hL _
  have hval : ∀ (j : Nat) t v, Tryd.f3.params[j]? = some t → args[j]? = some v → Value.okWide Tryd.prog W .any base t v := hval0
  have hW' := hW
  obtain ⟨p, q, hA0, hV, rfl, hfz, hnd⟩ := hW
  have hA : DataW.TrodAll enc Tryd.prog W 0 (fun _ => true) true Tryd.f3.params.toList args.toList ds p := hA0
  rw [Tryd.params3] at hA hval
  obtain ⟨rfl, rfl⟩ := trodVars_none hV
  obtain ⟨al⟩ := args
  simp only at hA
  obtain ⟨v0, vs0, d0, ds0, p0, q0, rfl, rfl, rfl, h0, hr0⟩ := trodAll_cons hA
  obtain ⟨v1, vs1, d1, ds1, p1, q1, rfl, rfl, rfl, h1, hr1⟩ := trodAll_cons hr0
  obtain ⟨rfl, rfl, rfl⟩ := trodAll_nil hr1
  obtain ⟨a1, n1, c1, rfl⟩ := okWide_slice Tryd.underlying25 (hval 1 25 v1 rfl rfl)
  have hT := laid_of_list hL
  clear hA0 hA hL
  simp only [List.append_nil] at hW'
  have hlt : ∀ x ∈ p0 ++ p1, x.block < W.heap.size := fun x hx => by simpa using hW'.lt x hx
  have t0 : ∀ (W' : World), Kept W W' → DataW.Trod enc Tryd.prog W' 0 (fun b => decide (b < W.heap.size)) true 24 (v0) d0 p0 :=
    fun W' hn => Below.trod progLaidOut (by kernel_rfl) (of_decide_eq_true (by kernel_rfl)) h0 hn (fun x hx => hlt x (List.mem_append_left _ hx))
  have t1 : ∀ (W' : World), Kept W W' → DataW.Trod enc Tryd.prog W' 0 (fun b => decide (b < W.heap.size)) true 25 (.slice a1 n1 c1) d1 p1 :=
    fun W' hn => Below.trod progLaidOut (by kernel_rfl) (of_decide_eq_true (by kernel_rfl)) h1 hn (fun x hx => hlt x (List.mem_append_right _ (hx)))
  obtain ⟨V0, ca0, cn0, cc0, rfl, hV0, fit0, C0, hn0⟩ := open_formula (hval 0 24 v0 rfl rfl) h0
  have e1 : Rows.clauseUnitsSpec.fn H ([d0, d1] ++ []) = { results := [.lit (.bool true)], args := [d0, d1] } := rfl
  have hwalk : Calls Tryd.prog 3 #[.agg #[.int .i64 V0, .slice ca0 cn0 cc0], .slice a1 n1 c1] W fun e w' => e = .returned (.bool true) ∧ Kept W w' := by
    obtain ⟨fu1, hf1⟩ := h1
    obtain ⟨⟨ls1, hn1⟩, fit1⟩ := open_lits (show DataW.trod enc Tryd.prog W 0 (fun _ => true) true fu1 25 [.slice a1 n1 c1] = some (d1, p1) from hf1)
    exact clauseunits_any V0 ca0 a1 cn0 cc0 n1 c1 C0 ls1 W hV0 hn0 fit0 hn1 fit1 hT
  refine hwalk.mono fun e W' ⟨he, hk⟩ => ?_
  subst he
  refine ⟨_, rfl, _, _, _, [], p0 ++ p1, [], hW', ?_, ?_, ?_, Below.frame hk _, fun h => by cases h⟩
  · rw [e1]; exact trodAll_mk1 (shut_bool Tryd.underlying4 true)
  · rw [e1]; exact ⟨p0, _, t0 _ hk, (trodAll_mk1 (t1 _ hk)), rfl⟩
  · rw [e1]; rfl

theorem clauseUnits_row : Rows.ClauseUnitsSaid :=
  OpenClaim.holds_of_wide 3 Tryd.f3 rfl rfl rfl rfl rfl rfl rfl ⟨rfl, rfl, rfl, rfl, rfl⟩ rfl rfl rfl rfl rfl (by kernel_rfl) Tryd.func3 (by kernel_rfl)
    (of_decide_eq_true (by kernel_rfl)) (by unfold Func.isWrapper; rw [if_neg (of_decide_eq_false (by kernel_rfl))]; exact ⟨rfl, rfl⟩)
    (fun os started H enc _ => clauseUnits_lifted os started H enc)

/-- ClauseUnits: of any formula what is left, when literals hold, and what follows by clauses of one literal, is what the document says: of any formula and literals the law answers true. -/
theorem clauseUnits_holds : Rows.ClauseUnitsCardSaid :=
  Claim7.holds_tied_plain_at .later [] [.data, .data, .data] true (true, "3488f1b0f589fff21c0d05796001c014eef6b5f522ed623b15b53c69536a69e9") false
    clauseUnits_row (fun _ h => by cases h) (by kernel_rfl) (fun _ h => by cases h) clauseUnits_row_tie rfl ⟨rfl, rfl⟩ (by kernel_rfl) rfl
    (fun f fn hf hfn => by
      obtain rfl : f = 3 := Option.some.inj ((show Tryd.prog.funcNamed "proofmark/proofmarklaw05.ClauseUnits" = some 3 by kernel_rfl).symm.trans hf) |>.symm
      obtain rfl : fn = Tryd.f3 := (Option.some.inj (Tryd.func3.symm.trans hfn)).symm
      exact ⟨by kernel_rfl, fun j t ht => by
        rw [Tryd.params3] at ht
        have hm : t ∈ [24, 25] := by simpa using Array.mem_of_getElem? ht
        have hall : ([24, 25].all fun u => !Tryd.prog.wantsStandIn u) = true := by kernel_rfl
        exact (show Tryd.prog.wantsStandIn t = false by simpa using List.all_eq_true.1 hall t hm)⟩)
    (by kernel_rfl)
end Go.Proofs.YtemijkfgnedlnaaDoor
