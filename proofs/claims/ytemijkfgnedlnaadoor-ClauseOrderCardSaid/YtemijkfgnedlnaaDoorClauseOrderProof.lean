/-
  ClauseOrder: in whatever order clauses stand, and their literals, a formula holds where it did, and the same follows by clauses of one literal; a clause twice changes nothing: of any formula, model and number the law answers true.
  The input: any formula, any model, any number, in whatever memory; the tables as the program's text lays them (the card ties them).
-/
import Derived.Test.YtemijkfgnedlnaaDoorCOrder
import Derived.Test.YtemijkfgnedlnaaDoorCOpen
import Derived.Test.YtemijkfgnedlnaaDoorCTab
import Derived.Test.YtemijkfgnedlnaaDoorCOpenB
import Derived.Test.YtemijkfgnedlnaaDoorTie
import Derived.Test.YtemijkfgnedlnaaDoorCards
import Derived.SevenTiedAt
namespace Go.Proofs.YtemijkfgnedlnaaDoor
open Go Go.ChangeShapes Go.WideShapes Go.ChangeAt Go.WideMaps Go.WideElems Go.RowKit

theorem progLaidOut : laidOutB Tryd.prog = true := by kernel_rfl
set_option maxRecDepth 100000 in
theorem clauseOrder_lifted (os : Os) (started : os.Started) (H : Type) (enc : TypeId × Value → H) :
    ReturnsInHanded {} Tryd.checked os 5 .any (fun w args => (Rows.clauseOrderSpec.pre enc Tryd.prog Tryd.f5 [] false w args ∧ laidMetH Tryd.prog theList w) ∧ sizedMet enc Tryd.prog Tryd.f5 (OpenSpec.ofChange Rows.clauseOrderSpec) false w args)
      (Rows.clauseOrderSpec.post enc Tryd.prog Tryd.f5 false true false false) := by
  refine returnsInHanded_of_change_and (C := Tryd.checked) (X := fun w _ => laidMetH Tryd.prog theList w) (fun _ _ _ hh h => h.of_heap hh) ownKnob_none started (by kernel_rfl) Tryd.func5
    (ChangeSpec.witness_shaped (enc := enc) (C := Tryd.checked) (os := os) (X := fun w _ => laidMetH Tryd.prog theList w) false (World.doorLaid Tryd.prog 400 os) #[.agg #[.int .i64 0, .slice none 0 0], .slice none 0 0, .int .u8 0] 8 rfl (World.shaped_of_RefB (by kernel_rfl) (by kernel_rfl)) (by kernel_rfl) (by kernel_rfl) (by kernel_rfl) (door_met os _)) ?_
  intro W base args ds gs before hval0 hW _ _ hL _
  have hval : ∀ (j : Nat) t v, Tryd.f5.params[j]? = some t → args[j]? = some v → Value.okWide Tryd.prog W .any base t v := hval0
  have hW' := hW
  obtain ⟨p, q, hA0, hV, rfl, hfz, hnd⟩ := hW
  have hA : DataW.TrodAll enc Tryd.prog W 0 (fun _ => true) true Tryd.f5.params.toList args.toList ds p := hA0
  rw [Tryd.params5] at hA hval
  obtain ⟨rfl, rfl⟩ := trodVars_none hV
  obtain ⟨al⟩ := args
  simp only at hA
  obtain ⟨v0, vs0, d0, ds0, p0, q0, rfl, rfl, rfl, h0, hr0⟩ := trodAll_cons hA
  obtain ⟨v1, vs1, d1, ds1, p1, q1, rfl, rfl, rfl, h1, hr1⟩ := trodAll_cons hr0
  obtain ⟨v2, vs2, d2, ds2, p2, q2, rfl, rfl, rfl, h2, hr2⟩ := trodAll_cons hr1
  obtain ⟨rfl, rfl, rfl⟩ := trodAll_nil hr2
  obtain ⟨a1, n1, c1, rfl⟩ := okWide_slice Tryd.underlying43 (hval 1 43 v1 rfl rfl)
  have hT := laid_of_list hL
  clear hA0 hA hL
  simp only [List.append_nil] at hW'
  have hlt : ∀ x ∈ p0 ++ (p1 ++ p2), x.block < W.heap.size := fun x hx => by simpa using hW'.lt x hx
  have t0 : ∀ (W' : World), Kept W W' → DataW.Trod enc Tryd.prog W' 0 (fun b => decide (b < W.heap.size)) true 24 (v0) d0 p0 :=
    fun W' hn => Below.trod progLaidOut (by kernel_rfl) (of_decide_eq_true (by kernel_rfl)) h0 hn (fun x hx => hlt x (List.mem_append_left _ hx))
  have t1 : ∀ (W' : World), Kept W W' → DataW.Trod enc Tryd.prog W' 0 (fun b => decide (b < W.heap.size)) true 43 (.slice a1 n1 c1) d1 p1 :=
    fun W' hn => Below.trod progLaidOut (by kernel_rfl) (of_decide_eq_true (by kernel_rfl)) h1 hn (fun x hx => hlt x (List.mem_append_right _ (List.mem_append_left _ hx)))
  have t2 : ∀ (W' : World), Kept W W' → DataW.Trod enc Tryd.prog W' 0 (fun b => decide (b < W.heap.size)) true 5 (v2) d2 p2 :=
    fun W' hn => Below.trod progLaidOut (by kernel_rfl) (of_decide_eq_true (by kernel_rfl)) h2 hn (fun x hx => hlt x (List.mem_append_right _ (List.mem_append_right _ (hx))))
  obtain ⟨x2, rfl, _, _, w2⟩ := open_int Tryd.underlying5 (hval 2 5 v2 rfl rfl) h2
  obtain ⟨V0, ca0, cn0, cc0, rfl, hV0, fit0, C0, hn0⟩ := open_formula (hval 0 24 v0 rfl rfl) h0
  have e1 : Rows.clauseOrderSpec.fn H ([d0, d1, d2] ++ []) = { results := [.lit (.bool true)], args := [d0, d1, d2] } := rfl
  have hwalk : Calls Tryd.prog 5 #[.agg #[.int .i64 V0, .slice ca0 cn0 cc0], .slice a1 n1 c1, .int .u8 x2] W fun e w' => e = .returned (.bool true) ∧ Kept W w' := by
    obtain ⟨fu1, hf1⟩ := h1
    obtain ⟨⟨ms1, hn1⟩, fit1⟩ := open_model (show DataW.trod enc Tryd.prog W 0 (fun _ => true) true fu1 43 [.slice a1 n1 c1] = some (d1, p1) from hf1)
    exact by obtain ⟨tn, htn, rfl⟩ := u8_nat w2; exact clauseorder_any V0 ca0 a1 cn0 cc0 n1 c1 C0 ms1 tn W hV0 hn0 fit0 hn1 fit1 htn hT
  refine hwalk.mono fun e W' ⟨he, hk⟩ => ?_
  subst he
  refine ⟨_, rfl, _, _, _, [], p0 ++ (p1 ++ p2), [], hW', ?_, ?_, ?_, Below.frame hk _, fun h => by cases h⟩
  · rw [e1]; exact trodAll_mk1 (shut_bool Tryd.underlying4 true)
  · rw [e1]; exact ⟨p0, _, t0 _ hk, ⟨p1, _, t1 _ hk, (trodAll_mk1 (t2 _ hk)), rfl⟩, rfl⟩
  · rw [e1]; rfl

theorem clauseOrder_row : Rows.ClauseOrderSaid :=
  OpenClaim.holds_of_wide 5 Tryd.f5 rfl rfl rfl rfl rfl rfl rfl ⟨rfl, rfl, rfl, rfl, rfl⟩ rfl rfl rfl rfl rfl (by kernel_rfl) Tryd.func5 (by kernel_rfl)
    (of_decide_eq_true (by kernel_rfl)) (by unfold Func.isWrapper; rw [if_neg (of_decide_eq_false (by kernel_rfl))]; exact ⟨rfl, rfl⟩)
    (fun os started H enc _ => clauseOrder_lifted os started H enc)

/-- ClauseOrder: in whatever order clauses stand, and their literals, a formula holds where it did, and the same follows by clauses of one literal; a clause twice changes nothing: of any formula, model and number the law answers true. -/
theorem clauseOrder_holds : Rows.ClauseOrderCardSaid :=
  Claim7.holds_tied_plain_at .later [] [.data, .data, .data] true (true, "3488f1b0f589fff21c0d05796001c014eef6b5f522ed623b15b53c69536a69e9") false
    clauseOrder_row (fun _ h => by cases h) (by kernel_rfl) (fun _ h => by cases h) clauseOrder_row_tie rfl ⟨rfl, rfl⟩ (by kernel_rfl) rfl
    (fun f fn hf hfn => by
      obtain rfl : f = 5 := Option.some.inj ((show Tryd.prog.funcNamed "proofmark/proofmarklaw05.ClauseOrder" = some 5 by kernel_rfl).symm.trans hf) |>.symm
      obtain rfl : fn = Tryd.f5 := (Option.some.inj (Tryd.func5.symm.trans hfn)).symm
      exact ⟨by kernel_rfl, fun j t ht => by
        rw [Tryd.params5] at ht
        have hm : t ∈ [24, 43, 5] := by simpa using Array.mem_of_getElem? ht
        have hall : ([24, 43, 5].all fun u => !Tryd.prog.wantsStandIn u) = true := by kernel_rfl
        exact (show Tryd.prog.wantsStandIn t = false by simpa using List.all_eq_true.1 hall t hm)⟩)
    (by kernel_rfl)
end Go.Proofs.YtemijkfgnedlnaaDoor
