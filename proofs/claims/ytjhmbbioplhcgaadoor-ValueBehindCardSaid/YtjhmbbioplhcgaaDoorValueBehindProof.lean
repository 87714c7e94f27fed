/-
  ValueBehind: what stands behind in an environment changes no value of terms that need none of it; a symbol that is not told is 0: of any nodes, environment and numbers the law answers true.
  The input: any slice of nodes, any environment, any numbers, in whatever memory; the tables as the program's text lays them (the card ties them).
-/
import Derived.Test.YtjhmbbioplhcgaaDoorVBehind
import Derived.Test.YtjhmbbioplhcgaaDoorTOpen
import Derived.Test.YtjhmbbioplhcgaaDoorTOpenI
import Derived.Test.YtjhmbbioplhcgaaDoorVOpen
import Derived.Test.YtjhmbbioplhcgaaDoorTie
import Derived.Test.YtjhmbbioplhcgaaDoorCards
import Derived.SevenTiedAt
namespace Go.Proofs.YtjhmbbioplhcgaaDoor
open Go Go.ChangeShapes Go.WideShapes Go.ChangeAt Go.WideMaps Go.WideElems Go.RowKit

theorem progLaidOut : laidOutB Tryd.prog = true := by kernel_rfl
set_option maxRecDepth 100000 in
theorem valueBehind_lifted (os : Os) (started : os.Started) (H : Type) (enc : TypeId × Value → H) :
    ReturnsInHanded {} Tryd.checked os 9 .any (fun w args => (Rows.valueBehindSpec.pre enc Tryd.prog Tryd.f9 [] false w args ∧ laidMetH Tryd.prog theList w) ∧ sizedMet enc Tryd.prog Tryd.f9 (OpenSpec.ofChange Rows.valueBehindSpec) false w args)
      (Rows.valueBehindSpec.post enc Tryd.prog Tryd.f9 false true false false) := by
  refine returnsInHanded_of_change_and (C := Tryd.checked) (X := fun w _ => laidMetH Tryd.prog theList w) (fun _ _ _ hh h => h.of_heap hh) ownKnob_none started (by kernel_rfl) Tryd.func9
    (ChangeSpec.witness_shaped (enc := enc) (C := Tryd.checked) (os := os) (X := fun w _ => laidMetH Tryd.prog theList w) false (World.doorLaid Tryd.prog 400 os) #[.slice none 0 0, .agg #[.slice none 0 0, .slice none 0 0], .slice none 0 0] 8 rfl (World.shaped_of_RefB (by kernel_rfl) (by kernel_rfl)) (by kernel_rfl) (by kernel_rfl) (by kernel_rfl) (door_met os _)) ?_
  intro W base args ds gs before hval0 hW _ _ hL _
  have hval : ∀ (j : Nat) t v, Tryd.f9.params[j]? = some t → args[j]? = some v → Value.okWide Tryd.prog W .any base t v := hval0
  have hW' := hW
  obtain ⟨p, q, hA0, hV, rfl, hfz, hnd⟩ := hW
  have hA : DataW.TrodAll enc Tryd.prog W 0 (fun _ => true) true Tryd.f9.params.toList args.toList ds p := hA0
  rw [Tryd.params9] at hA hval
  obtain ⟨rfl, rfl⟩ := trodVars_none hV
  obtain ⟨al⟩ := args
  simp only at hA
  obtain ⟨v0, vs0, d0, ds0, p0, q0, rfl, rfl, rfl, h0, hr0⟩ := trodAll_cons hA
  obtain ⟨v1, vs1, d1, ds1, p1, q1, rfl, rfl, rfl, h1, hr1⟩ := trodAll_cons hr0
  obtain ⟨v2, vs2, d2, ds2, p2, q2, rfl, rfl, rfl, h2, hr2⟩ := trodAll_cons hr1
  obtain ⟨rfl, rfl, rfl⟩ := trodAll_nil hr2
  obtain ⟨a0, n0, c0, rfl⟩ := okWide_slice Tryd.underlying22 (hval 0 22 v0 rfl rfl)
  obtain ⟨a2, n2, c2, rfl⟩ := okWide_slice Tryd.underlying58 (hval 2 58 v2 rfl rfl)
  have hT := laid_of_list hL
  clear hA0 hA hL
  simp only [List.append_nil] at hW'
  have hlt : ∀ x ∈ p0 ++ (p1 ++ p2), x.block < W.heap.size := fun x hx => by simpa using hW'.lt x hx
  have t0 : ∀ (W' : World), Kept W W' → DataW.Trod enc Tryd.prog W' 0 (fun b => decide (b < W.heap.size)) true 22 (.slice a0 n0 c0) d0 p0 :=
    fun W' hn => Below.trod progLaidOut (by kernel_rfl) (of_decide_eq_true (by kernel_rfl)) h0 hn (fun x hx => hlt x (List.mem_append_left _ hx))
  have t1 : ∀ (W' : World), Kept W W' → DataW.Trod enc Tryd.prog W' 0 (fun b => decide (b < W.heap.size)) true 61 (v1) d1 p1 :=
    fun W' hn => Below.trod progLaidOut (by kernel_rfl) (of_decide_eq_true (by kernel_rfl)) h1 hn (fun x hx => hlt x (List.mem_append_right _ (List.mem_append_left _ hx)))
  have t2 : ∀ (W' : World), Kept W W' → DataW.Trod enc Tryd.prog W' 0 (fun b => decide (b < W.heap.size)) true 58 (.slice a2 n2 c2) d2 p2 :=
    fun W' hn => Below.trod progLaidOut (by kernel_rfl) (of_decide_eq_true (by kernel_rfl)) h2 hn (fun x hx => hlt x (List.mem_append_right _ (List.mem_append_right _ (hx))))
  obtain ⟨sa1, sn1, sc1, ca1, cn1, cc1, rfl, S1, C1, hn1⟩ := open_env (hval 1 61 v1 rfl rfl) h1
  have e1 : Rows.valueBehindSpec.fn H ([d0, d1, d2] ++ []) = { results := [.lit (.bool true)], args := [d0, d1, d2] } := rfl
  have hwalk : Calls Tryd.prog 9 #[.slice a0 n0 c0, .agg #[.slice sa1 sn1 sc1, .slice ca1 cn1 cc1], .slice a2 n2 c2] W fun e w' => e = .returned (.bool true) ∧ Kept W w' := by
    obtain ⟨fu0, hf0⟩ := h0
    obtain ⟨nd0, hn0⟩ := open_nodes (show DataW.trod enc Tryd.prog W 0 (fun _ => true) true fu0 22 [.slice a0 n0 c0] = some (d0, p0) from hf0)
    obtain ⟨fu2, hf2⟩ := h2
    obtain ⟨is2, hn2⟩ := open_nums (show DataW.trod enc Tryd.prog W 0 (fun _ => true) true fu2 58 [.slice a2 n2 c2] = some (d2, p2) from hf2)
    exact valuebehind_any a0 a2 n0 c0 n2 c2 nd0 sa1 sn1 sc1 ca1 cn1 cc1 S1 C1 is2 W hn0 hn1 hn2 (env_nil h1).1 (env_nil h1).2 (nums_nil (show DataW.trod enc Tryd.prog W 0 (fun _ => true) true fu2 58 [.slice a2 n2 c2] = some (d2, p2) from hf2)) hT
  refine hwalk.mono fun e W' ⟨he, hk⟩ => ?_
  subst he
  refine ⟨_, rfl, _, _, _, [], p0 ++ (p1 ++ p2), [], hW', ?_, ?_, ?_, Below.frame hk _, fun h => by cases h⟩
  · rw [e1]; exact trodAll_mk1 (shut_bool Tryd.underlying4 true)
  · rw [e1]; exact ⟨p0, _, t0 _ hk, ⟨p1, _, t1 _ hk, (trodAll_mk1 (t2 _ hk)), rfl⟩, rfl⟩
  · rw [e1]; rfl

theorem valueBehind_row : Rows.ValueBehindSaid :=
  OpenClaim.holds_of_wide 9 Tryd.f9 rfl rfl rfl rfl rfl rfl rfl ⟨rfl, rfl, rfl, rfl, rfl⟩ rfl rfl rfl rfl rfl (by kernel_rfl) Tryd.func9 (by kernel_rfl)
    (of_decide_eq_true (by kernel_rfl)) (by unfold Func.isWrapper; rw [if_neg (of_decide_eq_false (by kernel_rfl))]; exact ⟨rfl, rfl⟩)
    (fun os started H enc _ => valueBehind_lifted os started H enc)

/-- ValueBehind: what stands behind in an environment changes no value of terms that need none of it; a symbol that is not told is 0: of any nodes, environment and numbers the law answers true. -/
theorem valueBehind_holds : Rows.ValueBehindCardSaid :=
  Claim7.holds_tied_plain_at .later [] [.data, .data, .data, .data] true (true, "05ff86d401136bb08a78a3fd18e4199e3591b31cc592a53f7c93225bb3e1d869") false
    valueBehind_row (fun _ h => by cases h) (by kernel_rfl) (fun _ h => by cases h) valueBehind_row_tie rfl ⟨rfl, rfl⟩ (by kernel_rfl) rfl
    (fun f fn hf hfn => by
      obtain rfl : f = 9 := Option.some.inj ((show Tryd.prog.funcNamed "proofmark/proofmarklaw03.ValueBehind" = some 9 by kernel_rfl).symm.trans hf) |>.symm
      obtain rfl : fn = Tryd.f9 := (Option.some.inj (Tryd.func9.symm.trans hfn)).symm
      exact ⟨by kernel_rfl, fun j t ht => by
        rw [Tryd.params9] at ht
        have hm : t ∈ [22, 61, 58] := by simpa using Array.mem_of_getElem? ht
        have hall : ([22, 61, 58].all fun u => !Tryd.prog.wantsStandIn u) = true := by kernel_rfl
        exact (show Tryd.prog.wantsStandIn t = false by simpa using List.all_eq_true.1 hall t hm)⟩)
    (by kernel_rfl)
end Go.Proofs.YtjhmbbioplhcgaaDoor
