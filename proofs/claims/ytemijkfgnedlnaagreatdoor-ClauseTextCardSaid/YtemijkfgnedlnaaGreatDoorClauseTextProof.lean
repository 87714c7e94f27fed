/-
  ClauseText: of any formula the text that is put, and of any text what is read of it, is what the document says: of any formula and any bytes the law answers true.
  The input: any formula, any bytes, in whatever memory; the tables as the program's text lays them (the card ties them).
-/
import Derived.Test.YtemijkfgnedlnaaGreatDoorDTextL
import Derived.Test.YtemijkfgnedlnaaGreatDoorCOpen
import Derived.Test.YtemijkfgnedlnaaGreatDoorZTab
import Derived.Test.YtemijkfgnedlnaaGreatDoorTie
import Derived.Test.YtemijkfgnedlnaaGreatDoorCards
import Derived.SevenTiedAt
namespace Go.Proofs.YtemijkfgnedlnaaGreatDoor
open Go Go.ChangeShapes Go.WideShapes Go.ChangeAt Go.WideMaps Go.WideElems Go.RowKit

theorem TA.cellsU8 : Tryz.prog.cellsOf 5 = 1 := by kernel_rfl
theorem wf_u8 {n : Int} (h : (Lit.int .u8 n).wf = true) : ∃ x : UInt8, n = (x.toNat : Int) := by
  simp only [Lit.wf, IntKind.min, IntKind.max, IntKind.signed, IntKind.bits, Bool.and_eq_true] at h
  obtain ⟨h1, h2⟩ := h
  have h3 : 0 ≤ n := by simpa using h1
  have h4 : n ≤ 255 := by simpa using h2
  refine ⟨UInt8.ofNat n.toNat, ?_⟩
  rw [UInt8.toNat_ofNat']
  omega
/-- A row of bytes that came in, opened to its cells. -/
theorem open_text {H : Type} {enc : TypeId × Value → H} {w : World} {base fuel : Nat} {a : Option Addr} {n c : Nat} {x : DataW H × List MemPlace} (h : DataW.trod enc Tryz.prog w base (fun _ => true) true fuel 25 [.slice a n c] = some x) : (∃ L, BytesAt w a n L) ∧ Fit a n c := by
  rcases open_ints Tryz.underlying25 Tryz.underlying5 TA.cellsU8 h with ⟨hcs, hx⟩ | ⟨ad, len, cap, zs, hcs, _, hl, hm, hz, hx, hcell, hwz⟩
  · simp at hcs
    obtain ⟨rfl, rfl, rfl⟩ := hcs
    exact ⟨⟨[], BytesAt.nil _ _⟩, fun _ => ⟨rfl, rfl⟩, Nat.le_refl _, by decide⟩
  · simp at hcs
    obtain ⟨rfl, rfl, rfl⟩ := hcs
    rw [if_pos rfl] at hz
    refine ⟨⟨(zs.take n).map fun z => UInt8.ofNat z.toNat, by rw [List.length_map, List.length_take]; omega, fun hp => ?_⟩, (fun h => by cases h), hl, Nat.le_trans hm max_len⟩
    obtain ⟨b, off, spot⟩ := ad
    have hspot : spot = none := by simpa [Addr.add] using World.cell?_spot (hcell 0 (by omega))
    subst hspot
    refine ⟨b, off, rfl, fun j y hj => ?_⟩
    rw [List.getElem?_map] at hj
    obtain ⟨z, hz1, rfl⟩ := Option.map_eq_some_iff.1 hj
    have hjn : j < n := by
      have := (List.getElem?_eq_some_iff.1 hz1).1
      rw [List.length_take] at this; omega
    rw [List.getElem?_take, if_pos hjn] at hz1
    have h1 := hcell j (by omega)
    rw [add_none, List.getD_eq_getElem?_getD, hz1] at h1
    obtain ⟨u, rfl⟩ := wf_u8 (hwz z (List.mem_of_getElem? hz1))
    rw [h1]
    simp
theorem progLaidOut : laidOutB Tryz.prog = true := by kernel_rfl
set_option maxRecDepth 100000 in
theorem clauseText_lifted (os : Os) (started : os.Started) (H : Type) (enc : TypeId × Value → H) :
    ReturnsInHanded {} Tryz.checked os 3 .any (fun w args => (Rows.clauseTextSpec.pre enc Tryz.prog Tryz.f3 [] false w args ∧ laidMetH Tryz.prog theList w) ∧ sizedMet enc Tryz.prog Tryz.f3 (OpenSpec.ofChange Rows.clauseTextSpec) false w args)
      (Rows.clauseTextSpec.post enc Tryz.prog Tryz.f3 false true false false) := by
  refine returnsInHanded_of_change_and (C := Tryz.checked) (X := fun w _ => laidMetH Tryz.prog theList w) (fun _ _ _ hh h => h.of_heap hh) ownKnob_none started (by kernel_rfl) Tryz.func3
    (ChangeSpec.witness_shaped (enc := enc) (C := Tryz.checked) (os := os) (X := fun w _ => laidMetH Tryz.prog theList w) false (World.laidAll Tryz.prog os theList) #[.agg #[.int .i64 0, .slice none 0 0], .slice none 0 0] 8 (World.laidAll_os _ _ _) (World.shaped_of_ZipB (by kernel_rfl) (by kernel_rfl)) (by kernel_rfl) (by kernel_rfl) (by kernel_rfl) (all_met os _)) ?_
  intro W base args ds gs before hval0 hW _ _ hL _
  have hval : ∀ (j : Nat) t v, Tryz.f3.params[j]? = some t → args[j]? = some v → Value.okWide Tryz.prog W .any base t v := hval0
  have hW' := hW
  obtain ⟨p, q, hA0, hV, rfl, hfz, hnd⟩ := hW
  have hA : DataW.TrodAll enc Tryz.prog W 0 (fun _ => true) true Tryz.f3.params.toList args.toList ds p := hA0
  rw [Tryz.params3] at hA hval
  obtain ⟨rfl, rfl⟩ := trodVars_none hV
  obtain ⟨al⟩ := args
  simp only at hA
  obtain ⟨v0, vs0, d0, ds0, p0, q0, rfl, rfl, rfl, h0, hr0⟩ := trodAll_cons hA
  obtain ⟨v1, vs1, d1, ds1, p1, q1, rfl, rfl, rfl, h1, hr1⟩ := trodAll_cons hr0
  obtain ⟨rfl, rfl, rfl⟩ := trodAll_nil hr1
  obtain ⟨a1, n1, c1, rfl⟩ := okWide_slice Tryz.underlying25 (hval 1 25 v1 rfl rfl)
  have hT := laid_of_list hL
  clear hA0 hA hL
  simp only [List.append_nil] at hW'
  have hlt : ∀ x ∈ p0 ++ p1, x.block < W.heap.size := fun x hx => by simpa using hW'.lt x hx
  have t0 : ∀ (W' : World), Kept W W' → DataW.Trod enc Tryz.prog W' 0 (fun b => decide (b < W.heap.size)) true 24 (v0) d0 p0 :=
    fun W' hn => Below.trod progLaidOut (by kernel_rfl) (of_decide_eq_true (by kernel_rfl)) h0 hn (fun x hx => hlt x (List.mem_append_left _ hx))
  have t1 : ∀ (W' : World), Kept W W' → DataW.Trod enc Tryz.prog W' 0 (fun b => decide (b < W.heap.size)) true 25 (.slice a1 n1 c1) d1 p1 :=
    fun W' hn => Below.trod progLaidOut (by kernel_rfl) (of_decide_eq_true (by kernel_rfl)) h1 hn (fun x hx => hlt x (List.mem_append_right _ (hx)))
  obtain ⟨V0, ca0, cn0, cc0, rfl, hV0, fit0, C0, hn0⟩ := open_formula (hval 0 24 v0 rfl rfl) h0
  have e1 : Rows.clauseTextSpec.fn H ([d0, d1] ++ []) = { results := [.lit (.bool true)], args := [d0, d1] } := rfl
  have hwalk : Calls Tryz.prog 3 #[.agg #[.int .i64 V0, .slice ca0 cn0 cc0], .slice a1 n1 c1] W fun e w' => e = .returned (.bool true) ∧ Kept W w' := by
    obtain ⟨fu1, hf1⟩ := h1
    obtain ⟨⟨ls1, hn1⟩, fit1⟩ := open_text (show DataW.trod enc Tryz.prog W 0 (fun _ => true) true fu1 25 [.slice a1 n1 c1] = some (d1, p1) from hf1)
    exact clausetext_any V0 ca0 a1 cn0 cc0 n1 c1 C0 ls1 W hV0 hn0 fit0 hn1 fit1 hT.1 hT.2
  refine hwalk.mono fun e W' ⟨he, hk⟩ => ?_
  subst he
  refine ⟨_, rfl, _, _, _, [], p0 ++ p1, [], hW', ?_, ?_, ?_, Below.frame hk _, fun h => by cases h⟩
  · rw [e1]; exact trodAll_mk1 (shut_bool Tryz.underlying4 true)
  · rw [e1]; exact ⟨p0, _, t0 _ hk, (trodAll_mk1 (t1 _ hk)), rfl⟩
  · rw [e1]; rfl

theorem clauseText_row : Rows.ClauseTextSaid :=
  OpenClaim.holds_of_wide 3 Tryz.f3 rfl rfl rfl rfl rfl rfl rfl ⟨rfl, rfl, rfl, rfl, rfl⟩ rfl rfl rfl rfl rfl (by kernel_rfl) Tryz.func3 (by kernel_rfl)
    (of_decide_eq_true (by kernel_rfl)) (by unfold Func.isWrapper; rw [if_neg (of_decide_eq_false (by kernel_rfl))]; exact ⟨rfl, rfl⟩)
    (fun os started H enc _ => clauseText_lifted os started H enc)

/-- ClauseText: of any formula the text that is put, and of any text what is read of it, is what the document says: of any formula and any bytes the law answers true. -/
theorem clauseText_holds : Rows.ClauseTextCardSaid :=
  Claim7.holds_tied_plain_at .later [] [.data, .data, .data, .data, .sentinel, .sentinel, .listed, .data, .pinned] true (true, "89ac9038b4d924938a93617ad8672673fb8136a8192e2ce0cb3f9836946d7d6c") true
    clauseText_row (fun _ h => by cases h) (by kernel_rfl) (fun _ h => by cases h) clauseText_row_tie rfl ⟨rfl, rfl⟩ (by kernel_rfl) rfl
    (fun f fn hf hfn => by
      obtain rfl : f = 3 := Option.some.inj ((show Tryz.prog.funcNamed "proofmark/proofmarklaw05.ClauseText" = some 3 by kernel_rfl).symm.trans hf) |>.symm
      obtain rfl : fn = Tryz.f3 := (Option.some.inj (Tryz.func3.symm.trans hfn)).symm
      exact ⟨by kernel_rfl, fun j t ht => by
        rw [Tryz.params3] at ht
        have hm : t ∈ [24, 25] := by simpa using Array.mem_of_getElem? ht
        have hall : ([24, 25].all fun u => !Tryz.prog.wantsStandIn u) = true := by kernel_rfl
        exact (show Tryz.prog.wantsStandIn t = false by simpa using List.all_eq_true.1 hall t hm)⟩)
    (by kernel_rfl)
end Go.Proofs.YtemijkfgnedlnaaGreatDoor
