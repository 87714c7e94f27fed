/-
  ClauseKnown: the examples hold; a formula's text with each byte another one, clauses of each two literals and formulas about their bounds are as the document says: the closed law answers true.
  The input: none, in whatever memory; the tables as the program's text lays them (the card ties them).
  Before it: Layer 5: what the great door's condition on its nine tables gives a walk; the witness's world.
-/
import Derived.Test.YtlikokeknfhejaaGreatDoorRows
import Derived.Test.YtlikokeknfhejaaGreatDoorDLine
import Derived.Lib.LaidU8
import Derived.ProofKit
import Derived.LaidMore
import Derived.Lay
import Derived.LaidOnce
import Derived.OpenShut
import Derived.Stop.Joined
import Derived.Stop.LaidErr
import Derived.Test.YtlikokeknfhejaaGreatDoorKMKnown
import Derived.Test.YtlikokeknfhejaaGreatDoorTie
import Derived.Test.YtlikokeknfhejaaGreatDoorCards
import Derived.SevenTiedAt
namespace Go.Proofs.YtlikokeknfhejaaGreatDoor
open Go Go.ChangeShapes Go.WideShapes Go.ChangeAt Go.RowKit

theorem ownKnob_none : ownKnob Tryz.prog.godebug = none := by kernel_rfl
def theList : List (String × DataW Unit) := [("math/bits.deBruijn32tab", Rows.laid_math_bits_deBruijn32tab), ("math/bits.deBruijn64tab", Rows.laid_math_bits_deBruijn64tab), ("internal/strconv.uint64pow10", Rows.laid_internal_strconv_uint64pow10), ("unicode/utf8.acceptRanges", Rows.laid_unicode_utf8_acceptRanges), ("strconv.ErrRange", Rows.laid_strconv_ErrRange), ("strconv.ErrSyntax", Rows.laid_strconv_ErrSyntax), ("unicode.White_Space", Rows.laid_unicode_White_Space), ("bytes.asciiSpace", Rows.laid_bytes_asciiSpace), ("unicode/utf8.first", Rows.laid_unicode_utf8_first)]
theorem gPow : Tryz.prog.globalNamed "internal/strconv.uint64pow10" = some 2 := by kernel_rfl
theorem tPow : (Tryz.prog.globals[2]?).map (·.type) = some 281 := by kernel_rfl
theorem cPow : Tryz.prog.cellsOf 281 = 20 := by kernel_rfl
theorem cU64 : Tryz.prog.cellsOf 141 = 1 := by kernel_rfl
theorem cU8 : Tryz.prog.cellsOf 5 = 1 := by kernel_rfl
theorem c256 : Tryz.prog.cellsOf 246 = 256 := by kernel_rfl
theorem gSp : Tryz.prog.globalNamed "bytes.asciiSpace" = some 0 := by kernel_rfl
theorem tSp : (Tryz.prog.globals[0]?).map (·.type) = some 246 := by kernel_rfl
theorem gFirst : Tryz.prog.globalNamed "unicode/utf8.first" = some 9 := by kernel_rfl
theorem tFirst : (Tryz.prog.globals[9]?).map (·.type) = some 246 := by kernel_rfl
theorem gAcc : Tryz.prog.globalNamed "unicode/utf8.acceptRanges" = some 10 := by kernel_rfl
theorem tAcc : (Tryz.prog.globals[10]?).map (·.type) = some 342 := by kernel_rfl
theorem cAcc : Tryz.prog.cellsOf 341 = 2 := by kernel_rfl
theorem gSyn : Tryz.prog.globalNamed "strconv.ErrSyntax" = some 5 := by kernel_rfl
theorem tSyn : (Tryz.prog.globals[5]?).map (·.type) = some 196 := by kernel_rfl
theorem gRan : Tryz.prog.globalNamed "strconv.ErrRange" = some 6 := by kernel_rfl
theorem tRan : (Tryz.prog.globals[6]?).map (·.type) = some 196 := by kernel_rfl
theorem dFirst : Rows.laid_unicode_utf8_first = Lib.firstData := by kernel_rfl
theorem dAcc : (Rows.laid_unicode_utf8_acceptRanges : DataW Unit) = Lib.acceptData := by kernel_rfl
theorem dWhite : (Rows.laid_unicode_White_Space : DataW Unit) = Lib.whiteData := by kernel_rfl
def spTab : List Int := (List.range 256).map fun k => (spN k : Int)
theorem dSp : (Rows.laid_bytes_asciiSpace : DataW Unit) = Lib.tabData .u8 spTab := by kernel_rfl
/-- A row of 256 bytes, wherever it stands on the list. -/
theorem tab_of {w : World} {n : String} {g : Nat} {f : Nat → Int} (hn : Tryz.prog.globalNamed n = some g) (hty : (Tryz.prog.globals[g]?).map (·.type) = some 246) (h : Lib.VarReads Tryz.prog w n (Lib.tabData .u8 ((List.range 256).map f))) (c : Nat) (hc : c < 256) : w.cell? ⟨g, c, none⟩ = some (.int .u8 (f c)) := by
  obtain ⟨g', t, cs, fuel, p, h1, h2, hv, hd⟩ := h
  obtain rfl := Option.some.inj (hn.symm.trans h1)
  obtain rfl := Option.some.inj (hty.symm.trans h2)
  have e := congrArg (·[c]?) (Lib.cells_of_tab Tryz.underlying246 Tryz.underlying5 cU8 c256 hd)
  rw [World.var?_cell h1 hv c, ← Array.getElem?_toList]
  simpa [hc] using e
theorem spc_of {w : World} (h : Lib.VarReads Tryz.prog w "bytes.asciiSpace" (Lib.tabData .u8 spTab)) : Spc w := tab_of gSp tSp h
theorem first_of {w : World} (h : Lib.VarReads Tryz.prog w "unicode/utf8.first" Lib.firstData) : ∀ c, c < 256 → w.cell? ⟨9, c, none⟩ = some (.int .u8 (Lib.firstT c : Int)) := tab_of gFirst tFirst h
theorem accFields : ∃ fs, Tryz.prog.underlying 341 = some (.struct fs) ∧ fs.size = 2 ∧ ∀ (j : Nat) (f : Field), fs[j]? = some f → f.type = 5 ∧ f.offset = j := by
  refine ⟨_, Tryz.underlying341, rfl, fun j f h => ?_⟩
  have hj : j < 2 := (Array.getElem?_eq_some_iff.1 h).1
  obtain rfl | rfl : j = 0 ∨ j = 1 := by omega
  · cases h; exact ⟨rfl, rfl⟩
  · cases h; exact ⟨rfl, rfl⟩
/-- The bounds of the second byte: sixteen pairs. -/
theorem acc_of {w : World} (h : Lib.VarReads Tryz.prog w "unicode/utf8.acceptRanges" Lib.acceptData) (i : Nat) (hi : i < 16) : w.cell? ⟨10, 2 * i, none⟩ = some (.int .u8 (Lib.accLo i : Int)) ∧ w.cell? ⟨10, 2 * i + 1, none⟩ = some (.int .u8 (Lib.accHi i : Int)) := by
  obtain ⟨g', t, cs, fuel, p, h1, h2, hv, hd⟩ := h
  obtain rfl := Option.some.inj (gAcc.symm.trans h1)
  obtain rfl := Option.some.inj (tAcc.symm.trans h2)
  obtain ⟨fs, hs, hsz, hf⟩ := accFields
  obtain ⟨_, d, _, hdi, he⟩ := Lib.array_elem Tryz.underlying342 hd i hi
  rw [List.getElem?_map, List.getElem?_range hi] at hdi
  cases hdi
  rw [cAcc] at he
  have hcs := Lib.ints_of_struct hs (fun j f hj => ⟨by rw [(hf j f hj).1]; exact Tryz.underlying5, (hf j f hj).2, by rw [(hf j f hj).1]; exact cU8⟩) (by rw [cAcc, hsz]) he
  have each : ∀ (m : Nat) (z : Int), m < 2 → [(Lib.accLo i : Int), (Lib.accHi i : Int)][m]? = some z → w.cell? ⟨10, 2 * i + m, none⟩ = some (.int .u8 z) := fun m z hm hz => by
    have e := congrArg (·[m]?) hcs
    simp only [List.getElem?_take, List.getElem?_drop, if_pos hm, List.getElem?_map, hz, Option.map_some] at e
    rw [World.var?_cell h1 hv, ← Array.getElem?_toList, Nat.mul_comm]
    exact e
  exact ⟨each 0 _ (by omega) rfl, each 1 _ (by omega) rfl⟩
theorem iface_cells {H : Type} {enc : TypeId × Value → H} {P : Program} {w : World} {base : Nat} {sp : Nat → Bool} {held : Bool} {fuel : Nat} {t : TypeId} {ms : Array (String × TypeId)} {cs : List Value} {x : DataW H × List MemPlace} (ht : P.underlying t = some (.interface ms))
    (h : DataW.trod enc P w base sp held fuel t cs = some x) : ∃ ev, cs = [ev] ∧ (ev = .nilIface ∨ ∃ te pe, ev = .iface te pe) := by
  cases fuel with
  | zero => simp [DataW.trod] at h
  | succ fuel =>
    simp only [DataW.trod, ht] at h
    split at h <;> first
      | exact ⟨_, rfl, Or.inl rfl⟩
      | exact ⟨_, rfl, Or.inr ⟨_, _, rfl⟩⟩
      | (cases h; done)
      | (exfalso; rename_i heq _; exact absurd heq (by simp))
      | (exfalso; rename_i heq; exact absurd heq (by simp))
      | (trace_state; exfalso; simp_all)
theorem err_of {w : World} {n : String} {d : DataW Unit} {g : Nat} (hn : Tryz.prog.globalNamed n = some g) (hty : (Tryz.prog.globals[g]?).map (·.type) = some 196) (h : Lib.VarReads Tryz.prog w n d) : ∃ ev, w.cell? ⟨g, 0, none⟩ = some ev ∧ (ev = .nilIface ∨ ∃ te pe, ev = .iface te pe) := by
  obtain ⟨g', t, cs, fuel, p, hg, hty', hvar, hd⟩ := h
  obtain rfl := Option.some.inj (hn.symm.trans hg)
  obtain rfl := Option.some.inj (hty.symm.trans hty')
  obtain ⟨ev, hcs, hev⟩ := iface_cells Tryz.underlying196 hd
  refine ⟨ev, ?_, hev⟩
  rw [World.var?_cell hg hvar 0, ← Array.getElem?_toList, hcs]
  rfl
theorem whiteX : WhiteExtra Tryz.prog Tryz.lays199_ren := ⟨by kernel_rfl, by kernel_rfl, by kernel_rfl, by kernel_rfl, by kernel_rfl, by kernel_rfl, by kernel_rfl, by kernel_rfl⟩
theorem laid_of_list {W : World} (h : laidMetH Tryz.prog theList W) : Laid W ∧ Tabs W := by
  rw [MakeChecks.laidMetH_plain _ _ _ (by kernel_rfl)] at h
  have r : ∀ n d, (n, d) ∈ theList → Lib.VarReads Tryz.prog W n d := fun n d hm => Lib.laidMet.reads h hm
  refine ⟨⟨Lib.tabIs_of_head gPow tPow Tryz.underlying281 Tryz.underlying141 cU64 cPow h.tail.tail⟩, ⟨?_, ⟨?_, ?_⟩, ?_, ?_, ?_⟩⟩
  · exact spc_of (dSp ▸ r _ _ (.tail _ (.tail _ (.tail _ (.tail _ (.tail _ (.tail _ (.tail _ (.head _)))))))))
  · exact first_of (dFirst ▸ r _ _ (.tail _ (.tail _ (.tail _ (.tail _ (.tail _ (.tail _ (.tail _ (.tail _ (.head _))))))))))
  · exact fun i hi => acc_of (dAcc ▸ r _ _ (.tail _ (.tail _ (.tail _ (.head _))))) i hi
  · exact whiteTab_of_reads Tryz.lays199 whiteX (dWhite ▸ r _ _ (.tail _ (.tail _ (.tail _ (.tail _ (.tail _ (.tail _ (.head _))))))))
  · exact err_of gSyn tSyn (r _ _ (.tail _ (.tail _ (.tail _ (.tail _ (.tail _ (.head _)))))))
  · exact err_of gRan tRan (r _ _ (.tail _ (.tail _ (.tail _ (.tail _ (.head _))))))
theorem all_met (os : Os) (args : Array Value) : laidMetH Tryz.prog theList ((World.laidAll Tryz.prog os theList).forCall (fun _ _ => 0) ⟨#[], args, []⟩).memory := by
  rw [MakeChecks.laidMetH_plain _ _ _ (by kernel_rfl)]
  exact laidMet_laidAll _ (by kernel_rfl) (by kernel_rfl)
end Go.Proofs.YtlikokeknfhejaaGreatDoor

namespace Go.Proofs.YtlikokeknfhejaaGreatDoor
open Go Go.ChangeShapes Go.WideShapes Go.ChangeAt Go.WideMaps Go.WideElems Go.RowKit

theorem progLaidOut : laidOutB Tryz.prog = true := by kernel_rfl
set_option maxRecDepth 100000 in
theorem clauseKnown_lifted (os : Os) (started : os.Started) (H : Type) (enc : TypeId × Value → H) :
    ReturnsInHanded {} Tryz.checked os 3 .any (fun w args => (Rows.clauseKnownSpec.pre enc Tryz.prog Tryz.f3 [] false w args ∧ laidMetH Tryz.prog theList w) ∧ sizedMet enc Tryz.prog Tryz.f3 (OpenSpec.ofChange Rows.clauseKnownSpec) false w args)
      (Rows.clauseKnownSpec.post enc Tryz.prog Tryz.f3 false true false false) := by
  refine returnsInHanded_of_change_and (C := Tryz.checked) (X := fun w _ => laidMetH Tryz.prog theList w) (fun _ _ _ hh h => h.of_heap hh) ownKnob_none started (by kernel_rfl) Tryz.func3
    (ChangeSpec.witness_shaped (enc := enc) (C := Tryz.checked) (os := os) (X := fun w _ => laidMetH Tryz.prog theList w) false (World.laidAll Tryz.prog os theList) #[] 8 (World.laidAll_os _ _ _) (World.shaped_of_ZipB (by kernel_rfl) (by kernel_rfl)) (by kernel_rfl) (by kernel_rfl) (by kernel_rfl) (all_met os _)) ?_
  intro W base args ds gs before hval0 hW _ _ hL _
  have hW' := hW
  obtain ⟨p, q, hA0, hV, rfl, hfz, hnd⟩ := hW
  have hA : DataW.TrodAll enc Tryz.prog W 0 (fun _ => true) true Tryz.f3.params.toList args.toList ds p := hA0
  rw [Tryz.params3] at hA
  obtain ⟨rfl, rfl⟩ := trodVars_none hV
  obtain ⟨rfl, rfl, rfl⟩ := trodAll_none hA
  have hT := laid_of_list hL
  clear hA0 hval0 hL
  simp only [List.append_nil] at hW'
  refine (clauseknown_any W hT.1 hT.2).mono fun e W' ⟨he, hk⟩ => ?_
  subst he
  have e1 : Rows.clauseKnownSpec.fn H ([] ++ []) = { results := [.lit (.bool true)], args := [] } := rfl
  refine ⟨_, rfl, _, _, _, [], [], [], hW', ?_, ?_, ?_, Below.frame hk _, fun h => by cases h⟩
  · rw [e1]; exact trodAll_mk1 (shut_bool Tryz.underlying4 true)
  · rw [e1]; exact trodAll_mk0
  · rw [e1]; rfl

theorem clauseKnown_row : Rows.ClauseKnownSaid :=
  OpenClaim.holds_of_wide 3 Tryz.f3 rfl rfl rfl rfl rfl rfl rfl ⟨rfl, rfl, rfl, rfl, rfl⟩ rfl rfl rfl rfl rfl (by kernel_rfl) Tryz.func3 (by kernel_rfl)
    (of_decide_eq_true (by kernel_rfl)) (by unfold Func.isWrapper; rw [if_neg (of_decide_eq_false (by kernel_rfl))]; exact ⟨rfl, rfl⟩)
    (fun os started H enc _ => clauseKnown_lifted os started H enc)

/-- ClauseKnown: the examples hold; a formula's text with each byte another one, clauses of each two literals and formulas about their bounds are as the document says: the closed law answers true. -/
theorem clauseKnown_holds : Rows.ClauseKnownCardSaid :=
  Claim7.holds_tied_plain_at .later [] [.data, .data, .data, .data, .sentinel, .sentinel, .listed, .data, .pinned] true (true, "311fa657804c409c06c046c61738cde6950384bc0cfcf53a9bee3a86d6cc2185") true
    clauseKnown_row (fun _ h => by cases h) (by kernel_rfl) (fun _ h => by cases h) clauseKnown_row_tie rfl ⟨rfl, rfl⟩ (by kernel_rfl) rfl
    (fun f fn hf hfn => by
      obtain rfl : f = 3 := Option.some.inj ((show Tryz.prog.funcNamed "proofmark/proofmarklaw05.ClauseKnown" = some 3 by kernel_rfl).symm.trans hf) |>.symm
      obtain rfl : fn = Tryz.f3 := (Option.some.inj (Tryz.func3.symm.trans hfn)).symm
      exact ⟨by kernel_rfl, fun j t ht => by
        rw [Tryz.params3] at ht
        simp at ht⟩)
    (by kernel_rfl)
end Go.Proofs.YtlikokeknfhejaaGreatDoor
