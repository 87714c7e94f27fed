/-
  Layer 5: what the great door's condition on its nine tables gives a walk; the witness's world.
-/
import Derived.Test.YtemijkfgnedlnaaGreatDoorRows
import Derived.Test.YtemijkfgnedlnaaGreatDoorDLine
import Derived.Lib.LaidU8
import Derived.ProofKit
import Derived.LaidMore
import Derived.Lay
import Derived.LaidOnce
import Derived.OpenShut
import Derived.Stop.Joined
import Derived.Stop.LaidErr
namespace Go.Proofs.YtemijkfgnedlnaaGreatDoor
open Go Go.ChangeShapes Go.WideShapes Go.ChangeAt Go.RowKit

theorem ownKnob_none : ownKnob Tryz.prog.godebug = none := by kernel_rfl
def theList : List (String × DataW Unit) := [("math/bits.deBruijn32tab", Rows.laid_math_bits_deBruijn32tab), ("math/bits.deBruijn64tab", Rows.laid_math_bits_deBruijn64tab), ("internal/strconv.uint64pow10", Rows.laid_internal_strconv_uint64pow10), ("unicode/utf8.acceptRanges", Rows.laid_unicode_utf8_acceptRanges), ("strconv.ErrRange", Rows.laid_strconv_ErrRange), ("strconv.ErrSyntax", Rows.laid_strconv_ErrSyntax), ("unicode.White_Space", Rows.laid_unicode_White_Space), ("bytes.asciiSpace", Rows.laid_bytes_asciiSpace), ("unicode/utf8.first", Rows.laid_unicode_utf8_first)]
theorem gPow : Tryz.prog.globalNamed "internal/strconv.uint64pow10" = some 3 := by kernel_rfl
theorem tPow : (Tryz.prog.globals[3]?).map (·.type) = some 137 := by kernel_rfl
theorem cPow : Tryz.prog.cellsOf 137 = 20 := by kernel_rfl
theorem cU64 : Tryz.prog.cellsOf 96 = 1 := by kernel_rfl
theorem cU8 : Tryz.prog.cellsOf 5 = 1 := by kernel_rfl
theorem c256 : Tryz.prog.cellsOf 100 = 256 := by kernel_rfl
theorem gSp : Tryz.prog.globalNamed "bytes.asciiSpace" = some 0 := by kernel_rfl
theorem tSp : (Tryz.prog.globals[0]?).map (·.type) = some 100 := by kernel_rfl
theorem gFirst : Tryz.prog.globalNamed "unicode/utf8.first" = some 6 := by kernel_rfl
theorem tFirst : (Tryz.prog.globals[6]?).map (·.type) = some 100 := by kernel_rfl
theorem gAcc : Tryz.prog.globalNamed "unicode/utf8.acceptRanges" = some 7 := by kernel_rfl
theorem tAcc : (Tryz.prog.globals[7]?).map (·.type) = some 166 := by kernel_rfl
theorem cAcc : Tryz.prog.cellsOf 165 = 2 := by kernel_rfl
theorem gSyn : Tryz.prog.globalNamed "strconv.ErrSyntax" = some 4 := by kernel_rfl
theorem tSyn : (Tryz.prog.globals[4]?).map (·.type) = some 88 := by kernel_rfl
theorem gRan : Tryz.prog.globalNamed "strconv.ErrRange" = some 5 := by kernel_rfl
theorem tRan : (Tryz.prog.globals[5]?).map (·.type) = some 88 := by kernel_rfl
theorem dFirst : Rows.laid_unicode_utf8_first = Lib.firstData := by kernel_rfl
theorem dAcc : (Rows.laid_unicode_utf8_acceptRanges : DataW Unit) = Lib.acceptData := by kernel_rfl
theorem dWhite : (Rows.laid_unicode_White_Space : DataW Unit) = Lib.whiteData := by kernel_rfl
def spTab : List Int := (List.range 256).map fun k => (spN k : Int)
theorem dSp : (Rows.laid_bytes_asciiSpace : DataW Unit) = Lib.tabData .u8 spTab := by kernel_rfl
/-- A row of 256 bytes, wherever it stands on the list. -/
theorem tab_of {w : World} {n : String} {g : Nat} {f : Nat → Int} (hn : Tryz.prog.globalNamed n = some g) (hty : (Tryz.prog.globals[g]?).map (·.type) = some 100) (h : Lib.VarReads Tryz.prog w n (Lib.tabData .u8 ((List.range 256).map f))) (c : Nat) (hc : c < 256) : w.cell? ⟨g, c, none⟩ = some (.int .u8 (f c)) := by
  obtain ⟨g', t, cs, fuel, p, h1, h2, hv, hd⟩ := h
  obtain rfl := Option.some.inj (hn.symm.trans h1)
  obtain rfl := Option.some.inj (hty.symm.trans h2)
  have e := congrArg (·[c]?) (Lib.cells_of_tab Tryz.underlying100 Tryz.underlying5 cU8 c256 hd)
  rw [World.var?_cell h1 hv c, ← Array.getElem?_toList]
  simpa [hc] using e
theorem spc_of {w : World} (h : Lib.VarReads Tryz.prog w "bytes.asciiSpace" (Lib.tabData .u8 spTab)) : Spc w := tab_of gSp tSp h
theorem first_of {w : World} (h : Lib.VarReads Tryz.prog w "unicode/utf8.first" Lib.firstData) : ∀ c, c < 256 → w.cell? ⟨6, c, none⟩ = some (.int .u8 (Lib.firstT c : Int)) := tab_of gFirst tFirst h
theorem accFields : ∃ fs, Tryz.prog.underlying 165 = some (.struct fs) ∧ fs.size = 2 ∧ ∀ (j : Nat) (f : Field), fs[j]? = some f → f.type = 5 ∧ f.offset = j := by
  refine ⟨_, Tryz.underlying165, rfl, fun j f h => ?_⟩
  have hj : j < 2 := (Array.getElem?_eq_some_iff.1 h).1
  obtain rfl | rfl : j = 0 ∨ j = 1 := by omega
  · cases h; exact ⟨rfl, rfl⟩
  · cases h; exact ⟨rfl, rfl⟩
/-- The bounds of the second byte: sixteen pairs. -/
theorem acc_of {w : World} (h : Lib.VarReads Tryz.prog w "unicode/utf8.acceptRanges" Lib.acceptData) (i : Nat) (hi : i < 16) : w.cell? ⟨7, 2 * i, none⟩ = some (.int .u8 (Lib.accLo i : Int)) ∧ w.cell? ⟨7, 2 * i + 1, none⟩ = some (.int .u8 (Lib.accHi i : Int)) := by
  obtain ⟨g', t, cs, fuel, p, h1, h2, hv, hd⟩ := h
  obtain rfl := Option.some.inj (gAcc.symm.trans h1)
  obtain rfl := Option.some.inj (tAcc.symm.trans h2)
  obtain ⟨fs, hs, hsz, hf⟩ := accFields
  obtain ⟨_, d, _, hdi, he⟩ := Lib.array_elem Tryz.underlying166 hd i hi
  rw [List.getElem?_map, List.getElem?_range hi] at hdi
  cases hdi
  rw [cAcc] at he
  have hcs := Lib.ints_of_struct hs (fun j f hj => ⟨by rw [(hf j f hj).1]; exact Tryz.underlying5, (hf j f hj).2, by rw [(hf j f hj).1]; exact cU8⟩) (by rw [cAcc, hsz]) he
  have each : ∀ (m : Nat) (z : Int), m < 2 → [(Lib.accLo i : Int), (Lib.accHi i : Int)][m]? = some z → w.cell? ⟨7, 2 * i + m, none⟩ = some (.int .u8 z) := fun m z hm hz => by
    have e := congrArg (·[m]?) hcs
    simp only [List.getElem?_take, List.getElem?_drop, if_pos hm, List.getElem?_map, hz, Option.map_some] at e
    rw [World.var?_cell h1 hv, ← Array.getElem?_toList, Nat.mul_comm]
    exact e
  exact ⟨each 0 _ (by omega) rfl, each 1 _ (by omega) rfl⟩
theorem iface_cells {H : Type} {enc : TypeId × Value → H} {P : Program} {w : World} {base : Nat} {sp : Nat → Bool} {held : Bool} {fuel : Nat} {t : TypeId} {ms : Array (String × TypeId)} {cs : List Value} {x : DataW H × List MemPlace} (ht : P.underlying t = some (.interface ms))
    (h : DataW.trod enc P w base sp held fuel t cs = some x) : ∃ ev, cs = [ev] ∧ (ev = .nilIface ∨ ∃ te pe, ev = .iface te pe) := by
  cases fuel with
  | zero => simp [DataW.trod] at h
  | succ fuel =>
    simp only [DataW.trod, ht] at h
    split at h <;> first
      | exact ⟨_, rfl, Or.inl rfl⟩
      | exact ⟨_, rfl, Or.inr ⟨_, _, rfl⟩⟩
      | (cases h; done)
      | (exfalso; rename_i heq _; exact absurd heq (by simp))
      | (exfalso; rename_i heq; exact absurd heq (by simp))
      | (trace_state; exfalso; simp_all)
theorem err_of {w : World} {n : String} {d : DataW Unit} {g : Nat} (hn : Tryz.prog.globalNamed n = some g) (hty : (Tryz.prog.globals[g]?).map (·.type) = some 88) (h : Lib.VarReads Tryz.prog w n d) : ∃ ev, w.cell? ⟨g, 0, none⟩ = some ev ∧ (ev = .nilIface ∨ ∃ te pe, ev = .iface te pe) := by
  obtain ⟨g', t, cs, fuel, p, hg, hty', hvar, hd⟩ := h
  obtain rfl := Option.some.inj (hn.symm.trans hg)
  obtain rfl := Option.some.inj (hty.symm.trans hty')
  obtain ⟨ev, hcs, hev⟩ := iface_cells Tryz.underlying88 hd
  refine ⟨ev, ?_, hev⟩
  rw [World.var?_cell hg hvar 0, ← Array.getElem?_toList, hcs]
  rfl
theorem whiteX : WhiteExtra Tryz.prog Tryz.lays199_ren := ⟨by kernel_rfl, by kernel_rfl, by kernel_rfl, by kernel_rfl, by kernel_rfl, by kernel_rfl, by kernel_rfl, by kernel_rfl⟩
theorem laid_of_list {W : World} (h : laidMetH Tryz.prog theList W) : Laid W ∧ Tabs W := by
  rw [MakeChecks.laidMetH_plain _ _ _ (by kernel_rfl)] at h
  have r : ∀ n d, (n, d) ∈ theList → Lib.VarReads Tryz.prog W n d := fun n d hm => Lib.laidMet.reads h hm
  refine ⟨⟨Lib.tabIs_of_head gPow tPow Tryz.underlying137 Tryz.underlying96 cU64 cPow h.tail.tail⟩, ⟨?_, ⟨?_, ?_⟩, ?_, ?_, ?_⟩⟩
  · exact spc_of (dSp ▸ r _ _ (.tail _ (.tail _ (.tail _ (.tail _ (.tail _ (.tail _ (.tail _ (.head _)))))))))
  · exact first_of (dFirst ▸ r _ _ (.tail _ (.tail _ (.tail _ (.tail _ (.tail _ (.tail _ (.tail _ (.tail _ (.head _))))))))))
  · exact fun i hi => acc_of (dAcc ▸ r _ _ (.tail _ (.tail _ (.tail _ (.head _))))) i hi
  · exact whiteTab_of_reads Tryz.lays199 whiteX (dWhite ▸ r _ _ (.tail _ (.tail _ (.tail _ (.tail _ (.tail _ (.tail _ (.head _))))))))
  · exact err_of gSyn tSyn (r _ _ (.tail _ (.tail _ (.tail _ (.tail _ (.tail _ (.head _)))))))
  · exact err_of gRan tRan (r _ _ (.tail _ (.tail _ (.tail _ (.tail _ (.head _))))))
theorem all_met (os : Os) (args : Array Value) : laidMetH Tryz.prog theList ((World.laidAll Tryz.prog os theList).forCall (fun _ _ => 0) ⟨#[], args, []⟩).memory := by
  rw [MakeChecks.laidMetH_plain _ _ _ (by kernel_rfl)]
  exact laidMet_laidAll _ (by kernel_rfl) (by kernel_rfl)
end Go.Proofs.YtemijkfgnedlnaaGreatDoor
