/-
  Layer 2: what the row's condition on the tables gives a walk; the witness's world.
-/
import Derived.Test.YtjhmbbioplhcgaaDoorRows
import Derived.Test.YtjhmbbioplhcgaaDoorTParts
import Derived.Lib.LaidTab
import Derived.ProofKit
import Derived.LaidMore
import Derived.LaidOnce
import Derived.OpenShut
import Derived.Stop.Joined
import Derived.Stop.LaidErr
namespace Go.Proofs.YtjhmbbioplhcgaaDoor
open Go.ChangeShapes Go.WideShapes Go.ChangeAt Go.RowKit

theorem ownKnob_none : ownKnob Tryd.prog.godebug = none := by kernel_rfl
theorem gPow : Tryd.prog.globalNamed "internal/strconv.uint64pow10" = some 1 := by kernel_rfl
theorem tPow : (Tryd.prog.globals[1]?).map (·.type) = some 151 := by kernel_rfl
theorem cPow : Tryd.prog.cellsOf 151 = 20 := by kernel_rfl
theorem cU64 : Tryd.prog.cellsOf 111 = 1 := by kernel_rfl
theorem gSig : Tryd.prog.globalNamed "proofmark/term.signs" = some 0 := by kernel_rfl
theorem tSig : (Tryd.prog.globals[0]?).map (·.type) = some 102 := by kernel_rfl
theorem cSig : Tryd.prog.cellsOf 102 = 17 := by kernel_rfl
theorem cStr : Tryd.prog.cellsOf 9 = 1 := by kernel_rfl
def theList : List (String × DataW Unit) := [("math/bits.deBruijn32tab", Rows.laid_math_bits_deBruijn32tab), ("math/bits.deBruijn64tab", Rows.laid_math_bits_deBruijn64tab), ("internal/strconv.uint64pow10", Rows.laid_internal_strconv_uint64pow10), ("proofmark/term.signs", Rows.laid_proofmark_term_signs)]
def signList : List (List UInt8) := (List.range 17).map signN
/-- An array of texts that reads as the table holds the table's texts. -/
theorem cells_of_texts {H : Type} {enc : TypeId × Value → H} {P : Program} {w : World} {base : Nat} {sp : Nat → Bool} {held : Bool} {fuel : Nat} {t e : TypeId} {n : Nat} {cs : List Value} {ts : List (List UInt8)} {p : List MemPlace}
    (ht : P.underlying t = some (.array n e)) (he : P.underlying e = some .string) (hce : P.cellsOf e = 1) (hct : P.cellsOf t = n)
    (h : DataW.trod enc P w base sp held fuel t cs = some (.agg (ts.map fun x => (DataW.lit (.string x) : DataW H)), p)) : ∀ (i : Nat) (x : List UInt8), ts[i]? = some x → cs[i]? = some (str x) := by
  cases fuel with
  | zero => simp [DataW.trod] at h
  | succ fuel =>
    simp only [DataW.trod, ht, hce, hct, Nat.mul_one] at h
    split at h
    · rename_i hl
      obtain ⟨xs, hm, hx⟩ := Option.map_eq_some_iff.1 h
      have hxs : xs.map (·.1) = ts.map fun x => (DataW.lit (.string x) : DataW H) := by
        have := congrArg Prod.fst hx
        simpa using this
      have hxl : xs.length = n := by simpa using Lib.mapM_length hm
      intro i x hix
      have hi : i < n := by
        have h1 := (List.getElem?_eq_some_iff.1 hix).1
        have h2 := congrArg List.length hxs
        simp at h2
        omega
      obtain ⟨b, hb, hf⟩ := Lib.mapM_at hm i i (by simp [hi])
      obtain ⟨s, hc, rfl, _⟩ := DataW.trod_string he hf
      have h1 : cs[i]? = some (.string s) := by
        have := congrArg (·[0]?) hc
        simpa [List.getElem?_take, List.getElem?_drop] using this
      have h2 : (xs.map (·.1))[i]? = some (DataW.lit (.string s.data.toList) : DataW H) := by simp [hb]
      rw [hxs, List.getElem?_map, hix] at h2
      have h3 : x = s.data.toList := by simpa using h2
      rw [h1, h3]
    · cases h
theorem laid_of_list {W : World} (h : laidMetH Tryd.prog theList W) : Laid W := by
  rw [MakeChecks.laidMetH_plain _ _ _ (by kernel_rfl)] at h
  have h1 := h.tail.tail
  refine ⟨Lib.tabIs_of_head gPow tPow Tryd.underlying151 Tryd.underlying111 cU64 cPow h1, fun j hj => ?_⟩
  obtain ⟨ps, ⟨g', t', cs, fuel, p, q, hg', ht', hvar, hd, _, _⟩, _⟩ := h1.tail
  obtain rfl := Option.some.inj (gSig.symm.trans hg')
  obtain rfl := Option.some.inj (tSig.symm.trans ht')
  have hj' : signList[j]? = some (signN j) := by
    unfold signList
    rw [List.getElem?_map, List.getElem?_range hj]
    rfl
  have hc := cells_of_texts (ts := signList) Tryd.underlying102 Tryd.underlying9 cStr cSig hd j (signN j) hj'
  rw [World.var?_cell gSig hvar j]
  simpa using hc
theorem door_met (os : Os) (args : Array Value) : laidMetH Tryd.prog theList ((World.doorLaid Tryd.prog 400 os).forCall (fun _ _ => 0) ⟨#[], args, []⟩).memory :=
  laidMetH_of_parts3 (fuel := 8) (laidMet_of_run' 8 (by kernel_rfl) (by kernel_rfl)) (by kernel_rfl) (by kernel_rfl)
theorem inR_wf {n : Int} (h : (Lit.int .i64 n).wf = true) : InR n := by
  simp only [Lit.wf, IntKind.min, IntKind.max, IntKind.signed, IntKind.bits, Bool.and_eq_true, decide_eq_true_eq, if_true] at h
  unfold InR; omega
theorem inB_wf {n : Int} (h : (Lit.int .u8 n).wf = true) : InB n := by
  simp [Lit.wf, IntKind.min, IntKind.max, IntKind.signed, IntKind.bits] at h
  unfold InB; omega
end Go.Proofs.YtjhmbbioplhcgaaDoor
