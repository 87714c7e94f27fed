/-
  NARROWER THAN 'FOR EVERY INPUT', by the rows' own cells (each row's printed sentence says how): NormBin: laid · NormOf: laid · NormSame: laid · NormMoved: laid · NormChains: laid · NormKnown: laid.
  DERIVED. THE GIVEN ROWS OF THIS SEAT. 6 by the template 'for every input the law returns true; each argument reads behind the call as it read before'; 0 by the template 'total and deterministic' (their statements: YtgkjdmojbndicaaGreatDoorTotals.lean).
  GIVEN WITH THE SEED: the statements are not yours to turn. If you find one false, say at which input.
  Laid BY PROGRAM, IN A SANDBOX (cutbox-rows.mjs): the forced cells as the released guide's own fill.sh prints them over the translation 343b7f10177722a7… (all of the seat's roots in one cut). By AI agents, Wed Nov 11 2026. No macro, syntax, notation, axiom, sorry.
-/
import Derived.Test.YtgkjdmojbndicaaGreatDoorChecked
import GoSem.Claim
import GoSem.ClaimJoined
import GoSem.ClaimMapViews
import Derived.JoinedTies
import Derived.KernelRfl
namespace Go.Proofs.YtgkjdmojbndicaaGreatDoor
/- THE CELL 'sum', in the pinned program and in every row, IS THE sha256 OF THE DUMP (.gsa) THAT YtgkjdmojbndicaaGreatDoorProg.lean LOADS. Nothing in Lean hashes anything: it is a label: what it is worth is what the hold of that sum in a sandbox is worth. -/
noncomputable def Tryz.pinned : Pinned := { name := "ytgkjdmojbndicaagreatdoor", sum := "343b7f10177722a7c7217d56c0a2001e5752fc94a65206b0e85ee0c214298111", checked := Tryz.checked }
namespace Rows
def none {H : Type} : Left H := { results := [], args := [] }

/- WHAT THE LISTED PACKAGE-LEVEL VARIABLES READ AS WHEN THE CALL BEGINS. Each datum BY PROGRAM (the guide's laid-datum.mjs) off the statement by which the dump's own 'gosem.cut.vars' lays the variable. In a bare row this is a premise. The card (YtgkjdmojbndicaaGreatDoorCards.lean) ties it to the program's text. -/
def laid_math_bits_deBruijn32tab {H : Type} : DataW H := .agg [.lit (.int .u8 0), .lit (.int .u8 1), .lit (.int .u8 28), .lit (.int .u8 2), .lit (.int .u8 29), .lit (.int .u8 14), .lit (.int .u8 24), .lit (.int .u8 3), .lit (.int .u8 30), .lit (.int .u8 22), .lit (.int .u8 20), .lit (.int .u8 15), .lit (.int .u8 25), .lit (.int .u8 17), .lit (.int .u8 4), .lit (.int .u8 8), .lit (.int .u8 31), .lit (.int .u8 27), .lit (.int .u8 13), .lit (.int .u8 23), .lit (.int .u8 21), .lit (.int .u8 19), .lit (.int .u8 16), .lit (.int .u8 7), .lit (.int .u8 26), .lit (.int .u8 12), .lit (.int .u8 18), .lit (.int .u8 6), .lit (.int .u8 11), .lit (.int .u8 5), .lit (.int .u8 10), .lit (.int .u8 9)]
def laid_math_bits_deBruijn64tab {H : Type} : DataW H := .agg [.lit (.int .u8 0), .lit (.int .u8 1), .lit (.int .u8 56), .lit (.int .u8 2), .lit (.int .u8 57), .lit (.int .u8 49), .lit (.int .u8 28), .lit (.int .u8 3), .lit (.int .u8 61), .lit (.int .u8 58), .lit (.int .u8 42), .lit (.int .u8 50), .lit (.int .u8 38), .lit (.int .u8 29), .lit (.int .u8 17), .lit (.int .u8 4), .lit (.int .u8 62), .lit (.int .u8 47), .lit (.int .u8 59), .lit (.int .u8 36), .lit (.int .u8 45), .lit (.int .u8 43), .lit (.int .u8 51), .lit (.int .u8 22), .lit (.int .u8 53), .lit (.int .u8 39), .lit (.int .u8 33), .lit (.int .u8 30), .lit (.int .u8 24), .lit (.int .u8 18), .lit (.int .u8 12), .lit (.int .u8 5), .lit (.int .u8 63), .lit (.int .u8 55), .lit (.int .u8 48), .lit (.int .u8 27), .lit (.int .u8 60), .lit (.int .u8 41), .lit (.int .u8 37), .lit (.int .u8 16), .lit (.int .u8 46), .lit (.int .u8 35), .lit (.int .u8 44), .lit (.int .u8 21), .lit (.int .u8 52), .lit (.int .u8 32), .lit (.int .u8 23), .lit (.int .u8 11), .lit (.int .u8 54), .lit (.int .u8 26), .lit (.int .u8 40), .lit (.int .u8 15), .lit (.int .u8 34), .lit (.int .u8 20), .lit (.int .u8 31), .lit (.int .u8 10), .lit (.int .u8 25), .lit (.int .u8 14), .lit (.int .u8 19), .lit (.int .u8 9), .lit (.int .u8 13), .lit (.int .u8 8), .lit (.int .u8 7), .lit (.int .u8 6)]
def laid_internal_strconv_uint64pow10 {H : Type} : DataW H := .agg [.lit (.int .u64 1), .lit (.int .u64 10), .lit (.int .u64 100), .lit (.int .u64 1000), .lit (.int .u64 10000), .lit (.int .u64 100000), .lit (.int .u64 1000000), .lit (.int .u64 10000000), .lit (.int .u64 100000000), .lit (.int .u64 1000000000), .lit (.int .u64 10000000000), .lit (.int .u64 100000000000), .lit (.int .u64 1000000000000), .lit (.int .u64 10000000000000), .lit (.int .u64 100000000000000), .lit (.int .u64 1000000000000000), .lit (.int .u64 10000000000000000), .lit (.int .u64 100000000000000000), .lit (.int .u64 1000000000000000000), .lit (.int .u64 10000000000000000000)]
def laid_proofmark_term_signs {H : Type} : DataW H := .agg [.lit (.string []), .lit (.string [43]), .lit (.string [45]), .lit (.string [42]), .lit (.string [47]), .lit (.string [37]), .lit (.string [47, 117]), .lit (.string [37, 117]), .lit (.string [38]), .lit (.string [124]), .lit (.string [94]), .lit (.string [60, 60]), .lit (.string [62, 62, 117]), .lit (.string [62, 62]), .lit (.string [60]), .lit (.string [60, 117]), .lit (.string [61, 61])]

/-- 'proofmarklaw04.NormBin': WHATEVER THE INPUT: true; the input reads as it did. -/
def normBinSpec : ChangeSpec := { name := "normBin", fn := fun _ => fun
  | [d1, d2, d3, d4, d5] => { results := [.lit (.bool true)], args := [d1, d2, d3, d4, d5] }
  | _ => none }
def normBinRow : OpenClaim := { program := "ytgkjdmojbndicaagreatdoor", sum := "343b7f10177722a7c7217d56c0a2001e5752fc94a65206b0e85ee0c214298111", func := "proofmark/proofmarklaw04.NormBin", spec := "normBin", unfollowed := true, recurses := true, named := ["proofmark/term.signs", "internal/strconv.uint64pow10", "math/bits.deBruijn32tab", "math/bits.deBruijn64tab"], plainKeys := false, apart := false, laid := [("math/bits.deBruijn32tab", laid_math_bits_deBruijn32tab), ("math/bits.deBruijn64tab", laid_math_bits_deBruijn64tab), ("internal/strconv.uint64pow10", laid_internal_strconv_uint64pow10), ("proofmark/term.signs", laid_proofmark_term_signs)] }
def NormBinSaid : Prop := normBinRow.holds Tryz.pinned (OpenSpec.ofChange normBinSpec)

/-- ITS FALSE NEIGHBOUR: 'it returns false'. Refute it at one input. -/
def normBinWrong : ChangeSpec := { name := "normBin", fn := fun _ => fun
  | [d1, d2, d3, d4, d5] => { results := [.lit (.bool false)], args := [d1, d2, d3, d4, d5] }
  | _ => none }
def NormBinWrongFalsely : Prop := normBinRow.holds Tryz.pinned (OpenSpec.ofChange normBinWrong)

/-- 'proofmarklaw04.NormOf': WHATEVER THE INPUT: true; the input reads as it did. -/
def normOfSpec : ChangeSpec := { name := "normOf", fn := fun _ => fun
  | [d1, d2] => { results := [.lit (.bool true)], args := [d1, d2] }
  | _ => none }
def normOfRow : OpenClaim := { program := "ytgkjdmojbndicaagreatdoor", sum := "343b7f10177722a7c7217d56c0a2001e5752fc94a65206b0e85ee0c214298111", func := "proofmark/proofmarklaw04.NormOf", spec := "normOf", unfollowed := true, recurses := true, named := ["proofmark/term.signs", "internal/strconv.uint64pow10", "math/bits.deBruijn32tab", "math/bits.deBruijn64tab"], plainKeys := false, apart := false, laid := [("math/bits.deBruijn32tab", laid_math_bits_deBruijn32tab), ("math/bits.deBruijn64tab", laid_math_bits_deBruijn64tab), ("internal/strconv.uint64pow10", laid_internal_strconv_uint64pow10), ("proofmark/term.signs", laid_proofmark_term_signs)] }
def NormOfSaid : Prop := normOfRow.holds Tryz.pinned (OpenSpec.ofChange normOfSpec)

/-- ITS FALSE NEIGHBOUR: 'it returns false'. Refute it at one input. -/
def normOfWrong : ChangeSpec := { name := "normOf", fn := fun _ => fun
  | [d1, d2] => { results := [.lit (.bool false)], args := [d1, d2] }
  | _ => none }
def NormOfWrongFalsely : Prop := normOfRow.holds Tryz.pinned (OpenSpec.ofChange normOfWrong)

/-- 'proofmarklaw04.NormSame': WHATEVER THE INPUT: true; the input reads as it did. -/
def normSameSpec : ChangeSpec := { name := "normSame", fn := fun _ => fun
  | [d1, d2, d3, d4, d5, d6] => { results := [.lit (.bool true)], args := [d1, d2, d3, d4, d5, d6] }
  | _ => none }
def normSameRow : OpenClaim := { program := "ytgkjdmojbndicaagreatdoor", sum := "343b7f10177722a7c7217d56c0a2001e5752fc94a65206b0e85ee0c214298111", func := "proofmark/proofmarklaw04.NormSame", spec := "normSame", unfollowed := true, recurses := true, named := ["proofmark/term.signs", "internal/strconv.uint64pow10", "math/bits.deBruijn32tab", "math/bits.deBruijn64tab"], plainKeys := false, apart := false, laid := [("math/bits.deBruijn32tab", laid_math_bits_deBruijn32tab), ("math/bits.deBruijn64tab", laid_math_bits_deBruijn64tab), ("internal/strconv.uint64pow10", laid_internal_strconv_uint64pow10), ("proofmark/term.signs", laid_proofmark_term_signs)] }
def NormSameSaid : Prop := normSameRow.holds Tryz.pinned (OpenSpec.ofChange normSameSpec)

/-- ITS FALSE NEIGHBOUR: 'it returns false'. Refute it at one input. -/
def normSameWrong : ChangeSpec := { name := "normSame", fn := fun _ => fun
  | [d1, d2, d3, d4, d5, d6] => { results := [.lit (.bool false)], args := [d1, d2, d3, d4, d5, d6] }
  | _ => none }
def NormSameWrongFalsely : Prop := normSameRow.holds Tryz.pinned (OpenSpec.ofChange normSameWrong)

/-- 'proofmarklaw04.NormMoved': WHATEVER THE INPUT: true; the input reads as it did. -/
def normMovedSpec : ChangeSpec := { name := "normMoved", fn := fun _ => fun
  | [d1, d2, d3, d4, d5] => { results := [.lit (.bool true)], args := [d1, d2, d3, d4, d5] }
  | _ => none }
def normMovedRow : OpenClaim := { program := "ytgkjdmojbndicaagreatdoor", sum := "343b7f10177722a7c7217d56c0a2001e5752fc94a65206b0e85ee0c214298111", func := "proofmark/proofmarklaw04.NormMoved", spec := "normMoved", unfollowed := true, recurses := true, named := ["proofmark/term.signs", "internal/strconv.uint64pow10", "math/bits.deBruijn32tab", "math/bits.deBruijn64tab"], plainKeys := false, apart := false, laid := [("math/bits.deBruijn32tab", laid_math_bits_deBruijn32tab), ("math/bits.deBruijn64tab", laid_math_bits_deBruijn64tab), ("internal/strconv.uint64pow10", laid_internal_strconv_uint64pow10), ("proofmark/term.signs", laid_proofmark_term_signs)] }
def NormMovedSaid : Prop := normMovedRow.holds Tryz.pinned (OpenSpec.ofChange normMovedSpec)

/-- ITS FALSE NEIGHBOUR: 'it returns false'. Refute it at one input. -/
def normMovedWrong : ChangeSpec := { name := "normMoved", fn := fun _ => fun
  | [d1, d2, d3, d4, d5] => { results := [.lit (.bool false)], args := [d1, d2, d3, d4, d5] }
  | _ => none }
def NormMovedWrongFalsely : Prop := normMovedRow.holds Tryz.pinned (OpenSpec.ofChange normMovedWrong)

/-- 'proofmarklaw04.NormChains': WHATEVER THE INPUT: true; the input reads as it did. -/
def normChainsSpec : ChangeSpec := { name := "normChains", fn := fun _ => fun
  | [d1, d2, d3, d4, d5] => { results := [.lit (.bool true)], args := [d1, d2, d3, d4, d5] }
  | _ => none }
def normChainsRow : OpenClaim := { program := "ytgkjdmojbndicaagreatdoor", sum := "343b7f10177722a7c7217d56c0a2001e5752fc94a65206b0e85ee0c214298111", func := "proofmark/proofmarklaw04.NormChains", spec := "normChains", unfollowed := true, recurses := true, named := ["proofmark/term.signs", "internal/strconv.uint64pow10", "math/bits.deBruijn32tab", "math/bits.deBruijn64tab"], plainKeys := false, apart := false, laid := [("math/bits.deBruijn32tab", laid_math_bits_deBruijn32tab), ("math/bits.deBruijn64tab", laid_math_bits_deBruijn64tab), ("internal/strconv.uint64pow10", laid_internal_strconv_uint64pow10), ("proofmark/term.signs", laid_proofmark_term_signs)] }
def NormChainsSaid : Prop := normChainsRow.holds Tryz.pinned (OpenSpec.ofChange normChainsSpec)

/-- ITS FALSE NEIGHBOUR: 'it returns false'. Refute it at one input. -/
def normChainsWrong : ChangeSpec := { name := "normChains", fn := fun _ => fun
  | [d1, d2, d3, d4, d5] => { results := [.lit (.bool false)], args := [d1, d2, d3, d4, d5] }
  | _ => none }
def NormChainsWrongFalsely : Prop := normChainsRow.holds Tryz.pinned (OpenSpec.ofChange normChainsWrong)

/-- 'proofmarklaw04.NormKnown': WHATEVER THE INPUT: true; the input reads as it did. -/
def normKnownSpec : ChangeSpec := { name := "normKnown", fn := fun _ => fun
  | [] => { results := [.lit (.bool true)], args := [] }
  | _ => none }
def normKnownRow : OpenClaim := { program := "ytgkjdmojbndicaagreatdoor", sum := "343b7f10177722a7c7217d56c0a2001e5752fc94a65206b0e85ee0c214298111", func := "proofmark/proofmarklaw04.NormKnown", spec := "normKnown", unfollowed := true, recurses := true, named := ["proofmark/term.signs", "internal/strconv.uint64pow10", "math/bits.deBruijn32tab", "math/bits.deBruijn64tab"], plainKeys := false, apart := false, laid := [("math/bits.deBruijn32tab", laid_math_bits_deBruijn32tab), ("math/bits.deBruijn64tab", laid_math_bits_deBruijn64tab), ("internal/strconv.uint64pow10", laid_internal_strconv_uint64pow10), ("proofmark/term.signs", laid_proofmark_term_signs)] }
def NormKnownSaid : Prop := normKnownRow.holds Tryz.pinned (OpenSpec.ofChange normKnownSpec)

/-- ITS FALSE NEIGHBOUR: 'it returns false'. Refute it at one input. -/
def normKnownWrong : ChangeSpec := { name := "normKnown", fn := fun _ => fun
  | [] => { results := [.lit (.bool false)], args := [] }
  | _ => none }
def NormKnownWrongFalsely : Prop := normKnownRow.holds Tryz.pinned (OpenSpec.ofChange normKnownWrong)

/- THE SECOND FORM. 'bulk': how many values and letters a reading holds, each counted each time it is reached (what is shared counts as often as it is met; a slice's spare places count too). A statement '..UptoSaid' is the law's where the arguments, and the package variables that the reading takes, are together of bulk at most 1048576: NARROWER than '..Said'. Prove '..Said' where nothing that the law and all that it calls make is longer than what came in: it says more and counts as full. Else prove '..UptoSaid'. A law counts once. -/
mutual
def uptoBulk {H : Type} : DataW H → Nat
  | .lit (.string bytes) => bytes.length + 1
  | .lit _ => 1
  | .nil => 1
  | .ptr d => uptoBulk d + 1
  | .slice elems spare => uptoBulkAll elems + uptoBulkAll spare + 1
  | .agg parts => uptoBulkAll parts + 1
  | .iface _ d => uptoBulk d + 1
  | .map entries => uptoBulkEntries entries + 1
  | .held _ => 1
def uptoBulkAll {H : Type} : List (DataW H) → Nat
  | [] => 0
  | d :: r => uptoBulk d + uptoBulkAll r
def uptoBulkEntries {H : Type} : List (Lit × DataW H) → Nat
  | [] => 0
  | x :: r => uptoBulkEntry x + uptoBulkEntries r
def uptoBulkEntry {H : Type} : Lit × DataW H → Nat
  | (.string bytes, d) => bytes.length + uptoBulk d + 1
  | (_, d) => uptoBulk d + 1
 end
def uptoSmall : (H : Type) → List (DataW H) → Bool := fun _ ds => decide (uptoBulkAll ds ≤ 1048576)
def OpenSpec.upto (s : _root_.Go.ChangeSpec) : _root_.Go.OpenSpec := { _root_.Go.OpenSpec.ofChange s with cond := some uptoSmall }

/-- 'proofmarklaw04.NormBin', WHERE WHAT IT READS IS OF BULK AT MOST 1048576: true; the input reads as it did. -/
def normBinUptoRow : OpenClaim := { program := "ytgkjdmojbndicaagreatdoor", sum := "343b7f10177722a7c7217d56c0a2001e5752fc94a65206b0e85ee0c214298111", func := "proofmark/proofmarklaw04.NormBin", spec := "normBin", unfollowed := true, recurses := true, named := ["proofmark/term.signs", "internal/strconv.uint64pow10", "math/bits.deBruijn32tab", "math/bits.deBruijn64tab"], plainKeys := false, apart := false, laid := [("math/bits.deBruijn32tab", laid_math_bits_deBruijn32tab), ("math/bits.deBruijn64tab", laid_math_bits_deBruijn64tab), ("internal/strconv.uint64pow10", laid_internal_strconv_uint64pow10), ("proofmark/term.signs", laid_proofmark_term_signs)], narrowed := true }
def NormBinUptoSaid : Prop := normBinUptoRow.holds Tryz.pinned (OpenSpec.upto normBinSpec)

/-- 'proofmarklaw04.NormOf', WHERE WHAT IT READS IS OF BULK AT MOST 1048576: true; the input reads as it did. -/
def normOfUptoRow : OpenClaim := { program := "ytgkjdmojbndicaagreatdoor", sum := "343b7f10177722a7c7217d56c0a2001e5752fc94a65206b0e85ee0c214298111", func := "proofmark/proofmarklaw04.NormOf", spec := "normOf", unfollowed := true, recurses := true, named := ["proofmark/term.signs", "internal/strconv.uint64pow10", "math/bits.deBruijn32tab", "math/bits.deBruijn64tab"], plainKeys := false, apart := false, laid := [("math/bits.deBruijn32tab", laid_math_bits_deBruijn32tab), ("math/bits.deBruijn64tab", laid_math_bits_deBruijn64tab), ("internal/strconv.uint64pow10", laid_internal_strconv_uint64pow10), ("proofmark/term.signs", laid_proofmark_term_signs)], narrowed := true }
def NormOfUptoSaid : Prop := normOfUptoRow.holds Tryz.pinned (OpenSpec.upto normOfSpec)

/-- 'proofmarklaw04.NormSame', WHERE WHAT IT READS IS OF BULK AT MOST 1048576: true; the input reads as it did. -/
def normSameUptoRow : OpenClaim := { program := "ytgkjdmojbndicaagreatdoor", sum := "343b7f10177722a7c7217d56c0a2001e5752fc94a65206b0e85ee0c214298111", func := "proofmark/proofmarklaw04.NormSame", spec := "normSame", unfollowed := true, recurses := true, named := ["proofmark/term.signs", "internal/strconv.uint64pow10", "math/bits.deBruijn32tab", "math/bits.deBruijn64tab"], plainKeys := false, apart := false, laid := [("math/bits.deBruijn32tab", laid_math_bits_deBruijn32tab), ("math/bits.deBruijn64tab", laid_math_bits_deBruijn64tab), ("internal/strconv.uint64pow10", laid_internal_strconv_uint64pow10), ("proofmark/term.signs", laid_proofmark_term_signs)], narrowed := true }
def NormSameUptoSaid : Prop := normSameUptoRow.holds Tryz.pinned (OpenSpec.upto normSameSpec)

/-- 'proofmarklaw04.NormMoved', WHERE WHAT IT READS IS OF BULK AT MOST 1048576: true; the input reads as it did. -/
def normMovedUptoRow : OpenClaim := { program := "ytgkjdmojbndicaagreatdoor", sum := "343b7f10177722a7c7217d56c0a2001e5752fc94a65206b0e85ee0c214298111", func := "proofmark/proofmarklaw04.NormMoved", spec := "normMoved", unfollowed := true, recurses := true, named := ["proofmark/term.signs", "internal/strconv.uint64pow10", "math/bits.deBruijn32tab", "math/bits.deBruijn64tab"], plainKeys := false, apart := false, laid := [("math/bits.deBruijn32tab", laid_math_bits_deBruijn32tab), ("math/bits.deBruijn64tab", laid_math_bits_deBruijn64tab), ("internal/strconv.uint64pow10", laid_internal_strconv_uint64pow10), ("proofmark/term.signs", laid_proofmark_term_signs)], narrowed := true }
def NormMovedUptoSaid : Prop := normMovedUptoRow.holds Tryz.pinned (OpenSpec.upto normMovedSpec)

/-- 'proofmarklaw04.NormChains', WHERE WHAT IT READS IS OF BULK AT MOST 1048576: true; the input reads as it did. -/
def normChainsUptoRow : OpenClaim := { program := "ytgkjdmojbndicaagreatdoor", sum := "343b7f10177722a7c7217d56c0a2001e5752fc94a65206b0e85ee0c214298111", func := "proofmark/proofmarklaw04.NormChains", spec := "normChains", unfollowed := true, recurses := true, named := ["proofmark/term.signs", "internal/strconv.uint64pow10", "math/bits.deBruijn32tab", "math/bits.deBruijn64tab"], plainKeys := false, apart := false, laid := [("math/bits.deBruijn32tab", laid_math_bits_deBruijn32tab), ("math/bits.deBruijn64tab", laid_math_bits_deBruijn64tab), ("internal/strconv.uint64pow10", laid_internal_strconv_uint64pow10), ("proofmark/term.signs", laid_proofmark_term_signs)], narrowed := true }
def NormChainsUptoSaid : Prop := normChainsUptoRow.holds Tryz.pinned (OpenSpec.upto normChainsSpec)

/-- 'proofmarklaw04.NormKnown', WHERE WHAT IT READS IS OF BULK AT MOST 1048576: true; the input reads as it did. -/
def normKnownUptoRow : OpenClaim := { program := "ytgkjdmojbndicaagreatdoor", sum := "343b7f10177722a7c7217d56c0a2001e5752fc94a65206b0e85ee0c214298111", func := "proofmark/proofmarklaw04.NormKnown", spec := "normKnown", unfollowed := true, recurses := true, named := ["proofmark/term.signs", "internal/strconv.uint64pow10", "math/bits.deBruijn32tab", "math/bits.deBruijn64tab"], plainKeys := false, apart := false, laid := [("math/bits.deBruijn32tab", laid_math_bits_deBruijn32tab), ("math/bits.deBruijn64tab", laid_math_bits_deBruijn64tab), ("internal/strconv.uint64pow10", laid_internal_strconv_uint64pow10), ("proofmark/term.signs", laid_proofmark_term_signs)], narrowed := true }
def NormKnownUptoSaid : Prop := normKnownUptoRow.holds Tryz.pinned (OpenSpec.upto normKnownSpec)

end Rows
end Go.Proofs.YtgkjdmojbndicaaGreatDoor
