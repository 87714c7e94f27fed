/-
  Several texts in one: TTab: Layer 2: what the row's condition on the tables gives a walk; the witness's world.; TOpen: Layer 2: an argument that is a slice of nodes, opened to its cells.; TOpenI: Layer 2: an argument that is a slice of numbers, opened to its cells.; VOpen: Layer 3: an argument that is an environment, opened to its cells..
-/
import Derived.Test.YtgkjdmojbndicaaGreatDoorRows
import Derived.Test.YtgkjdmojbndicaaGreatDoorMF
import Derived.Lib.LaidTab
import Derived.ProofKit
import Derived.LaidMore
import Derived.LaidOnce
import Derived.OpenShut
import Derived.Stop.Joined
import Derived.Stop.LaidErr
import Derived.Test.YtgkjdmojbndicaaGreatDoorMG
import Derived.Deep.Slices
import Derived.Deep.Fields
import Derived.ChangeSame
import Derived.Test.YtgkjdmojbndicaaGreatDoorML
namespace Go.Proofs.YtgkjdmojbndicaaGreatDoor
open Go.ChangeShapes Go.WideShapes Go.ChangeAt Go.RowKit

theorem ownKnob_none : ownKnob Tryz.prog.godebug = none := by kernel_rfl
theorem gPow : Tryz.prog.globalNamed "internal/strconv.uint64pow10" = some 2 := by kernel_rfl
theorem tPow : (Tryz.prog.globals[2]?).map (·.type) = some 173 := by kernel_rfl
theorem cPow : Tryz.prog.cellsOf 173 = 20 := by kernel_rfl
theorem cU64 : Tryz.prog.cellsOf 89 = 1 := by kernel_rfl
theorem gSig : Tryz.prog.globalNamed "proofmark/term.signs" = some 0 := by kernel_rfl
theorem tSig : (Tryz.prog.globals[0]?).map (·.type) = some 129 := by kernel_rfl
theorem cSig : Tryz.prog.cellsOf 129 = 17 := by kernel_rfl
theorem cStr : Tryz.prog.cellsOf 9 = 1 := by kernel_rfl
def theList : List (String × DataW Unit) := [("math/bits.deBruijn32tab", Rows.laid_math_bits_deBruijn32tab), ("math/bits.deBruijn64tab", Rows.laid_math_bits_deBruijn64tab), ("internal/strconv.uint64pow10", Rows.laid_internal_strconv_uint64pow10), ("proofmark/term.signs", Rows.laid_proofmark_term_signs)]
def signList : List (List UInt8) := (List.range 17).map signN
/-- An array of texts that reads as the table holds the table's texts. -/
theorem cells_of_texts {H : Type} {enc : TypeId × Value → H} {P : Program} {w : World} {base : Nat} {sp : Nat → Bool} {held : Bool} {fuel : Nat} {t e : TypeId} {n : Nat} {cs : List Value} {ts : List (List UInt8)} {p : List MemPlace}
    (ht : P.underlying t = some (.array n e)) (he : P.underlying e = some .string) (hce : P.cellsOf e = 1) (hct : P.cellsOf t = n)
    (h : DataW.trod enc P w base sp held fuel t cs = some (.agg (ts.map fun x => (DataW.lit (.string x) : DataW H)), p)) : ∀ (i : Nat) (x : List UInt8), ts[i]? = some x → cs[i]? = some (str x) := by
  cases fuel with
  | zero => simp [DataW.trod] at h
  | succ fuel =>
    simp only [DataW.trod, ht, hce, hct, Nat.mul_one] at h
    split at h
    · rename_i hl
      obtain ⟨xs, hm, hx⟩ := Option.map_eq_some_iff.1 h
      have hxs : xs.map (·.1) = ts.map fun x => (DataW.lit (.string x) : DataW H) := by
        have := congrArg Prod.fst hx
        simpa using this
      have hxl : xs.length = n := by simpa using Lib.mapM_length hm
      intro i x hix
      have hi : i < n := by
        have h1 := (List.getElem?_eq_some_iff.1 hix).1
        have h2 := congrArg List.length hxs
        simp at h2
        omega
      obtain ⟨b, hb, hf⟩ := Lib.mapM_at hm i i (by simp [hi])
      obtain ⟨s, hc, rfl, _⟩ := DataW.trod_string he hf
      have h1 : cs[i]? = some (.string s) := by
        have := congrArg (·[0]?) hc
        simpa [List.getElem?_take, List.getElem?_drop] using this
      have h2 : (xs.map (·.1))[i]? = some (DataW.lit (.string s.data.toList) : DataW H) := by simp [hb]
      rw [hxs, List.getElem?_map, hix] at h2
      have h3 : x = s.data.toList := by simpa using h2
      rw [h1, h3]
    · cases h
theorem laid_of_list {W : World} (h : laidMetH Tryz.prog theList W) : Laid W := by
  rw [MakeChecks.laidMetH_plain _ _ _ (by kernel_rfl)] at h
  have h1 := h.tail.tail
  refine ⟨Lib.tabIs_of_head gPow tPow Tryz.underlying173 Tryz.underlying89 cU64 cPow h1, fun j hj => ?_⟩
  obtain ⟨ps, ⟨g', t', cs, fuel, p, q, hg', ht', hvar, hd, _, _⟩, _⟩ := h1.tail
  obtain rfl := Option.some.inj (gSig.symm.trans hg')
  obtain rfl := Option.some.inj (tSig.symm.trans ht')
  have hj' : signList[j]? = some (signN j) := by
    unfold signList
    rw [List.getElem?_map, List.getElem?_range hj]
    rfl
  have hc := cells_of_texts (ts := signList) Tryz.underlying129 Tryz.underlying9 cStr cSig hd j (signN j) hj'
  rw [World.var?_cell gSig hvar j]
  simpa using hc
theorem door_met (os : Os) (args : Array Value) : laidMetH Tryz.prog theList ((World.doorLaid Tryz.prog 400 os).forCall (fun _ _ => 0) ⟨#[], args, []⟩).memory :=
  laidMetH_of_parts3 (fuel := 8) (laidMet_of_run' 8 (by kernel_rfl) (by kernel_rfl)) (by kernel_rfl) (by kernel_rfl)
theorem inR_wf {n : Int} (h : (Lit.int .i64 n).wf = true) : InR n := by
  simp only [Lit.wf, IntKind.min, IntKind.max, IntKind.signed, IntKind.bits, Bool.and_eq_true, decide_eq_true_eq, if_true] at h
  unfold InR; omega
theorem inB_wf {n : Int} (h : (Lit.int .u8 n).wf = true) : InB n := by
  simp [Lit.wf, IntKind.min, IntKind.max, IntKind.signed, IntKind.bits] at h
  unfold InB; omega
end Go.Proofs.YtgkjdmojbndicaaGreatDoor

namespace Go.Proofs.YtgkjdmojbndicaaGreatDoor
open Go Go.RowKit Go.ChangeShapes Go.WideShapes Go.Deep

theorem nodeFields : ∃ f0 f1 f2 f3 f4 f5, Tryz.prog.underlying 42 = some (.struct #[f0, f1, f2, f3, f4, f5]) ∧ f0.type = 5 ∧ f1.type = 2 ∧ f2.type = 3 ∧ f3.type = 27 ∧ f4.type = 35 ∧ f5.type = 35 ∧ oneCellFields Tryz.prog #[f0, f1, f2, f3, f4, f5] = true :=
  ⟨_, _, _, _, _, _, Tryz.underlying42, rfl, rfl, rfl, rfl, rfl, rfl, by kernel_rfl⟩

section
variable {H : Type} {enc : TypeId × Value → H} {w : World} {base : Nat} {spare : Nat → Bool} {held : Bool}
/-- The nodes that a slice holds. -/
theorem open_nodes {fuel : Nat} {a : Option Addr} {n c : Nat} {x : DataW H × List MemPlace} (h : DataW.trod enc Tryz.prog w base spare held fuel 22 [.slice a n c] = some x) : ∃ ds, NodesAt w a n ds := by
  obtain ⟨f0, f1, f2, f3, f4, f5, hs, t0, t1, t2, t3, t4, t5, hone⟩ := nodeFields
  rcases open_slice Tryz.underlying22 h with ⟨hcs, _⟩ | ⟨ad, len, cap, m, nn, D, Pl, hcs, hb, hl, hm, hmm, hx, hi⟩
  · simp at hcs
    obtain ⟨rfl, rfl, rfl⟩ := hcs
    exact ⟨[], ⟨rfl, by simp, fun h => absurd h (Nat.lt_irrefl 0)⟩⟩
  · simp at hcs
    obtain ⟨rfl, rfl, rfl⟩ := hcs
    have hnm : n ≤ m := by rw [hmm]; split <;> omega
    have each : ∀ i, i < n → ∃ d : Nd, d.Ok ∧ ∀ j v, d.cells[j]? = some v → w.cell? ((ad.add (i * 6)).add j) = some v := by
      intro i hin
      obtain ⟨cs', hc, ht'⟩ := hi i (by omega)
      rw [TA.cellsNode] at hc
      obtain ⟨ys, n', hn', hy, hlen, hyl, hf⟩ := DataW.trod_struct hs ht'
      obtain ⟨_, hcl, hat⟩ := World.cells?_some hc
      have fld : ∀ (j : Nat) (f : Field), #[f0, f1, f2, f3, f4, f5][j]? = some f → j < 6 → ∃ v y, w.cell? ((ad.add (i * 6)).add j) = some v ∧ DataW.trod enc Tryz.prog w base spare held n' f.type [v] = some y := by
        intro j f hj hj6
        obtain ⟨ho, hk⟩ := hone_of hone j f hj
        have hv : cs'[j]? = some (cs'[j]'(by omega)) := List.getElem?_eq_getElem (by omega)
        have h1 := hf j f hj
        rw [ho, hk] at h1
        have hone' : (cs'.drop j).take 1 = [cs'[j]'(by omega)] := by
          rw [List.drop_eq_getElem_cons (by omega)]
          rfl
        rw [hone'] at h1
        have hys : ys[j]? = some (ys[j]'(by rw [hyl]; simpa using hj6)) := List.getElem?_eq_getElem _
        exact ⟨_, _, by rw [hat j (by omega), hv], h1.trans hys⟩
      obtain ⟨v0, y0, c0, e0⟩ := fld 0 f0 rfl (by omega)
      obtain ⟨v1, y1, c1, e1⟩ := fld 1 f1 rfl (by omega)
      obtain ⟨v2, y2, c2, e2⟩ := fld 2 f2 rfl (by omega)
      obtain ⟨v3, y3, c3, e3⟩ := fld 3 f3 rfl (by omega)
      obtain ⟨v4, y4, c4, e4⟩ := fld 4 f4 rfl (by omega)
      obtain ⟨v5, y5, c5, e5⟩ := fld 5 f5 rfl (by omega)
      rw [t0] at e0; rw [t1] at e1; rw [t2] at e2; rw [t3] at e3; rw [t4] at e4; rw [t5] at e5
      obtain ⟨z0, hz0, _, w0⟩ := DataW.trod_int Tryz.underlying5 e0
      obtain ⟨z1, hz1, _, w1⟩ := DataW.trod_int Tryz.underlying2 e1
      obtain ⟨z2, hz2, _, w2⟩ := DataW.trod_int Tryz.underlying3 e2
      obtain ⟨z3, hz3, _, w3⟩ := DataW.trod_int Tryz.underlying27 e3
      obtain ⟨z4, hz4, _, w4⟩ := DataW.trod_int Tryz.underlying35 e4
      obtain ⟨z5, hz5, _, w5⟩ := DataW.trod_int Tryz.underlying35 e5
      simp at hz0 hz1 hz2 hz3 hz4 hz5
      subst hz0; subst hz1; subst hz2; subst hz3; subst hz4; subst hz5
      refine ⟨⟨z0, z1, z2, z3, z4, z5⟩, ⟨inB_wf w0, inR_wf w1, inR_wf w2, inB_wf w3, inR_wf w4, inR_wf w5⟩, fun j v hj => ?_⟩
      match j, hj with
      | 0, hj => simp [Nd.cells] at hj; subst hj; exact c0
      | 1, hj => simp [Nd.cells] at hj; subst hj; exact c1
      | 2, hj => simp [Nd.cells] at hj; subst hj; exact c2
      | 3, hj => simp [Nd.cells] at hj; subst hj; exact c3
      | 4, hj => simp [Nd.cells] at hj; subst hj; exact c4
      | 5, hj => simp [Nd.cells] at hj; subst hj; exact c5
      | j + 6, hj => simp [Nd.cells] at hj
    have all : ∃ ds : List Nd, ds.length = n ∧ ∀ i d, ds[i]? = some d → d.Ok ∧ ∀ j v, d.cells[j]? = some v → w.cell? ((ad.add (i * 6)).add j) = some v := by
      have build : ∀ k, k ≤ n → ∃ ds : List Nd, ds.length = k ∧ ∀ i d, ds[i]? = some d → d.Ok ∧ ∀ j v, d.cells[j]? = some v → w.cell? ((ad.add (i * 6)).add j) = some v := by
        intro k
        induction k with
        | zero => intro _; exact ⟨[], rfl, fun i d h => by simp at h⟩
        | succ k ih =>
          intro hk
          obtain ⟨ds, hl, hd⟩ := ih (by omega)
          obtain ⟨d, ho, hc⟩ := each k (by omega)
          refine ⟨ds ++ [d], by simp [hl], fun i e he => ?_⟩
          by_cases hik : i < ds.length
          · rw [List.getElem?_append_left hik] at he
            exact hd i e he
          · rw [List.getElem?_append_right (by omega)] at he
            have hi0 : i = k := by
              have := (List.getElem?_eq_some_iff.1 he).1
              simp at this; omega
            subst hi0
            have : e = d := by
              rw [hl] at he; simpa using he.symm
            subst this
            exact ⟨ho, hc⟩
      exact build n (Nat.le_refl _)
    obtain ⟨ds, hlen, hds⟩ := all
    refine ⟨ds, ⟨hlen, fun d hd => ?_, fun hn => ?_⟩⟩
    · obtain ⟨i, hi, he⟩ := List.getElem_of_mem hd
      exact (hds i d (by rw [List.getElem?_eq_getElem hi, he])).1
    · obtain ⟨d, hd⟩ : ∃ d, ds[0]? = some d := ⟨_, List.getElem?_eq_getElem (by omega)⟩
      obtain ⟨b, off, spot⟩ := ad
      have hspot : spot = none := by
        have := World.cell?_spot ((hds 0 d hd).2 0 _ rfl)
        simpa [Addr.add] using this
      subst hspot
      refine ⟨b, off, rfl, fun j d hd i v hv => ?_⟩
      have := (hds j d hd).2 i v hv
      have ea : ((⟨b, off, none⟩ : Addr).add (j * 6)).add i = ⟨b, off + j * 6 + i, none⟩ := by
        have hadd : ∀ (o q : Nat), (⟨b, o, none⟩ : Addr).add q = ⟨b, o + q, none⟩ := by
          intro o q
          unfold Addr.add
          by_cases h0 : q = 0
          · subst h0; simp
          · simp [h0]
        rw [hadd, hadd]
      rwa [ea] at this
end
end Go.Proofs.YtgkjdmojbndicaaGreatDoor

namespace Go.Proofs.YtgkjdmojbndicaaGreatDoor
open Go Go.RowKit Go.ChangeShapes Go.WideShapes Go.Deep

section
variable {H : Type} {enc : TypeId × Value → H} {w : World} {base : Nat} {spare : Nat → Bool}
theorem open_row {t e : TypeId} (ht : Tryz.prog.underlying t = some (.slice e)) (he : Tryz.prog.underlying e = some (.int .i64)) (hc : Tryz.prog.cellsOf e = 1) {fuel : Nat} {a : Option Addr} {n c : Nat} {x : DataW H × List MemPlace}
    (h : DataW.trod enc Tryz.prog w base spare true fuel t [.slice a n c] = some x) : ∃ us, RootsAt w a n us := by
  rcases open_ints ht he hc h with ⟨hcs, hx⟩ | ⟨ad, len, cap, zs, hcs, _, hl, hm, hz, hx, hcell, hwz⟩
  · simp at hcs
    obtain ⟨rfl, rfl, rfl⟩ := hcs
    exact ⟨[], rfl, by simp, fun h => absurd h (Nat.lt_irrefl 0)⟩
  · simp at hcs
    obtain ⟨rfl, rfl, rfl⟩ := hcs
    have hzn : n ≤ zs.length := by rw [hz]; split <;> omega
    refine ⟨zs.take n, by rw [List.length_take]; omega, fun y hy => inR_wf (hwz y (List.mem_of_mem_take hy)), fun hn => ?_⟩
    obtain ⟨b, off, spot⟩ := ad
    have hspot : spot = none := by simpa [Addr.add] using World.cell?_spot (hcell 0 (by omega))
    subst hspot
    refine ⟨b, off, rfl, fun j y hj => ?_⟩
    have hjn : j < n := by
      have := (List.getElem?_eq_some_iff.1 hj).1
      rw [List.length_take] at this; omega
    have h1 := hcell j (by omega)
    have ea : (⟨b, off, none⟩ : Addr).add j = ⟨b, off + j, none⟩ := by
      unfold Addr.add
      by_cases h0 : j = 0
      · subst h0; simp
      · simp [h0]
    rw [ea] at h1
    rw [h1]
    rw [List.getElem?_take, if_pos hjn] at hj
    rw [List.getD_eq_getElem?_getD, hj]; rfl
theorem open_ids {fuel : Nat} {a : Option Addr} {n c : Nat} {x : DataW H × List MemPlace} (h : DataW.trod enc Tryz.prog w base spare true fuel 31 [.slice a n c] = some x) : ∃ us, RootsAt w a n us :=
  open_row Tryz.underlying31 Tryz.underlying35 TA.cellsId h
theorem open_nums {fuel : Nat} {a : Option Addr} {n c : Nat} {x : DataW H × List MemPlace} (h : DataW.trod enc Tryz.prog w base spare true fuel 23 [.slice a n c] = some x) : ∃ us, RootsAt w a n us :=
  open_row Tryz.underlying23 Tryz.underlying2 TA.cellsI64 h
end
end Go.Proofs.YtgkjdmojbndicaaGreatDoor

namespace Go.Proofs.YtgkjdmojbndicaaGreatDoor
open Go Go.RowKit Go.ChangeShapes Go.WideShapes Go.Deep

theorem TA.cellsCell : Tryz.prog.cellsOf 69 = 4 := by kernel_rfl
theorem TA.cellsEnv : Tryz.prog.cellsOf 26 = 2 := by kernel_rfl
theorem cellFields : ∃ f0 f1 f2 f3, Tryz.prog.underlying 69 = some (.struct #[f0, f1, f2, f3]) ∧ f0.type = 3 ∧ f1.type = 2 ∧ f2.type = 2 ∧ f3.type = 2 ∧ oneCellFields Tryz.prog #[f0, f1, f2, f3] = true :=
  ⟨_, _, _, _, Tryz.underlying69, rfl, rfl, rfl, rfl, by kernel_rfl⟩
theorem envFields : ∃ f0 f1, Tryz.prog.underlying 26 = some (.struct #[f0, f1]) ∧ f0.type = 23 ∧ f1.type = 24 ∧ oneCellFields Tryz.prog #[f0, f1] = true :=
  ⟨_, _, Tryz.underlying26, rfl, rfl, by kernel_rfl⟩
section
variable {H : Type} {enc : TypeId × Value → H} {w : World} {base : Nat} {spare : Nat → Bool}
/-- The cells that a slice holds. -/
theorem open_cells {fuel : Nat} {a : Option Addr} {n c : Nat} {x : DataW H × List MemPlace} (h : DataW.trod enc Tryz.prog w base spare true fuel 24 [.slice a n c] = some x) : ∃ cs, CellsAt w a n cs := by
  obtain ⟨f0, f1, f2, f3, hs, t0, t1, t2, t3, hone⟩ := cellFields
  rcases open_slice Tryz.underlying24 h with ⟨hcs, _⟩ | ⟨ad, len, cap, m, nn, D, Pl, hcs, hb, hl, hm, hmm, hx, hi⟩
  · simp at hcs
    obtain ⟨rfl, rfl, rfl⟩ := hcs
    exact ⟨[], ⟨rfl, by simp, fun h => absurd h (Nat.lt_irrefl 0)⟩⟩
  · simp at hcs
    obtain ⟨rfl, rfl, rfl⟩ := hcs
    have hnm : n ≤ m := by rw [hmm]; split <;> omega
    have each : ∀ i, i < n → ∃ d : Cl, d.Ok ∧ ∀ j v, d.cells[j]? = some v → w.cell? ((ad.add (i * 4)).add j) = some v := by
      intro i hin
      obtain ⟨cs', hc, ht'⟩ := hi i (by omega)
      rw [TA.cellsCell] at hc
      obtain ⟨ys, n', hn', hy, hlen, hyl, hf⟩ := DataW.trod_struct hs ht'
      obtain ⟨_, hcl, hat⟩ := World.cells?_some hc
      have fld : ∀ (j : Nat) (f : Field), #[f0, f1, f2, f3][j]? = some f → j < 4 → ∃ v y, w.cell? ((ad.add (i * 4)).add j) = some v ∧ DataW.trod enc Tryz.prog w base spare true n' f.type [v] = some y := by
        intro j f hj hj6
        obtain ⟨ho, hk⟩ := hone_of hone j f hj
        have hv : cs'[j]? = some (cs'[j]'(by omega)) := List.getElem?_eq_getElem (by omega)
        have h1 := hf j f hj
        rw [ho, hk] at h1
        have hone' : (cs'.drop j).take 1 = [cs'[j]'(by omega)] := by
          rw [List.drop_eq_getElem_cons (by omega)]
          rfl
        rw [hone'] at h1
        have hys : ys[j]? = some (ys[j]'(by rw [hyl]; simpa using hj6)) := List.getElem?_eq_getElem _
        exact ⟨_, _, by rw [hat j (by omega), hv], h1.trans hys⟩
      obtain ⟨v0, y0, c0, e0⟩ := fld 0 f0 rfl (by omega)
      obtain ⟨v1, y1, c1, e1⟩ := fld 1 f1 rfl (by omega)
      obtain ⟨v2, y2, c2, e2⟩ := fld 2 f2 rfl (by omega)
      obtain ⟨v3, y3, c3, e3⟩ := fld 3 f3 rfl (by omega)
      rw [t0] at e0; rw [t1] at e1; rw [t2] at e2; rw [t3] at e3
      obtain ⟨z0, hz0, _, w0⟩ := DataW.trod_int Tryz.underlying3 e0
      obtain ⟨z1, hz1, _, w1⟩ := DataW.trod_int Tryz.underlying2 e1
      obtain ⟨z2, hz2, _, w2⟩ := DataW.trod_int Tryz.underlying2 e2
      obtain ⟨z3, hz3, _, w3⟩ := DataW.trod_int Tryz.underlying2 e3
      simp at hz0 hz1 hz2 hz3
      subst hz0; subst hz1; subst hz2; subst hz3
      refine ⟨⟨z0, z1, z2, z3⟩, ⟨inR_wf w0, inR_wf w1, inR_wf w2, inR_wf w3⟩, fun j v hj => ?_⟩
      match j, hj with
      | 0, hj => simp [Cl.cells] at hj; subst hj; exact c0
      | 1, hj => simp [Cl.cells] at hj; subst hj; exact c1
      | 2, hj => simp [Cl.cells] at hj; subst hj; exact c2
      | 3, hj => simp [Cl.cells] at hj; subst hj; exact c3
      | j + 4, hj => simp [Cl.cells] at hj
    have all : ∃ ds : List Cl, ds.length = n ∧ ∀ i d, ds[i]? = some d → d.Ok ∧ ∀ j v, d.cells[j]? = some v → w.cell? ((ad.add (i * 4)).add j) = some v := by
      have build : ∀ k, k ≤ n → ∃ ds : List Cl, ds.length = k ∧ ∀ i d, ds[i]? = some d → d.Ok ∧ ∀ j v, d.cells[j]? = some v → w.cell? ((ad.add (i * 4)).add j) = some v := by
        intro k
        induction k with
        | zero => intro _; exact ⟨[], rfl, fun i d h => by simp at h⟩
        | succ k ih =>
          intro hk
          obtain ⟨ds, hl, hd⟩ := ih (by omega)
          obtain ⟨d, ho, hc⟩ := each k (by omega)
          refine ⟨ds ++ [d], by simp [hl], fun i e he => ?_⟩
          by_cases hik : i < ds.length
          · rw [List.getElem?_append_left hik] at he
            exact hd i e he
          · rw [List.getElem?_append_right (by omega)] at he
            have hi0 : i = k := by
              have := (List.getElem?_eq_some_iff.1 he).1
              simp at this; omega
            subst hi0
            have : e = d := by
              rw [hl] at he; simpa using he.symm
            subst this
            exact ⟨ho, hc⟩
      exact build n (Nat.le_refl _)
    obtain ⟨ds, hlen, hds⟩ := all
    refine ⟨ds, ⟨hlen, fun d hd => ?_, fun hn => ?_⟩⟩
    · obtain ⟨i, hi, he⟩ := List.getElem_of_mem hd
      exact (hds i d (by rw [List.getElem?_eq_getElem hi, he])).1
    · obtain ⟨d, hd⟩ : ∃ d, ds[0]? = some d := ⟨_, List.getElem?_eq_getElem (by omega)⟩
      obtain ⟨b, off, spot⟩ := ad
      have hspot : spot = none := by
        have := World.cell?_spot ((hds 0 d hd).2 0 _ rfl)
        simpa [Addr.add] using this
      subst hspot
      refine ⟨b, off, rfl, fun j d hd i v hv => ?_⟩
      have := (hds j d hd).2 i v hv
      have ea : ((⟨b, off, none⟩ : Addr).add (j * 4)).add i = ⟨b, off + j * 4 + i, none⟩ := by
        have hadd : ∀ (o q : Nat), (⟨b, o, none⟩ : Addr).add q = ⟨b, o + q, none⟩ := by
          intro o q
          unfold Addr.add
          by_cases h0 : q = 0
          · subst h0; simp
          · simp [h0]
        rw [hadd, hadd]
      rwa [ea] at this
set_option maxRecDepth 100000 in
theorem open_env {v : Value} {d : DataW H} {p : List MemPlace} {b0 : Nat} {r : Go.Reach} (hv : Value.okWide Tryz.prog w r b0 26 v) (h : DataW.Trod enc Tryz.prog w base spare true 26 v d p) :
    ∃ sa sn sc ca cn cc, v = .agg #[.slice sa sn sc, .slice ca cn cc] ∧ ∃ S C, EnvAt w sa sn ca cn S C := by
  obtain ⟨f0, f1, hs, t0, t1, hone⟩ := envFields
  obtain ⟨cs, rfl, hsz⟩ := okWide_struct hs hv
  rw [TA.cellsEnv] at hsz
  obtain ⟨fuel, hf⟩ := h
  obtain ⟨y0, y1, m, _, _, h0, h1⟩ := trod_struct2 hs hf
  obtain ⟨o0, k0⟩ := hone_of hone 0 f0 rfl
  obtain ⟨o1, k1⟩ := hone_of hone 1 f1 rfl
  obtain ⟨l⟩ := cs
  match l, hsz with
  | [v0, v1], _ =>
    rw [o0, k0, t0] at h0
    rw [o1, k1, t1] at h1
    have e0 : (((Value.agg #[v0, v1]).cells.toList).drop 0).take 1 = [v0] := rfl
    have e1 : (((Value.agg #[v0, v1]).cells.toList).drop 1).take 1 = [v1] := rfl
    rw [e0] at h0
    rw [e1] at h1
    obtain ⟨sa, sn, sc, rfl⟩ : ∃ a n c, v0 = .slice a n c := by
      rcases open_slice Tryz.underlying23 h0 with ⟨hcs, _⟩ | ⟨ad, len, cap, _, _, _, _, hcs, _⟩
      · exact ⟨_, _, _, by simpa using hcs⟩
      · exact ⟨_, _, _, by simpa using hcs⟩
    obtain ⟨ca, cn, cc, rfl⟩ : ∃ a n c, v1 = .slice a n c := by
      rcases open_slice Tryz.underlying24 h1 with ⟨hcs, _⟩ | ⟨ad, len, cap, _, _, _, _, hcs, _⟩
      · exact ⟨_, _, _, by simpa using hcs⟩
      · exact ⟨_, _, _, by simpa using hcs⟩
    obtain ⟨S, hS⟩ := open_nums h0
    obtain ⟨C, hC⟩ := open_cells h1
    exact ⟨sa, sn, sc, ca, cn, cc, rfl, S, C, hS, hC⟩
end
end Go.Proofs.YtgkjdmojbndicaaGreatDoor
