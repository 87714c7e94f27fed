/-
  Layer 3: an environment in memory; contracts of Env's Sym, of Cell's where, of firstCells and of the closure that finds cells.
-/
import Derived.Test.YtjhmbbioplhcgaaGreatDoorVMath
import Derived.Test.YtjhmbbioplhcgaaGreatDoorTRow
namespace Go.Proofs.YtjhmbbioplhcgaaGreatDoor
open Go Go.RowKit Go.ChangeMaps Go.MapKept Go.WideMaps
open Go.Maps (Keyed)

def Cl.cells (c : Cl) : List Value := [.int .i64 c.a, .int .i64 c.v, .int .i64 c.t, .int .i64 c.n]
/-- A slice of cells of an environment. -/
structure CellsAt (w : World) (la : Option Addr) (n : Nat) (cs : List Cl) : Prop where
  len : cs.length = n
  ok : ∀ c ∈ cs, c.Ok
  at_ : 0 < n → ∃ b off, la = some ⟨b, off, none⟩ ∧ ∀ j c, cs[j]? = some c → ∀ i v, c.cells[i]? = some v → w.cell? ⟨b, off + j * 4 + i, none⟩ = some v
theorem CellsAt.kept {w w' : World} {la : Option Addr} {n : Nat} {cs : List Cl} (h : CellsAt w la n cs) (k : Kept w w') : CellsAt w' la n cs :=
  ⟨h.len, h.ok, fun hn => by
    obtain ⟨b, off, hl, hc⟩ := h.at_ hn
    exact ⟨b, off, hl, fun j c hd i v hv => k.cell (hc j c hd i v hv)⟩⟩
/-- An environment: its slices, and what they hold. -/
structure EnvAt (w : World) (sa : Option Addr) (sn : Nat) (ca : Option Addr) (cn : Nat) (S : List Int) (C : List Cl) : Prop where
  syms : RootsAt w sa sn S
  cells : CellsAt w ca cn C
theorem EnvAt.kept {w w' : World} {sa ca : Option Addr} {sn cn : Nat} {S : List Int} {C : List Cl} (h : EnvAt w sa sn ca cn S C) (k : Kept w w') : EnvAt w' sa sn ca cn S C := ⟨h.syms.kept k, h.cells.kept k⟩

set_option maxHeartbeats 1000000 in
theorem sym_any {sa ca : Option Addr} {sn sc cn cc : Nat} {S : List Int} {w : World} (hS : RootsAt w sa sn S) (hn : sn ≤ 100000) (k : Int) (hk : InR k) :
    Calls Tryz.prog 11 #[.agg #[.slice sa sn sc, .slice ca cn cc], .int .i64 k] w fun e w' => e = .returned (.int .i64 (symI S k)) ∧ Kept w w' := by
  have HQ := Lib.hid ((Kept.refl w).alloc (.cells #[.slice sa sn sc, .slice ca cn cc] 26))
  have hlen := hS.len
  by_cases h0 : k < 0
  · have E : Hid (symI S k = 0) := symI_none (Or.inl h0)
    have d0 : decide (k < 0) = true := decide_eq_true h0
    clear hS hlen hk
    go_enter Tryz.func11, Tryz.ntmps11
    go_wp2
    go_ret
    exact ⟨ret_i E.out.symm, HQ.out⟩
  · have d0 : decide (k < 0) = false := decide_eq_false h0
    obtain ⟨j, rfl⟩ : ∃ j : Nat, k = j := ⟨k.toNat, by omega⟩
    have j0 : (0 : Int) ≤ (j : Int) := Int.natCast_nonneg _
    by_cases h1 : j < sn
    · have d1 : decide ((sn : Int) ≤ (j : Int)) = false := decide_eq_false (by omega)
      have j1 : (j : Int) < (sn : Int) := by omega
      obtain ⟨b, off, rfl, hc⟩ := hS.at_ (by omega)
      obtain ⟨x, hx⟩ : ∃ x, S[j]? = some x := ⟨_, List.getElem?_eq_getElem (by omega)⟩
      have x0 := hc j x hx
      have hb : b < w.heap.size := World.block_lt_of_cell? w _ x0
      have hne : b ≠ w.heap.size := Nat.ne_of_lt hb
      have E : Hid (symI S (j : Int) = x) := symI_some hx
      clear hc hx hS hlen hk
      go_enter Tryz.func11, Tryz.ntmps11
      go_wp2
      go_ret
      exact ⟨ret_i E.out.symm, HQ.out⟩
    · have d1 : decide ((sn : Int) ≤ (j : Int)) = true := decide_eq_true (by omega)
      have j1 : (sn : Int) ≤ (j : Int) := by omega
      have E : Hid (symI S (j : Int) = 0) := symI_none (Or.inr (by omega))
      clear hS hlen hk
      go_enter Tryz.func11, Tryz.ntmps11
      go_wp2
      go_ret
      exact ⟨ret_i E.out.symm, HQ.out⟩

set_option maxHeartbeats 1000000 in
theorem where_any (a v t n : Int) (w : World) :
    Calls Tryz.prog 26 #[.agg #[.int .i64 a, .int .i64 v, .int .i64 t, .int .i64 n]] w fun e w' => e = .returned (.agg #[.int .i64 a, .int .i64 v, .int .i64 t]) ∧ Kept w w' := by
  go_enter Tryz.func26, Tryz.ntmps26
  go_wp2
  exact bodyPost_ret (v := .agg #[.int .i64 a, .int .i64 v, .int .i64 t]) (by simp [results, Tryz.results26, go_sem]) rfl ⟨rfl, ((Kept.refl w).alloc _).alloc _⟩

/-! ### The map of cells -/
theorem TA.rowSpot : (73 : TypeId) < Tryz.prog.types.size := of_decide_eq_true (by kernel_rfl)
theorem TA.keySpot : Tryz.prog.keyTypeAt 3 73 = true := by kernel_rfl
theorem TA.keySpotT : Tryz.prog.keyType 73 = true := by kernel_rfl
theorem TA.cellsSpot : Tryz.prog.cellsOf 73 = 3 := by kernel_rfl
theorem lawSpot : Keyed Tryz.prog 73 := Maps.Keyed.of_law (by
  have h3 : 3 + 1 ≤ 10000 := by omega
  refine deep_law_laid TA.laidOut h3 TA.rowSpot TA.keySpot ?_
  rw [Tryz.underlying73])
def spotV (a v t : Int) : Value := .agg #[.int .i64 a, .int .i64 v, .int .i64 t]
def spotLit (a v t : Int) : Lit := .string (keyBytes [.int .i64 a, .int .i64 v, .int .i64 t])
theorem keyOf_spot {a v t : Int} (ha : InR a) (hv : InR v) (ht : InR t) : keyOf Tryz.prog 73 (spotV a v t) = some (spotLit a v t) := by
  obtain ⟨m, hm⟩ := typesSize
  have w1 := wf_i64 ha; have w2 := wf_i64 hv; have w3 := wf_i64 ht
  have f : (spotV a v t).formed Tryz.prog 73 = true := by
    simp [spotV, Value.formed, Tryz.underlying73, TA.cellsSpot]
  simp only [keyOf, Tryz.underlying73, TA.keySpotT, f, Bool.and_self, if_true, hm]
  simp [Program.keyLits, Tryz.underlying73, TA.cellsSpot, TA.cellsI64, TA.cellsInt, spotV, Value.cells, Tryz.underlying2, Tryz.underlying3, w1, w2, w3, spotLit]
theorem spotLit_inj {a v t a' v' t' : Int} (ha : InR a) (hv : InR v) (ht : InR t) (ha' : InR a') (hv' : InR v') (ht' : InR t') (h : spotLit a v t = spotLit a' v' t') : a = a' ∧ v = v' ∧ t = t' := by
  have hh : spotV a v t = spotV a' v' t' := lawSpot.inj (keyOf_spot ha hv ht) (h ▸ keyOf_spot ha' hv' ht')
  simp [spotV] at hh
  exact hh
theorem isKey_spot (a v t : Int) : WideAt.IsKeyLit (spotLit a v t) := trivial
/-- A map that reads as the first of the cells of each place. -/
structure FirstIs (D : DataW Unit) (C : List Cl) : Prop where
  map : Maps.IsMap D
  has : ∀ a v t, InR a → InR v → InR t → Maps.has D (spotLit a v t) = hasC C a v t
  at_ : ∀ a v t, InR a → InR v → InR t → D.atKey (spotLit a v t) (.lit (.int .i64 0)) = .lit (.int .i64 (cellI C a v t))
theorem FirstIs.nil : FirstIs (.map []) [] := ⟨Maps.isMap_empty, fun _ _ _ _ _ _ => rfl, fun _ _ _ _ _ _ => rfl⟩
theorem FirstIs.old {D : DataW Unit} {C : List Cl} {c : Cl} (h : FirstIs D C) (hh : hasC C c.a c.v c.t = true) : FirstIs D (C ++ [c]) := by
  refine ⟨h.map, fun a v t ha hv ht => ?_, fun a v t ha hv ht => ?_⟩
  · rw [h.has a v t ha hv ht, hasC_append]
    cases h1 : hasC C a v t with
    | true => rfl
    | false =>
      have : c.is a v t = false := by
        cases h2 : c.is a v t with
        | false => rfl
        | true =>
          obtain ⟨rfl, rfl, rfl⟩ := (c.is_iff a v t).1 h2
          rw [hh] at h1; cases h1
      simp [hasC, this]
  · rw [h.at_ a v t ha hv ht, cellI_append]
    cases h1 : hasC C a v t with
    | true => rfl
    | false =>
      have : c.is a v t = false := by
        cases h2 : c.is a v t with
        | false => rfl
        | true =>
          obtain ⟨rfl, rfl, rfl⟩ := (c.is_iff a v t).1 h2
          rw [hh] at h1; cases h1
      rw [cellI_none h1]
      simp [cellI, this]
theorem FirstIs.new {D : DataW Unit} {C : List Cl} {c : Cl} (h : FirstIs D C) (hc : c.Ok) (hh : hasC C c.a c.v c.t = false) : FirstIs (D.put (spotLit c.a c.v c.t) (.lit (.int .i64 c.n))) (C ++ [c]) := by
  obtain ⟨c1, c2, c3, c4⟩ := hc
  refine ⟨h.map.put _ _, fun a v t ha hv ht => ?_, fun a v t ha hv ht => ?_⟩
  · rw [hasC_append]
    by_cases he : c.is a v t = true
    · obtain ⟨rfl, rfl, rfl⟩ := (c.is_iff a v t).1 he
      rw [Maps.has_put_same h.map (isKey_spot _ _ _)]
      simp [hasC, he]
    · rw [Maps.has_put_other (fun e => he ((c.is_iff a v t).2 (by obtain ⟨e1, e2, e3⟩ := spotLit_inj ha hv ht c1 c2 c3 e; exact ⟨e1.symm, e2.symm, e3.symm⟩))), h.has a v t ha hv ht]
      simp [hasC, he]
  · rw [cellI_append]
    by_cases he : c.is a v t = true
    · obtain ⟨rfl, rfl, rfl⟩ := (c.is_iff a v t).1 he
      rw [Maps.atKey_put_same h.map (isKey_spot _ _ _), hh]
      simp [cellI, he]
    · rw [Maps.atKey_put_other (fun e => he ((c.is_iff a v t).2 (by obtain ⟨e1, e2, e3⟩ := spotLit_inj ha hv ht c1 c2 c3 e; exact ⟨e1.symm, e2.symm, e3.symm⟩))), h.at_ a v t ha hv ht]
      cases h1 : hasC C a v t with
      | true => rfl
      | false =>
        rw [cellI_none h1]
        simp [cellI, he]
theorem zeroI64 (w : World) : (zeroValue 2).run Tryz.prog w = .ok (.int .i64 0) w := by kernel_rfl
theorem first_look {D : DataW Unit} {C : List Cl} {w : World} {ms n : Nat} (h : w.ownsMap Tryz.prog 73 (plainElem Tryz.prog 2) ms n D) (hF : FirstIs D C) {a v t : Int} (ha : InR a) (hv : InR v) (ht : InR t) :
    (Instr.lookup 119 (.map (some ms)) (spotV a v t) false).run Tryz.prog w = .ok (.int .i64 (cellI C a v t)) w := by
  obtain ⟨c, hrun, hat, _⟩ := h.lookup_int lawSpot Tryz.underlying119 Tryz.underlying2 (zeroI64 w) (keyOf_spot ha hv ht)
  rw [hF.at_ a v t ha hv ht] at hat
  have : cellI C a v t = c := by simpa using hat
  rw [this]; exact hrun
theorem first_look_ok {D : DataW Unit} {C : List Cl} {w : World} {ms n : Nat} (h : w.ownsMap Tryz.prog 73 (plainElem Tryz.prog 2) ms n D) (hF : FirstIs D C) {a v t : Int} (ha : InR a) (hv : InR v) (ht : InR t) :
    (Instr.lookup 119 (.map (some ms)) (spotV a v t) true).run Tryz.prog w = .ok (.tuple #[.int .i64 (cellI C a v t), .bool (hasC C a v t)]) w := by
  have hzr : plainElem (H := Unit) Tryz.prog 2 (.int .i64 0) = some (.lit (.int .i64 0), []) := plainElem_int Tryz.underlying2 (by decide)
  obtain ⟨x, ps, hrun, hR⟩ := h.look_ok lawSpot Tryz.underlying119 (zeroI64 w) hzr (keyOf_spot ha hv ht)
  obtain ⟨c, rfl, hx, _⟩ := plainElem_int_inv Tryz.underlying2 hR
  rw [hF.has a v t ha hv ht] at hrun
  have hx1 : D.atKey (spotLit a v t) (.lit (.int .i64 0)) = .lit (.int .i64 c) := congrArg Prod.fst hx
  rw [hF.at_ a v t ha hv ht] at hx1
  have : cellI C a v t = c := by simpa using hx1
  rw [this]; exact hrun
end Go.Proofs.YtjhmbbioplhcgaaGreatDoor
