/-
  Several texts in one: VEnv: Layer 3: an environment in memory; contracts of Env's Sym, of Cell's where, of firstCells and of the closure that finds cells.; VFirst: Layer 3: contracts of firstCells and of the closure that finds cells.; VReckon: Layer 3: contracts of the closure that finds cells, and of the one that reckons a node's value.; VAll: Layer 3: contracts of cellFinder, reckoner, All and Of.; VAllY: Layer 3: contracts of All and Of..
-/
import Derived.Test.YtgkjdmojbndicaaGreatDoorMC
import Derived.Test.YtgkjdmojbndicaaGreatDoorMG
import Derived.Test.YtgkjdmojbndicaaGreatDoorMD
namespace Go.Proofs.YtgkjdmojbndicaaGreatDoor
open Go Go.RowKit Go.ChangeMaps Go.MapKept Go.WideMaps
open Go.Maps (Keyed)

def Cl.cells (c : Cl) : List Value := [.int .i64 c.a, .int .i64 c.v, .int .i64 c.t, .int .i64 c.n]
/-- A slice of cells of an environment. -/
structure CellsAt (w : World) (la : Option Addr) (n : Nat) (cs : List Cl) : Prop where
  len : cs.length = n
  ok : ∀ c ∈ cs, c.Ok
  at_ : 0 < n → ∃ b off, la = some ⟨b, off, none⟩ ∧ ∀ j c, cs[j]? = some c → ∀ i v, c.cells[i]? = some v → w.cell? ⟨b, off + j * 4 + i, none⟩ = some v
theorem CellsAt.kept {w w' : World} {la : Option Addr} {n : Nat} {cs : List Cl} (h : CellsAt w la n cs) (k : Kept w w') : CellsAt w' la n cs :=
  ⟨h.len, h.ok, fun hn => by
    obtain ⟨b, off, hl, hc⟩ := h.at_ hn
    exact ⟨b, off, hl, fun j c hd i v hv => k.cell (hc j c hd i v hv)⟩⟩
/-- An environment: its slices, and what they hold. -/
structure EnvAt (w : World) (sa : Option Addr) (sn : Nat) (ca : Option Addr) (cn : Nat) (S : List Int) (C : List Cl) : Prop where
  syms : RootsAt w sa sn S
  cells : CellsAt w ca cn C
theorem EnvAt.kept {w w' : World} {sa ca : Option Addr} {sn cn : Nat} {S : List Int} {C : List Cl} (h : EnvAt w sa sn ca cn S C) (k : Kept w w') : EnvAt w' sa sn ca cn S C := ⟨h.syms.kept k, h.cells.kept k⟩

set_option maxHeartbeats 1000000 in
theorem sym_any {sa ca : Option Addr} {sn sc cn cc : Nat} {S : List Int} {w : World} (hS : RootsAt w sa sn S) (hn : sn ≤ 100000) (k : Int) (hk : InR k) :
    Calls Tryz.prog 119 #[.agg #[.slice sa sn sc, .slice ca cn cc], .int .i64 k] w fun e w' => e = .returned (.int .i64 (symI S k)) ∧ Kept w w' := by
  have HQ := Lib.hid ((Kept.refl w).alloc (.cells #[.slice sa sn sc, .slice ca cn cc] 26))
  have hlen := hS.len
  by_cases h0 : k < 0
  · have E : Hid (symI S k = 0) := symI_none (Or.inl h0)
    have d0 : decide (k < 0) = true := decide_eq_true h0
    clear hS hlen hk
    go_enter Tryz.func119, Tryz.ntmps119
    go_wp2
    go_ret
    exact ⟨ret_i E.out.symm, HQ.out⟩
  · have d0 : decide (k < 0) = false := decide_eq_false h0
    obtain ⟨j, rfl⟩ : ∃ j : Nat, k = j := ⟨k.toNat, by omega⟩
    have j0 : (0 : Int) ≤ (j : Int) := Int.natCast_nonneg _
    by_cases h1 : j < sn
    · have d1 : decide ((sn : Int) ≤ (j : Int)) = false := decide_eq_false (by omega)
      have j1 : (j : Int) < (sn : Int) := by omega
      obtain ⟨b, off, rfl, hc⟩ := hS.at_ (by omega)
      obtain ⟨x, hx⟩ : ∃ x, S[j]? = some x := ⟨_, List.getElem?_eq_getElem (by omega)⟩
      have x0 := hc j x hx
      have hb : b < w.heap.size := World.block_lt_of_cell? w _ x0
      have hne : b ≠ w.heap.size := Nat.ne_of_lt hb
      have E : Hid (symI S (j : Int) = x) := symI_some hx
      clear hc hx hS hlen hk
      go_enter Tryz.func119, Tryz.ntmps119
      go_wp2
      go_ret
      exact ⟨ret_i E.out.symm, HQ.out⟩
    · have d1 : decide ((sn : Int) ≤ (j : Int)) = true := decide_eq_true (by omega)
      have j1 : (sn : Int) ≤ (j : Int) := by omega
      have E : Hid (symI S (j : Int) = 0) := symI_none (Or.inr (by omega))
      clear hS hlen hk
      go_enter Tryz.func119, Tryz.ntmps119
      go_wp2
      go_ret
      exact ⟨ret_i E.out.symm, HQ.out⟩

set_option maxHeartbeats 1000000 in
theorem where_any (a v t n : Int) (w : World) :
    Calls Tryz.prog 146 #[.agg #[.int .i64 a, .int .i64 v, .int .i64 t, .int .i64 n]] w fun e w' => e = .returned (.agg #[.int .i64 a, .int .i64 v, .int .i64 t]) ∧ Kept w w' := by
  go_enter Tryz.func146, Tryz.ntmps146
  go_wp2
  exact bodyPost_ret (v := .agg #[.int .i64 a, .int .i64 v, .int .i64 t]) (by simp [results, Tryz.results146, go_sem]) rfl ⟨rfl, ((Kept.refl w).alloc _).alloc _⟩

/-! ### The map of cells -/
theorem TA.rowSpot : (139 : TypeId) < Tryz.prog.types.size := of_decide_eq_true (by kernel_rfl)
theorem TA.keySpot : Tryz.prog.keyTypeAt 3 139 = true := by kernel_rfl
theorem TA.keySpotT : Tryz.prog.keyType 139 = true := by kernel_rfl
theorem TA.cellsSpot : Tryz.prog.cellsOf 139 = 3 := by kernel_rfl
theorem lawSpot : Keyed Tryz.prog 139 := Maps.Keyed.of_law (by
  have h3 : 3 + 1 ≤ 10000 := by omega
  refine deep_law_laid TA.laidOut h3 TA.rowSpot TA.keySpot ?_
  rw [Tryz.underlying139])
def spotV (a v t : Int) : Value := .agg #[.int .i64 a, .int .i64 v, .int .i64 t]
def spotLit (a v t : Int) : Lit := .string (keyBytes [.int .i64 a, .int .i64 v, .int .i64 t])
theorem keyOf_spot {a v t : Int} (ha : InR a) (hv : InR v) (ht : InR t) : keyOf Tryz.prog 139 (spotV a v t) = some (spotLit a v t) := by
  obtain ⟨m, hm⟩ := typesSize
  have w1 := wf_i64 ha; have w2 := wf_i64 hv; have w3 := wf_i64 ht
  have f : (spotV a v t).formed Tryz.prog 139 = true := by
    simp [spotV, Value.formed, Tryz.underlying139, TA.cellsSpot]
  simp only [keyOf, Tryz.underlying139, TA.keySpotT, f, Bool.and_self, if_true, hm]
  simp [Program.keyLits, Tryz.underlying139, TA.cellsSpot, TA.cellsI64, TA.cellsInt, spotV, Value.cells, Tryz.underlying2, Tryz.underlying3, w1, w2, w3, spotLit]
theorem spotLit_inj {a v t a' v' t' : Int} (ha : InR a) (hv : InR v) (ht : InR t) (ha' : InR a') (hv' : InR v') (ht' : InR t') (h : spotLit a v t = spotLit a' v' t') : a = a' ∧ v = v' ∧ t = t' := by
  have hh : spotV a v t = spotV a' v' t' := lawSpot.inj (keyOf_spot ha hv ht) (h ▸ keyOf_spot ha' hv' ht')
  simp [spotV] at hh
  exact hh
theorem isKey_spot (a v t : Int) : WideAt.IsKeyLit (spotLit a v t) := trivial
/-- A map that reads as the first of the cells of each place. -/
structure FirstIs (D : DataW Unit) (C : List Cl) : Prop where
  map : Maps.IsMap D
  has : ∀ a v t, InR a → InR v → InR t → Maps.has D (spotLit a v t) = hasC C a v t
  at_ : ∀ a v t, InR a → InR v → InR t → D.atKey (spotLit a v t) (.lit (.int .i64 0)) = .lit (.int .i64 (cellI C a v t))
theorem FirstIs.nil : FirstIs (.map []) [] := ⟨Maps.isMap_empty, fun _ _ _ _ _ _ => rfl, fun _ _ _ _ _ _ => rfl⟩
theorem FirstIs.old {D : DataW Unit} {C : List Cl} {c : Cl} (h : FirstIs D C) (hh : hasC C c.a c.v c.t = true) : FirstIs D (C ++ [c]) := by
  refine ⟨h.map, fun a v t ha hv ht => ?_, fun a v t ha hv ht => ?_⟩
  · rw [h.has a v t ha hv ht, hasC_append]
    cases h1 : hasC C a v t with
    | true => rfl
    | false =>
      have : c.is a v t = false := by
        cases h2 : c.is a v t with
        | false => rfl
        | true =>
          obtain ⟨rfl, rfl, rfl⟩ := (c.is_iff a v t).1 h2
          rw [hh] at h1; cases h1
      simp [hasC, this]
  · rw [h.at_ a v t ha hv ht, cellI_append]
    cases h1 : hasC C a v t with
    | true => rfl
    | false =>
      have : c.is a v t = false := by
        cases h2 : c.is a v t with
        | false => rfl
        | true =>
          obtain ⟨rfl, rfl, rfl⟩ := (c.is_iff a v t).1 h2
          rw [hh] at h1; cases h1
      rw [cellI_none h1]
      simp [cellI, this]
theorem FirstIs.new {D : DataW Unit} {C : List Cl} {c : Cl} (h : FirstIs D C) (hc : c.Ok) (hh : hasC C c.a c.v c.t = false) : FirstIs (D.put (spotLit c.a c.v c.t) (.lit (.int .i64 c.n))) (C ++ [c]) := by
  obtain ⟨c1, c2, c3, c4⟩ := hc
  refine ⟨h.map.put _ _, fun a v t ha hv ht => ?_, fun a v t ha hv ht => ?_⟩
  · rw [hasC_append]
    by_cases he : c.is a v t = true
    · obtain ⟨rfl, rfl, rfl⟩ := (c.is_iff a v t).1 he
      rw [Maps.has_put_same h.map (isKey_spot _ _ _)]
      simp [hasC, he]
    · rw [Maps.has_put_other (fun e => he ((c.is_iff a v t).2 (by obtain ⟨e1, e2, e3⟩ := spotLit_inj ha hv ht c1 c2 c3 e; exact ⟨e1.symm, e2.symm, e3.symm⟩))), h.has a v t ha hv ht]
      simp [hasC, he]
  · rw [cellI_append]
    by_cases he : c.is a v t = true
    · obtain ⟨rfl, rfl, rfl⟩ := (c.is_iff a v t).1 he
      rw [Maps.atKey_put_same h.map (isKey_spot _ _ _), hh]
      simp [cellI, he]
    · rw [Maps.atKey_put_other (fun e => he ((c.is_iff a v t).2 (by obtain ⟨e1, e2, e3⟩ := spotLit_inj ha hv ht c1 c2 c3 e; exact ⟨e1.symm, e2.symm, e3.symm⟩))), h.at_ a v t ha hv ht]
      cases h1 : hasC C a v t with
      | true => rfl
      | false =>
        rw [cellI_none h1]
        simp [cellI, he]
theorem zeroI64 (w : World) : (zeroValue 2).run Tryz.prog w = .ok (.int .i64 0) w := by kernel_rfl
theorem first_look {D : DataW Unit} {C : List Cl} {w : World} {ms n : Nat} (h : w.ownsMap Tryz.prog 139 (plainElem Tryz.prog 2) ms n D) (hF : FirstIs D C) {a v t : Int} (ha : InR a) (hv : InR v) (ht : InR t) :
    (Instr.lookup 145 (.map (some ms)) (spotV a v t) false).run Tryz.prog w = .ok (.int .i64 (cellI C a v t)) w := by
  obtain ⟨c, hrun, hat, _⟩ := h.lookup_int lawSpot Tryz.underlying145 Tryz.underlying2 (zeroI64 w) (keyOf_spot ha hv ht)
  rw [hF.at_ a v t ha hv ht] at hat
  have : cellI C a v t = c := by simpa using hat
  rw [this]; exact hrun
theorem first_look_ok {D : DataW Unit} {C : List Cl} {w : World} {ms n : Nat} (h : w.ownsMap Tryz.prog 139 (plainElem Tryz.prog 2) ms n D) (hF : FirstIs D C) {a v t : Int} (ha : InR a) (hv : InR v) (ht : InR t) :
    (Instr.lookup 145 (.map (some ms)) (spotV a v t) true).run Tryz.prog w = .ok (.tuple #[.int .i64 (cellI C a v t), .bool (hasC C a v t)]) w := by
  have hzr : plainElem (H := Unit) Tryz.prog 2 (.int .i64 0) = some (.lit (.int .i64 0), []) := plainElem_int Tryz.underlying2 (by decide)
  obtain ⟨x, ps, hrun, hR⟩ := h.look_ok lawSpot Tryz.underlying145 (zeroI64 w) hzr (keyOf_spot ha hv ht)
  obtain ⟨c, rfl, hx, _⟩ := plainElem_int_inv Tryz.underlying2 hR
  rw [hF.has a v t ha hv ht] at hrun
  have hx1 : D.atKey (spotLit a v t) (.lit (.int .i64 0)) = .lit (.int .i64 c) := congrArg Prod.fst hx
  rw [hF.at_ a v t ha hv ht] at hx1
  have : cellI C a v t = c := by simpa using hx1
  rw [this]; exact hrun
end Go.Proofs.YtgkjdmojbndicaaGreatDoor

namespace Go.Proofs.YtgkjdmojbndicaaGreatDoor
open Go Go.RowKit Go.ChangeMaps Go.MapKept Go.WideMaps
open Go.Maps (Keyed)

theorem run_makeMap_hint {t k e : TypeId} (hu : Tryz.prog.underlying t = some (.map k e)) (n : Int) (w : World) : (Instr.makeMap t (some (.int .i64 n))).run Tryz.prog w = .ok (.map (some w.heap.size)) (w.alloc (.map #[] 0)) := by
  simp [Instr.makeMap, run_underlying hu, asInt, asIntOf, Result.andThen]

/-- The map of the first cells, in memory. -/
def FirstAt (N : Nat) (w : World) (ms : Nat) (C : List Cl) : Prop := N ≤ ms ∧ ∃ n D, w.ownsMap Tryz.prog 139 (plainElem Tryz.prog 2) ms n D ∧ n ≤ C.length ∧ FirstIs D C
theorem FirstAt.kept {N ms : Nat} {w w' : World} {C : List Cl} (h : FirstAt N w ms C) (k : Kept w w') : FirstAt N w' ms C := by
  obtain ⟨h0, n, D, h1, h2, h3⟩ := h
  exact ⟨h0, n, D, ownsMap_block h1 (k.block ms h1.lt), h2, h3⟩
theorem FirstAt.block {N ms : Nat} {w w' : World} {C : List Cl} (h : FirstAt N w ms C) (k : w'.heap[ms]? = w.heap[ms]?) : FirstAt N w' ms C := by
  obtain ⟨h0, n, D, h1, h2, h3⟩ := h
  exact ⟨h0, n, D, ownsMap_block h1 k, h2, h3⟩
theorem FirstAt.lt {N ms : Nat} {w : World} {C : List Cl} (h : FirstAt N w ms C) : ms < w.heap.size := by
  obtain ⟨h0, n, D, h1, h2, h3⟩ := h
  exact h1.lt
theorem FirstAt.look {N ms : Nat} {w : World} {C : List Cl} (h : FirstAt N w ms C) {a v t : Int} (ha : InR a) (hv : InR v) (ht : InR t) :
    (Instr.lookup 145 (.map (some ms)) (.agg #[.int .i64 a, .int .i64 v, .int .i64 t]) false).run Tryz.prog w = .ok (.int .i64 (cellI C a v t)) w := by
  obtain ⟨h0, n, D, h1, h2, h3⟩ := h
  exact first_look h1 h3 ha hv ht

def cellObj (c : Cl) : Obj := .cells #[.int .i64 c.a, .int .i64 c.v, .int .i64 c.t, .int .i64 c.n] 69
theorem cbox_facts {W w : World} {b : Nat} {c : Cl} (h : W.heap[b]? = some (cellObj c)) (hk : Kept W w) :
    w.cell? ⟨b, 0, none⟩ = some (.int .i64 c.a) ∧ w.cell? ⟨b, 1, none⟩ = some (.int .i64 c.v) ∧ w.cell? ⟨b, 2, none⟩ = some (.int .i64 c.t) ∧ w.cell? ⟨b, 3, none⟩ = some (.int .i64 c.n) := by
  have h1 := hk.row h
  refine ⟨?_, ?_, ?_, ?_⟩ <;> (rw [cell_of_row _ _ _ _ _ _ h1]; rfl)

set_option maxRecDepth 100000 in
set_option maxHeartbeats 8000000 in
theorem first_any {sa ca : Option Addr} {sn sc cn cc : Nat} {C : List Cl} {w : World} (hC : CellsAt w ca cn C) (hn : cn ≤ 100000) :
    Calls Tryz.prog 129 #[.agg #[.slice sa sn sc, .slice ca cn cc]] w fun e w' => ∃ ms, e = .returned (.map (some ms)) ∧ FirstAt w.heap.size w' ms C ∧ Kept w w' := by
  have HC := Lib.hid hC; clear hC
  have hmm := fun (w : World) => run_makeMap_hint Tryz.underlying145 (cn : Int) w
  have HBX := Lib.hid ((MapKept.heap_alloc w (.cells #[.slice sa sn sc, .slice ca cn cc] 26)).1)
  have HK0 := Lib.hid (((Kept.refl w).alloc (.cells #[.slice sa sn sc, .slice ca cn cc] 26)).alloc (.map #[] 0))
  have HM0 := Lib.hid (World.ownsMap_made (w.alloc (.cells #[.slice sa sn sc, .slice ca cn cc] 26)) Tryz.prog 139 (plainElem (H := Unit) Tryz.prog 2))
  have hsz : (w.alloc (.cells #[.slice sa sn sc, .slice ca cn cc] 26)).heap.size = w.heap.size + 1 := by simp
  rw [hsz] at HM0
  clear hsz
  go_enter Tryz.func129, Tryz.ntmps129
  go_wp2
  clear hmm
  obtain ⟨ms, hms⟩ : ∃ ms : Nat, ms = w.heap.size + 1 := ⟨_, rfl⟩
  have HMS := Lib.hid hms
  rw [← hms] at HM0 ⊢
  clear hms
  go_loopw [15] (fun i wr => ∃ (j n : Nat) (D : DataW Unit), j ≤ cn ∧ i = .int .i64 j ∧ wr.ownsMap Tryz.prog 139 (plainElem Tryz.prog 2) ms n D ∧ n ≤ j ∧ FirstIs D (C.take j) ∧ Kept w wr) (fun i _ => cn - (intOf i).toNat)
  case atStart => exact ⟨0, 0, .map [], Nat.zero_le _, rfl, HM0.out, Nat.le_refl _, FirstIs.nil, HK0.out⟩
  case round =>
    obtain ⟨j, n, D, hj, rfl, hM, hnj, hF, hK⟩ := hrel
    have HM := Lib.hid hM; have HF := Lib.hid hF; have HK := Lib.hid hK
    clear hM hF hK
    have j0 : (0 : Int) ≤ (j : Int) := Int.natCast_nonneg _
    by_cases hjn : j < cn
    · have j1 : (j : Int) < (cn : Int) := by omega
      obtain ⟨b, off, rfl, hc⟩ := HC.out.at_ (by omega)
      have hjl : j < C.length := by rw [HC.out.len]; exact hjn
      obtain ⟨c, hcj⟩ : ∃ c, C[j]? = some c := ⟨_, List.getElem?_eq_getElem hjl⟩
      have HOK := Lib.hid (HC.out.ok c (List.mem_of_getElem? hcj))
      have HTK : Hid (C.take (j + 1) = C.take j ++ [c]) := by
        show _ = _
        rw [List.take_succ_eq_append_getElem hjl, (List.getElem?_eq_some_iff.1 hcj).2]
      have hcd := hc j c hcj
      have x0 := HK.out.cell (hcd 0 _ rfl)
      have x1 := HK.out.cell (hcd 1 _ rfl)
      have x2 := HK.out.cell (hcd 2 _ rfl)
      have x3 := HK.out.cell (hcd 3 _ rfl)
      simp only [Nat.add_zero] at x0
      clear hc hcd hcj hjl
      go_upto_region 5 with (fail)
      have HBN := Lib.hid (MapKept.heap_alloc wr (cellObj c)).1
      have HK1 := Lib.hid ((Kept.refl wr).alloc (cellObj c))
      change Code.wp _ _ _ _ (wr.alloc (cellObj c))
      generalize wr.alloc (cellObj c) = w1 at *
      generalize wr.heap.size = bn at *
      clear x0 x1 x2 x3
      obtain ⟨y0, y1, y2, y3⟩ := cbox_facts HBN.out (Kept.refl w1)
      have HLK : Hid (∀ w', Kept w1 w' → (Instr.lookup 145 (.map (some ms)) (.agg #[.int .i64 c.a, .int .i64 c.v, .int .i64 c.t]) true).run Tryz.prog w' = .ok (.tuple #[.int .i64 (cellI (C.take j) c.a c.v c.t), .bool (hasC (C.take j) c.a c.v c.t)]) w') := fun w' hk =>
        first_look_ok (ownsMap_block HM.out ((HK1.out.trans hk).block ms HM.out.lt)) HF.out HOK.out.1 HOK.out.2.1 HOK.out.2.2.1
      cases hh : hasC (C.take j) c.a c.v c.t with
      | true =>
        rw [hh] at HLK
        have HH := Lib.hid hh; clear hh
        go_wp2_with fail
        refine (where_any c.a c.v c.t c.n w1).mono ?_
        rintro e w2 ⟨rfl, hk2⟩
        have l0 := HLK.out w2 hk2
        have HK2 := Lib.hid (HK1.out.trans hk2); clear hk2
        go_wp2
        go_roundw
        case rel =>
          refine ⟨j + 1, n, D, by omega, by go_num, ownsMap_block HM.out (HK2.out.block ms HM.out.lt), by omega, ?_, HK.out.trans HK2.out⟩
          rw [HTK.out]
          exact HF.out.old HH.out
        case measure => simp [intOf]; omega
      | false =>
        rw [hh] at HLK
        have HH := Lib.hid hh; clear hh
        go_wp2_with fail
        refine (where_any c.a c.v c.t c.n w1).mono ?_
        rintro e w2 ⟨rfl, hk2⟩
        have l0 := HLK.out w2 hk2
        have HK2 := Lib.hid (HK1.out.trans hk2)
        have HB2 := Lib.hid (hk2.row HBN.out); clear hk2
        go_upto_region 7 with (fail)
        clear l0 y0 y1 y2 y3
        have HM2 := Lib.hid (ownsMap_block HM.out (HK2.out.block ms HM.out.lt))
        have HNE : Hid (bn ≠ ms) := by
          rintro rfl
          obtain ⟨es, clock, hb, _⟩ := HM2.out
          rw [HB2.out] at hb; cases hb
        have SK : Hid (∀ w', Turned (fun q => q = ms) w2 w' → Turned (fun q => q = ms) w2 w' ∧ w'.cell? ⟨bn, 0, none⟩ = some (.int .i64 c.a) ∧ w'.cell? ⟨bn, 1, none⟩ = some (.int .i64 c.v) ∧ w'.cell? ⟨bn, 2, none⟩ = some (.int .i64 c.t) ∧ w'.cell? ⟨bn, 3, none⟩ = some (.int .i64 c.n)) := fun w' hk =>
          ⟨hk, cbox_facts ((hk.block bn (Array.getElem?_eq_some_iff.1 HB2.out).1 HNE.out).trans HB2.out) (Kept.refl w')⟩
        go_region_held3 (fun w' => Turned (fun q => q = ms) w2 w' ∧ w'.cell? ⟨bn, 0, none⟩ = some (.int .i64 c.a) ∧ w'.cell? ⟨bn, 1, none⟩ = some (.int .i64 c.v) ∧ w'.cell? ⟨bn, 2, none⟩ = some (.int .i64 c.t) ∧ w'.cell? ⟨bn, 3, none⟩ = some (.int .i64 c.n))
          (first | exact SK.out _ (Turned.refl _ _) | exact SK.out _ ((Kept.drew (Kept.refl _)).turned _) | assumption | exact SK.out _ (by assumption))
          ((go_at_call 146; refine (where_any c.a c.v c.t c.n _).mono ?_; rintro e w7 ⟨rfl, hk7⟩; have HK7 := Lib.hid (Kept.trans (Kept.drew (Kept.refl w2)) hk7); have ht7 := HK7.out.turned (fun q => q = ms); obtain ⟨w8, hrun, hmap8, hgrow8⟩ := (ownsMap_block HM2.out (HK7.out.block ms HM2.out.lt)).update lawSpot Tryz.underlying145 (by unfold maxLen; omega) (keyOf_spot HOK.out.1 HOK.out.2.1 HOK.out.2.2.1) (plainElem_int Tryz.underlying2 (wf_i64 HOK.out.2.2.2)); have ht8 := ht7.trans (Turned.grown (T := fun q => q = ms) hgrow8 (fun k hk => by simpa using hk.symm)); have HT8 := Lib.hid ht8; have HMP := Lib.hid hmap8; have HGR := Lib.hid hgrow8; clear hmap8 hgrow8; simp only [spotV] at hrun))
        all_goals
          have HKE : Hid (Kept w w8) := by
            have h1 := HK.out.trans (HK2.out)
            have hmw : w.heap.size ≤ ms := by have := HMS.out; omega
            exact ⟨HT8.out.os.trans h1.os, HT8.out.tape.trans h1.tape, HT8.out.output.trans h1.output, Nat.le_trans h1.size HT8.out.size, fun q hq => (HT8.out.block q (Nat.lt_of_lt_of_le hq h1.size) (by omega)).trans (h1.block q hq)⟩
          clear ht7 ht8 hrun
          go_wp2
          go_roundw
          case rel =>
            refine ⟨j + 1, n + 1, _, by omega, by go_num, HMP.out, by omega, ?_, HKE.out⟩
            rw [HTK.out]
            exact HF.out.new HOK.out HH.out
          case measure => simp [intOf]; omega
    · obtain rfl : j = cn := by omega
      go_wp2
      go_ret
      refine ⟨ms, rfl, ⟨by rw [HMS.out]; omega, n, D, HM.out, by rw [HC.out.len]; exact hnj, ?_⟩, HK.out⟩
      have h1 := HF.out
      rwa [← HC.out.len, List.take_length] at h1
end Go.Proofs.YtgkjdmojbndicaaGreatDoor

namespace Go.Proofs.YtgkjdmojbndicaaGreatDoor
open Go Go.RowKit Go.ChangeMaps Go.MapKept Go.WideMaps
open Go.Maps (Keyed)

/-- The environment's two slices, as they stand. -/
structure Sl where
  sa : Option Addr
  sn : Nat
  sc : Nat
  ca : Option Addr
  cn : Nat
  cc : Nat
def Sl.cells (s : Sl) : Array Value := #[.slice s.sa s.sn s.sc, .slice s.ca s.cn s.cc]
/-- What the closure that finds cells has captured: the map's variable, the environment. -/
structure FindAt (N : Nat) (w : World) (bf be : Nat) (s : Sl) (C : List Cl) : Prop where
  env : w.heap[be]? = some (.cells #[.slice s.sa s.sn s.sc, .slice s.ca s.cn s.cc] 26 (0, 0))
  first : w.heap[bf]? = some (.cells #[.map none] 145 (0, 0)) ∨ ∃ ms, w.heap[bf]? = some (.cells #[.map (some ms)] 145 (0, 0)) ∧ FirstAt N w ms C
  cells : CellsAt w s.ca s.cn C
  few : s.cn ≤ 100000
  ne : bf ≠ be
  low : N ≤ bf ∧ N ≤ be
  slow : 0 < s.cn → ∀ q, s.ca = some q → q.block < N
section
variable {N bf be : Nat} {s : Sl} {C : List Cl} {w w' : World}
theorem CellsAt.turned {T : Nat → Prop} {la : Option Addr} {n : Nat} {cs : List Cl} (h : CellsAt w la n cs) (k : Turned T w w') (hT : 0 < n → ∀ q, la = some q → ¬ T q.block) : CellsAt w' la n cs :=
  ⟨h.len, h.ok, fun hn => by
    obtain ⟨b, off, hl, hc⟩ := h.at_ hn
    exact ⟨b, off, hl, fun j c hd i v hv => k.cell (hc j c hd i v hv) (by have := hT hn _ hl; exact this)⟩⟩
/-- It stays where nothing of what was made behind N has turned. -/
theorem FindAt.turned {T : Nat → Prop} (h : FindAt N w bf be s C) (k : Turned T w w') (hT : ∀ q, N ≤ q → ¬ T q) (hS : 0 < s.cn → ∀ q, s.ca = some q → ¬ T q.block) : FindAt N w' bf be s C := by
  refine ⟨(k.block be (Array.getElem?_eq_some_iff.1 h.env).1 (hT _ h.low.2)).trans h.env, ?_, h.cells.turned k hS, h.few, h.ne, h.low, h.slow⟩
  rcases h.first with h1 | ⟨ms, h1, h2⟩
  · exact Or.inl ((k.block bf (Array.getElem?_eq_some_iff.1 h1).1 (hT _ h.low.1)).trans h1)
  · exact Or.inr ⟨ms, (k.block bf (Array.getElem?_eq_some_iff.1 h1).1 (hT _ h.low.1)).trans h1, h2.block (k.block ms h2.lt (hT _ h2.1))⟩
theorem FindAt.kept (h : FindAt N w bf be s C) (k : Kept w w') : FindAt N w' bf be s C := h.turned (k.turned fun _ => False) (fun _ _ e => e) (fun _ _ _ e => e)
theorem FindAt.bfLt (h : FindAt N w bf be s C) : bf < w.heap.size := by
  rcases h.first with h1 | ⟨ms, h1, _⟩ <;> exact (Array.getElem?_eq_some_iff.1 h1).1
end
set_option maxHeartbeats 2000000 in
theorem find_any {N bf be : Nat} {s : Sl} {C : List Cl} {w : World} (h : FindAt N w bf be s C) (hN : N ≤ w.heap.size) {a v t : Int} (ha : InR a) (hv : InR v) (ht : InR t) :
    Calls Tryz.prog 128 #[.agg #[.int .i64 a, .int .i64 v, .int .i64 t], .pointer (some ⟨bf, 0, none⟩), .pointer (some ⟨be, 0, none⟩)] w fun e w' => e = .returned (.int .i64 (cellI C a v t)) ∧ FindAt N w' bf be s C ∧ Turned (fun q => q = bf) w w' := by
  have HH := Lib.hid h
  have HA := Lib.hid ha; have HV := Lib.hid hv; have HT := Lib.hid ht
  have hbf := h.bfLt
  have HK := Lib.hid ((Kept.refl w).alloc (.cells #[.int .i64 a, .int .i64 v, .int .i64 t] 139))
  have HBX := Lib.hid ((MapKept.heap_alloc w (.cells #[.int .i64 a, .int .i64 v, .int .i64 t] 139)).1)
  have HHW := Lib.hid (h.kept HK.out)
  have hbne : bf ≠ w.heap.size := Nat.ne_of_lt hbf
  clear h ha hv ht
  go_enter Tryz.func128, Tryz.ntmps128
  go_upto_region 1 with (fail)
  change Code.wp _ _ _ _ (w.alloc (.cells #[.int .i64 a, .int .i64 v, .int .i64 t] 139))
  generalize w.alloc (.cells #[.int .i64 a, .int .i64 v, .int .i64 t] 139) = W at *
  obtain ⟨bs, hbs⟩ : ∃ bs : Nat, bs = w.heap.size := ⟨_, rfl⟩
  rw [← hbs] at HBX hbne ⊢
  have HBS := Lib.hid hbs; clear hbs
  have e0 : W.cell? ⟨be, 0, none⟩ = some (.slice s.sa s.sn s.sc) := by rw [cell_of_row _ _ _ _ _ _ HHW.out.env]; rfl
  have e1 : W.cell? ⟨be, 1, none⟩ = some (.slice s.ca s.cn s.cc) := by rw [cell_of_row _ _ _ _ _ _ HHW.out.env]; rfl
  rcases HHW.out.first with h1 | ⟨ms, h1, h2⟩
  · have f0 : W.cell? ⟨bf, 0, none⟩ = some (.map none) := by rw [cell_of_row _ _ _ _ _ _ h1]; rfl
    have hnil := fun w => run_eql_map_nil (P := Tryz.prog) w 145 _ _ none Tryz.underlying145
    have H1 := Lib.hid h1
    clear h1
    go_wp2_with fail
    refine (first_any (sa := s.sa) (sn := s.sn) (sc := s.sc) (cc := s.cc) HHW.out.cells HHW.out.few).mono ?_
    rintro e w1 ⟨ms, rfl, hF, hk1⟩
    have HF := Lib.hid hF
    have HK1 := Lib.hid hk1
    have HB1 := Lib.hid (hk1.row HBX.out)
    clear hF hk1
    have f1 := HK1.out.cell f0
    have H11 := Lib.hid (HK1.out.row H1.out)
    have z1 : w1.frozen? ⟨bf, 0, none⟩ = false := frozen_of_row H11.out 0
    have HL : Hid (∀ w', Turned (fun q => q = bf) w1 w' → (Instr.lookup 145 (.map (some ms)) (.agg #[.int .i64 a, .int .i64 v, .int .i64 t]) false).run Tryz.prog w' = .ok (.int .i64 (cellI C a v t)) w') := fun w' hk =>
      (HF.out.block (hk.block ms HF.out.lt (fun e => by
        have h3 : ms = bf := e
        have h4 := HF.out.1
        rw [h3] at h4
        have h5 := HK.out.size
        omega))).look HA.out HV.out HT.out
    have l1 := HL.out _ (Turned.setCell (T := fun q => q = bf) w1 ⟨bf, 0, none⟩ (.map (some ms)) rfl)
    obtain ⟨x0, x1, x2⟩ : (w1.setCell ⟨bf, 0, none⟩ (.map (some ms))).cell? ⟨bs, 0, none⟩ = some (.int .i64 a) ∧ (w1.setCell ⟨bf, 0, none⟩ (.map (some ms))).cell? ⟨bs, 1, none⟩ = some (.int .i64 v) ∧ (w1.setCell ⟨bf, 0, none⟩ (.map (some ms))).cell? ⟨bs, 2, none⟩ = some (.int .i64 t) := by
      have hb : (w1.setCell ⟨bf, 0, none⟩ (.map (some ms))).heap[bs]? = some (.cells #[.int .i64 a, .int .i64 v, .int .i64 t] 139 (0, 0)) := by
        rw [Below.heap_setCell _ _ _ _ (Ne.symm hbne)]
        exact HB1.out
      refine ⟨?_, ?_, ?_⟩ <;> (rw [cell_of_row _ _ _ _ _ _ hb]; rfl)
    go_wp2
    go_ret
    have hWs := HK.out.size
    have ht := Turned.setCell (T := fun q => q = bf) w1 ⟨bf, 0, none⟩ (.map (some ms)) rfl
    have hms : ms ≠ bf := fun e => by
      have h4 := HF.out.1
      rw [e] at h4
      omega
    refine ⟨rfl, ⟨?_, Or.inr ⟨ms, setCell_row H11.out 0 _, ?_⟩, ?_, HHW.out.few, HHW.out.ne, HHW.out.low, HHW.out.slow⟩, ((HK.out.trans HK1.out).turned _).trans ht⟩
    · rw [Below.heap_setCell _ _ _ _ (Ne.symm HHW.out.ne)]
      exact HK1.out.row HHW.out.env
    · obtain ⟨h4, n, D, h5, h6, h7⟩ := HF.out
      exact ⟨by omega, n, D, ownsMap_block h5 (ht.block ms h5.lt hms), h6, h7⟩
    · refine (HHW.out.cells.kept HK1.out).turned ht fun hp q hq e => ?_
      have h4 := HHW.out.slow hp q hq
      have h5 := HHW.out.low.1
      have h6 : q.block = bf := e
      omega
  · have f0 : W.cell? ⟨bf, 0, none⟩ = some (.map (some ms)) := by rw [cell_of_row _ _ _ _ _ _ h1]; rfl
    have hnil := fun w => run_eql_map_nil (P := Tryz.prog) w 145 _ _ (some ms) Tryz.underlying145
    have l0 := h2.look HA.out HV.out HT.out
    obtain ⟨x0, x1, x2⟩ : W.cell? ⟨bs, 0, none⟩ = some (.int .i64 a) ∧ W.cell? ⟨bs, 1, none⟩ = some (.int .i64 v) ∧ W.cell? ⟨bs, 2, none⟩ = some (.int .i64 t) := by
      refine ⟨?_, ?_, ?_⟩ <;> (rw [cell_of_row _ _ _ _ _ _ HBX.out]; rfl)
    clear h1 h2
    go_wp2
    go_ret
    exact ⟨rfl, HHW.out, HK.out.turned _⟩

/-- What the closure that reckons has captured: the environment, the closure that finds cells, the map of values. -/
structure ReckAt (N : Nat) (w : World) (b2 b5 b3 bf be mv : Nat) (s : Sl) (S : List Int) (C : List Cl) : Prop where
  env : w.heap[b2]? = some (.cells #[.slice s.sa s.sn s.sc, .slice s.ca s.cn s.cc] 26 (0, 0))
  clo : w.heap[b5]? = some (.cells #[.func (Fn.func 128) #[] #[.pointer (some ⟨bf, 0, none⟩), .pointer (some ⟨be, 0, none⟩)]] 136 (0, 0))
  vals : w.heap[b3]? = some (.cells #[.map (some mv)] 116 (0, 0))
  find : FindAt N w bf be s C
  syms : RootsAt w s.sa s.sn S
  sfew : s.sn ≤ 100000
  low : N ≤ b2 ∧ N ≤ b5 ∧ N ≤ b3
  slow : 0 < s.sn → ∀ q, s.sa = some q → q.block < N
  ne : b2 ≠ bf ∧ b5 ≠ bf ∧ b3 ≠ bf
section
variable {N b2 b5 b3 bf be mv : Nat} {s : Sl} {S : List Int} {C : List Cl} {w w' : World}
theorem RootsAt.turned {T : Nat → Prop} {la : Option Addr} {n : Nat} {us : List Int} (h : RootsAt w la n us) (k : Turned T w w') (hT : 0 < n → ∀ q, la = some q → ¬ T q.block) : RootsAt w' la n us :=
  ⟨h.len, h.inr, fun hn => by
    obtain ⟨b, off, hl, hc⟩ := h.at_ hn
    exact ⟨b, off, hl, fun j x hx => k.cell (hc j x hx) (by have := hT hn _ hl; exact this)⟩⟩
theorem ReckAt.turned {T : Nat → Prop} (h : ReckAt N w b2 b5 b3 bf be mv s S C) (k : Turned T w w') (hT : ∀ q, N ≤ q → ¬ T q) (hS : 0 < s.sn → ∀ q, s.sa = some q → ¬ T q.block) (hC : 0 < s.cn → ∀ q, s.ca = some q → ¬ T q.block) : ReckAt N w' b2 b5 b3 bf be mv s S C :=
  ⟨(k.block b2 (Array.getElem?_eq_some_iff.1 h.env).1 (hT _ h.low.1)).trans h.env, (k.block b5 (Array.getElem?_eq_some_iff.1 h.clo).1 (hT _ h.low.2.1)).trans h.clo, (k.block b3 (Array.getElem?_eq_some_iff.1 h.vals).1 (hT _ h.low.2.2)).trans h.vals,
   h.find.turned k hT hC, h.syms.turned k hS, h.sfew, h.low, h.slow, h.ne⟩
theorem ReckAt.kept (h : ReckAt N w b2 b5 b3 bf be mv s S C) (k : Kept w w') : ReckAt N w' b2 b5 b3 bf be mv s S C := h.turned (k.turned fun _ => False) (fun _ _ e => e) (fun _ _ _ e => e) (fun _ _ _ e => e)
/-- Behind a call of the closure that finds cells. -/
theorem ReckAt.found (h : ReckAt N w b2 b5 b3 bf be mv s S C) (k : Turned (fun q => q = bf) w w') (hF : FindAt N w' bf be s C) : ReckAt N w' b2 b5 b3 bf be mv s S C :=
  ⟨(k.block b2 (Array.getElem?_eq_some_iff.1 h.env).1 h.ne.1).trans h.env, (k.block b5 (Array.getElem?_eq_some_iff.1 h.clo).1 h.ne.2.1).trans h.clo, (k.block b3 (Array.getElem?_eq_some_iff.1 h.vals).1 h.ne.2.2).trans h.vals,
   hF, h.syms.turned k (fun hp q hq e => by
    have h1 := h.slow hp q hq
    have h2 := h.find.low.1
    have h3 : q.block = bf := e
    omega), h.sfew, h.low, h.slow, h.ne⟩
end
/-- A node's value, when its parts' are known. -/
def valF (S : List Int) (C : List Cl) (f : Int → Int) (d : Nd) : Int :=
  if d.k = 1 then d.n else if d.k = 2 then symI S d.n else if d.k = 3 then cellI C d.a d.n (f d.y) else opI d.o (f d.x) (f d.y)
set_option maxRecDepth 100000 in
set_option maxHeartbeats 4000000 in
theorem reckon_any {N b2 b5 b3 bf be mv : Nat} {s : Sl} {S : List Int} {C : List Cl} {w : World} (h : ReckAt N w b2 b5 b3 bf be mv s S C) (hN : N ≤ w.heap.size) (d : Nd) (hd : d.Ok) (hk : d.k = 1 ∨ d.k = 2 ∨ d.k = 3 ∨ d.k = 4) (f : Int → Int) (hf : ∀ p ∈ partsOf d, InR (f p))
    (hl : ∀ w', Kept w w' → ∀ p ∈ partsOf d, (Instr.lookup 116 (.map (some mv)) (.int .i64 p) false).run Tryz.prog w' = .ok (.int .i64 (f p)) w') :
    Calls Tryz.prog 118 #[d.val, .pointer (some ⟨b2, 0, none⟩), .pointer (some ⟨b5, 0, none⟩), .pointer (some ⟨b3, 0, none⟩)] w fun e w' => e = .returned (.int .i64 (valF S C f d)) ∧ ReckAt N w' b2 b5 b3 bf be mv s S C ∧ Turned (fun q => q = bf) w w' := by
  have HK := Lib.hid ((Kept.refl w).alloc (nodeObj d))
  have HBX := Lib.hid ((MapKept.heap_alloc w (nodeObj d)).1)
  have HHW := Lib.hid (h.kept HK.out)
  have HNW := Lib.hid (Nat.le_trans hN HK.out.size)
  have HL := Lib.hid fun w' (k : Kept (w.alloc (nodeObj d)) w') => hl w' (HK.out.trans k)
  have HF := Lib.hid hf
  have HD := Lib.hid hd
  clear h hl hf hd hN
  simp only [Nd.val]
  go_enter Tryz.func118, Tryz.ntmps118
  go_upto_region 1 with (fail)
  change Code.wp _ _ _ _ (w.alloc (nodeObj d))
  generalize w.alloc (nodeObj d) = W at *
  obtain ⟨bs, hbs⟩ : ∃ bs : Nat, bs = w.heap.size := ⟨_, rfl⟩
  rw [← hbs] at HBX ⊢
  clear hbs
  obtain ⟨x0, x1, x2, x3, x4, x5⟩ := box_facts HBX.out (Kept.refl W)
  have c2 : W.cell? ⟨b2, 0, none⟩ = some (.slice s.sa s.sn s.sc) := by rw [cell_of_row _ _ _ _ _ _ HHW.out.env]; rfl
  have c3 : W.cell? ⟨b2, 1, none⟩ = some (.slice s.ca s.cn s.cc) := by rw [cell_of_row _ _ _ _ _ _ HHW.out.env]; rfl
  have c5 : W.cell? ⟨b5, 0, none⟩ = some (.func (Fn.func 128) #[] #[.pointer (some ⟨bf, 0, none⟩), .pointer (some ⟨be, 0, none⟩)]) := by rw [cell_of_row _ _ _ _ _ _ HHW.out.clo]; rfl
  have c6 : W.cell? ⟨b3, 0, none⟩ = some (.map (some mv)) := by rw [cell_of_row _ _ _ _ _ _ HHW.out.vals]; rfl
  obtain ⟨dk, dn, da, dp, dx, dy⟩ := d
  simp only at *
  rcases hk with rfl | rfl | rfl | rfl
  · go_wp2
    go_ret
    exact ⟨rfl, HHW.out, HK.out.turned _⟩
  · go_wp2_with fail
    refine (sym_any (sa := s.sa) (ca := s.ca) (sc := s.sc) (cc := s.cc) HHW.out.syms HHW.out.sfew dn HD.out.2.1).mono ?_
    rintro e w1 ⟨rfl, hk1⟩
    go_wp2
    go_ret
    exact ⟨rfl, HHW.out.kept hk1, (HK.out.trans hk1).turned _⟩
  · have l0 := HL.out W (Kept.refl W) dy (by simp [partsOf])
    have HFY := Lib.hid (HF.out dy (by simp [partsOf]))
    go_wp2_with fail
    refine (find_any HHW.out.find HNW.out HD.out.2.2.1 HD.out.2.1 HFY.out).mono ?_
    rintro e w1 ⟨rfl, hF1, hT1⟩
    have HR1 := Lib.hid (HHW.out.found hT1 hF1)
    have HT1 := Lib.hid hT1
    clear hF1 hT1 l0 x0 x1 x2 x3 x4 x5 c2 c3 c5 c6
    go_wp2
    go_ret
    exact ⟨rfl, HR1.out, (HK.out.turned _).trans HT1.out⟩
  · have l0 := HL.out W (Kept.refl W) dy (by simp [partsOf])
    have l1 := HL.out W (Kept.refl W) dx (by simp [partsOf])
    have HFY := Lib.hid (HF.out dy (by simp [partsOf]))
    have HFX := Lib.hid (HF.out dx (by simp [partsOf]))
    go_wp2_with fail
    refine (do_any dp (f dx) (f dy) W HFX.out HFY.out).mono ?_
    rintro e w1 ⟨rfl, hk1⟩
    have HK1 : Hid (Kept W w1) := hk1
    clear hk1 l0 l1 x0 x1 x2 x3 x4 x5 c2 c3 c5 c6
    go_wp2
    go_ret
    exact ⟨rfl, HHW.out.kept HK1.out, (HK.out.trans HK1.out).turned _⟩
end Go.Proofs.YtgkjdmojbndicaaGreatDoor

namespace Go.Proofs.YtgkjdmojbndicaaGreatDoor
open Go Go.RowKit Go.ChangeMaps Go.MapKept Go.WideMaps
open Go.Maps (Keyed)

set_option maxHeartbeats 1000000 in
theorem finder_any (s : Sl) (w : World) :
    Calls Tryz.prog 117 #[.agg #[.slice s.sa s.sn s.sc, .slice s.ca s.cn s.cc]] w fun e w' => e = .returned (.func (Fn.func 128) #[] #[.pointer (some ⟨w.heap.size + 1, 0, none⟩), .pointer (some ⟨w.heap.size, 0, none⟩)]) ∧
      w' = (w.alloc (.cells #[.slice s.sa s.sn s.sc, .slice s.ca s.cn s.cc] 26)).alloc (.cells #[.map none] 145) := by
  go_enter Tryz.func117, Tryz.ntmps117
  go_wp2
  go_ret
  exact ⟨rfl, rfl⟩
theorem EnvAt.low {w : World} {s : Sl} {S : List Int} {C : List Cl} (h : EnvAt w s.sa s.sn s.ca s.cn S C) : (0 < s.sn → ∀ q, s.sa = some q → q.block < w.heap.size) ∧ (0 < s.cn → ∀ q, s.ca = some q → q.block < w.heap.size) := by
  refine ⟨fun hn q hq => ?_, fun hn q hq => ?_⟩
  · obtain ⟨b, off, hl, hc⟩ := h.syms.at_ hn
    have := World.block_lt_of_cell? w _ (hc 0 (S[0]'(by rw [h.syms.len]; exact hn)) (List.getElem?_eq_getElem _))
    rw [hl] at hq
    cases hq
    exact this
  · obtain ⟨b, off, hl, hc⟩ := h.cells.at_ hn
    have := World.block_lt_of_cell? w _ (hc 0 (C[0]'(by rw [h.cells.len]; exact hn)) (List.getElem?_eq_getElem _) 0 _ rfl)
    rw [hl] at hq
    cases hq
    exact this
set_option maxHeartbeats 2000000 in
theorem reckoner_any {s : Sl} {S : List Int} {C : List Cl} {w : World} (hE : EnvAt w s.sa s.sn s.ca s.cn S C) (hs : s.sn ≤ 100000) (hc : s.cn ≤ 100000) (mv : Nat) :
    Calls Tryz.prog 67 #[.agg #[.slice s.sa s.sn s.sc, .slice s.ca s.cn s.cc], .map (some mv)] w fun e w' => ∃ b2 b5 b3 bf be, e = .returned (.func (Fn.func 118) #[] #[.pointer (some ⟨b2, 0, none⟩), .pointer (some ⟨b5, 0, none⟩), .pointer (some ⟨b3, 0, none⟩)]) ∧
      ReckAt w.heap.size w' b2 b5 b3 bf be mv s S C ∧ Kept w w' := by
  have HE := Lib.hid hE
  have HLO := Lib.hid hE.low
  clear hE
  go_enter Tryz.func67, Tryz.ntmps67
  go_wp2_with fail
  refine (finder_any s _).mono ?_
  rintro e w' ⟨rfl, rfl⟩
  go_wp2
  go_ret
  have k5 : ∀ (a : World) (o : Obj), Kept a (a.alloc o) := fun a o => (Kept.refl a).alloc o
  have hw : ∀ (a : World) (o : Obj), (a.alloc o).heap.size = a.heap.size + 1 := fun a o => by simp
  obtain ⟨E, hE⟩ : ∃ E : Obj, E = .cells #[.slice s.sa s.sn s.sc, .slice s.ca s.cn s.cc] 26 := ⟨_, rfl⟩
  obtain ⟨M, hM⟩ : ∃ M : Obj, M = .cells #[.map (some mv)] 116 := ⟨_, rfl⟩
  obtain ⟨F, hF⟩ : ∃ F : Obj, F = .cells #[.map none] 145 := ⟨_, rfl⟩
  rw [← hE, ← hM, ← hF]
  have e1 : ((w.alloc E).alloc M).heap.size = w.heap.size + 2 := by rw [hw, hw]
  have e2 : (((w.alloc E).alloc M).alloc E).heap.size = w.heap.size + 3 := by rw [hw, e1]
  have e3 : ((((w.alloc E).alloc M).alloc E).alloc F).heap.size = w.heap.size + 4 := by rw [hw, e2]
  have g1 := (MapKept.heap_alloc w E).1
  have g2 := (MapKept.heap_alloc (w.alloc E) M).1
  have g3 := (MapKept.heap_alloc ((w.alloc E).alloc M) E).1
  have g4 := (MapKept.heap_alloc (((w.alloc E).alloc M).alloc E) F).1
  rw [hw] at g2
  rw [e1] at g3
  rw [e2] at g4
  refine ⟨w.heap.size, w.heap.size + 4, w.heap.size + 1, w.heap.size + 3, w.heap.size + 2, ?_, ?_, ?_⟩
  · simp
  · obtain ⟨O, hO⟩ : ∃ O : Obj, O = .cells #[.func (Fn.func 128) #[] #[.pointer (some ⟨w.heap.size + 3, 0, none⟩), .pointer (some ⟨w.heap.size + 2, 0, none⟩)]] 136 := ⟨_, rfl⟩
    have g5 := (MapKept.heap_alloc ((((w.alloc E).alloc M).alloc E).alloc F) O).1
    rw [e3] at g5
    have kD : Kept ((((w.alloc E).alloc M).alloc E).alloc F) (((((w.alloc E).alloc M).alloc E).alloc F).alloc O) := k5 _ _
    have kC : Kept (((w.alloc E).alloc M).alloc E) (((((w.alloc E).alloc M).alloc E).alloc F).alloc O) := (k5 _ _).trans kD
    have kB : Kept ((w.alloc E).alloc M) (((((w.alloc E).alloc M).alloc E).alloc F).alloc O) := (k5 _ _).trans kC
    have kA : Kept (w.alloc E) (((((w.alloc E).alloc M).alloc E).alloc F).alloc O) := (k5 _ _).trans kB
    have kW : Kept w (((((w.alloc E).alloc M).alloc E).alloc F).alloc O) := (k5 _ _).trans kA
    have h1 := kA.row g1
    have h2 := kB.row g2
    have h3 := kC.row g3
    have h4 := kD.row g4
    have c1 := HE.out.cells.kept kW
    have c2 := HE.out.syms.kept kW
    rw [hE] at h1 h3
    rw [hM] at h2
    rw [hF] at h4
    rw [hO] at g5
    subst hE; subst hM; subst hF; subst hO
    exact ⟨h1, g5, h2, ⟨h3, Or.inl h4, c1, hc, by omega, ⟨by omega, by omega⟩, HLO.out.2⟩, c2, hs, ⟨by omega, by omega, by omega⟩, HLO.out.1, ⟨by omega, by omega, by omega⟩⟩
  · exact ((((k5 _ _).trans (k5 _ _)).trans (k5 _ _)).trans (k5 _ _)).trans (k5 _ _)
end Go.Proofs.YtgkjdmojbndicaaGreatDoor

namespace Go.Proofs.YtgkjdmojbndicaaGreatDoor
open Go Go.RowKit Go.ChangeMaps Go.MapKept Go.WideMaps
open Go.Maps (Keyed)

/-- A map that reads as a function of numbers. -/
structure ValIs (D : DataW Unit) (f : Int → Int) : Prop where
  map : Maps.IsMap D
  at_ : ∀ x, D.atKey (.int .i64 x) (.lit (.int .i64 0)) = .lit (.int .i64 (f x))
theorem ValIs.nil : ValIs (.map []) (fun _ => 0) := ⟨Maps.isMap_empty, fun _ => rfl⟩
theorem ValIs.put {D : DataW Unit} {f g : Int → Int} (h : ValIs D f) {u v : Int} (hu : g u = v) (hg : ∀ x, x ≠ u → g x = f x) : ValIs (D.put (.int .i64 u) (.lit (.int .i64 v))) g := by
  refine ⟨h.map.put _ _, fun x => ?_⟩
  by_cases e : x = u
  · subst e
    rw [Maps.atKey_put_same h.map (show WideAt.IsKeyLit (.int .i64 x) from trivial), hu]
  · rw [Maps.atKey_put_other (fun h => e (by simpa using h)), h.at_ x, hg x e]
theorem vals_look {D : DataW Unit} {f : Int → Int} {w : World} {mv n : Nat} (h : w.ownsMap Tryz.prog 35 (plainElem Tryz.prog 2) mv n D) (hV : ValIs D f) {x : Int} (hx : InR x) :
    (Instr.lookup 116 (.map (some mv)) (.int .i64 x) false).run Tryz.prog w = .ok (.int .i64 (f x)) w := by
  obtain ⟨c, hrun, hat, _⟩ := h.lookup_int lawId Tryz.underlying116 Tryz.underlying2 (zeroI64 w) (Maps.keyOf_int_mk Tryz.underlying35 (wf_i64 hx))
  rw [hV.at_ x] at hat
  have : f x = c := by simpa using hat
  rw [this]; exact hrun
/-- The values so far. -/
def soFar (S : List Int) (C : List Cl) (L : List Nd) (V : List Int) (x : Int) : Int := if memB V x then valI S C L x else 0
theorem soFar_in {S : List Int} {C : List Cl} {L : List Nd} {V : List Int} {x : Int} (h : x ∈ V) : soFar S C L V x = valI S C L x := by
  unfold soFar; rw [if_pos ((memB_iff V x).2 h)]
theorem soFar_snoc {S : List Int} {C : List Cl} {L : List Nd} {V : List Int} {u x : Int} (h : x ≠ u) : soFar S C L (V ++ [u]) x = soFar S C L V x := by
  unfold soFar
  have : memB (V ++ [u]) x = memB V x := by
    unfold memB
    rw [List.any_append]
    simp [Ne.symm h]
  rw [this]
theorem take_mem {U : List Int} (hU : U.Pairwise (· < ·)) {j : Nat} {u p : Int} (hj : U[j]? = some u) (hp : p ∈ U) (hlt : p < u) : p ∈ U.take j := by
  obtain ⟨hjl, hju⟩ := List.getElem?_eq_some_iff.1 hj
  have h1 : U = U.take j ++ u :: U.drop (j + 1) := by
    rw [← hju]
    have := List.take_append_drop j U
    rw [List.drop_eq_getElem_cons hjl] at this
    exact this.symm
  rw [h1] at hp hU
  rcases List.mem_append.1 hp with h | h
  · exact h
  · rw [List.pairwise_append] at hU
    rcases List.mem_cons.1 h with e | e
    · omega
    · have := (List.pairwise_cons.1 hU.2.1).1 p e
      omega
theorem valF_eq {S : List Int} {C : List Cl} {L : List Nd} (hG : Good L) {k : Nat} (hk : k < L.length) {f : Int → Int} (hf : ∀ p ∈ partsOf L[k], f p = valI S C L p) : valF S C f L[k] = valI S C L (k : Int) := by
  unfold partsOf at hf
  unfold valF
  rcases may_kind (hG.may k hk) with h | h | h | h
  · rw [if_pos h, valI_1 hG hk h]
  · rw [if_neg (by omega), if_pos h, valI_2 hG hk h]
  · rw [if_pos h] at hf
    rw [if_neg (by omega), if_neg (by omega), if_pos h, valI_3 hG hk h, hf _ (by simp)]
  · rw [if_neg (by omega), if_pos h] at hf
    rw [if_neg (by omega), if_neg (by omega), if_neg (by omega), valI_4 hG hk h, hf _ (by simp), hf _ (by simp)]

theorem infoI64 : (Tryz.prog.info? 2).map (fun i => (i.zero, i.size, i.bytes)) = some (some (.int .i64 0), 1, 8) := by kernel_rfl
set_option maxRecDepth 100000 in
set_option maxHeartbeats 16000000 in
theorem all_yes {B g m c : Nat} {sa : Option Addr} {L : List Nd} {w : World} (hG : GraphAt B w g m sa c L) (hlen : L.length ≤ 1000000000) {s : Sl} {S : List Int} {C : List Cl} (hE : EnvAt w s.sa s.sn s.ca s.cn S C) (hs : s.sn ≤ 100000) (hc : s.cn ≤ 100000)
    (la : Option Addr) (n lc : Nat) (ids : List Int) (hz : RootsAt w la n ids) (hn : n ≤ 100000) (hb : ∀ x ∈ ids, hasB L.length x = true) :
    Calls Tryz.prog 45 #[.pointer (some ⟨g, 0, none⟩), .agg #[.slice s.sa s.sn s.sc, .slice s.ca s.cn s.cc], .slice la n lc] w fun e w' => ∃ bt, e = .returned (.tuple #[.slice (some ⟨bt, 0, none⟩) n n, .bool true]) ∧ RootsAt w' (some ⟨bt, 0, none⟩) n (ids.map (valI S C L)) ∧ Kept w w' := by
  have HK0 := Lib.hid ((Kept.refl w).alloc (.cells #[.slice s.sa s.sn s.sc, .slice s.ca s.cn s.cc] 26))
  have HB0 := Lib.hid ((MapKept.heap_alloc w (.cells #[.slice s.sa s.sn s.sc, .slice s.ca s.cn s.cc] 26)).1)
  have HG := Lib.hid (hG.kept HK0.out)
  have HGD := Lib.hid hG.good
  have HE := Lib.hid (hE.kept HK0.out)
  have HZ := Lib.hid (hz.kept HK0.out)
  have HB := Lib.hid hb
  clear hG hE hz hb
  go_enter Tryz.func45, Tryz.ntmps45
  go_upto_region 1 with (fail)
  change Code.wp _ _ _ _ (w.alloc (.cells #[.slice s.sa s.sn s.sc, .slice s.ca s.cn s.cc] 26))
  generalize w.alloc (.cells #[.slice s.sa s.sn s.sc, .slice s.ca s.cn s.cc] 26) = W at *
  obtain ⟨b4, hb4⟩ : ∃ b4 : Nat, b4 = w.heap.size := ⟨_, rfl⟩
  rw [← hb4] at HB0 ⊢
  clear hb4
  go_wp2
  go_loopw [24] (fun i wr => ∃ j : Nat, j ≤ n ∧ i = .int .i64 j ∧ Kept W wr) (fun i _ => n - (intOf i).toNat)
  case atStart => exact ⟨0, Nat.zero_le _, rfl, Kept.refl _⟩
  case round =>
    obtain ⟨j, hj, rfl, hK⟩ := hrel
    have HK := Lib.hid hK; clear hK
    have j0 : (0 : Int) ≤ (j : Int) := Int.natCast_nonneg _
    by_cases hjn : j < n
    · have j1 : (j : Int) < (n : Int) := by omega
      obtain ⟨b, off, rfl, hcz⟩ := (HZ.out.kept HK.out).at_ (by omega)
      have hjl : j < ids.length := by rw [HZ.out.len]; exact hjn
      obtain ⟨x, hx⟩ : ∃ x, ids[j]? = some x := ⟨_, List.getElem?_eq_getElem hjl⟩
      have x0 := hcz j x hx
      have HBX := Lib.hid (HB.out x (List.mem_of_getElem? hx))
      clear hcz hx hjl
      go_wp2_with fail
      refine (node_any (HG.out.kept HK.out) x).mono ?_
      rintro e w2 ⟨rfl, hk2⟩
      rw [HBX.out]
      simp only [Nd.val]
      have HK2 := Lib.hid (HK.out.trans hk2); clear hk2
      go_wp2
      go_roundw
      case rel => exact ⟨j + 1, by omega, by go_num, HK2.out.trans ((Kept.refl _).alloc _)⟩
      case measure => simp [intOf]; omega
    · obtain rfl : j = n := by omega
      go_wp2_with fail
      refine (uses_any (HG.out.kept HK.out) hlen la j lc ids (HZ.out.kept HK.out) hn).mono ?_
      rintro e w3 ⟨a3, c3, U, rfl, hU, hrow3, hk3⟩
      have HU := Lib.hid hU
      have HUH : Hid (∀ u ∈ U, hasB L.length u = true) := fun u hu => by
        obtain ⟨r, _, hrb, hr⟩ := (hU.2 u).1 hu
        exact (hr.le HGD.out hrb).2
      have HUL : Hid (U.length ≤ 1000000000) := by
        have h5 := nodup_len L.length (U.map Int.toNat) (by
          unfold List.Nodup
          rw [List.pairwise_map]
          refine List.Pairwise.imp_of_mem (fun {a b} ha hb hab => ?_) hU.1
          have h6 := ((hasB_iff _ _).1 (HUH.out a ha)).1
          have h7 := ((hasB_iff _ _).1 (HUH.out b hb)).1
          omega) (fun x hx => by
          obtain ⟨v, hv, rfl⟩ := List.mem_map.1 hx
          obtain ⟨h6, h7⟩ := (hasB_iff _ _).1 (HUH.out v hv)
          omega)
        have h8 : U.length ≤ L.length := by simpa using h5
        show _ ≤ _
        omega
      have HUR : Hid (∀ u ∈ U, InR u) := fun u hu => has_inR (HUH.out u hu) hlen
      have HR3 : Hid (RootsAt w3 a3 U.length U) := roots_of_row hrow3 rfl HUR.out
      have HK3 := Lib.hid (HK.out.trans hk3)
      clear hU hrow3 hk3
      have hul := HUL.out
      obtain ⟨q, hq⟩ : ∃ q : Nat, q = U.length := ⟨_, rfl⟩
      have HQ := Lib.hid hq
      rw [← hq] at HR3 hul ⊢
      clear hq
      have hmm := fun (w : World) => run_makeMap_hint Tryz.underlying116 (q : Int) w
      have HM0 := Lib.hid (World.ownsMap_made w3 Tryz.prog 35 (plainElem (H := Unit) Tryz.prog 2))
      have HKM := Lib.hid ((Kept.refl w3).alloc (.map #[] 0))
      go_upto_region 10 with (fail)
      change Code.wp _ _ _ _ (w3.alloc (.map #[] 0))
      generalize w3.alloc (.map #[] 0) = w4 at *
      obtain ⟨mv, hmv⟩ : ∃ mv : Nat, mv = w3.heap.size := ⟨_, rfl⟩
      have HMV := Lib.hid hmv
      rw [← hmv] at HM0 ⊢
      clear hmv hmm
      have HK4 := Lib.hid (HK3.out.trans HKM.out)
      have e0 : w4.cell? ⟨b4, 0, none⟩ = some (.slice s.sa s.sn s.sc) := by rw [cell_of_row _ _ _ _ _ _ (HK4.out.row HB0.out)]; rfl
      have e1 : w4.cell? ⟨b4, 1, none⟩ = some (.slice s.ca s.cn s.cc) := by rw [cell_of_row _ _ _ _ _ _ (HK4.out.row HB0.out)]; rfl
      go_wp2_with fail
      refine (reckoner_any (s := s) (HE.out.kept HK4.out) hs hc mv).mono ?_
      rintro e w5 ⟨b2, b5, b3, bf, be, rfl, hR, hk5⟩
      have HR := Lib.hid hR; have HK5 := Lib.hid hk5
      clear hR hk5 e0 e1
      have HM5 : Hid (w5.ownsMap Tryz.prog 35 (plainElem Tryz.prog 2) mv 0 (.map [])) := ownsMap_block HM0.out (HK5.out.block mv HM0.out.lt)
      have HKW5 := Lib.hid (HK4.out.trans HK5.out)
      have HLOE := Lib.hid (HE.out.low)
      have hWm : Hid (W.heap.size ≤ mv) := by have h1 := HMV.out; have h2 := HK3.out.size; show _ ≤ _; omega
      go_wp2
      have HK35 := Lib.hid (HKM.out.trans HK5.out)
      go_loopw [48] (fun i wr => ∃ (t n : Nat) (D : DataW Unit), t ≤ q ∧ i = .int .i64 t ∧ wr.ownsMap Tryz.prog 35 (plainElem Tryz.prog 2) mv n D ∧ n ≤ t ∧ ValIs D (soFar S C L (U.take t)) ∧ ReckAt w4.heap.size wr b2 b5 b3 bf be mv s S C ∧ Kept w3 wr) (fun i _ => q - (intOf i).toNat)
      case atStart => exact ⟨0, 0, .map [], Nat.zero_le _, rfl, HM5.out, Nat.le_refl _, ValIs.nil, HR.out, HK35.out⟩
      case round =>
        obtain ⟨t, nt, D, ht, rfl, hM, hnt, hV, hR, hKt⟩ := hrel
        have HMT := Lib.hid hM; have HVT := Lib.hid hV; have HRT := Lib.hid hR; have HKT := Lib.hid hKt
        clear hM hV hR hKt
        have t0 : (0 : Int) ≤ (t : Int) := Int.natCast_nonneg _
        have HKWT := Lib.hid (HK3.out.trans HKT.out)
        by_cases htq : t < q
        · have t1 : (t : Int) < (q : Int) := by omega
          obtain ⟨ub, uo, rfl, hcu⟩ := (HR3.out.kept HKT.out).at_ (by omega)
          have htl : t < U.length := by have := HQ.out; omega
          obtain ⟨u, hu⟩ : ∃ u, U[t]? = some u := ⟨_, List.getElem?_eq_getElem htl⟩
          have x0 := hcu t u hu
          have hum : u ∈ U := List.mem_of_getElem? hu
          have HBU := Lib.hid (HUH.out u hum)
          have HINU := Lib.hid (HUR.out u hum)
          obtain ⟨h0, h1⟩ := (hasB_iff _ _).1 HBU.out
          obtain ⟨k, rfl⟩ : ∃ k : Nat, u = k := ⟨u.toNat, by omega⟩
          have hk : k < L.length := by omega
          obtain ⟨d, hd⟩ : ∃ d, L[k] = d := ⟨_, rfl⟩
          have HN : Hid (nodeAt L (k : Int) = d) := by
            show _ = _
            unfold nodeAt
            rw [HBU.out, Int.toNat_natCast, List.getD_eq_getElem?_getD, List.getElem?_eq_getElem hk, hd]
            rfl
          have HOK : Hid d.Ok := by rw [← hd]; exact HGD.out.ok _ (List.getElem_mem hk)
          have HKD : Hid (d.k = 1 ∨ d.k = 2 ∨ d.k = 3 ∨ d.k = 4) := by rw [← hd]; exact may_kind (HGD.out.may k hk)
          have HPT : Hid (∀ p ∈ partsOf d, p ∈ U.take t ∧ InR p) := fun p hp => by
            have hp' : p ∈ partsOf (ndAt L (k : Int)) := by rw [ndAt_get hk, hd]; exact hp
            obtain ⟨p0, p1, p2⟩ := part_lt HGD.out HBU.out hp'
            have hpU : p ∈ U := by
              obtain ⟨r, hr, hrb, hrr⟩ := (HU.out.2 _).1 hum
              exact (HU.out.2 p).2 ⟨r, hr, hrb, hrr.snoc hp'⟩
            exact ⟨take_mem HU.out.1 hu hpU p1, has_inR p2 hlen⟩
          have HE4 : Hid (valF S C (soFar S C L (U.take t)) d = valI S C L (k : Int)) := by
            show _ = _
            rw [← hd]
            refine valF_eq HGD.out hk fun p hp => ?_
            rw [hd] at hp
            exact soFar_in (HPT.out p hp).1
          have HTK : Hid (U.take (t + 1) = U.take t ++ [(k : Int)]) := by
            show _ = _
            rw [List.take_succ_eq_append_getElem htl, (List.getElem?_eq_some_iff.1 hu).2]
          clear hcu hu hum h0 h1 hd htl
          go_wp2_with fail
          refine (node_any (HG.out.kept HKWT.out) (k : Int)).mono ?_
          rintro e w6 ⟨rfl, hk6⟩
          rw [HBU.out, HN.out]
          simp only [Nd.val]
          have HK6 := Lib.hid hk6; clear hk6
          go_upto_region 15 with (fail)
          have HBN := Lib.hid (MapKept.heap_alloc w6 (nodeObj d)).1
          have HK7 := Lib.hid (HK6.out.trans ((Kept.refl w6).alloc (nodeObj d)))
          change Code.wp _ _ _ _ (w6.alloc (nodeObj d))
          generalize w6.alloc (nodeObj d) = w7 at *
          generalize w6.heap.size = bn at *
          obtain ⟨f0, f1, f2, f3, f4, f5⟩ := box_facts HBN.out (Kept.refl w7)
          have HM7 := Lib.hid (ownsMap_block HMT.out (HK7.out.block mv HMT.out.lt))
          have HIN := Lib.hid (fun x => valI_in HE.out.syms.inr HE.out.cells.ok HGD.out x : ∀ x, InR (valI S C L x))
          have hN7 : w4.heap.size ≤ w7.heap.size := by
            have h1 := HRT.out.find.low.1
            have h2 := HRT.out.find.bfLt
            have h3 := HK7.out.size
            omega
          go_wp2_with fail
          refine (reckon_any (HRT.out.kept HK7.out) hN7 d HOK.out HKD.out (soFar S C L (U.take t)) (fun p hp => by rw [soFar_in (HPT.out p hp).1]; exact HIN.out p) (fun w' k' p hp => vals_look (ownsMap_block HM7.out (k'.block mv HM7.out.lt)) HVT.out (HPT.out p hp).2)).mono ?_
          rintro e w8 ⟨rfl, hR8, hT8⟩
          rw [HE4.out]
          have hmf : mv ≠ bf := by
            have h1 := HRT.out.find.low.1
            have h2 := HMV.out
            have h3 := HM0.out.lt
            omega
          obtain ⟨w9, hrun, hmap9, hgrow9⟩ := (ownsMap_block HM7.out (hT8.block mv HM7.out.lt hmf)).update lawId Tryz.underlying116 (by unfold maxLen; omega) (Maps.keyOf_int_mk Tryz.underlying35 (wf_i64 HINU.out)) (plainElem_int Tryz.underlying2 (wf_i64 (HIN.out (k : Int))))
          have HT9 := Lib.hid (Turned.grown (T := fun q => q = mv) hgrow9 (fun k hk => by simpa using hk.symm))
          have HMP := Lib.hid hmap9
          have HR8 := Lib.hid hR8; have HT8 := Lib.hid hT8
          have HR9 : Hid (ReckAt w4.heap.size w9 b2 b5 b3 bf be mv s S C) := by
            refine hR8.turned HT9.out (fun q hq e => ?_) (fun hp q hq e => ?_) (fun hp q hq e => ?_)
            · have h3 := HM0.out.lt; have h4 : q = mv := e; omega
            · have h3 := HLOE.out.1 hp q hq; have h4 : q.block = mv := e; have h5 := hWm.out; omega
            · have h3 := HLOE.out.2 hp q hq; have h4 : q.block = mv := e; have h5 := hWm.out; omega
          have HK9 : Hid (Kept w3 w9) := by
            have h1 := HKT.out.trans HK7.out
            have hb1 := HRT.out.find.low.1
            have hb2 := HMV.out
            have hb3 := HM0.out.lt
            refine ⟨HT9.out.os.trans (HT8.out.os.trans h1.os), HT9.out.tape.trans (HT8.out.tape.trans h1.tape), HT9.out.output.trans (HT8.out.output.trans h1.output), Nat.le_trans h1.size (Nat.le_trans HT8.out.size HT9.out.size), fun q hq => ?_⟩
            refine (HT9.out.block q (Nat.lt_of_lt_of_le hq (Nat.le_trans h1.size HT8.out.size)) (by omega)).trans ((HT8.out.block q (Nat.lt_of_lt_of_le hq h1.size) (by omega)).trans (h1.block q hq))
          clear hmap9 hgrow9 hR8 hT8 hmf f0 f1 f2 f3 f4 f5
          go_wp2
          go_roundw
          case rel =>
            refine ⟨t + 1, nt + 1, _, by omega, by go_num, HMP.out, by omega, ?_, HR9.out, HK9.out⟩
            rw [HTK.out]
            exact HVT.out.put (soFar_in (by simp)) (fun x hx => soFar_snoc hx)
          case measure => simp [intOf]; omega
        · obtain rfl : t = q := by omega
          obtain ⟨ik, hik, hz0, hz1, hz2⟩ := info_parts infoI64
          have HIK := Lib.hid (And.intro hik (And.intro hz0 (And.intro hz1 hz2))); clear hik hz0 hz1 hz2
          go_wp2_with (refine wpList_make_full _ rfl _ _ _ rfl wr.heap.size 2 ik (.int .i64 0) 1 Tryz.underlying23 HIK.out.1 HIK.out.2.1 HIK.out.2.2.1 .i64 .i64 _ _ j rfl rfl rfl rfl (by rw [HIK.out.2.2.2]; omega) (by unfold maxLen; omega) (Nat.le_refl _) ?_; intro w10 hown10 hgrow10; have HOW := Lib.hid hown10; have HGR := Lib.hid hgrow10; clear hown10 hgrow10)
          obtain ⟨bt, hbt⟩ : ∃ bt : Nat, bt = wr.heap.size := ⟨_, rfl⟩
          have HBT := Lib.hid hbt
          rw [← hbt] at HOW ⊢
          clear hbt
          have HKA := Lib.hid (HKWT.out)
          have HMA := Lib.hid HMT.out
          have HK10 : Hid (Kept wr w10) := ⟨HGR.out.os, HGR.out.tape, HGR.out.output, HGR.out.size, fun k hk => HGR.out.block k hk (by simp)⟩
          have HVF : Hid (ValIs D (soFar S C L U)) := by
            have h1 := HVT.out
            rwa [HQ.out, List.take_length] at h1
          have HSO : Hid (∀ x ∈ ids, soFar S C L U x = valI S C L x ∧ InR x) := fun x hx => by
            have hbx := HB.out x hx
            exact ⟨soFar_in ((HU.out.2 x).2 ⟨x, hx, hbx, .refl _⟩), has_inR hbx hlen⟩
          obtain ⟨wa, rfl⟩ : ∃ wa : World, wa = wr := ⟨_, rfl⟩
          go_loopw [69] (fun i wr => ∃ r : Nat, r ≤ j ∧ i = .int .i64 r ∧ wr.ownsRow bt 2 1 (.slice (some ⟨bt, 0, none⟩) j j) j (((ids.take r).map (valI S C L) ++ List.replicate (j - r) 0).map (Value.int .i64)) ∧ Kept wa wr) (fun i _ => j - (intOf i).toNat)
          case atStart =>
            refine ⟨0, Nat.zero_le _, rfl, ?_, HK10.out⟩
            have h1 := HOW.out
            have e : (madeCells (Value.int .i64 0).cells (j * 1)).toList = (((ids.take 0).map (valI S C L) ++ List.replicate (j - 0) 0).map (Value.int .i64)) := by
              rw [Nat.mul_one]
              refine (toList_madeCells_one (.int .i64 0) j).trans ?_
              simp
            rw [e] at h1
            exact h1
          case round =>
            obtain ⟨r, hr, rfl, hO, hKr⟩ := hrel
            have HO := Lib.hid hO; have HKR := Lib.hid hKr
            clear hO hKr
            have r0 : (0 : Int) ≤ (r : Int) := Int.natCast_nonneg _
            by_cases hrj : r < j
            · have r1 : (r : Int) < (j : Int) := by omega
              obtain ⟨b, off, rfl, hcz⟩ := (HZ.out.kept (HKA.out.trans HKR.out)).at_ (by omega)
              have hrl : r < ids.length := by rw [HZ.out.len]; exact hrj
              obtain ⟨x, hx⟩ : ∃ x, ids[r]? = some x := ⟨_, List.getElem?_eq_getElem hrl⟩
              have x0 := hcz r x hx
              have HX := Lib.hid (HSO.out x (List.mem_of_getElem? hx))
              have l0 := vals_look (ownsMap_block HMA.out (HKR.out.block mv HMA.out.lt)) HVF.out HX.out.2
              rw [HX.out.1] at l0
              have HST := Lib.hid ((HO.out.stored r (.int .i64 (valI S C L x))).1)
              have HKS := Lib.hid (HKR.out.setCell (p := ⟨bt, r, none⟩) (by rw [HBT.out]; exact Nat.le_refl _) (.int .i64 (valI S C L x)))
              have z0 := HO.out.frozenAt r
              have HSET : Hid ((((ids.take r).map (valI S C L) ++ List.replicate (j - r) 0).map (Value.int .i64)).set r (.int .i64 (valI S C L x)) = (((ids.take (r + 1)).map (valI S C L) ++ List.replicate (j - (r + 1)) 0).map (Value.int .i64))) := by
                show _ = _
                rw [List.take_succ_eq_append_getElem hrl, (List.getElem?_eq_some_iff.1 hx).2]
                have e1 : j - r = (j - (r + 1)) + 1 := by omega
                rw [e1, List.replicate_succ, List.map_append, List.map_append, List.map_append, List.map_cons]
                have e2 : r = (((ids.take r).map (valI S C L)).map (Value.int .i64)).length := by
                  rw [List.length_map, List.length_map, List.length_take]; omega
                rw [List.set_append_right _ _ (by rw [← e2]; exact Nat.le_refl _), ← e2, Nat.sub_self]
                simp
              have HCE : Hid (wr.cell? ⟨bt, r, none⟩ = some (.int .i64 0)) := by
                show _ = _
                rw [HO.out.cellAt r (by omega)]
                rw [List.getElem?_map, List.getElem?_append_right (by rw [List.length_map, List.length_take]; omega), List.length_map, List.length_take, Nat.min_eq_left (by omega), Nat.sub_self]
                rw [List.getElem?_replicate, if_pos (by omega)]
                rfl
              have y0 := HCE.out
              clear hcz hx hrl
              go_wp2
              go_roundw
              case rel =>
                refine ⟨r + 1, by omega, by go_num, ?_, HKS.out⟩
                rw [← HSET.out]
                exact HST.out
              case measure => simp [intOf]; omega
            · obtain rfl : r = j := by omega
              go_wp2
              go_ret2
              have h1 := HO.out
              rw [← HZ.out.len, List.take_length, HZ.out.len, Nat.sub_self, List.replicate_zero, List.append_nil] at h1
              refine ⟨bt, rfl, roots_of_row h1 (by rw [List.length_map, HZ.out.len]) (fun x hx => ?_), HK0.out.trans (HKA.out.trans HKR.out)⟩
              obtain ⟨y, hy, rfl⟩ := List.mem_map.1 hx
              exact valI_in HE.out.syms.inr HE.out.cells.ok HGD.out y

set_option maxRecDepth 100000 in
set_option maxHeartbeats 4000000 in
/-- A number of no term: nothing, and false. -/
theorem all_no {B g m c : Nat} {sa : Option Addr} {L : List Nd} {w : World} (hG : GraphAt B w g m sa c L) {s : Sl}
    (la : Option Addr) (n lc : Nat) (ids : List Int) (hz : RootsAt w la n ids) (hn : n ≤ 100000) (hb : ∃ x ∈ ids, hasB L.length x = false) :
    Calls Tryz.prog 45 #[.pointer (some ⟨g, 0, none⟩), .agg #[.slice s.sa s.sn s.sc, .slice s.ca s.cn s.cc], .slice la n lc] w fun e w' => e = .returned (.tuple #[.slice none 0 0, .bool false]) ∧ Kept w w' := by
  have HK0 := Lib.hid ((Kept.refl w).alloc (.cells #[.slice s.sa s.sn s.sc, .slice s.ca s.cn s.cc] 26))
  have HG := Lib.hid (hG.kept HK0.out)
  have HZ := Lib.hid (hz.kept HK0.out)
  have HB := Lib.hid hb
  clear hG hz hb
  go_enter Tryz.func45, Tryz.ntmps45
  go_upto_region 1 with (fail)
  change Code.wp _ _ _ _ (w.alloc (.cells #[.slice s.sa s.sn s.sc, .slice s.ca s.cn s.cc] 26))
  generalize w.alloc (.cells #[.slice s.sa s.sn s.sc, .slice s.ca s.cn s.cc] 26) = W at *
  go_wp2
  go_loopw [24] (fun i wr => ∃ j : Nat, j ≤ n ∧ i = .int .i64 j ∧ (∀ x ∈ ids.take j, hasB L.length x = true) ∧ Kept W wr) (fun i _ => n - (intOf i).toNat)
  case atStart => exact ⟨0, Nat.zero_le _, rfl, by simp, Kept.refl _⟩
  case round =>
    obtain ⟨j, hj, rfl, hA, hK⟩ := hrel
    have HK := Lib.hid hK; have HA := Lib.hid hA
    clear hK hA
    have j0 : (0 : Int) ≤ (j : Int) := Int.natCast_nonneg _
    by_cases hjn : j < n
    · have j1 : (j : Int) < (n : Int) := by omega
      obtain ⟨b, off, rfl, hcz⟩ := (HZ.out.kept HK.out).at_ (by omega)
      have hjl : j < ids.length := by rw [HZ.out.len]; exact hjn
      obtain ⟨x, hx⟩ : ∃ x, ids[j]? = some x := ⟨_, List.getElem?_eq_getElem hjl⟩
      have x0 := hcz j x hx
      have HTK : Hid (ids.take (j + 1) = ids.take j ++ [x]) := by
        show _ = _
        rw [List.take_succ_eq_append_getElem hjl, (List.getElem?_eq_some_iff.1 hx).2]
      clear hcz hx hjl
      cases hbx : hasB L.length x with
      | true =>
        have HBX := Lib.hid hbx; clear hbx
        go_wp2_with fail
        refine (node_any (HG.out.kept HK.out) x).mono ?_
        rintro e w2 ⟨rfl, hk2⟩
        rw [HBX.out]
        simp only [Nd.val]
        have HK2 := Lib.hid (HK.out.trans hk2); clear hk2
        go_wp2
        go_roundw
        case rel =>
          refine ⟨j + 1, by omega, by go_num, fun y hy => ?_, HK2.out.trans ((Kept.refl _).alloc _)⟩
          rw [HTK.out] at hy
          rcases List.mem_append.1 hy with hy | hy
          · exact HA.out y hy
          · rw [List.mem_singleton.1 hy]; exact HBX.out
        case measure => simp [intOf]; omega
      | false =>
        have HBX := Lib.hid hbx; clear hbx
        go_wp2_with fail
        refine (node_any (HG.out.kept HK.out) x).mono ?_
        rintro e w2 ⟨rfl, hk2⟩
        rw [HBX.out]
        simp only [Nd.val]
        have HK2 := Lib.hid (HK0.out.trans (HK.out.trans hk2)); clear hk2
        go_wp2
        go_ret2
        exact ⟨rfl, HK2.out.trans ((Kept.refl _).alloc _)⟩
    · exfalso
      obtain rfl : j = n := by omega
      obtain ⟨x, hx, hbx⟩ := HB.out
      have h1 := HA.out x (by rw [← HZ.out.len, List.take_length]; exact hx)
      rw [hbx] at h1; cases h1

def ofI (S : List Int) (C : List Cl) (L : List Nd) (i : Int) : Int := if hasB L.length i then valI S C L i else 0
set_option maxHeartbeats 2000000 in
theorem of_any {B g m c : Nat} {sa : Option Addr} {L : List Nd} {w : World} (hG : GraphAt B w g m sa c L) (hlen : L.length ≤ 1000000000) {s : Sl} {S : List Int} {C : List Cl} (hE : EnvAt w s.sa s.sn s.ca s.cn S C) (hs : s.sn ≤ 100000) (hc : s.cn ≤ 100000) (id : Int) (hid : InR id) :
    Calls Tryz.prog 16 #[.pointer (some ⟨g, 0, none⟩), .agg #[.slice s.sa s.sn s.sc, .slice s.ca s.cn s.cc], .int .i64 id] w fun e w' => e = .returned (.tuple #[.int .i64 (ofI S C L id), .bool (hasB L.length id)]) ∧ Kept w w' := by
  have HK0 := Lib.hid ((Kept.refl w).alloc (.cells #[.slice s.sa s.sn s.sc, .slice s.ca s.cn s.cc] 26))
  have HB0 := Lib.hid ((MapKept.heap_alloc w (.cells #[.slice s.sa s.sn s.sc, .slice s.ca s.cn s.cc] 26)).1)
  have HG := Lib.hid (hG.kept HK0.out)
  have HE := Lib.hid (hE.kept HK0.out)
  have HI := Lib.hid hid
  clear hG hE hid
  go_enter Tryz.func16, Tryz.ntmps16
  go_upto_region 1 with (fail)
  change Code.wp _ _ _ _ (w.alloc (.cells #[.slice s.sa s.sn s.sc, .slice s.ca s.cn s.cc] 26))
  generalize w.alloc (.cells #[.slice s.sa s.sn s.sc, .slice s.ca s.cn s.cc] 26) = W at *
  obtain ⟨b4, hb4⟩ : ∃ b4 : Nat, b4 = w.heap.size := ⟨_, rfl⟩
  rw [← hb4] at HB0 ⊢
  clear hb4
  have e0 : W.cell? ⟨b4, 0, none⟩ = some (.slice s.sa s.sn s.sc) := by rw [cell_of_row _ _ _ _ _ _ HB0.out]; rfl
  have e1 : W.cell? ⟨b4, 1, none⟩ = some (.slice s.ca s.cn s.cc) := by rw [cell_of_row _ _ _ _ _ _ HB0.out]; rfl
  have HKA := Lib.hid ((Kept.refl W).alloc (.cells #[.int .i64 id] 35))
  have HZ : Hid (RootsAt (W.alloc (.cells #[.int .i64 id] 35)) (some ⟨W.heap.size, 0, none⟩) 1 [id]) :=
    ⟨rfl, fun x hx => by rw [List.mem_singleton.1 hx]; exact HI.out, fun _ => ⟨_, 0, rfl, fun j x hx => by
      rw [cell_of_row _ _ _ _ _ _ (MapKept.heap_alloc W (.cells #[.int .i64 id] 35)).1]
      match j, hx with
      | 0, hx => cases hx; rfl⟩⟩
  by_cases hb : hasB L.length id = true
  · have HB := Lib.hid hb
    have HO : Hid (ofI S C L id = valI S C L id) := by show _ = _; unfold ofI; rw [if_pos hb]
    clear hb
    go_wp2_with fail
    refine (all_yes (s := s) (HG.out.kept HKA.out) hlen (HE.out.kept HKA.out) hs hc _ 1 1 [id] HZ.out (by omega) (fun x hx => by rw [List.mem_singleton.1 hx]; exact HB.out)).mono ?_
    rintro e w2 ⟨bt, rfl, hR, hk2⟩
    obtain ⟨b, off, hbo, hcz⟩ := hR.at_ (by omega)
    cases hbo
    have x0 := hcz 0 _ rfl
    have HK2 := Lib.hid (HK0.out.trans (HKA.out.trans hk2))
    clear hcz hR hk2 e0 e1
    go_wp2
    go_ret2
    rw [HO.out, HB.out]
    exact ⟨rfl, HK2.out⟩
  · have HO : Hid (ofI S C L id = 0) := by show _ = _; unfold ofI; rw [if_neg hb]
    have hb' : hasB L.length id = false := by simpa using hb
    have HB := Lib.hid hb'
    clear hb hb'
    go_wp2_with fail
    refine (all_no (s := s) (HG.out.kept HKA.out) _ 1 1 [id] HZ.out (by omega) ⟨id, by simp, HB.out⟩).mono ?_
    rintro e w2 ⟨rfl, hk2⟩
    have HK2 := Lib.hid (HK0.out.trans (HKA.out.trans hk2))
    clear hk2 e0 e1
    go_wp2
    go_ret2
    rw [HO.out, HB.out]
    exact ⟨rfl, HK2.out⟩
end Go.Proofs.YtgkjdmojbndicaaGreatDoor
