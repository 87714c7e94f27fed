/-
  Layer 3: contracts of firstCells and of the closure that finds cells.
-/
import Derived.Test.YtjhmbbioplhcgaaGreatDoorVEnv
namespace Go.Proofs.YtjhmbbioplhcgaaGreatDoor
open Go Go.RowKit Go.ChangeMaps Go.MapKept Go.WideMaps
open Go.Maps (Keyed)

theorem run_makeMap_hint {t k e : TypeId} (hu : Tryz.prog.underlying t = some (.map k e)) (n : Int) (w : World) : (Instr.makeMap t (some (.int .i64 n))).run Tryz.prog w = .ok (.map (some w.heap.size)) (w.alloc (.map #[] 0)) := by
  simp [Instr.makeMap, run_underlying hu, asInt, asIntOf, Result.andThen]

/-- The map of the first cells, in memory. -/
def FirstAt (N : Nat) (w : World) (ms : Nat) (C : List Cl) : Prop := N ≤ ms ∧ ∃ n D, w.ownsMap Tryz.prog 73 (plainElem Tryz.prog 2) ms n D ∧ n ≤ C.length ∧ FirstIs D C
theorem FirstAt.kept {N ms : Nat} {w w' : World} {C : List Cl} (h : FirstAt N w ms C) (k : Kept w w') : FirstAt N w' ms C := by
  obtain ⟨h0, n, D, h1, h2, h3⟩ := h
  exact ⟨h0, n, D, ownsMap_block h1 (k.block ms h1.lt), h2, h3⟩
theorem FirstAt.block {N ms : Nat} {w w' : World} {C : List Cl} (h : FirstAt N w ms C) (k : w'.heap[ms]? = w.heap[ms]?) : FirstAt N w' ms C := by
  obtain ⟨h0, n, D, h1, h2, h3⟩ := h
  exact ⟨h0, n, D, ownsMap_block h1 k, h2, h3⟩
theorem FirstAt.lt {N ms : Nat} {w : World} {C : List Cl} (h : FirstAt N w ms C) : ms < w.heap.size := by
  obtain ⟨h0, n, D, h1, h2, h3⟩ := h
  exact h1.lt
theorem FirstAt.look {N ms : Nat} {w : World} {C : List Cl} (h : FirstAt N w ms C) {a v t : Int} (ha : InR a) (hv : InR v) (ht : InR t) :
    (Instr.lookup 119 (.map (some ms)) (.agg #[.int .i64 a, .int .i64 v, .int .i64 t]) false).run Tryz.prog w = .ok (.int .i64 (cellI C a v t)) w := by
  obtain ⟨h0, n, D, h1, h2, h3⟩ := h
  exact first_look h1 h3 ha hv ht

def cellObj (c : Cl) : Obj := .cells #[.int .i64 c.a, .int .i64 c.v, .int .i64 c.t, .int .i64 c.n] 58
theorem cbox_facts {W w : World} {b : Nat} {c : Cl} (h : W.heap[b]? = some (cellObj c)) (hk : Kept W w) :
    w.cell? ⟨b, 0, none⟩ = some (.int .i64 c.a) ∧ w.cell? ⟨b, 1, none⟩ = some (.int .i64 c.v) ∧ w.cell? ⟨b, 2, none⟩ = some (.int .i64 c.t) ∧ w.cell? ⟨b, 3, none⟩ = some (.int .i64 c.n) := by
  have h1 := hk.row h
  refine ⟨?_, ?_, ?_, ?_⟩ <;> (rw [cell_of_row _ _ _ _ _ _ h1]; rfl)

set_option maxRecDepth 100000 in
set_option maxHeartbeats 8000000 in
theorem first_any {sa ca : Option Addr} {sn sc cn cc : Nat} {C : List Cl} {w : World} (hC : CellsAt w ca cn C) (hn : cn ≤ 100000) :
    Calls Tryz.prog 61 #[.agg #[.slice sa sn sc, .slice ca cn cc]] w fun e w' => ∃ ms, e = .returned (.map (some ms)) ∧ FirstAt w.heap.size w' ms C ∧ Kept w w' := by
  have HC := Lib.hid hC; clear hC
  have hmm := fun (w : World) => run_makeMap_hint Tryz.underlying119 (cn : Int) w
  have HBX := Lib.hid ((MapKept.heap_alloc w (.cells #[.slice sa sn sc, .slice ca cn cc] 26)).1)
  have HK0 := Lib.hid (((Kept.refl w).alloc (.cells #[.slice sa sn sc, .slice ca cn cc] 26)).alloc (.map #[] 0))
  have HM0 := Lib.hid (World.ownsMap_made (w.alloc (.cells #[.slice sa sn sc, .slice ca cn cc] 26)) Tryz.prog 73 (plainElem (H := Unit) Tryz.prog 2))
  have hsz : (w.alloc (.cells #[.slice sa sn sc, .slice ca cn cc] 26)).heap.size = w.heap.size + 1 := by simp
  rw [hsz] at HM0
  clear hsz
  go_enter Tryz.func61, Tryz.ntmps61
  go_wp2
  clear hmm
  obtain ⟨ms, hms⟩ : ∃ ms : Nat, ms = w.heap.size + 1 := ⟨_, rfl⟩
  have HMS := Lib.hid hms
  rw [← hms] at HM0 ⊢
  clear hms
  go_loopw [15] (fun i wr => ∃ (j n : Nat) (D : DataW Unit), j ≤ cn ∧ i = .int .i64 j ∧ wr.ownsMap Tryz.prog 73 (plainElem Tryz.prog 2) ms n D ∧ n ≤ j ∧ FirstIs D (C.take j) ∧ Kept w wr) (fun i _ => cn - (intOf i).toNat)
  case atStart => exact ⟨0, 0, .map [], Nat.zero_le _, rfl, HM0.out, Nat.le_refl _, FirstIs.nil, HK0.out⟩
  case round =>
    obtain ⟨j, n, D, hj, rfl, hM, hnj, hF, hK⟩ := hrel
    have HM := Lib.hid hM; have HF := Lib.hid hF; have HK := Lib.hid hK
    clear hM hF hK
    have j0 : (0 : Int) ≤ (j : Int) := Int.natCast_nonneg _
    by_cases hjn : j < cn
    · have j1 : (j : Int) < (cn : Int) := by omega
      obtain ⟨b, off, rfl, hc⟩ := HC.out.at_ (by omega)
      have hjl : j < C.length := by rw [HC.out.len]; exact hjn
      obtain ⟨c, hcj⟩ : ∃ c, C[j]? = some c := ⟨_, List.getElem?_eq_getElem hjl⟩
      have HOK := Lib.hid (HC.out.ok c (List.mem_of_getElem? hcj))
      have HTK : Hid (C.take (j + 1) = C.take j ++ [c]) := by
        show _ = _
        rw [List.take_succ_eq_append_getElem hjl, (List.getElem?_eq_some_iff.1 hcj).2]
      have hcd := hc j c hcj
      have x0 := HK.out.cell (hcd 0 _ rfl)
      have x1 := HK.out.cell (hcd 1 _ rfl)
      have x2 := HK.out.cell (hcd 2 _ rfl)
      have x3 := HK.out.cell (hcd 3 _ rfl)
      simp only [Nat.add_zero] at x0
      clear hc hcd hcj hjl
      go_upto_region 5 with (fail)
      have HBN := Lib.hid (MapKept.heap_alloc wr (cellObj c)).1
      have HK1 := Lib.hid ((Kept.refl wr).alloc (cellObj c))
      change Code.wp _ _ _ _ (wr.alloc (cellObj c))
      generalize wr.alloc (cellObj c) = w1 at *
      generalize wr.heap.size = bn at *
      clear x0 x1 x2 x3
      obtain ⟨y0, y1, y2, y3⟩ := cbox_facts HBN.out (Kept.refl w1)
      have HLK : Hid (∀ w', Kept w1 w' → (Instr.lookup 119 (.map (some ms)) (.agg #[.int .i64 c.a, .int .i64 c.v, .int .i64 c.t]) true).run Tryz.prog w' = .ok (.tuple #[.int .i64 (cellI (C.take j) c.a c.v c.t), .bool (hasC (C.take j) c.a c.v c.t)]) w') := fun w' hk =>
        first_look_ok (ownsMap_block HM.out ((HK1.out.trans hk).block ms HM.out.lt)) HF.out HOK.out.1 HOK.out.2.1 HOK.out.2.2.1
      cases hh : hasC (C.take j) c.a c.v c.t with
      | true =>
        rw [hh] at HLK
        have HH := Lib.hid hh; clear hh
        go_wp2_with fail
        refine (where_any c.a c.v c.t c.n w1).mono ?_
        rintro e w2 ⟨rfl, hk2⟩
        have l0 := HLK.out w2 hk2
        have HK2 := Lib.hid (HK1.out.trans hk2); clear hk2
        go_wp2
        go_roundw
        case rel =>
          refine ⟨j + 1, n, D, by omega, by go_num, ownsMap_block HM.out (HK2.out.block ms HM.out.lt), by omega, ?_, HK.out.trans HK2.out⟩
          rw [HTK.out]
          exact HF.out.old HH.out
        case measure => simp [intOf]; omega
      | false =>
        rw [hh] at HLK
        have HH := Lib.hid hh; clear hh
        go_wp2_with fail
        refine (where_any c.a c.v c.t c.n w1).mono ?_
        rintro e w2 ⟨rfl, hk2⟩
        have l0 := HLK.out w2 hk2
        have HK2 := Lib.hid (HK1.out.trans hk2)
        have HB2 := Lib.hid (hk2.row HBN.out); clear hk2
        go_upto_region 7 with (fail)
        clear l0 y0 y1 y2 y3
        have HM2 := Lib.hid (ownsMap_block HM.out (HK2.out.block ms HM.out.lt))
        have HNE : Hid (bn ≠ ms) := by
          rintro rfl
          obtain ⟨es, clock, hb, _⟩ := HM2.out
          rw [HB2.out] at hb; cases hb
        have SK : Hid (∀ w', Turned (fun q => q = ms) w2 w' → Turned (fun q => q = ms) w2 w' ∧ w'.cell? ⟨bn, 0, none⟩ = some (.int .i64 c.a) ∧ w'.cell? ⟨bn, 1, none⟩ = some (.int .i64 c.v) ∧ w'.cell? ⟨bn, 2, none⟩ = some (.int .i64 c.t) ∧ w'.cell? ⟨bn, 3, none⟩ = some (.int .i64 c.n)) := fun w' hk =>
          ⟨hk, cbox_facts ((hk.block bn (Array.getElem?_eq_some_iff.1 HB2.out).1 HNE.out).trans HB2.out) (Kept.refl w')⟩
        go_region_held3 (fun w' => Turned (fun q => q = ms) w2 w' ∧ w'.cell? ⟨bn, 0, none⟩ = some (.int .i64 c.a) ∧ w'.cell? ⟨bn, 1, none⟩ = some (.int .i64 c.v) ∧ w'.cell? ⟨bn, 2, none⟩ = some (.int .i64 c.t) ∧ w'.cell? ⟨bn, 3, none⟩ = some (.int .i64 c.n))
          (first | exact SK.out _ (Turned.refl _ _) | exact SK.out _ ((Kept.drew (Kept.refl _)).turned _) | assumption | exact SK.out _ (by assumption))
          ((go_at_call 26; refine (where_any c.a c.v c.t c.n _).mono ?_; rintro e w7 ⟨rfl, hk7⟩; have HK7 := Lib.hid (Kept.trans (Kept.drew (Kept.refl w2)) hk7); have ht7 := HK7.out.turned (fun q => q = ms); obtain ⟨w8, hrun, hmap8, hgrow8⟩ := (ownsMap_block HM2.out (HK7.out.block ms HM2.out.lt)).update lawSpot Tryz.underlying119 (by unfold maxLen; omega) (keyOf_spot HOK.out.1 HOK.out.2.1 HOK.out.2.2.1) (plainElem_int Tryz.underlying2 (wf_i64 HOK.out.2.2.2)); have ht8 := ht7.trans (Turned.grown (T := fun q => q = ms) hgrow8 (fun k hk => by simpa using hk.symm)); have HT8 := Lib.hid ht8; have HMP := Lib.hid hmap8; have HGR := Lib.hid hgrow8; clear hmap8 hgrow8; simp only [spotV] at hrun))
        all_goals
          have HKE : Hid (Kept w w8) := by
            have h1 := HK.out.trans (HK2.out)
            have hmw : w.heap.size ≤ ms := by have := HMS.out; omega
            exact ⟨HT8.out.os.trans h1.os, HT8.out.tape.trans h1.tape, HT8.out.output.trans h1.output, Nat.le_trans h1.size HT8.out.size, fun q hq => (HT8.out.block q (Nat.lt_of_lt_of_le hq h1.size) (by omega)).trans (h1.block q hq)⟩
          clear ht7 ht8 hrun
          go_wp2
          go_roundw
          case rel =>
            refine ⟨j + 1, n + 1, _, by omega, by go_num, HMP.out, by omega, ?_, HKE.out⟩
            rw [HTK.out]
            exact HF.out.new HOK.out HH.out
          case measure => simp [intOf]; omega
    · obtain rfl : j = cn := by omega
      go_wp2
      go_ret
      refine ⟨ms, rfl, ⟨by rw [HMS.out]; omega, n, D, HM.out, by rw [HC.out.len]; exact hnj, ?_⟩, HK.out⟩
      have h1 := HF.out
      rwa [← HC.out.len, List.take_length] at h1
end Go.Proofs.YtjhmbbioplhcgaaGreatDoor
