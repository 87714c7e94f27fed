/-
  Layer 5: arguments that are a formula, a row of literals, a model, opened to their cells.
-/
import Derived.Test.YtemijkfgnedlnaaGreatDoorCRight
import Derived.Test.YtemijkfgnedlnaaGreatDoorCHolds
import Derived.Test.YtemijkfgnedlnaaGreatDoorCClean
import Derived.Deep.Slices
import Derived.Deep.Fields
import Derived.Deep.Matrix
import Derived.ChangeSame
namespace Go.Proofs.YtemijkfgnedlnaaGreatDoor
open Go Go.RowKit Go.ChangeShapes Go.WideShapes Go.Deep

theorem TA.cellsInt : Tryz.prog.cellsOf 3 = 1 := by kernel_rfl
theorem TA.cellsInts : Tryz.prog.cellsOf 41 = 1 := by kernel_rfl
theorem TA.cellsFormula : Tryz.prog.cellsOf 24 = 2 := by kernel_rfl
theorem formulaFields : ∃ f0 f1, Tryz.prog.underlying 24 = some (.struct #[f0, f1]) ∧ f0.type = 3 ∧ f1.type = 22 ∧ oneCellFields Tryz.prog #[f0, f1] = true :=
  ⟨_, _, Tryz.underlying24, rfl, rfl, by kernel_rfl⟩
theorem max_len : maxLen ≤ 9223372036854775807 := by decide
theorem wf_inR {n : Int} (h : (Lit.int .i64 n).wf = true) : InR n := by
  simp only [Lit.wf, IntKind.min, IntKind.max, IntKind.signed, IntKind.bits, Bool.and_eq_true, decide_eq_true_eq, if_true] at h
  unfold InR; omega
theorem add_none (b off j : Nat) : (⟨b, off, none⟩ : Addr).add j = ⟨b, off + j, none⟩ := by
  unfold Addr.add
  by_cases h0 : j = 0
  · subst h0; simp
  · simp [h0]
section
variable {H : Type} {enc : TypeId × Value → H} {w : World} {base : Nat}
/-- A row's cells, from what its opener gives. -/
theorem ints_of_cells {A : Option Addr} {n c : Nat} {Z : List Int} (hn : n ≤ c) (hZ : Z.length = c) (hwf : ∀ x ∈ Z, (Lit.int .i64 x).wf = true) (h0 : A = none → c = 0) (hcell : ∀ a, A = some a → ∀ j, j < c → w.cell? (a.add j) = some (.int .i64 (Z.getD j 0))) : ∃ us, IntsAt w A n us := by
  refine ⟨Z.take n, by rw [List.length_take]; omega, fun y hy => wf_inR (hwf y (List.mem_of_mem_take hy)), fun hp => ?_⟩
  cases A with
  | none => have := h0 rfl; omega
  | some a =>
    obtain ⟨b, off, spot⟩ := a
    have hspot : spot = none := by simpa [Addr.add] using World.cell?_spot (hcell _ rfl 0 (by omega))
    subst hspot
    refine ⟨b, off, rfl, fun j y hj => ?_⟩
    have hjn : j < n := by
      have := (List.getElem?_eq_some_iff.1 hj).1
      rw [List.length_take] at this; omega
    have h1 := hcell _ rfl j (by omega)
    rw [add_none] at h1
    rw [h1]
    rw [List.getElem?_take, if_pos hjn] at hj
    rw [List.getD_eq_getElem?_getD, hj]; rfl
theorem open_lits {fuel : Nat} {a : Option Addr} {n c : Nat} {x : DataW H × List MemPlace} (h : DataW.trod enc Tryz.prog w base (fun _ => true) true fuel 41 [.slice a n c] = some x) : (∃ us, IntsAt w a n us) ∧ Fit a n c := by
  rcases open_ints Tryz.underlying41 Tryz.underlying3 TA.cellsInt h with ⟨hcs, hx⟩ | ⟨ad, len, cap, zs, hcs, _, hl, hm, hz, hx, hcell, hwz⟩
  · simp at hcs
    obtain ⟨rfl, rfl, rfl⟩ := hcs
    exact ⟨⟨[], rfl, by simp, fun h => absurd h (Nat.lt_irrefl 0)⟩, fun _ => ⟨rfl, rfl⟩, Nat.le_refl _, by decide⟩
  · simp at hcs
    obtain ⟨rfl, rfl, rfl⟩ := hcs
    rw [if_pos rfl] at hz
    exact ⟨ints_of_cells hl hz hwz (fun h => by cases h) (fun a' ha j hj => by
      cases ha
      exact hcell j (by rw [hz]; exact hj)), (fun h => by cases h), hl, Nat.le_trans hm max_len⟩
theorem open_clauses {fuel : Nat} {a : Option Addr} {n c : Nat} {x : DataW H × List MemPlace} (h : DataW.trod enc Tryz.prog w base (fun _ => true) true fuel 22 [.slice a n c] = some x) : (∃ C, ClsAt w a n C) ∧ Fit a n c := by
  rcases open_int_rows Tryz.underlying22 Tryz.underlying41 Tryz.underlying3 TA.cellsInts TA.cellsInt h with ⟨hcs, hx⟩ | ⟨ad, len, cap, A, L, K, Z, hcs, _, hl, hm, _, hrow⟩
  · simp at hcs
    obtain ⟨rfl, rfl, rfl⟩ := hcs
    exact ⟨⟨[], rfl, fun h => absurd h (Nat.lt_irrefl 0)⟩, fun _ => ⟨rfl, rfl⟩, Nat.le_refl _, by decide⟩
  · simp at hcs
    obtain ⟨rfl, rfl, rfl⟩ := hcs
    refine ⟨?_, (fun h => by cases h), hl, Nat.le_trans hm max_len⟩
    have each : ∀ r, r < c → ∃ us, IntsAt w (A r) (L r) us := fun r hr => by
      obtain ⟨_, h1, _, h3, h4, h5, h6⟩ := hrow r hr
      exact ints_of_cells h1 h3 h4 h5 (fun a' ha j hj => (h6 a' ha).2 j hj)
    have build : ∀ k, k ≤ n → ∃ C : List (List Int), C.length = k ∧ ∀ i us, C[i]? = some us → IntsAt w (A i) (L i) us := by
      intro k
      induction k with
      | zero => intro _; exact ⟨[], rfl, fun i d h => by simp at h⟩
      | succ k ih =>
        intro hk
        obtain ⟨ds, hlen, hd⟩ := ih (by omega)
        obtain ⟨d, ho⟩ := each k (by omega)
        refine ⟨ds ++ [d], by simp [hlen], fun i e he => ?_⟩
        by_cases hik : i < ds.length
        · rw [List.getElem?_append_left hik] at he
          exact hd i e he
        · rw [List.getElem?_append_right (by omega)] at he
          have hi0 : i = k := by
            have := (List.getElem?_eq_some_iff.1 he).1
            simp at this; omega
          subst hi0
          have : e = d := by
            rw [hlen] at he; simpa using he.symm
          subst this
          exact ho
    obtain ⟨C, hC, hCi⟩ := build n (Nat.le_refl _)
    refine ⟨C, hC, fun hp => ?_⟩
    obtain ⟨b, off, spot⟩ := ad
    have hspot : spot = none := by simpa [Addr.add] using World.cell?_spot (hrow 0 (by omega)).1
    subst hspot
    refine ⟨b, off, rfl, fun j us hj => ?_⟩
    have hjn : j < n := by
      have := (List.getElem?_eq_some_iff.1 hj).1
      omega
    obtain ⟨h0, h1, h2, h3, h4, h5, h6⟩ := hrow j (by omega)
    rw [add_none] at h0
    exact ⟨A j, L j, K j, h0, hCi j us hj, (fun e => by have := h5 e; omega), h1, Nat.le_trans h2 max_len⟩
set_option maxRecDepth 100000 in
theorem open_formula {v : Value} {d : DataW H} {p : List MemPlace} {b0 : Nat} {r : Go.Reach} (hv : Value.okWide Tryz.prog w r b0 24 v) (h : DataW.Trod enc Tryz.prog w base (fun _ => true) true 24 v d p) :
    ∃ V ca cn cc, v = .agg #[.int .i64 V, .slice ca cn cc] ∧ InR V ∧ Fit ca cn cc ∧ ∃ C, ClsAt w ca cn C := by
  obtain ⟨f0, f1, hs, t0, t1, hone⟩ := formulaFields
  obtain ⟨cs, rfl, hsz⟩ := okWide_struct hs hv
  rw [TA.cellsFormula] at hsz
  obtain ⟨fuel, hf⟩ := h
  obtain ⟨y0, y1, m, _, _, h0, h1⟩ := trod_struct2 hs hf
  obtain ⟨o0, k0⟩ := hone_of hone 0 f0 rfl
  obtain ⟨o1, k1⟩ := hone_of hone 1 f1 rfl
  obtain ⟨l⟩ := cs
  match l, hsz with
  | [v0, v1], _ =>
    rw [o0, k0, t0] at h0
    rw [o1, k1, t1] at h1
    have e0 : (((Value.agg #[v0, v1]).cells.toList).drop 0).take 1 = [v0] := rfl
    have e1 : (((Value.agg #[v0, v1]).cells.toList).drop 1).take 1 = [v1] := rfl
    rw [e0] at h0
    rw [e1] at h1
    obtain ⟨V, hV, _, wV⟩ := DataW.trod_int Tryz.underlying3 h0
    obtain rfl : v0 = .int .i64 V := by simpa using hV
    obtain ⟨ca, cn, cc, rfl⟩ : ∃ a n c, v1 = .slice a n c := by
      rcases open_slice Tryz.underlying22 h1 with ⟨hcs, _⟩ | ⟨ad, len, cap, _, _, _, _, hcs, _⟩
      · exact ⟨_, _, _, by simpa using hcs⟩
      · exact ⟨_, _, _, by simpa using hcs⟩
    obtain ⟨hC, hF⟩ := open_clauses h1
    exact ⟨V, ca, cn, cc, rfl, wf_inR wV, hF, hC⟩
end
end Go.Proofs.YtemijkfgnedlnaaGreatDoor
