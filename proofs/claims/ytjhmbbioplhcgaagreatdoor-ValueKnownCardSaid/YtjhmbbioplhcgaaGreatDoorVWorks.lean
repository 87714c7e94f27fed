/-
  Layer 3: contracts of the statements' helpers: few, has, works.
-/
import Derived.Test.YtjhmbbioplhcgaaGreatDoorVNeeds
import Derived.Test.YtjhmbbioplhcgaaGreatDoorTWorks
namespace Go.Proofs.YtjhmbbioplhcgaaGreatDoor
open Go Go.RowKit Go.Sort

def fewB (sn cn : Nat) : Bool := decide (sn ≤ 60) && decide (cn ≤ 60)
set_option maxHeartbeats 1000000 in
theorem few_any (s : Sl) (w : World) : Calls Tryz.prog 6 #[.agg #[.slice s.sa s.sn s.sc, .slice s.ca s.cn s.cc]] w fun e w' => e = .returned (.bool (fewB s.sn s.cn)) ∧ Kept w w' := by
  have HK := Lib.hid ((Kept.refl w).alloc (.cells #[.slice s.sa s.sn s.sc, .slice s.ca s.cn s.cc] 26))
  by_cases h1 : s.sn ≤ 60
  · by_cases h2 : s.cn ≤ 60
    · have HE : Hid (fewB s.sn s.cn = true) := by show _ = _; unfold fewB; simp [h1, h2]
      have d1 : decide ((s.sn : Int) ≤ 60) = true := decide_eq_true (by omega)
      have d2 : decide ((s.cn : Int) ≤ 60) = true := decide_eq_true (by omega)
      have i1 : (s.sn : Int) ≤ 60 := by omega
      have i2 : (s.cn : Int) ≤ 60 := by omega
      clear h1 h2
      go_enter Tryz.func6, Tryz.ntmps6
      go_wp2
      go_ret
      rw [HE.out]
      exact ⟨rfl, HK.out⟩
    · have HE : Hid (fewB s.sn s.cn = false) := by show _ = _; unfold fewB; simp [h2]
      have d1 : decide ((s.sn : Int) ≤ 60) = true := decide_eq_true (by omega)
      have d2 : decide ((s.cn : Int) ≤ 60) = false := decide_eq_false (by omega)
      have i1 : (s.sn : Int) ≤ 60 := by omega
      have i2 : ¬ (s.cn : Int) ≤ 60 := by omega
      clear h1 h2
      go_enter Tryz.func6, Tryz.ntmps6
      go_wp2
      go_ret
      rw [HE.out]
      exact ⟨rfl, HK.out⟩
  · have HE : Hid (fewB s.sn s.cn = false) := by show _ = _; unfold fewB; simp [h1]
    have d1 : decide ((s.sn : Int) ≤ 60) = false := decide_eq_false (by omega)
    have i1 : ¬ (s.sn : Int) ≤ 60 := by omega
    clear h1
    go_enter Tryz.func6, Tryz.ntmps6
    go_wp2
    go_ret
    rw [HE.out]
    exact ⟨rfl, HK.out⟩

def vds : List Nd := [⟨2, 0, 0, 0, 0, 0⟩, ⟨1, 5, 0, 0, 0, 0⟩, ⟨4, 0, 0, 1, 0, 1⟩, ⟨3, 0, 1, 0, 0, 2⟩]
theorem vds_adds : addsL vds = wL := by rfl
theorem vds_ok : ∀ d ∈ vds, d.Ok := by
  intro d hd
  simp only [vds, List.mem_cons, List.not_mem_nil, or_false] at hd
  rcases hd with rfl | rfl | rfl | rfl <;> (simp [Nd.Ok, InB, InR])
theorem wL_uses3 : UsesSpec wL [3] [0, 1, 2, 3] := by
  have n3 : ndAt wL 3 = ⟨3, 0, 1, 0, 0, 2⟩ := rfl
  have n2 : ndAt wL 2 = ⟨4, 0, 0, 1, 0, 1⟩ := rfl
  have n0 : ndAt wL 0 = ⟨2, 0, 0, 0, 0, 0⟩ := rfl
  have n1 : ndAt wL 1 = ⟨1, 5, 0, 0, 0, 0⟩ := rfl
  have p3 : partsOf (ndAt wL 3) = [2] := by rw [n3]; rfl
  have p2 : partsOf (ndAt wL 2) = [0, 1] := by rw [n2]; rfl
  have p0 : partsOf (ndAt wL 0) = [] := by rw [n0]; rfl
  have p1 : partsOf (ndAt wL 1) = [] := by rw [n1]; rfl
  have key : ∀ r i, Reach wL r i → r = 0 ∨ r = 1 ∨ r = 2 ∨ r = 3 → i = 0 ∨ i = 1 ∨ i = 2 ∨ i = 3 := by
    intro r i h
    induction h with
    | refl => exact fun h => h
    | step hp _ ih =>
      rintro (rfl | rfl | rfl | rfl)
      · rw [p0] at hp; cases hp
      · rw [p1] at hp; cases hp
      · rw [p2] at hp
        simp only [List.mem_cons, List.not_mem_nil, or_false] at hp
        rcases hp with rfl | rfl
        · exact ih (Or.inl rfl)
        · exact ih (Or.inr (Or.inl rfl))
      · rw [p3] at hp
        rw [List.mem_singleton.1 hp] at ih
        exact ih (Or.inr (Or.inr (Or.inl rfl)))
  have r2 : ∀ i, i = 0 ∨ i = 1 ∨ i = 2 → Reach wL 2 i := by
    rintro i (rfl | rfl | rfl)
    · exact .step (by rw [p2]; simp) (.refl 0)
    · exact .step (by rw [p2]; simp) (.refl 1)
    · exact .refl 2
  refine ⟨by simp, fun i => ⟨fun hi => ⟨3, by simp, rfl, ?_⟩, ?_⟩⟩
  · simp only [List.mem_cons, List.not_mem_nil, or_false] at hi
    rcases hi with h | h | h | rfl
    · exact .step (by rw [p3]; simp) (r2 i (Or.inl h))
    · exact .step (by rw [p3]; simp) (r2 i (Or.inr (Or.inl h)))
    · exact .step (by rw [p3]; simp) (r2 i (Or.inr (Or.inr h)))
    · exact .refl 3
  · rintro ⟨r, hr, _, hri⟩
    rw [List.mem_singleton.1 hr] at hri
    have := key 3 i hri (Or.inr (Or.inr (Or.inr rfl)))
    simpa using this
theorem wL_needs {SS CC : List Int} (h : NeedSpec wL [3] SS CC) : SS = [0] ∧ CC = [3] := by
  obtain ⟨U, hU, rfl, rfl⟩ := h
  obtain rfl := hU.eq wL_uses3
  have e : symsOf wL [0, 1, 2, 3] = [0] := by decide
  refine ⟨?_, by decide⟩
  rw [e]
  simp [sortI]
theorem wv1 : ofI [7] [] wL 2 = 12 := by decide +kernel
theorem wv2 : ofI [] [] wL 2 = 5 := by decide +kernel
theorem wv3 : ofI [7] [⟨1, 0, 12, 40⟩] wL 3 = 40 := by decide +kernel
/-- A written slice of one number. -/
theorem one_root (W : World) (x : Int) (hx : InR x) (t : TypeId) : RootsAt (W.alloc (.cells #[.int .i64 x] t)) (some ⟨W.heap.size, 0, none⟩) 1 [x] :=
  ⟨rfl, fun y hy => by rw [List.mem_singleton.1 hy]; exact hx, fun _ => ⟨_, 0, rfl, fun j y hy => by
    rw [cell_of_row _ _ _ _ _ _ (MapKept.heap_alloc W (.cells #[.int .i64 x] t)).1]
    match j, hy with
    | 0, hy => cases hy; rfl⟩⟩
theorem nil_roots (W : World) (a : Option Addr) : RootsAt W a 0 [] := ⟨rfl, by simp, fun h => absurd h (Nat.lt_irrefl 0)⟩
theorem nil_cells (W : World) (a : Option Addr) : CellsAt W a 0 [] := ⟨rfl, by simp, fun h => absurd h (Nat.lt_irrefl 0)⟩

set_option maxRecDepth 100000 in
set_option maxHeartbeats 8000000 in
theorem vworks_any (w : World) (hL : Laid w) : Calls Tryz.prog 7 #[] w fun e w' => e = .returned (.bool true) ∧ Kept w w' := by
  have HL := Lib.hid hL; clear hL
  go_enter Tryz.func7, Tryz.ntmps7
  go_wp2_with fail
  have HN := Lib.hid (nodes_of_block (cs := (nodeCells vds).toArray) (MapKept.heap_alloc w (.cells (nodeCells vds).toArray 56)).1 rfl vds_ok)
  have HK := Lib.hid ((Kept.refl w).alloc (.cells (nodeCells vds).toArray 56))
  change Calls _ _ _ (w.alloc (.cells (nodeCells vds).toArray 56)) _
  generalize w.alloc (.cells (nodeCells vds).toArray 56) = W at *
  refine (made_any _ 4 4 vds W HN.out (by omega) (HL.out.kept HK.out)).mono ?_
  rintro e w1 ⟨g, m, v, rfl, ⟨a, c, a', c', hG, rfl, hrow, _⟩, hk1⟩
  have e1 : addsL (vds.take 4) = wL := vds_adds
  rw [e1] at hG
  clear e1 hrow
  have HK1 := Lib.hid (HK.out.trans hk1)
  have HG := Lib.hid hG
  clear hG hk1 HN HK
  go_upto_region 4 with (fail)
  have hw : ∀ (a : World) (o : Obj), (a.alloc o).heap.size = a.heap.size + 1 := fun a o => by simp
  have k5 : ∀ (a : World) (o : Obj), Kept a (a.alloc o) := fun a o => (Kept.refl a).alloc o
  obtain ⟨b, hb⟩ : ∃ b : Nat, b = w1.heap.size := ⟨_, rfl⟩
  obtain ⟨O0, h0⟩ : ∃ O : Obj, O = .cells #[.int .i64 7] 2 := ⟨_, rfl⟩
  obtain ⟨O1, h1⟩ : ∃ O : Obj, O = .cells #[.slice (some ⟨b, 0, none⟩) 1 1, .slice none 0 0] 26 := ⟨_, rfl⟩
  obtain ⟨O3, h3⟩ : ∃ O : Obj, O = .cells #[.int .i64 1, .int .i64 0, .int .i64 12, .int .i64 40] 58 := ⟨_, rfl⟩
  obtain ⟨O4, h4⟩ : ∃ O : Obj, O = .cells #[.slice (some ⟨b + 1 + 1, 0, none⟩) 1 1, .slice (some ⟨b + 1 + 1 + 1, 0, none⟩) 1 1] 26 := ⟨_, rfl⟩
  rw [← hb, ← h0, ← h1, ← h3, ← h4]
  have s1 : (w1.alloc O0).heap.size = b + 1 := by rw [hw, hb]
  have s2 : ((w1.alloc O0).alloc O1).heap.size = b + 1 + 1 := by rw [hw, s1]
  have s3 : (((w1.alloc O0).alloc O1).alloc O0).heap.size = b + 1 + 1 + 1 := by rw [hw, s2]
  have s4 : ((((w1.alloc O0).alloc O1).alloc O0).alloc O3).heap.size = b + 1 + 1 + 1 + 1 := by rw [hw, s3]
  have g0 := (MapKept.heap_alloc w1 O0).1
  have g1 := (MapKept.heap_alloc (w1.alloc O0) O1).1
  have g2 := (MapKept.heap_alloc ((w1.alloc O0).alloc O1) O0).1
  have g3 := (MapKept.heap_alloc (((w1.alloc O0).alloc O1).alloc O0) O3).1
  have g4 := (MapKept.heap_alloc ((((w1.alloc O0).alloc O1).alloc O0).alloc O3) O4).1
  rw [← hb] at g0
  rw [s1] at g1
  rw [s2] at g2
  rw [s3] at g3
  rw [s4] at g4
  have kD : Kept ((((w1.alloc O0).alloc O1).alloc O0).alloc O3) (((((w1.alloc O0).alloc O1).alloc O0).alloc O3).alloc O4) := k5 _ _
  have kC : Kept (((w1.alloc O0).alloc O1).alloc O0) (((((w1.alloc O0).alloc O1).alloc O0).alloc O3).alloc O4) := (k5 _ _).trans kD
  have kB : Kept ((w1.alloc O0).alloc O1) (((((w1.alloc O0).alloc O1).alloc O0).alloc O3).alloc O4) := (k5 _ _).trans kC
  have kA : Kept (w1.alloc O0) (((((w1.alloc O0).alloc O1).alloc O0).alloc O3).alloc O4) := (k5 _ _).trans kB
  have HKE := Lib.hid ((k5 w1 O0).trans kA)
  have G0 := Lib.hid (kA.row g0)
  have G1 := Lib.hid (kB.row g1)
  have G2 := Lib.hid (kC.row g2)
  have G3 := Lib.hid (kD.row g3)
  have G4 := Lib.hid g4
  clear g0 g1 g2 g3 g4 kA kB kC kD s1 s2 s3 s4
  change Code.wp _ _ _ _ (((((w1.alloc O0).alloc O1).alloc O0).alloc O3).alloc O4)
  generalize ((((w1.alloc O0).alloc O1).alloc O0).alloc O3).alloc O4 = w6 at *
  have HS1 : Hid (RootsAt w6 (some ⟨b, 0, none⟩) 1 [7]) := ⟨rfl, by simp [InR], fun _ => ⟨_, 0, rfl, fun j y hy => by
    rw [cell_of_row _ _ _ _ _ _ (G0.out.trans (by rw [h0]))]
    match j, hy with
    | 0, hy => cases hy; rfl⟩⟩
  have HS2 : Hid (RootsAt w6 (some ⟨b + 1 + 1, 0, none⟩) 1 [7]) := ⟨rfl, by simp [InR], fun _ => ⟨_, 0, rfl, fun j y hy => by
    rw [cell_of_row _ _ _ _ _ _ (G2.out.trans (by rw [h0]))]
    match j, hy with
    | 0, hy => cases hy; rfl⟩⟩
  have HC2 : Hid (CellsAt w6 (some ⟨b + 1 + 1 + 1, 0, none⟩) 1 [⟨1, 0, 12, 40⟩]) := ⟨rfl, by simp [Cl.Ok, InR], fun _ => ⟨_, 0, rfl, fun j c hc i v hv => by
    rw [cell_of_row _ _ _ _ _ _ (G3.out.trans (by rw [h3]))]
    match j, hc with
    | 0, hc =>
      cases hc
      match i, hv with
      | 0, hv => cases hv; rfl
      | 1, hv => cases hv; rfl
      | 2, hv => cases hv; rfl
      | 3, hv => cases hv; rfl
      | i + 4, hv => cases hv⟩⟩
  have HE1 : Hid (∀ w', Kept w6 w' → w'.cell? ⟨b + 1, 0, none⟩ = some (.slice (some ⟨b, 0, none⟩) 1 1) ∧ w'.cell? ⟨b + 1, 1, none⟩ = some (.slice none 0 0) ∧ w'.cell? ⟨b + 1 + 1 + 1 + 1, 0, none⟩ = some (.slice (some ⟨b + 1 + 1, 0, none⟩) 1 1) ∧ w'.cell? ⟨b + 1 + 1 + 1 + 1, 1, none⟩ = some (.slice (some ⟨b + 1 + 1 + 1, 0, none⟩) 1 1)) := fun w' hk => by
    have q1 := hk.row (G1.out.trans (by rw [h1]))
    have q4 := hk.row (G4.out.trans (by rw [h4]))
    refine ⟨?_, ?_, ?_, ?_⟩
    · rw [cell_of_row _ _ _ _ _ _ q1]; rfl
    · rw [cell_of_row _ _ _ _ _ _ q1]; rfl
    · rw [cell_of_row _ _ _ _ _ _ q4]; rfl
    · rw [cell_of_row _ _ _ _ _ _ q4]; rfl
  have HGA := Lib.hid (HG.out.kept HKE.out)
  have HKA := Lib.hid (HK1.out.trans HKE.out)
  clear hb h0 h1 h3 h4 G0 G1 G2 G3 G4 hw k5 HG HK1 HKE HL
  obtain ⟨x0, x1, x2, x3⟩ := HE1.out w6 (Kept.refl _)
  go_wp2_with fail
  refine (of_any (s := ⟨some ⟨b, 0, none⟩, 1, 1, none, 0, 0⟩) HGA.out (by decide) ⟨HS1.out, nil_cells _ _⟩ (by simp) (by simp) 2 ⟨by decide, by decide⟩).mono ?_
  rintro e w7 ⟨rfl, hk7⟩
  rw [wv1, show hasB wL.length 2 = true from rfl]
  have HK7 := Lib.hid hk7; clear hk7 x0 x1 x2 x3
  go_wp2_with fail
  refine (of_any (s := ⟨none, 0, 0, none, 0, 0⟩) (HGA.out.kept HK7.out) (by decide) ⟨nil_roots _ _, nil_cells _ _⟩ (by simp) (by simp) 2 ⟨by decide, by decide⟩).mono ?_
  rintro e w8 ⟨rfl, hk8⟩
  rw [wv2, show hasB wL.length 2 = true from rfl]
  have HK8 := Lib.hid (HK7.out.trans hk8); clear hk8
  obtain ⟨x0, x1, x2, x3⟩ := HE1.out w8 HK8.out
  go_wp2_with fail
  refine (of_any (s := ⟨some ⟨b, 0, none⟩, 1, 1, none, 0, 0⟩) (HGA.out.kept HK8.out) (by decide) ⟨HS1.out.kept HK8.out, nil_cells _ _⟩ (by simp) (by simp) 9 ⟨by decide, by decide⟩).mono ?_
  rintro e w9 ⟨rfl, hk9⟩
  rw [show ofI [7] [] wL 9 = 0 from rfl, show hasB wL.length 9 = false from rfl]
  have HK9 := Lib.hid (HK8.out.trans hk9); clear hk9 x0 x1 x2 x3
  obtain ⟨x0, x1, x2, x3⟩ := HE1.out w9 HK9.out
  go_wp2_with fail
  refine (of_any (s := ⟨some ⟨b + 1 + 1, 0, none⟩, 1, 1, some ⟨b + 1 + 1 + 1, 0, none⟩, 1, 1⟩) (HGA.out.kept HK9.out) (by decide) ⟨HS2.out.kept HK9.out, HC2.out.kept HK9.out⟩ (by simp) (by simp) 3 ⟨by decide, by decide⟩).mono ?_
  rintro e w10 ⟨rfl, hk10⟩
  rw [wv3, show hasB wL.length 3 = true from rfl]
  have HK10 := Lib.hid (HK9.out.trans hk10); clear hk10 x0 x1 x2 x3
  go_wp2_with fail
  refine (needs_any (HGA.out.kept (HK10.out.trans ((Kept.refl _).alloc _))) (by decide) _ 1 1 [3] (one_root w10 3 ⟨by decide, by decide⟩ 44) (by omega)).mono ?_
  rintro e w11 ⟨a1, c1, a2, c2, SS, CC, rfl, hN, hR1, hR2, hk11⟩
  obtain ⟨rfl, rfl⟩ := wL_needs hN
  obtain ⟨r1, o1, rfl, q1⟩ := hR1.at_ (by decide)
  obtain ⟨r2, o2, rfl, q2⟩ := hR2.at_ (by decide)
  have y1 := q1 0 0 rfl
  have y2 := q2 0 3 rfl
  have HK11 := Lib.hid (HKA.out.trans (HK10.out.trans (((Kept.refl _).alloc _).trans hk11)))
  clear hN hR1 hR2 hk11 q1 q2
  simp only [Nat.add_zero] at y1 y2
  go_wp2
  go_ret
  exact ⟨rfl, HK11.out⟩
end Go.Proofs.YtjhmbbioplhcgaaGreatDoor
