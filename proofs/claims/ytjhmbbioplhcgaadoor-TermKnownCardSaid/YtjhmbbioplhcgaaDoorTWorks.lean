/-
  Layer 2: the chapter's examples hold.
-/
import Derived.Test.YtjhmbbioplhcgaaDoorTMade
namespace Go.Proofs.YtjhmbbioplhcgaaDoor
open Go Go.RowKit

theorem nodes_of_block {W : World} {b : Nat} {ds : List Nd} {cs : Array Value} (h : W.heap[b]? = some (.cells cs 34 (0, 0))) (hcs : cs.toList = nodeCells ds) (hok : ∀ d ∈ ds, d.Ok) : NodesAt W (some ⟨b, 0, none⟩) ds.length ds := by
  refine ⟨rfl, hok, fun _ => ⟨b, 0, rfl, fun j d hd i v hv => ?_⟩⟩
  have hi : i < 6 := by
    rcases Nat.lt_or_ge i 6 with h6 | h6
    · exact h6
    · rw [List.getElem?_eq_none (by rw [Nd.cells_len]; exact h6)] at hv; cases hv
  have hf := flat_get Nd.cells 6 Nd.cells_len ds j i d hd hi
  rw [hv] at hf
  rw [Nat.zero_add, cell_of_row _ _ _ _ _ _ h, ← Array.getElem?_toList, hcs]
  exact hf
theorem addr_add0 (r j : Nat) : (⟨r, 0, none⟩ : Addr).add j = ⟨r, j, none⟩ := by unfold Addr.add; split <;> simp_all
/-- The nodes of the examples, and their graph. -/
def wds : List Nd := [⟨2, 0, 0, 0, 0, 0⟩, ⟨1, 5, 0, 0, 0, 0⟩, ⟨2, 0, 0, 0, 0, 0⟩, ⟨4, 0, 0, 1, 0, 1⟩, ⟨4, 0, 0, 1, 0, 7⟩, ⟨3, 0, 1, 0, 0, 2⟩]
def wL : List Nd := [⟨2, 0, 0, 0, 0, 0⟩, ⟨1, 5, 0, 0, 0, 0⟩, ⟨4, 0, 0, 1, 0, 1⟩, ⟨3, 0, 1, 0, 0, 2⟩]
theorem wds_adds : addsL wds = wL := by rfl
theorem wds_ids : idsL wds = [0, 1, 0, 2, -1, 3] := by rfl
theorem wds_ok : ∀ d ∈ wds, d.Ok := by
  intro d hd
  simp only [wds, List.mem_cons, List.not_mem_nil, or_false] at hd
  rcases hd with rfl | rfl | rfl | rfl | rfl | rfl <;> (simp [Nd.Ok, InB, InR])
theorem itoa0 : Lib.itoa 0 = [48] := by
  unfold Lib.itoa; rw [if_neg (by decide)]; exact Lib.decDigits_one (by decide)
theorem itoa5 : Lib.itoa 5 = [53] := by
  unfold Lib.itoa; rw [if_neg (by decide)]; exact Lib.decDigits_one (by decide)
theorem wL_text : textI wL 2 = [40, 115, 48, 32, 43, 32, 53, 41] := by
  have h : textOf wL 2 = [40, 115, 48, 32, 43, 32, 53, 41] := by
    simp [textOf, texts, wL, text1, tAt, mark0, mark1, mark2, itoa0, itoa5, signOf]
  unfold textI
  rw [h]
  rfl
theorem wL_deep : deepI wL 2 = 2 := by
  simp [deepI, wL, hasB, kps, kept1, deep1, partsOf, kAt, kp0]
theorem wL_uses : UsesSpec wL [2] [0, 1, 2] := by
  have n2 : ndAt wL 2 = ⟨4, 0, 0, 1, 0, 1⟩ := rfl
  have n0 : ndAt wL 0 = ⟨2, 0, 0, 0, 0, 0⟩ := rfl
  have n1 : ndAt wL 1 = ⟨1, 5, 0, 0, 0, 0⟩ := rfl
  have p2 : partsOf (ndAt wL 2) = [0, 1] := by rw [n2]; rfl
  have p0 : partsOf (ndAt wL 0) = [] := by rw [n0]; rfl
  have p1 : partsOf (ndAt wL 1) = [] := by rw [n1]; rfl
  have key : ∀ r i, Reach wL r i → r = 0 ∨ r = 1 ∨ r = 2 → i = 0 ∨ i = 1 ∨ i = 2 := by
    intro r i h
    induction h with
    | refl => exact fun h => h
    | step hp _ ih =>
      rintro (rfl | rfl | rfl)
      · rw [p0] at hp; cases hp
      · rw [p1] at hp; cases hp
      · rw [p2] at hp
        simp only [List.mem_cons, List.not_mem_nil, or_false] at hp
        rcases hp with rfl | rfl
        · exact ih (Or.inl rfl)
        · exact ih (Or.inr (Or.inl rfl))
  refine ⟨by simp, fun i => ⟨fun hi => ⟨2, by simp, rfl, ?_⟩, ?_⟩⟩
  · simp only [List.mem_cons, List.not_mem_nil, or_false] at hi
    rcases hi with rfl | rfl | rfl
    · exact .step (by rw [p2]; simp) (.refl 0)
    · exact .step (by rw [p2]; simp) (.refl 1)
    · exact .refl 2
  · rintro ⟨r, hr, _, hri⟩
    rw [List.mem_singleton.1 hr] at hri
    have := key 2 i hri (Or.inr (Or.inr rfl))
    simpa using this

set_option maxRecDepth 100000 in
set_option maxHeartbeats 8000000 in
theorem works_any (w : World) (hL : Laid w) : Calls Tryd.prog 10 #[] w fun e w' => e = .returned (.bool true) ∧ Kept w w' := by
  have HL := Lib.hid hL; clear hL
  go_enter Tryd.func10, Tryd.ntmps10
  go_wp2_with fail
  have HN := Lib.hid (nodes_of_block (cs := (nodeCells wds).toArray) (MapKept.heap_alloc w (.cells (nodeCells wds).toArray 34)).1 rfl wds_ok)
  have HK := Lib.hid ((Kept.refl w).alloc (.cells (nodeCells wds).toArray 34))
  change Calls _ _ _ (w.alloc (.cells (nodeCells wds).toArray 34)) _
  generalize w.alloc (.cells (nodeCells wds).toArray 34) = W at *
  refine (made_any _ 6 6 wds W HN.out (by omega) (HL.out.kept HK.out)).mono ?_
  rintro e w1 ⟨g, m, v, rfl, ⟨a, c, a', c', hG, rfl, hrow, _⟩, hk1⟩
  have e1 : addsL (wds.take 6) = wL := wds_adds
  have e2 : idsL (wds.take 6) = [0, 1, 0, 2, -1, 3] := wds_ids
  rw [e1] at hG
  rw [e2] at hrow
  clear e1 e2
  obtain ⟨lr, rfl, hcl⟩ : ∃ lr, a' = some ⟨lr, 0, none⟩ ∧ ∀ j x, ([0, 1, 0, 2, -1, 3] : List Int)[j]? = some x → w1.cell? ⟨lr, j, none⟩ = some (.int .i64 x) := by
    rcases hrow.2 with ⟨_, h0⟩ | ⟨r, cap, cur, hv, _, _, _⟩
    · cases h0
    · have ha : a' = some ⟨r, 0, none⟩ := by injection hv with h1 _ _
      subst ha
      refine ⟨r, rfl, fun j x hx => ?_⟩
      have := hrow.cells (g := r) rfl j (.int .i64 x) (by rw [List.getElem?_map, hx]; rfl)
      rwa [addr_add0] at this
  have HK1 := Lib.hid (HK.out.trans hk1)
  have HG := Lib.hid hG
  have HC := Lib.hid hcl
  clear hG hcl hrow hk1 HN HK
  go_wp2_with fail
  have HR : Hid (RootsAt (w1.alloc (.cells #[.int .i64 2] 30)) (some ⟨w1.heap.size, 0, none⟩) 1 [2]) := by
    refine ⟨rfl, by simp [InR], fun _ => ⟨w1.heap.size, 0, rfl, fun j x hx => ?_⟩⟩
    have hj : j = 0 := by
      have := (List.getElem?_eq_some_iff.1 hx).1
      simp at this; exact this
    subst hj
    have hx' : x = 2 := by simpa using hx.symm
    subst hx'
    rw [cell_of_row _ _ _ _ _ _ (MapKept.heap_alloc w1 (.cells #[.int .i64 2] 30)).1]; rfl
  have HK2 := Lib.hid ((Kept.refl w1).alloc (.cells #[.int .i64 2] 30))
  refine (uses_any (HG.out.kept HK2.out) (by decide) _ 1 1 [2] HR.out (by omega)).mono ?_
  rintro e w2 ⟨au, cu, R, rfl, hR, hrow, hk2⟩
  have hRe := hR.eq wL_uses
  subst hRe
  obtain ⟨ur, rfl, hcu⟩ : ∃ ur, au = some ⟨ur, 0, none⟩ ∧ w2.cell? ⟨ur, 2, none⟩ = some (.int .i64 2) := by
    rcases hrow.2 with ⟨_, h0⟩ | ⟨r, cap, cur, hv, _, _, _⟩
    · cases h0
    · have ha : au = some ⟨r, 0, none⟩ := by injection hv with h1 _ _
      subst ha
      refine ⟨r, rfl, ?_⟩
      have := hrow.cells (g := r) rfl 2 (.int .i64 2) rfl
      simpa [Addr.add] using this
  have HK3 := Lib.hid (HK2.out.trans hk2)
  have HKw := Lib.hid (HK1.out.trans HK3.out)
  have HCU := Lib.hid hcu
  clear hR hrow hk2 hcu HR HK2
  have b0 := HK3.out.cell (HC.out 0 _ rfl)
  have b1 := HK3.out.cell (HC.out 1 _ rfl)
  have b2 := HK3.out.cell (HC.out 2 _ rfl)
  have b3 := HK3.out.cell (HC.out 3 _ rfl)
  have b4 := HK3.out.cell (HC.out 4 _ rfl)
  have b5 := HK3.out.cell (HC.out 5 _ rfl)
  go_wp2_with (first
    | (go_at_call 21; refine (text_any (HG.out.kept HK3.out) (HL.out.kept HKw.out) (by decide) 2).mono ?_; rintro e w3 ⟨rfl, hk3⟩; rw [wL_text]; have HKT := Lib.hid hk3; have u2 := hk3.cell HCU.out; clear hk3)
    | (go_at_call 19; refine (deep_any ((HG.out.kept HK3.out).kept HKT.out) 2).mono ?_; rintro e w4 ⟨rfl, rfl⟩; rw [wL_deep]))
  go_ret
  exact ⟨rfl, HKw.out.trans HKT.out⟩
end Go.Proofs.YtjhmbbioplhcgaaDoor
