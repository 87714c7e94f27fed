/-
  Layer 2: an argument that is a slice of nodes, opened to its cells.
-/
import Derived.Test.YtjhmbbioplhcgaaDoorTTab
import Derived.Test.YtjhmbbioplhcgaaDoorTMade
import Derived.Deep.Slices
import Derived.Deep.Fields
import Derived.ChangeSame
namespace Go.Proofs.YtjhmbbioplhcgaaDoor
open Go Go.RowKit Go.ChangeShapes Go.WideShapes Go.Deep

theorem nodeFields : ∃ f0 f1 f2 f3 f4 f5, Tryd.prog.underlying 34 = some (.struct #[f0, f1, f2, f3, f4, f5]) ∧ f0.type = 5 ∧ f1.type = 2 ∧ f2.type = 3 ∧ f3.type = 32 ∧ f4.type = 30 ∧ f5.type = 30 ∧ oneCellFields Tryd.prog #[f0, f1, f2, f3, f4, f5] = true :=
  ⟨_, _, _, _, _, _, Tryd.underlying34, rfl, rfl, rfl, rfl, rfl, rfl, by kernel_rfl⟩

section
variable {H : Type} {enc : TypeId × Value → H} {w : World} {base : Nat} {spare : Nat → Bool} {held : Bool}
/-- The nodes that a slice holds. -/
theorem open_nodes {fuel : Nat} {a : Option Addr} {n c : Nat} {x : DataW H × List MemPlace} (h : DataW.trod enc Tryd.prog w base spare held fuel 22 [.slice a n c] = some x) : ∃ ds, NodesAt w a n ds := by
  obtain ⟨f0, f1, f2, f3, f4, f5, hs, t0, t1, t2, t3, t4, t5, hone⟩ := nodeFields
  rcases open_slice Tryd.underlying22 h with ⟨hcs, _⟩ | ⟨ad, len, cap, m, nn, D, Pl, hcs, hb, hl, hm, hmm, hx, hi⟩
  · simp at hcs
    obtain ⟨rfl, rfl, rfl⟩ := hcs
    exact ⟨[], ⟨rfl, by simp, fun h => absurd h (Nat.lt_irrefl 0)⟩⟩
  · simp at hcs
    obtain ⟨rfl, rfl, rfl⟩ := hcs
    have hnm : n ≤ m := by rw [hmm]; split <;> omega
    have each : ∀ i, i < n → ∃ d : Nd, d.Ok ∧ ∀ j v, d.cells[j]? = some v → w.cell? ((ad.add (i * 6)).add j) = some v := by
      intro i hin
      obtain ⟨cs', hc, ht'⟩ := hi i (by omega)
      rw [TA.cellsNode] at hc
      obtain ⟨ys, n', hn', hy, hlen, hyl, hf⟩ := DataW.trod_struct hs ht'
      obtain ⟨_, hcl, hat⟩ := World.cells?_some hc
      have fld : ∀ (j : Nat) (f : Field), #[f0, f1, f2, f3, f4, f5][j]? = some f → j < 6 → ∃ v y, w.cell? ((ad.add (i * 6)).add j) = some v ∧ DataW.trod enc Tryd.prog w base spare held n' f.type [v] = some y := by
        intro j f hj hj6
        obtain ⟨ho, hk⟩ := hone_of hone j f hj
        have hv : cs'[j]? = some (cs'[j]'(by omega)) := List.getElem?_eq_getElem (by omega)
        have h1 := hf j f hj
        rw [ho, hk] at h1
        have hone' : (cs'.drop j).take 1 = [cs'[j]'(by omega)] := by
          rw [List.drop_eq_getElem_cons (by omega)]
          rfl
        rw [hone'] at h1
        have hys : ys[j]? = some (ys[j]'(by rw [hyl]; simpa using hj6)) := List.getElem?_eq_getElem _
        exact ⟨_, _, by rw [hat j (by omega), hv], h1.trans hys⟩
      obtain ⟨v0, y0, c0, e0⟩ := fld 0 f0 rfl (by omega)
      obtain ⟨v1, y1, c1, e1⟩ := fld 1 f1 rfl (by omega)
      obtain ⟨v2, y2, c2, e2⟩ := fld 2 f2 rfl (by omega)
      obtain ⟨v3, y3, c3, e3⟩ := fld 3 f3 rfl (by omega)
      obtain ⟨v4, y4, c4, e4⟩ := fld 4 f4 rfl (by omega)
      obtain ⟨v5, y5, c5, e5⟩ := fld 5 f5 rfl (by omega)
      rw [t0] at e0; rw [t1] at e1; rw [t2] at e2; rw [t3] at e3; rw [t4] at e4; rw [t5] at e5
      obtain ⟨z0, hz0, _, w0⟩ := DataW.trod_int Tryd.underlying5 e0
      obtain ⟨z1, hz1, _, w1⟩ := DataW.trod_int Tryd.underlying2 e1
      obtain ⟨z2, hz2, _, w2⟩ := DataW.trod_int Tryd.underlying3 e2
      obtain ⟨z3, hz3, _, w3⟩ := DataW.trod_int Tryd.underlying32 e3
      obtain ⟨z4, hz4, _, w4⟩ := DataW.trod_int Tryd.underlying30 e4
      obtain ⟨z5, hz5, _, w5⟩ := DataW.trod_int Tryd.underlying30 e5
      simp at hz0 hz1 hz2 hz3 hz4 hz5
      subst hz0; subst hz1; subst hz2; subst hz3; subst hz4; subst hz5
      refine ⟨⟨z0, z1, z2, z3, z4, z5⟩, ⟨inB_wf w0, inR_wf w1, inR_wf w2, inB_wf w3, inR_wf w4, inR_wf w5⟩, fun j v hj => ?_⟩
      match j, hj with
      | 0, hj => simp [Nd.cells] at hj; subst hj; exact c0
      | 1, hj => simp [Nd.cells] at hj; subst hj; exact c1
      | 2, hj => simp [Nd.cells] at hj; subst hj; exact c2
      | 3, hj => simp [Nd.cells] at hj; subst hj; exact c3
      | 4, hj => simp [Nd.cells] at hj; subst hj; exact c4
      | 5, hj => simp [Nd.cells] at hj; subst hj; exact c5
      | j + 6, hj => simp [Nd.cells] at hj
    have all : ∃ ds : List Nd, ds.length = n ∧ ∀ i d, ds[i]? = some d → d.Ok ∧ ∀ j v, d.cells[j]? = some v → w.cell? ((ad.add (i * 6)).add j) = some v := by
      have build : ∀ k, k ≤ n → ∃ ds : List Nd, ds.length = k ∧ ∀ i d, ds[i]? = some d → d.Ok ∧ ∀ j v, d.cells[j]? = some v → w.cell? ((ad.add (i * 6)).add j) = some v := by
        intro k
        induction k with
        | zero => intro _; exact ⟨[], rfl, fun i d h => by simp at h⟩
        | succ k ih =>
          intro hk
          obtain ⟨ds, hl, hd⟩ := ih (by omega)
          obtain ⟨d, ho, hc⟩ := each k (by omega)
          refine ⟨ds ++ [d], by simp [hl], fun i e he => ?_⟩
          by_cases hik : i < ds.length
          · rw [List.getElem?_append_left hik] at he
            exact hd i e he
          · rw [List.getElem?_append_right (by omega)] at he
            have hi0 : i = k := by
              have := (List.getElem?_eq_some_iff.1 he).1
              simp at this; omega
            subst hi0
            have : e = d := by
              rw [hl] at he; simpa using he.symm
            subst this
            exact ⟨ho, hc⟩
      exact build n (Nat.le_refl _)
    obtain ⟨ds, hlen, hds⟩ := all
    refine ⟨ds, ⟨hlen, fun d hd => ?_, fun hn => ?_⟩⟩
    · obtain ⟨i, hi, he⟩ := List.getElem_of_mem hd
      exact (hds i d (by rw [List.getElem?_eq_getElem hi, he])).1
    · obtain ⟨d, hd⟩ : ∃ d, ds[0]? = some d := ⟨_, List.getElem?_eq_getElem (by omega)⟩
      obtain ⟨b, off, spot⟩ := ad
      have hspot : spot = none := by
        have := World.cell?_spot ((hds 0 d hd).2 0 _ rfl)
        simpa [Addr.add] using this
      subst hspot
      refine ⟨b, off, rfl, fun j d hd i v hv => ?_⟩
      have := (hds j d hd).2 i v hv
      have ea : ((⟨b, off, none⟩ : Addr).add (j * 6)).add i = ⟨b, off + j * 6 + i, none⟩ := by
        have hadd : ∀ (o q : Nat), (⟨b, o, none⟩ : Addr).add q = ⟨b, o + q, none⟩ := by
          intro o q
          unfold Addr.add
          by_cases h0 : q = 0
          · subst h0; simp
          · simp [h0]
        rw [hadd, hadd]
      rwa [ea] at this
end
end Go.Proofs.YtjhmbbioplhcgaaDoor
