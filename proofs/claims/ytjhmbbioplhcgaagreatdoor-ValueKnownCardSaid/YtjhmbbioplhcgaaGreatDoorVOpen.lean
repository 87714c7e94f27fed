/-
  Layer 3: an argument that is an environment, opened to its cells.
-/
import Derived.Test.YtjhmbbioplhcgaaGreatDoorTOpenI
import Derived.Test.YtjhmbbioplhcgaaGreatDoorVEnv
namespace Go.Proofs.YtjhmbbioplhcgaaGreatDoor
open Go Go.RowKit Go.ChangeShapes Go.WideShapes Go.Deep

theorem TA.cellsCell : Tryz.prog.cellsOf 58 = 4 := by kernel_rfl
theorem TA.cellsEnv : Tryz.prog.cellsOf 26 = 2 := by kernel_rfl
theorem cellFields : ∃ f0 f1 f2 f3, Tryz.prog.underlying 58 = some (.struct #[f0, f1, f2, f3]) ∧ f0.type = 3 ∧ f1.type = 2 ∧ f2.type = 2 ∧ f3.type = 2 ∧ oneCellFields Tryz.prog #[f0, f1, f2, f3] = true :=
  ⟨_, _, _, _, Tryz.underlying58, rfl, rfl, rfl, rfl, by kernel_rfl⟩
theorem envFields : ∃ f0 f1, Tryz.prog.underlying 26 = some (.struct #[f0, f1]) ∧ f0.type = 23 ∧ f1.type = 24 ∧ oneCellFields Tryz.prog #[f0, f1] = true :=
  ⟨_, _, Tryz.underlying26, rfl, rfl, by kernel_rfl⟩
section
variable {H : Type} {enc : TypeId × Value → H} {w : World} {base : Nat} {spare : Nat → Bool}
/-- The cells that a slice holds. -/
theorem open_cells {fuel : Nat} {a : Option Addr} {n c : Nat} {x : DataW H × List MemPlace} (h : DataW.trod enc Tryz.prog w base spare true fuel 24 [.slice a n c] = some x) : ∃ cs, CellsAt w a n cs := by
  obtain ⟨f0, f1, f2, f3, hs, t0, t1, t2, t3, hone⟩ := cellFields
  rcases open_slice Tryz.underlying24 h with ⟨hcs, _⟩ | ⟨ad, len, cap, m, nn, D, Pl, hcs, hb, hl, hm, hmm, hx, hi⟩
  · simp at hcs
    obtain ⟨rfl, rfl, rfl⟩ := hcs
    exact ⟨[], ⟨rfl, by simp, fun h => absurd h (Nat.lt_irrefl 0)⟩⟩
  · simp at hcs
    obtain ⟨rfl, rfl, rfl⟩ := hcs
    have hnm : n ≤ m := by rw [hmm]; split <;> omega
    have each : ∀ i, i < n → ∃ d : Cl, d.Ok ∧ ∀ j v, d.cells[j]? = some v → w.cell? ((ad.add (i * 4)).add j) = some v := by
      intro i hin
      obtain ⟨cs', hc, ht'⟩ := hi i (by omega)
      rw [TA.cellsCell] at hc
      obtain ⟨ys, n', hn', hy, hlen, hyl, hf⟩ := DataW.trod_struct hs ht'
      obtain ⟨_, hcl, hat⟩ := World.cells?_some hc
      have fld : ∀ (j : Nat) (f : Field), #[f0, f1, f2, f3][j]? = some f → j < 4 → ∃ v y, w.cell? ((ad.add (i * 4)).add j) = some v ∧ DataW.trod enc Tryz.prog w base spare true n' f.type [v] = some y := by
        intro j f hj hj6
        obtain ⟨ho, hk⟩ := hone_of hone j f hj
        have hv : cs'[j]? = some (cs'[j]'(by omega)) := List.getElem?_eq_getElem (by omega)
        have h1 := hf j f hj
        rw [ho, hk] at h1
        have hone' : (cs'.drop j).take 1 = [cs'[j]'(by omega)] := by
          rw [List.drop_eq_getElem_cons (by omega)]
          rfl
        rw [hone'] at h1
        have hys : ys[j]? = some (ys[j]'(by rw [hyl]; simpa using hj6)) := List.getElem?_eq_getElem _
        exact ⟨_, _, by rw [hat j (by omega), hv], h1.trans hys⟩
      obtain ⟨v0, y0, c0, e0⟩ := fld 0 f0 rfl (by omega)
      obtain ⟨v1, y1, c1, e1⟩ := fld 1 f1 rfl (by omega)
      obtain ⟨v2, y2, c2, e2⟩ := fld 2 f2 rfl (by omega)
      obtain ⟨v3, y3, c3, e3⟩ := fld 3 f3 rfl (by omega)
      rw [t0] at e0; rw [t1] at e1; rw [t2] at e2; rw [t3] at e3
      obtain ⟨z0, hz0, _, w0⟩ := DataW.trod_int Tryz.underlying3 e0
      obtain ⟨z1, hz1, _, w1⟩ := DataW.trod_int Tryz.underlying2 e1
      obtain ⟨z2, hz2, _, w2⟩ := DataW.trod_int Tryz.underlying2 e2
      obtain ⟨z3, hz3, _, w3⟩ := DataW.trod_int Tryz.underlying2 e3
      simp at hz0 hz1 hz2 hz3
      subst hz0; subst hz1; subst hz2; subst hz3
      refine ⟨⟨z0, z1, z2, z3⟩, ⟨inR_wf w0, inR_wf w1, inR_wf w2, inR_wf w3⟩, fun j v hj => ?_⟩
      match j, hj with
      | 0, hj => simp [Cl.cells] at hj; subst hj; exact c0
      | 1, hj => simp [Cl.cells] at hj; subst hj; exact c1
      | 2, hj => simp [Cl.cells] at hj; subst hj; exact c2
      | 3, hj => simp [Cl.cells] at hj; subst hj; exact c3
      | j + 4, hj => simp [Cl.cells] at hj
    have all : ∃ ds : List Cl, ds.length = n ∧ ∀ i d, ds[i]? = some d → d.Ok ∧ ∀ j v, d.cells[j]? = some v → w.cell? ((ad.add (i * 4)).add j) = some v := by
      have build : ∀ k, k ≤ n → ∃ ds : List Cl, ds.length = k ∧ ∀ i d, ds[i]? = some d → d.Ok ∧ ∀ j v, d.cells[j]? = some v → w.cell? ((ad.add (i * 4)).add j) = some v := by
        intro k
        induction k with
        | zero => intro _; exact ⟨[], rfl, fun i d h => by simp at h⟩
        | succ k ih =>
          intro hk
          obtain ⟨ds, hl, hd⟩ := ih (by omega)
          obtain ⟨d, ho, hc⟩ := each k (by omega)
          refine ⟨ds ++ [d], by simp [hl], fun i e he => ?_⟩
          by_cases hik : i < ds.length
          · rw [List.getElem?_append_left hik] at he
            exact hd i e he
          · rw [List.getElem?_append_right (by omega)] at he
            have hi0 : i = k := by
              have := (List.getElem?_eq_some_iff.1 he).1
              simp at this; omega
            subst hi0
            have : e = d := by
              rw [hl] at he; simpa using he.symm
            subst this
            exact ⟨ho, hc⟩
      exact build n (Nat.le_refl _)
    obtain ⟨ds, hlen, hds⟩ := all
    refine ⟨ds, ⟨hlen, fun d hd => ?_, fun hn => ?_⟩⟩
    · obtain ⟨i, hi, he⟩ := List.getElem_of_mem hd
      exact (hds i d (by rw [List.getElem?_eq_getElem hi, he])).1
    · obtain ⟨d, hd⟩ : ∃ d, ds[0]? = some d := ⟨_, List.getElem?_eq_getElem (by omega)⟩
      obtain ⟨b, off, spot⟩ := ad
      have hspot : spot = none := by
        have := World.cell?_spot ((hds 0 d hd).2 0 _ rfl)
        simpa [Addr.add] using this
      subst hspot
      refine ⟨b, off, rfl, fun j d hd i v hv => ?_⟩
      have := (hds j d hd).2 i v hv
      have ea : ((⟨b, off, none⟩ : Addr).add (j * 4)).add i = ⟨b, off + j * 4 + i, none⟩ := by
        have hadd : ∀ (o q : Nat), (⟨b, o, none⟩ : Addr).add q = ⟨b, o + q, none⟩ := by
          intro o q
          unfold Addr.add
          by_cases h0 : q = 0
          · subst h0; simp
          · simp [h0]
        rw [hadd, hadd]
      rwa [ea] at this
set_option maxRecDepth 100000 in
theorem open_env {v : Value} {d : DataW H} {p : List MemPlace} {b0 : Nat} {r : Go.Reach} (hv : Value.okWide Tryz.prog w r b0 26 v) (h : DataW.Trod enc Tryz.prog w base spare true 26 v d p) :
    ∃ sa sn sc ca cn cc, v = .agg #[.slice sa sn sc, .slice ca cn cc] ∧ ∃ S C, EnvAt w sa sn ca cn S C := by
  obtain ⟨f0, f1, hs, t0, t1, hone⟩ := envFields
  obtain ⟨cs, rfl, hsz⟩ := okWide_struct hs hv
  rw [TA.cellsEnv] at hsz
  obtain ⟨fuel, hf⟩ := h
  obtain ⟨y0, y1, m, _, _, h0, h1⟩ := trod_struct2 hs hf
  obtain ⟨o0, k0⟩ := hone_of hone 0 f0 rfl
  obtain ⟨o1, k1⟩ := hone_of hone 1 f1 rfl
  obtain ⟨l⟩ := cs
  match l, hsz with
  | [v0, v1], _ =>
    rw [o0, k0, t0] at h0
    rw [o1, k1, t1] at h1
    have e0 : (((Value.agg #[v0, v1]).cells.toList).drop 0).take 1 = [v0] := rfl
    have e1 : (((Value.agg #[v0, v1]).cells.toList).drop 1).take 1 = [v1] := rfl
    rw [e0] at h0
    rw [e1] at h1
    obtain ⟨sa, sn, sc, rfl⟩ : ∃ a n c, v0 = .slice a n c := by
      rcases open_slice Tryz.underlying23 h0 with ⟨hcs, _⟩ | ⟨ad, len, cap, _, _, _, _, hcs, _⟩
      · exact ⟨_, _, _, by simpa using hcs⟩
      · exact ⟨_, _, _, by simpa using hcs⟩
    obtain ⟨ca, cn, cc, rfl⟩ : ∃ a n c, v1 = .slice a n c := by
      rcases open_slice Tryz.underlying24 h1 with ⟨hcs, _⟩ | ⟨ad, len, cap, _, _, _, _, hcs, _⟩
      · exact ⟨_, _, _, by simpa using hcs⟩
      · exact ⟨_, _, _, by simpa using hcs⟩
    obtain ⟨S, hS⟩ := open_nums h0
    obtain ⟨C, hC⟩ := open_cells h1
    exact ⟨sa, sn, sc, ca, cn, cc, rfl, S, C, hS, hC⟩
end
end Go.Proofs.YtjhmbbioplhcgaaGreatDoor
