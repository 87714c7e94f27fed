/-
  Layer 5: the follower in memory, on: what appends to its open counts and to what it found leave, and a count that is lowered, and a literal that is known.
-/
import Derived.Test.YtlikokeknfhejaaGreatDoorCFol
namespace Go.Proofs.YtlikokeknfhejaaGreatDoor
open Go Go.RowKit Go.ChangeMaps Go.ChangeShapes Go.MapKept Go.WideMaps Go.WideElems Go.Maps

section
variable {N base : Nat} {w w4 : World} {fb um km : Nat} {s : Fo} {n nk : Nat} {vs : List Value} {CB : Nat → Prop} {DU : DataW Unit} {D : List (List Int)} {O K F : List Int} {f : Int → List Int} {o : Obj} {gg cap : Nat}
theorem FolAt.cbC (h : FolAt N base w fb um km s n nk vs CB DU D O K F f) : ∀ q, At s.ca q → ¬ CB q := fun q e => by
  obtain ⟨ad, had, rfl⟩ : ∃ ad, s.ca = some ad ∧ ad.block = q := by unfold At at e; cases hs : s.ca with | none => rw [hs] at e; cases e | some ad => rw [hs] at e; exact ⟨ad, rfl, by simpa using e⟩
  exact h.cls.own ad had
theorem FolAt.snocO (h : FolAt N base w fb um km s n nk vs CB DU D O K F f) {x : Int}
    (hown : w4.ownsRow N 3 1 (.slice (some ⟨gg, 0, none⟩) (s.on + 1) cap) (s.on + 1) (O.map (Value.int .i64) ++ [.int .i64 x])) (h4 : (w.alloc o).grownBy w4 (Value.slice s.oa s.on s.oc).ownBlock) (hat : (Value.slice s.oa s.on s.oc).ownBlock = some gg ∨ gg = w.heap.size + 1) :
    FolAt N base (w4.setCell ⟨fb, 2, none⟩ (.slice (some ⟨gg, 0, none⟩) (s.on + 1) cap)) fb um km { s with oa := some ⟨gg, 0, none⟩, on := s.on + 1, oc := cap } n nk vs CB DU D (O ++ [x]) K F f ∧ Turned (fun q => q = fb ∨ At s.oa q) w (w4.setCell ⟨fb, 2, none⟩ (.slice (some ⟨gg, 0, none⟩) (s.on + 1) cap)) := by
  have ht := turned_field (fb := fb) (j := 2) (u := .slice (some ⟨gg, 0, none⟩) (s.on + 1) cap) h4
  obtain ⟨l1, l2, l3⟩ := h.low
  obtain ⟨f1, f2, f3⟩ := h.ltF
  have hnu : ¬ (um = fb ∨ At s.oa um) := fun e => e.elim (fun e => h.fu e.symm) fun e => by have := (l2 um e).1; have := h.lu; omega
  have hnk : ¬ (km = fb ∨ At s.oa km) := fun e => e.elim (fun e => h.fk e.symm) fun e => by have := (l2 km e).1; have := h.lk; omega
  have hgn := gg_new hat
  have hgf : gg ≠ fb := fun e => by
    rcases hgn gg rfl with h1 | h1
    · have := (l2 gg h1).1; have := h.lf; omega
    · omega
  have hb4 : w4.heap[fb]? = some (folObj um km s) := by
    have hb0 : (w.alloc o).heap[fb]? = some (folObj um km s) := ((Kept.refl w).alloc o).row h.blk
    exact (h4.block fb (Array.getElem?_eq_some_iff.1 hb0).1 (fun e => by have := (l2 fb (At.own.1 e.symm)).1; have := h.lf; omega)).trans hb0
  refine ⟨{ h with
    blk := (folObj_set w4 hb4 _).2.1
    cls := h.cls.turned (row_off h.cls.row ht fun q hq e => ?_) (ht.mono fun q _ e => ?_)
    opn := by
      rw [List.map_append]
      exact hown.kept (row := some fb) (grown_setC w4 fb 2 _) (Or.inr (by simpa [Value.ownBlock] using hgf))
    fnd := row_off h.fnd ht fun q hq e => ?_
    grp := grp_off h.grp ht hnu (shuns_sub h.shun fun q e => e.elim (fun e => Or.inr (Or.inl e)) fun e => Or.inr (Or.inr (Or.inr (Or.inr (Or.inl e)))))
    shun := shuns_off (h.shun.reno h.grp fun q hq => ?_) ht f2 hnu
    kn := h.kn.block (ht.block km f3 hnk)
    cbLt := fun q hq => Nat.lt_of_lt_of_le (h.cbLt q hq) ht.size
    cbO := fun q hq hc => ?_
    co := fun q hq ho => ?_
    of := fun q hq ho => ?_ }, ht⟩
  · have hq' := At.own.1 hq
    rcases e with e | e
    · subst e; have := (l1 q hq').1; have := h.lf; omega
    · exact h.co q hq' e
  · rcases e with e | e
    · subst e; exact h.cbF
    · exact h.cbO q e
  · have hq' := At.own.1 hq
    rcases e with e | e
    · subst e; have := (l3 q hq').1; have := h.lf; omega
    · exact h.of q e hq'
  · rcases hq with e | e | e | e | e | e
    · exact Or.inl (Or.inl e)
    · exact Or.inl (Or.inr (Or.inl e))
    · exact Or.inl (Or.inr (Or.inr (Or.inl e)))
    · exact Or.inl (Or.inr (Or.inr (Or.inr (Or.inl e))))
    · rcases hgn q e with e' | e'
      · exact Or.inl (Or.inr (Or.inr (Or.inr (Or.inr (Or.inl e')))))
      · exact Or.inr (by omega)
    · exact Or.inl (Or.inr (Or.inr (Or.inr (Or.inr (Or.inr e)))))
  · rcases hgn q hq with e | e
    · exact h.cbO q e hc
    · have := h.cbLt q hc; omega
  · rcases hgn q ho with e | e
    · exact h.co q hq e
    · have := (l1 q hq).2; omega
  · rcases hgn q hq with e | e
    · exact h.of q e ho
    · have := (l3 q ho).2; omega
theorem FolAt.snocF (h : FolAt N base w fb um km s n nk vs CB DU D O K F f) {x : Int}
    (hown : w4.ownsRow N 3 1 (.slice (some ⟨gg, 0, none⟩) (s.fn + 1) cap) (s.fn + 1) (F.map (Value.int .i64) ++ [.int .i64 x])) (h4 : (w.alloc o).grownBy w4 (Value.slice s.fa s.fn s.fc).ownBlock) (hat : (Value.slice s.fa s.fn s.fc).ownBlock = some gg ∨ gg = w.heap.size + 1) :
    FolAt N base (w4.setCell ⟨fb, 4, none⟩ (.slice (some ⟨gg, 0, none⟩) (s.fn + 1) cap)) fb um km { s with fa := some ⟨gg, 0, none⟩, fn := s.fn + 1, fc := cap } n nk vs CB DU D O K (F ++ [x]) f ∧ Turned (fun q => q = fb ∨ At s.fa q) w (w4.setCell ⟨fb, 4, none⟩ (.slice (some ⟨gg, 0, none⟩) (s.fn + 1) cap)) := by
  have ht := turned_field (fb := fb) (j := 4) (u := .slice (some ⟨gg, 0, none⟩) (s.fn + 1) cap) h4
  obtain ⟨l1, l2, l3⟩ := h.low
  obtain ⟨f1, f2, f3⟩ := h.ltF
  have hnu : ¬ (um = fb ∨ At s.fa um) := fun e => e.elim (fun e => h.fu e.symm) fun e => by have := (l3 um e).1; have := h.lu; omega
  have hnk : ¬ (km = fb ∨ At s.fa km) := fun e => e.elim (fun e => h.fk e.symm) fun e => by have := (l3 km e).1; have := h.lk; omega
  have hgn := gg_new hat
  have hgf : gg ≠ fb := fun e => by
    rcases hgn gg rfl with h1 | h1
    · have := (l3 gg h1).1; have := h.lf; omega
    · omega
  have hb4 : w4.heap[fb]? = some (folObj um km s) := by
    have hb0 : (w.alloc o).heap[fb]? = some (folObj um km s) := ((Kept.refl w).alloc o).row h.blk
    exact (h4.block fb (Array.getElem?_eq_some_iff.1 hb0).1 (fun e => by have := (l3 fb (At.own.1 e.symm)).1; have := h.lf; omega)).trans hb0
  refine ⟨{ h with
    blk := (folObj_set w4 hb4 _).2.2
    cls := h.cls.turned (row_off h.cls.row ht fun q hq e => ?_) (ht.mono fun q _ e => ?_)
    fnd := by
      rw [List.map_append]
      exact hown.kept (row := some fb) (grown_setC w4 fb 4 _) (Or.inr (by simpa [Value.ownBlock] using hgf))
    opn := row_off h.opn ht fun q hq e => ?_
    grp := grp_off h.grp ht hnu (shuns_sub h.shun fun q e => e.elim (fun e => Or.inr (Or.inl e)) fun e => Or.inr (Or.inr (Or.inr (Or.inr (Or.inr e)))))
    shun := shuns_off (h.shun.reno h.grp fun q hq => ?_) ht f2 hnu
    kn := h.kn.block (ht.block km f3 hnk)
    cbLt := fun q hq => Nat.lt_of_lt_of_le (h.cbLt q hq) ht.size
    cbFa := fun q hq hc => ?_
    cf := fun q hq ho => ?_
    of := fun q hq ho => ?_ }, ht⟩
  · have hq' := At.own.1 hq
    rcases e with e | e
    · subst e; have := (l1 q hq').1; have := h.lf; omega
    · exact h.cf q hq' e
  · rcases e with e | e
    · subst e; exact h.cbF
    · exact h.cbFa q e
  · have hq' := At.own.1 hq
    rcases e with e | e
    · subst e; have := (l2 q hq').1; have := h.lf; omega
    · exact h.of q hq' e
  · rcases hq with e | e | e | e | e | e
    · exact Or.inl (Or.inl e)
    · exact Or.inl (Or.inr (Or.inl e))
    · exact Or.inl (Or.inr (Or.inr (Or.inl e)))
    · exact Or.inl (Or.inr (Or.inr (Or.inr (Or.inl e))))
    · exact Or.inl (Or.inr (Or.inr (Or.inr (Or.inr (Or.inl e)))))
    · rcases hgn q e with e' | e'
      · exact Or.inl (Or.inr (Or.inr (Or.inr (Or.inr (Or.inr e')))))
      · exact Or.inr (by omega)
  · rcases hgn q hq with e | e
    · exact h.cbFa q e hc
    · have := h.cbLt q hc; omega
  · rcases hgn q ho with e | e
    · exact h.cf q hq e
    · have := (l1 q hq).2; omega
  · rcases hgn q ho with e | e
    · exact h.of q hq e
    · have := (l2 q hq).2; omega
/-- A count is set. -/
theorem FolAt.setO (h : FolAt N base w fb um km s n nk vs CB DU D O K F f) {r j : Nat} (hr : s.oa = some ⟨r, 0, none⟩) (x : Int) :
    FolAt N base (w.setCell ⟨r, j, none⟩ (.int .i64 x)) fb um km s n nk vs CB DU D (O.set j x) K F f ∧ Turned (fun q => q = r) w (w.setCell ⟨r, j, none⟩ (.int .i64 x)) := by
  have ht : Turned (fun q => q = r) w (w.setCell ⟨r, j, none⟩ (.int .i64 x)) := Turned.setCell w ⟨r, j, none⟩ _ rfl
  have hat : At s.oa r := by rw [hr]; rfl
  obtain ⟨l1, l2, l3⟩ := h.low
  obtain ⟨f1, f2, f3⟩ := h.ltF
  have hr0 := (l2 r hat).1
  have hnu : ¬ um = r := by have := h.lu; omega
  have hnk : ¬ km = r := by have := h.lk; omega
  have hnf : ¬ fb = r := by have := h.lf; omega
  refine ⟨{ h with
    blk := (ht.block fb f1 hnf).trans h.blk
    cls := h.cls.turned (row_off h.cls.row ht fun q hq e => ?_) (ht.mono fun q _ e => ?_)
    opn := ?_
    fnd := row_off h.fnd ht fun q hq e => ?_
    grp := grp_off h.grp ht hnu (shuns_sub h.shun fun q e => Or.inr (Or.inr (Or.inr (Or.inr (Or.inl (by rw [e]; exact hat))))))
    shun := shuns_off h.shun ht f2 hnu
    kn := h.kn.block (ht.block km f3 hnk)
    cbLt := fun q hq => Nat.lt_of_lt_of_le (h.cbLt q hq) ht.size }, ht⟩
  · subst e; exact h.co q (At.own.1 hq) hat
  · subst e; exact h.cbO q hat
  · have h1 := h.opn
    rw [hr] at h1 ⊢
    rw [List.map_set]
    exact (h1.stored j (.int .i64 x)).1
  · subst e; exact h.of q hat (At.own.1 hq)
/-- A literal is known. -/
theorem FolAt.putK {w' : World} {nk' : Nat} {K' : List Int} (h : FolAt N base w fb um km s n nk vs CB DU D O K F f) (hk : KnowAt w' km nk' K') (ht : Turned (fun q => q = km) w w') :
    FolAt N base w' fb um km s n nk' vs CB DU D O K' F f := by
  obtain ⟨l1, l2, l3⟩ := h.low
  obtain ⟨f1, f2, f3⟩ := h.ltF
  have hlk := h.lk
  exact { h with
    blk := (ht.block fb f1 h.fk).trans h.blk
    cls := h.cls.turned (row_off h.cls.row ht fun q hq e => by have := (l1 q (At.own.1 hq)).1; omega) (ht.mono fun q _ e => by subst e; exact h.cbK)
    opn := row_off h.opn ht fun q hq e => by have := (l2 q (At.own.1 hq)).1; omega
    fnd := row_off h.fnd ht fun q hq e => by have := (l3 q (At.own.1 hq)).1; omega
    grp := grp_off h.grp ht h.uk (shuns_sub h.shun fun q e => Or.inr (Or.inr (Or.inl e)))
    shun := shuns_off h.shun ht f2 h.uk
    kn := hk
    cbLt := fun q hq => Nat.lt_of_lt_of_le (h.cbLt q hq) ht.size }
end
end Go.Proofs.YtlikokeknfhejaaGreatDoor
