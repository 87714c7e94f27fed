/-
  Layer 5: the follower in memory: its clauses, where literals stand, open counts, what is known and found; what each of its steps leaves.
-/
import Derived.Test.YtlikokeknfhejaaGreatDoorCUses
namespace Go.Proofs.YtlikokeknfhejaaGreatDoor
open Go Go.RowKit Go.ChangeMaps Go.ChangeShapes Go.MapKept Go.WideMaps Go.WideElems Go.Maps

theorem row_off {w w' : World} {X : Nat → Prop} {N n s : Nat} {e : TypeId} {v : Value} {xs : List Value} (h : w.ownsRow N e s v n xs) (ht : Turned X w w') (hX : ∀ q, v.ownBlock = some q → ¬ X q) : w'.ownsRow N e s v n xs := by
  refine ⟨h.1, ?_⟩
  rcases h.2 with h2 | ⟨r, cap, cur, hv, hB, hblk, h3⟩
  · exact Or.inl h2
  · exact Or.inr ⟨r, cap, cur, hv, hB, (ht.block r (Array.getElem?_eq_some_iff.1 hblk).1 (hX r (by rw [hv]; rfl))).trans hblk, h3⟩
theorem grp_off {w w' : World} {X : Nat → Prop} {P : Program} {k : TypeId} {base b n : Nat} {e : TypeId} {q : IntKind} {D : DataW Unit} (h : w.ownsGroups P k base e q b n D) (ht : Turned X w w') (hb' : ¬ X b) (hs : w.Shuns b X) : w'.ownsGroups P k base e q b n D := by
  obtain ⟨es, clock, hb, F, hsz, rfl, hbb, hlen, hap⟩ := h
  have hblt : b < w.heap.size := (Array.getElem?_eq_some_iff.1 hb).1
  have hst : ∀ x ∈ es.toList, ∀ z, rowElem (H := Unit) w base e q x.val = some z → rowElem w' base e q x.val = some z := fun x hx z hz => by
    obtain ⟨zs, ho, rfl⟩ := rowElem_inv hz
    exact rowElem_mk ⟨row_off ho.1 ht fun g hg => hs es clock hb x hx g hg, ho.2⟩
  obtain ⟨F1, hmap, _⟩ := F.stay hst
  refine ⟨es, clock, (ht.block b hblt hb').trans hb, F1, hsz, by rw [hmap], hbb, fun x hx zs ho => ?_, hap⟩
  obtain ⟨y, hy⟩ := F.reads x hx
  obtain ⟨z, hz, _⟩ := rd_val hy
  obtain ⟨zs0, ho0, _⟩ := rowElem_inv hz
  rw [ho.unique ⟨row_off ho0.1 ht fun g hg => hs es clock hb x hx g hg, ho0.2⟩]
  exact hlen x hx zs0 ho0
theorem shuns_off {w w' : World} {X No : Nat → Prop} {b : Nat} (h : w.Shuns b No) (ht : Turned X w w') (hlt : b < w.heap.size) (hb' : ¬ X b) : w'.Shuns b No := fun es clock hb =>
  h es clock ((ht.block b hlt hb').symm.trans hb)
theorem shuns_sub {w : World} {No No' : Nat → Prop} {b : Nat} (h : w.Shuns b No) (hs : ∀ q, No' q → No q) : w.Shuns b No' := fun es clock hb x hx g hg hN => h es clock hb x hx g hg (hs g hN)

theorem grown_setC (w : World) (b o : Nat) (u : Value) : w.grownBy (w.setCell ⟨b, o, none⟩ u) (some b) :=
  ⟨rfl, rfl, rfl, by simp [World.setCell], fun k _ hk => heap_setCell_other w ⟨b, o, none⟩ k u (fun e => hk (by simp [e]))⟩
/-- The slices of a follower. -/
structure Fo where
  ca : Option Addr
  ck : Nat
  cc : Nat
  oa : Option Addr
  on : Nat
  oc : Nat
  fa : Option Addr
  fn : Nat
  fc : Nat
abbrev folObj (um km : Nat) (s : Fo) : Obj := .cells #[.slice s.ca s.ck s.cc, .map (some um), .slice s.oa s.on s.oc, .map (some km), .slice s.fa s.fn s.fc] 158
def At (a : Option Addr) (q : Nat) : Prop := a.map (·.block) = some q
theorem At.own {a : Option Addr} {n c q : Nat} : (Value.slice a n c).ownBlock = some q ↔ At a q := by
  unfold At
  cases a <;> simp [Value.ownBlock]
/-- The blocks that the map's rows are none of. -/
def No (CB : Nat → Prop) (fb km : Nat) (s : Fo) (q : Nat) : Prop := CB q ∨ q = fb ∨ q = km ∨ At s.ca q ∨ At s.oa q ∨ At s.fa q
structure FolAt (N base : Nat) (w : World) (fb um km : Nat) (s : Fo) (n nk : Nat) (vs : List Value) (CB : Nat → Prop) (DU : DataW Unit) (D : List (List Int)) (O K F : List Int) (f : Int → List Int) : Prop where
  blk : w.heap[fb]? = some (folObj um km s)
  cls : RowsV N w (fun q => ¬ CB q) s.ca s.ck s.cc vs D
  opn : w.ownsRow N 3 1 (.slice s.oa s.on s.oc) s.on (O.map (Value.int .i64))
  fnd : w.ownsRow N 3 1 (.slice s.fa s.fn s.fc) s.fn (F.map (Value.int .i64))
  grp : w.ownsGroups Tryz.prog 3 base 3 .i64 um n DU
  use : UsesD DU f
  shun : w.Shuns um (No CB fb km s)
  kn : KnowAt w km nk K
  cbLt : ∀ q, CB q → q < w.heap.size
  cbF : ¬ CB fb
  cbU : ¬ CB um
  cbK : ¬ CB km
  cbO : ∀ q, At s.oa q → ¬ CB q
  cbFa : ∀ q, At s.fa q → ¬ CB q
  co : ∀ q, At s.ca q → ¬ At s.oa q
  cf : ∀ q, At s.ca q → ¬ At s.fa q
  of : ∀ q, At s.oa q → ¬ At s.fa q
  fu : fb ≠ um
  fk : fb ≠ km
  uk : um ≠ km
  lf : fb < N
  lu : um < N
  lk : km < N
theorem FolAt.low {N base : Nat} {w : World} {fb um km : Nat} {s : Fo} {n nk : Nat} {vs : List Value} {CB : Nat → Prop} {DU : DataW Unit} {D : List (List Int)} {O K F : List Int} {f : Int → List Int} (h : FolAt N base w fb um km s n nk vs CB DU D O K F f) :
    (∀ q, At s.ca q → N ≤ q ∧ q < w.heap.size) ∧ (∀ q, At s.oa q → N ≤ q ∧ q < w.heap.size) ∧ (∀ q, At s.fa q → N ≤ q ∧ q < w.heap.size) :=
  ⟨fun q hq => h.cls.row.lt q (At.own.2 hq), fun q hq => h.opn.lt q (At.own.2 hq), fun q hq => h.fnd.lt q (At.own.2 hq)⟩
theorem FolAt.ltF {N base : Nat} {w : World} {fb um km : Nat} {s : Fo} {n nk : Nat} {vs : List Value} {CB : Nat → Prop} {DU : DataW Unit} {D : List (List Int)} {O K F : List Int} {f : Int → List Int} (h : FolAt N base w fb um km s n nk vs CB DU D O K F f) :
    fb < w.heap.size ∧ um < w.heap.size ∧ km < w.heap.size :=
  ⟨(Array.getElem?_eq_some_iff.1 h.blk).1, by obtain ⟨es, clock, hb, _⟩ := h.grp; exact (Array.getElem?_eq_some_iff.1 hb).1, h.kn.lt⟩
theorem FolAt.noLt {N base : Nat} {w : World} {fb um km : Nat} {s : Fo} {n nk : Nat} {vs : List Value} {CB : Nat → Prop} {DU : DataW Unit} {D : List (List Int)} {O K F : List Int} {f : Int → List Int} (h : FolAt N base w fb um km s n nk vs CB DU D O K F f) : ∀ q, No CB fb km s q → q < w.heap.size := by
  obtain ⟨h1, h2, h3⟩ := h.low
  obtain ⟨f1, f2, f3⟩ := h.ltF
  rintro q (e | e | e | e | e | e)
  · exact h.cbLt q e
  · omega
  · omega
  · exact (h1 q e).2
  · exact (h2 q e).2
  · exact (h3 q e).2
theorem FolAt.kept {N base : Nat} {w w' : World} {fb um km : Nat} {s : Fo} {n nk : Nat} {vs : List Value} {CB : Nat → Prop} {DU : DataW Unit} {D : List (List Int)} {O K F : List Int} {f : Int → List Int} (h : FolAt N base w fb um km s n nk vs CB DU D O K F f) (k : Kept w w') : FolAt N base w' fb um km s n nk vs CB DU D O K F f :=
  { h with
    blk := k.row h.blk
    cls := h.cls.kept k
    opn := row_keptR h.opn k
    fnd := row_keptR h.fnd k
    grp := grp_off h.grp (k.turned fun _ => False) (fun e => e) (shuns_sub h.shun fun _ e => e.elim)
    shun := shuns_off h.shun (k.turned fun _ => False) h.ltF.2.1 (fun e => e)
    kn := h.kn.kept k
    cbLt := fun q hq => Nat.lt_of_lt_of_le (h.cbLt q hq) k.size }
theorem FolAt.grp_alloc {N base : Nat} {w : World} {fb um km : Nat} {s : Fo} {n nk : Nat} {vs : List Value} {CB : Nat → Prop} {DU : DataW Unit} {D : List (List Int)} {O K F : List Int} {f : Int → List Int} (h : FolAt N base w fb um km s n nk vs CB DU D O K F f) (o : Obj) : (w.alloc o).ownsGroups Tryz.prog 3 base 3 .i64 um n DU := (h.kept ((Kept.refl w).alloc o)).grp
theorem FolAt.shun_alloc {N base : Nat} {w : World} {fb um km : Nat} {s : Fo} {n nk : Nat} {vs : List Value} {CB : Nat → Prop} {DU : DataW Unit} {D : List (List Int)} {O K F : List Int} {f : Int → List Int} (h : FolAt N base w fb um km s n nk vs CB DU D O K F f) (o : Obj) : (w.alloc o).Shuns um (No CB fb km s) := (h.kept ((Kept.refl w).alloc o)).shun
/-- More blocks are clauses'. -/
theorem FolAt.more {N base : Nat} {w : World} {fb um km : Nat} {s : Fo} {n nk : Nat} {vs : List Value} {CB CB' : Nat → Prop} {DU : DataW Unit} {D : List (List Int)} {O K F : List Int} {f : Int → List Int} {w' : World} (h : FolAt N base w fb um km s n nk vs CB DU D O K F f) (k : Kept w w') (h1 : ∀ q, CB q → CB' q) (h2 : ∀ q, CB' q → CB q ∨ (w.heap.size ≤ q ∧ q < w'.heap.size)) : FolAt N base w' fb um km s n nk vs CB' DU D O K F f := by
  obtain ⟨l1, l2, l3⟩ := h.low
  obtain ⟨f1, f2, f3⟩ := h.ltF
  have hnew : ∀ q, q < w.heap.size → ¬ CB q → ¬ CB' q := fun q hq hn hc => (h2 q hc).elim hn (fun e => by omega)
  have hk := h.kept k
  refine { hk with
    cls := ⟨hk.cls.row, hk.cls.len, fun j u d hu hd => ?_, fun ad had => hnew _ (l1 _ (by rw [had]; rfl)).2 (h.cls.own ad had)⟩
    shun := shuns_off (h.shun.reno h.grp fun q hq => ?_) (k.turned fun _ => False) f2 (fun e => e)
    cbLt := fun q hq => (h2 q hq).elim (fun e => Nat.lt_of_lt_of_le (h.cbLt q e) k.size) (fun e => e.2)
    cbF := hnew _ f1 h.cbF
    cbU := hnew _ f2 h.cbU
    cbK := hnew _ f3 h.cbK
    cbO := fun q hq => hnew q (l2 q hq).2 (h.cbO q hq)
    cbFa := fun q hq => hnew q (l3 q hq).2 (h.cbFa q hq) }
  · obtain ⟨a, m, c, e, hI, hF, hn⟩ := hk.cls.each j u d hu hd
    exact ⟨a, m, c, e, hI, hF, fun h0 ad had hc => hn h0 ad had fun h3 => hc (h1 _ h3)⟩
  · rcases hq with e | e
    · rcases h2 q e with e' | e'
      · exact Or.inl (Or.inl e')
      · exact Or.inr e'.1
    · exact Or.inl (Or.inr e)
/-- One more place in the map of uses. -/
theorem FolAt.used {N base : Nat} {w w4 w5 : World} {fb um km : Nat} {s : Fo} {n nk : Nat} {vs : List Value} {CB : Nat → Prop} {DU DU' : DataW Unit} {D : List (List Int)} {O K F : List Int} {f g : Int → List Int} {o : Obj} {v : Value} (h : FolAt N base w fb um km s n nk vs CB DU D O K F f)
    (hv : ∀ q, v.ownBlock = some q → ¬ No CB fb km s q) (hvu : v.ownBlock ≠ some um) (h4 : (w.alloc o).grownBy w4 v.ownBlock) (h5 : w4.grownBy w5 (some um)) (hg : w5.ownsGroups Tryz.prog 3 base 3 .i64 um (n + 1) DU') (hu : UsesD DU' g) (hs : w5.Shuns um (No CB fb km s)) :
    FolAt N base w5 fb um km s (n + 1) nk vs CB DU' D O K F g ∧ Turned (fun q => v.ownBlock = some q ∨ q = um) w w5 := by
  have ht : Turned (fun q => v.ownBlock = some q ∨ q = um) w w5 :=
    ((((Kept.refl w).alloc o).turned _).trans (Turned.grown h4 fun q hq => Or.inl hq)).trans (Turned.grown h5 fun q hq => Or.inr (by simpa using hq.symm))
  have hoff : ∀ q, No CB fb km s q → q ≠ um → ¬ (v.ownBlock = some q ∨ q = um) := fun q hq hne e => e.elim (fun e => hv q e hq) hne
  obtain ⟨l1, l2, l3⟩ := h.low
  refine ⟨{ h with
    blk := (ht.block fb h.ltF.1 (hoff fb (Or.inr (Or.inl rfl)) h.fu)).trans h.blk
    cls := h.cls.turned (row_off h.cls.row ht fun q hq => hoff q (Or.inr (Or.inr (Or.inr (Or.inl (At.own.1 hq))))) (by have := (l1 q (At.own.1 hq)).1; have := h.lu; omega)) (ht.mono fun q _ e hc => ?_)
    opn := row_off h.opn ht fun q hq => hoff q (Or.inr (Or.inr (Or.inr (Or.inr (Or.inl (At.own.1 hq)))))) (by have := (l2 q (At.own.1 hq)).1; have := h.lu; omega)
    fnd := row_off h.fnd ht fun q hq => hoff q (Or.inr (Or.inr (Or.inr (Or.inr (Or.inr (At.own.1 hq)))))) (by have := (l3 q (At.own.1 hq)).1; have := h.lu; omega)
    grp := hg
    use := hu
    shun := hs
    kn := h.kn.block (ht.block km h.kn.lt (hoff km (Or.inr (Or.inr (Or.inl rfl))) (Ne.symm h.uk)))
    cbLt := fun q hq => Nat.lt_of_lt_of_le (h.cbLt q hq) ht.size }, ht⟩
  rcases e with e | e
  · exact hv q e (Or.inl hc)
  · subst e; exact h.cbU hc
theorem folObj_set (w : World) {fb : Nat} {a b c d e : Value} {t : TypeId} (h : w.heap[fb]? = some (.cells #[a, b, c, d, e] t (0, 0))) (u : Value) :
    (w.setCell ⟨fb, 0, none⟩ u).heap[fb]? = some (.cells #[u, b, c, d, e] t (0, 0)) ∧ (w.setCell ⟨fb, 2, none⟩ u).heap[fb]? = some (.cells #[a, b, u, d, e] t (0, 0)) ∧ (w.setCell ⟨fb, 4, none⟩ u).heap[fb]? = some (.cells #[a, b, c, d, u] t (0, 0)) :=
  ⟨heap_setCell_same w fb 0 _ t u h, heap_setCell_same w fb 2 _ t u h, heap_setCell_same w fb 4 _ t u h⟩
theorem fol_facts {W w : World} {fb um km : Nat} {s : Fo} (h : W.heap[fb]? = some (folObj um km s)) (hk : Kept W w) :
    w.cell? ⟨fb, 0, none⟩ = some (.slice s.ca s.ck s.cc) ∧ w.cell? ⟨fb, 1, none⟩ = some (.map (some um)) ∧ w.cell? ⟨fb, 2, none⟩ = some (.slice s.oa s.on s.oc) ∧ w.cell? ⟨fb, 3, none⟩ = some (.map (some km)) ∧ w.cell? ⟨fb, 4, none⟩ = some (.slice s.fa s.fn s.fc) := by
  have h1 := hk.row h
  refine ⟨?_, ?_, ?_, ?_, ?_⟩ <;> (rw [cell_of_row _ _ _ _ _ _ h1]; rfl)

section
variable {N base : Nat} {w w4 : World} {fb um km : Nat} {s : Fo} {n nk : Nat} {vs : List Value} {CB : Nat → Prop} {DU : DataW Unit} {D : List (List Int)} {O K F : List Int} {f : Int → List Int} {o : Obj} {gg cap : Nat}
/-- Behind an append to one of its rows and the store of the new slice into field j. -/
theorem turned_field {a : Option Addr} {m c j : Nat} {u : Value} (h4 : (w.alloc o).grownBy w4 (Value.slice a m c).ownBlock) : Turned (fun q => q = fb ∨ At a q) w (w4.setCell ⟨fb, j, none⟩ u) :=
  ((((Kept.refl w).alloc o).turned _).trans (Turned.grown h4 fun _q hq => Or.inr (At.own.1 hq))).trans (Turned.setCell w4 ⟨fb, j, none⟩ u (Or.inl rfl))
theorem gg_new {a : Option Addr} {m c : Nat} (hat : (Value.slice a m c).ownBlock = some gg ∨ gg = w.heap.size + 1) : ∀ q, At (some ⟨gg, 0, none⟩) q → At a q ∨ w.heap.size < q := by
  intro q hq
  have e : gg = q := by simpa [At] using hq
  subst e
  rcases hat with h | h
  · exact Or.inl (At.own.1 h)
  · exact Or.inr (by omega)
theorem FolAt.snocC (h : FolAt N base w fb um km s n nk vs CB DU D O K F f) {u : Value} {d : List Int} (hu : ClauseV w (fun q => ¬ CB q) u d)
    (hown : w4.ownsRow N 22 1 (.slice (some ⟨gg, 0, none⟩) (s.ck + 1) cap) (s.ck + 1) (vs ++ [u])) (h4 : (w.alloc o).grownBy w4 (Value.slice s.ca s.ck s.cc).ownBlock) (hat : (Value.slice s.ca s.ck s.cc).ownBlock = some gg ∨ gg = w.heap.size + 1) :
    FolAt N base (w4.setCell ⟨fb, 0, none⟩ (.slice (some ⟨gg, 0, none⟩) (s.ck + 1) cap)) fb um km { s with ca := some ⟨gg, 0, none⟩, ck := s.ck + 1, cc := cap } n nk (vs ++ [u]) CB DU (D ++ [d]) O K F f ∧ Turned (fun q => q = fb ∨ At s.ca q) w (w4.setCell ⟨fb, 0, none⟩ (.slice (some ⟨gg, 0, none⟩) (s.ck + 1) cap)) := by
  have ht := turned_field (fb := fb) (j := 0) (u := .slice (some ⟨gg, 0, none⟩) (s.ck + 1) cap) h4
  obtain ⟨l1, l2, l3⟩ := h.low
  obtain ⟨f1, f2, f3⟩ := h.ltF
  have hnu : ¬ (um = fb ∨ At s.ca um) := fun e => e.elim (fun e => h.fu e.symm) fun e => by have := (l1 um e).1; have := h.lu; omega
  have hnk : ¬ (km = fb ∨ At s.ca km) := fun e => e.elim (fun e => h.fk e.symm) fun e => by have := (l1 km e).1; have := h.lk; omega
  have hgn := gg_new hat
  have hgf : gg ≠ fb := fun e => by
    rcases hgn gg rfl with h1 | h1
    · have := (l1 gg h1).1; have := h.lf; omega
    · omega
  have hb4 : w4.heap[fb]? = some (folObj um km s) := by
    have hb0 : (w.alloc o).heap[fb]? = some (folObj um km s) := ((Kept.refl w).alloc o).row h.blk
    exact (h4.block fb (Array.getElem?_eq_some_iff.1 hb0).1 (fun e => by have := (l1 fb (At.own.1 e.symm)).1; have := h.lf; omega)).trans hb0
  refine ⟨{ h with
    blk := (folObj_set w4 hb4 _).1
    cls := h.cls.snoc hu (hown.kept (row := some fb) (grown_setC w4 fb 0 _) (Or.inr (by simpa [Value.ownBlock] using hgf))) (ht.mono fun q _ e => ?_) (fun _ _ e => e) (fun hc => ?_)
    opn := row_off h.opn ht fun q hq e => ?_
    fnd := row_off h.fnd ht fun q hq e => ?_
    grp := grp_off h.grp ht hnu (shuns_sub h.shun fun q e => e.elim (fun e => Or.inr (Or.inl e)) fun e => Or.inr (Or.inr (Or.inr (Or.inl e))))
    shun := shuns_off (h.shun.reno h.grp fun q hq => ?_) ht f2 hnu
    kn := h.kn.block (ht.block km f3 hnk)
    cbLt := fun q hq => Nat.lt_of_lt_of_le (h.cbLt q hq) ht.size
    co := fun q hq ho => ?_
    cf := fun q hq ho => ?_ }, ht⟩
  · rcases e with e | e
    · subst e; exact h.cbF
    · obtain ⟨ad, had, rfl⟩ : ∃ ad, s.ca = some ad ∧ ad.block = q := by unfold At at e; cases hs : s.ca with | none => rw [hs] at e; cases e | some ad => rw [hs] at e; exact ⟨ad, rfl, by simpa using e⟩
      exact h.cls.own ad had
  · rcases hgn gg rfl with h1 | h1
    · obtain ⟨ad, had, he⟩ : ∃ ad, s.ca = some ad ∧ ad.block = gg := by unfold At at h1; cases hs : s.ca with | none => rw [hs] at h1; cases h1 | some ad => rw [hs] at h1; exact ⟨ad, rfl, by simpa using h1⟩
      exact h.cls.own ad had (he.symm ▸ hc)
    · have := h.cbLt gg hc; omega
  · have hq' := At.own.1 hq
    rcases e with e | e
    · subst e; have := (l2 q hq').1; have := h.lf; omega
    · exact h.co q e hq'
  · have hq' := At.own.1 hq
    rcases e with e | e
    · subst e; have := (l3 q hq').1; have := h.lf; omega
    · exact h.cf q e hq'
  · rcases hq with e | e | e | e | e
    · exact Or.inl (Or.inl e)
    · exact Or.inl (Or.inr (Or.inl e))
    · exact Or.inl (Or.inr (Or.inr (Or.inl e)))
    · rcases hgn q e with e' | e'
      · exact Or.inl (Or.inr (Or.inr (Or.inr (Or.inl e'))))
      · exact Or.inr (by omega)
    · exact Or.inl (Or.inr (Or.inr (Or.inr (Or.inr e))))
  · rcases hgn q hq with e | e
    · exact h.co q e ho
    · have := (l2 q ho).2; omega
  · rcases hgn q hq with e | e
    · exact h.cf q e ho
    · have := (l3 q ho).2; omega
end
end Go.Proofs.YtlikokeknfhejaaGreatDoor
