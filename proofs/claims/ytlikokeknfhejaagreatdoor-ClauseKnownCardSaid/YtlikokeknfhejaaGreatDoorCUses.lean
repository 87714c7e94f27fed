/-
  Layer 5: a map from literals to the clauses in which they stand, as it grows.
-/
import Derived.Test.YtlikokeknfhejaaGreatDoorCRows
import Derived.Test.YtlikokeknfhejaaGreatDoorCKnown
import Derived.Maps.GroupsBeside
namespace Go.Proofs.YtlikokeknfhejaaGreatDoor
open Go Go.RowKit Go.ChangeMaps Go.ChangeShapes Go.MapKept Go.WideMaps Go.WideElems Go.Maps

theorem lits_inj {q : IntKind} : ∀ {a b : List Int}, (lits q a : List (DataW Unit)) = lits q b → a = b
  | [], [], _ => rfl
  | [], _ :: _, h => by simp [lits] at h
  | _ :: _, [], h => by simp [lits] at h
  | x :: a, y :: b, h => by
    simp [lits] at h
    have := lits_inj (q := q) (a := a) (b := b) (by simpa [lits] using h.2)
    rw [h.1, this]
/-- A map that reads as a function from literals to numbers. -/
structure UsesD (D : DataW Unit) (f : Int → List Int) : Prop where
  map : Maps.IsMap D
  at_ : ∀ l, InR l → (D.atKey (.int .i64 l) .nil = .nil ∧ f l = []) ∨ D.atKey (.int .i64 l) .nil = .slice (lits .i64 (f l)) []
theorem UsesD.nil : UsesD (.map []) (fun _ => []) := ⟨Maps.isMap_empty, fun _ _ => Or.inl ⟨rfl, rfl⟩⟩
theorem UsesD.put {D : DataW Unit} {f g : Int → List Int} (h : UsesD D f) {w : World} {B : Nat} {e : TypeId} {v : Value} {zs : List Int} {l : Int} (ho : w.ownsInts B e .i64 v zs) (hz : g l = zs) (hg : ∀ x, x ≠ l → g x = f x) : UsesD (D.put (.int .i64 l) (rowDatum .i64 v zs)) g := by
  refine ⟨h.map.put _ _, fun x hx => ?_⟩
  by_cases e : x = l
  · subst e
    rw [Maps.atKey_put_same h.map (isKey_int _), hz]
    exact ho.datum
  · rw [Maps.atKey_put_other (fun e' => e (by cases e'; rfl)), hg x e]
    exact h.at_ x hx
theorem UsesD.zs {D : DataW Unit} {f : Int → List Int} (h : UsesD D f) {w : World} {B : Nat} {e : TypeId} {v : Value} {zs : List Int} {l : Int} (hl : InR l) (ho : w.ownsInts B e .i64 v zs) (hat : D.atKey (.int .i64 l) .nil = rowDatum .i64 v zs) : zs = f l := by
  rcases h.at_ l hl with ⟨h1, h2⟩ | h1
  · rw [h1] at hat
    rcases ho.datum (H := Unit) with ⟨_, h4⟩ | h3
    · rw [h4, h2]
    · rw [h3] at hat; cases hat
  · rw [h1] at hat
    rcases ho.datum (H := Unit) with ⟨h3, h4⟩ | h3
    · rw [h3] at hat; cases hat
    · rw [h3] at hat
      injection hat with h5 _
      exact (lits_inj h5).symm

/-- What a look-up in the map gives: the slice, and the way back. -/
structure AtG (w : World) (base um n : Nat) (D : DataW Unit) (l : Int) (v : Value) (zs : List Int) : Prop where
  own : w.ownsInts base 3 .i64 v zs
  len : zs.length ≤ n
  back : w.groupBack Tryz.prog 156 3 base 3 .i64 um n D (.int .i64 l) (.int .i64 l) v
  shun : ∀ No : Nat → Prop, w.Shuns um No → ∀ g, v.ownBlock = some g → ¬ No g
theorem AtG.alloc {w : World} {base um n : Nat} {D : DataW Unit} {l : Int} {v : Value} {zs : List Int} (h : AtG w base um n D l v zs) (hum : um < w.heap.size) (o : Obj) : AtG (w.alloc o) base um n D l v zs := by
  refine ⟨h.own.alloc o, h.len, fun w1 v' zs' hg ho hl hloc => ?_, fun No hs g hg => ?_⟩
  · refine h.back w1 v' zs' (World.grownBy.trans (World.grownBy_alloc w o _) hg) ho hl ?_
    rcases hloc with h1 | ⟨g, h1, h2⟩
    · exact Or.inl h1
    · exact Or.inr ⟨g, h1, by simp at h2; omega⟩
  · refine h.shun No (fun es clock hb => hs es clock ?_) g hg
    rw [(World.grownBy_alloc w o none).block um hum (by simp)]
    exact hb
theorem AtG.drew {w : World} {base um n : Nat} {D : DataW Unit} {l : Int} {v : Value} {zs : List Int} (h : AtG w base um n D l v zs) : AtG w.drew base um n D l v zs := ⟨h.own, h.len, fun w1 v' zs' hg => h.back w1 v' zs' ⟨hg.os, hg.tape, hg.output, hg.size, hg.block⟩, h.shun⟩
theorem zeroInts (w : World) : (zeroValue 22).run Tryz.prog w = .ok (.slice none 0 0) w := by kernel_rfl
/-- A look-up, in whatever world in which the map's block is the same. -/
theorem grp_look {w : World} {base b n : Nat} {D : DataW Unit} {f : Int → List Int} (hown : w.ownsGroups Tryz.prog 3 base 3 .i64 b n D) (hn : n < maxLen) (hD : UsesD D f) {l : Int} (hl : InR l) :
    ∃ v, AtG w base b n D l v (f l) ∧ ∀ w', w'.heap[b]? = w.heap[b]? → (Instr.lookup 156 (.map (some b)) (.int .i64 l) false).run Tryz.prog w' = .ok v w' := by
  have hkey : keyOf Tryz.prog 3 (.int .i64 l) = some (.int .i64 l) := Maps.keyOf_int_mk Tryz.underlying3 (wf_i64 hl)
  obtain ⟨v, zs, hrun, hat, hoi, hzl, hback⟩ := hown.at lawInt Tryz.underlying156 (zeroInts w) hn hkey
  have hz := hD.zs hl hoi hat
  subst hz
  obtain ⟨es, clock, hb, F, _⟩ := hown
  have hap : es.toList.Pairwise (fun x y => x.key ≠ y.key) := ((stamped_iff es clock).1 F.stamped).2.2
  have huniq : ∀ x ∈ es.toList, ∀ y ∈ es.toList, x.key = y.key → x = y := by
    intro x hx y hy hxy
    obtain ⟨i, hi⟩ := List.mem_iff_getElem?.1 hx
    obtain ⟨j, hj⟩ := List.mem_iff_getElem?.1 hy
    obtain ⟨hi1, hi2⟩ := List.getElem?_eq_some_iff.1 hi
    obtain ⟨hj1, hj2⟩ := List.getElem?_eq_some_iff.1 hj
    have hp := List.pairwise_iff_getElem.1 hap
    rcases Nat.lt_trichotomy i j with h | h | h
    · have := hp i j hi1 hj1 h; rw [hi2, hj2] at this; exact absurd hxy this
    · subst h; rw [hi] at hj; exact Option.some.inj hj
    · have := hp j i hj1 hi1 h; rw [hi2, hj2] at this; exact absurd hxy.symm this
  rcases Maps.fit_look false lawInt Tryz.underlying156 (zeroInts w) hb F hkey with ⟨hrun', hnone, _⟩ | ⟨e0, y, hm0, hk0, hrun', _, _, _⟩
  · rw [hrun] at hrun'
    obtain rfl : v = .slice none 0 0 := by simpa using hrun'
    refine ⟨_, ⟨hoi, hzl, hback, fun _ _ g hg' => by cases hg'⟩, fun w' hb' => ?_⟩
    rcases Maps.fit_look false lawInt Tryz.underlying156 (zeroInts w') (hb'.trans hb) F hkey with ⟨hr, _, _⟩ | ⟨e1, _, hm1, hk1, _⟩
    · simpa using hr
    · exact absurd hk1 (hnone e1 hm1)
  · rw [hrun] at hrun'
    obtain rfl : v = e0.val := by simpa using hrun'
    refine ⟨_, ⟨hoi, hzl, hback, fun No hs g hg' => hs es clock hb e0 hm0 g hg'⟩, fun w' hb' => ?_⟩
    rcases Maps.fit_look false lawInt Tryz.underlying156 (zeroInts w') (hb'.trans hb) F hkey with ⟨_, hnone, _⟩ | ⟨e1, _, hm1, hk1, hr, _⟩
    · exact absurd hk0 (hnone e0 hm0)
    · rw [huniq e0 hm0 e1 hm1 (hk0.trans hk1.symm)]
      simpa using hr
/-- THE LOOK-UP AT A STEP OF A REGION THAT DRAWS ITS ORDER. -/
theorem step_lookup_groups {w : World} {ops : Array Oper} {o : Oper} {a : Act} {K : Act → World → Prop} {Q : Exit → Act → World → Prop} {E : Prop} (hgd : o.guard = none) (m x : Operand) (hop : o.op = Op.lookup 156 m x false)
    (base b n : Nat) (D : DataW Unit) (f : Int → List Int) (hm : a.eval m = .map (some b)) (hown : w.ownsGroups Tryz.prog 3 base 3 .i64 b n D) (hn : n < maxLen) (hD : UsesD D f) (l : Int) (hl : InR l) (hx : a.eval x = .int .i64 l)
    (h : ∀ v, AtG w base b n D l v (f l) → K (a.put o.dst v) w) :
    if Region.wanted o (yielded ops a.tmps) = true then Oper.wp Tryz.prog o a w K Q else E := by
  have hw : Region.wanted o (yielded ops a.tmps) = true := by simp [Region.wanted, hgd]
  rw [if_pos hw]
  have hkey : keyOf Tryz.prog 3 (.int .i64 l) = some (.int .i64 l) := Maps.keyOf_int_mk Tryz.underlying3 (wf_i64 hl)
  obtain ⟨v, zs, hrun, hat, hoi, hzl, hback⟩ := hown.at lawInt Tryz.underlying156 (zeroInts w) hn hkey
  have hsh : ∀ No : Nat → Prop, w.Shuns b No → ∀ g, v.ownBlock = some g → ¬ No g := by
    obtain ⟨es, clock, hb, F, _⟩ := hown
    rcases Maps.fit_look false lawInt Tryz.underlying156 (zeroInts w) hb F hkey with ⟨hrun', _, _⟩ | ⟨e0, y, hm0, _, hrun', _, _, _⟩
    · rw [hrun] at hrun'
      obtain rfl : v = .slice none 0 0 := by simpa using hrun'
      intro _ _ g hg'
      cases hg'
    · rw [hrun] at hrun'
      obtain rfl : v = e0.val := by simpa using hrun'
      exact fun No hs g hg' => hs es clock hb e0 hm0 g hg'
  have hz := hD.zs hl hoi hat
  subst hz
  unfold Oper.wp
  simp [execOp, hop, hm, hx, hrun, Result.andThen]
  exact h v ⟨hoi, hzl, hback, hsh⟩
/-- Behind the append: the store, and what the map is then. -/
theorem AtG.store {w w4 : World} {base um n gg cap : Nat} {D : DataW Unit} {f g : Int → List Int} {l x : Int} {v : Value} {No : Nat → Prop} (h : AtG w base um n D l v (f l)) (hG : w.ownsGroups Tryz.prog 3 base 3 .i64 um n D) (hD : UsesD D f) (hl : InR l) (hx : InR x) (hn : n < maxLen) (hsh : w.Shuns um No)
    (hown : w4.ownsRow base 3 1 (.slice (some ⟨gg, 0, none⟩) ((f l).length + 1) cap) ((f l).length + 1) ((f l).map (Value.int .i64) ++ [.int .i64 x])) (hg : w.grownBy w4 v.ownBlock) (hat : v.ownBlock = some gg ∨ w.heap.size ≤ gg) (hNo : ¬ No gg)
    (hgl : g l = f l ++ [x]) (hgo : ∀ y, y ≠ l → g y = f y) :
    ∃ w5 D', (Instr.mapUpdate 156 (.map (some um)) (.int .i64 l) (.slice (some ⟨gg, 0, none⟩) ((f l).length + 1) cap)).run Tryz.prog w4 = .ok () w5 ∧ w5.ownsGroups Tryz.prog 3 base 3 .i64 um (n + 1) D' ∧ UsesD D' g ∧ w4.grownBy w5 (some um) ∧ w5.Shuns um No := by
  have hoi : w4.ownsInts base 3 .i64 (.slice (some ⟨gg, 0, none⟩) ((f l).length + 1) cap) (f l ++ [x]) := h.own.appended hown (wf_i64 hx)
  obtain ⟨w5, hrun, r1, r2⟩ := h.back w4 (.slice (some ⟨gg, 0, none⟩) ((f l).length + 1) cap) (f l ++ [x]) hg hoi (by rw [List.length_append]; have := h.len; simp; omega) (by
    rcases hat with h1 | h1
    · exact Or.inl (by rw [h1]; rfl)
    · exact Or.inr ⟨gg, rfl, h1⟩)
  refine ⟨w5, _, hrun, r1, hD.put hoi hgl hgo, r2, ?_⟩
  have hkey : keyOf Tryz.prog 3 (.int .i64 l) = some (.int .i64 l) := Maps.keyOf_int_mk Tryz.underlying3 (wf_i64 hl)
  obtain ⟨es, clock, hb, F, hs, _, hbb, _⟩ := hG
  have hblt : um < w.heap.size := (Array.getElem?_eq_some_iff.1 hb).1
  have hb1 : w4.heap[um]? = some (.map es clock) := (hg.block um hblt (fun e1 => by have := (h.own.1.lt um e1.symm).1; omega)).trans hb
  obtain ⟨es', clock', hb2, hwho⟩ := stored_who lawInt Tryz.underlying156 hb1 F (Nat.lt_of_le_of_lt hs hn) hkey hrun
  intro es2 clock2 hb2' y hy g' hyg
  obtain ⟨rfl, rfl⟩ : es' = es2 ∧ clock' = clock2 := by rw [hb2] at hb2'; simpa using hb2'
  rcases hwho y hy with ⟨hy0, _⟩ | ⟨_, hval⟩
  · exact hsh es clock hb y hy0 g' hyg
  · rw [hval] at hyg
    have : gg = g' := by simpa [Value.ownBlock] using hyg
    subst this
    exact hNo
end Go.Proofs.YtlikokeknfhejaaGreatDoor
