/-
  Layer 5, plain: literals, clean clauses, what follows by clauses of one literal, what holds in a model. Nothing of the program.
-/
import Derived.Test.YtlikokeknfhejaaGreatDoorRange
namespace Go.Proofs.YtlikokeknfhejaaGreatDoor

/-- A literal's variable. -/
def vr (l : Int) : Int := max l (-l)
theorem vr_neg (l : Int) : vr (-l) = vr l := by unfold vr; omega
theorem vr_eq {a b : Int} (h : vr a = vr b) : a = b ∨ a = -b := by unfold vr at h; omega
theorem vr_nn (l : Int) : 0 ≤ vr l := by unfold vr; omega

/-- They rise by their variables, none twice. -/
def SortedV (L : List Int) : Prop := L.Pairwise fun a b => vr a < vr b
theorem SortedV.nil : SortedV [] := List.Pairwise.nil
theorem SortedV.nodup {L : List Int} (h : SortedV L) : L.Nodup := List.Pairwise.imp (fun {a b} h e => by subst e; omega) h
theorem sortedV_ext : ∀ {L M : List Int}, SortedV L → SortedV M → (∀ x, x ∈ L ↔ x ∈ M) → L = M
  | [], [], _, _, _ => rfl
  | [], b :: M, _, _, h => absurd ((h b).2 (List.mem_cons_self ..)) (by simp)
  | a :: L, [], _, _, h => absurd ((h a).1 (List.mem_cons_self ..)) (by simp)
  | a :: L, b :: M, hL, hM, h => by
    have hL' := List.pairwise_cons.1 hL
    have hM' := List.pairwise_cons.1 hM
    have hab : a = b := by
      rcases List.mem_cons.1 ((h a).1 (List.mem_cons_self ..)) with e | e
      · exact e
      · rcases List.mem_cons.1 ((h b).2 (List.mem_cons_self ..)) with f | f
        · exact f.symm
        · have h1 := hM'.1 a e
          have h2 := hL'.1 b f
          omega
    subst hab
    rw [sortedV_ext hL'.2 hM'.2 fun x => ?_]
    constructor
    · intro hx
      rcases List.mem_cons.1 ((h x).1 (List.mem_cons_of_mem _ hx)) with e | e
      · subst e; have := hL'.1 _ hx; omega
      · exact e
    · intro hx
      rcases List.mem_cons.1 ((h x).2 (List.mem_cons_of_mem _ hx)) with e | e
      · subst e; have := hM'.1 _ hx; omega
      · exact e

/-- x put into a row at a place. -/
def insAt (S : List Int) (x : Int) (k : Nat) : List Int := S.take k ++ x :: S.drop k
theorem insAt_len (S : List Int) (x : Int) (k : Nat) : (insAt S x k).length = S.length + 1 := by
  unfold insAt; simp [List.length_take, List.length_drop]; omega
theorem insAt_end (S : List Int) (x : Int) : insAt S x S.length = S ++ [x] := by unfold insAt; simp
theorem insAt_mem (S : List Int) (x : Int) (k : Nat) (y : Int) : y ∈ insAt S x k ↔ y = x ∨ y ∈ S := by
  unfold insAt
  rw [List.mem_append, List.mem_cons]
  conv => rhs; rw [← List.take_append_drop k S]
  rw [List.mem_append]
  constructor
  · rintro (h | h | h)
    · exact Or.inr (Or.inl h)
    · exact Or.inl h
    · exact Or.inr (Or.inr h)
  · rintro (h | h | h)
    · exact Or.inr (Or.inl h)
    · exact Or.inl h
    · exact Or.inr (Or.inr h)
theorem insAt_get (S : List Int) (x : Int) (k : Nat) (hk : k ≤ S.length) : (insAt S x k)[k]? = some x := by
  unfold insAt
  rw [List.getElem?_append_right (by rw [List.length_take]; omega)]
  simp [List.length_take, Nat.min_eq_left hk]
theorem insAt_pred (S : List Int) (x : Int) (k : Nat) (hk : k < S.length) : (insAt S x (k + 1))[k]? = some S[k] := by
  unfold insAt
  rw [List.getElem?_append_left (by simp [List.length_take]; omega), List.getElem?_take, if_pos (by omega), List.getElem?_eq_getElem hk]
/-- What an exchange with the one ahead makes. -/
theorem insAt_swap (S : List Int) (x : Int) (k : Nat) (hk : k < S.length) : ((insAt S x (k + 1)).set (k + 1) S[k]).set k x = insAt S x k := by
  apply List.ext_getElem?
  intro i
  rw [List.getElem?_set, List.getElem?_set]
  have hl : (insAt S x (k + 1)).length = S.length + 1 := insAt_len _ _ _
  by_cases h1 : k = i
  · subst h1
    rw [if_pos rfl, if_pos (by simp [hl]; omega), insAt_get S x k (by omega)]
  · rw [if_neg h1]
    by_cases h2 : k + 1 = i
    · subst h2
      rw [if_pos rfl, if_pos (by rw [hl]; omega)]
      unfold insAt
      rw [List.getElem?_append_right (by rw [List.length_take]; omega)]
      simp [List.length_take, Nat.min_eq_left (Nat.le_of_lt hk)]
    · rw [if_neg h2]
      unfold insAt
      by_cases h3 : i < k
      · rw [List.getElem?_append_left (by simp [List.length_take]; omega), List.getElem?_append_left (by simp [List.length_take]; omega), List.getElem?_take, List.getElem?_take, if_pos h3, if_pos (by omega)]
      · rw [List.getElem?_append_right (by simp [List.length_take]; omega), List.getElem?_append_right (by simp [List.length_take]; omega)]
        simp only [List.length_take]
        obtain ⟨d, rfl⟩ : ∃ d, i = k + 2 + d := ⟨i - (k + 2), by omega⟩
        rw [show k + 2 + d - min (k + 1) S.length = d + 1 by omega, show k + 2 + d - min k S.length = d + 2 by omega]
        simp only [List.getElem?_cons_succ, List.getElem?_drop]
        congr 1; omega
theorem insAt_sorted {S : List Int} {x : Int} {k : Nat} (hS : SortedV S) (hk : k ≤ S.length) (hpost : ∀ y ∈ S.drop k, vr x < vr y) (hpre : ∀ y, 0 < k → S[k - 1]? = some y → vr y < vr x) : SortedV (insAt S x k) := by
  have hS0 : SortedV (S.take k ++ S.drop k) := by rw [List.take_append_drop]; exact hS
  unfold SortedV at *
  rw [List.pairwise_append] at hS0
  unfold insAt
  rw [List.pairwise_append]
  have hlast : ∀ y ∈ S.take k, vr y < vr x := by
    intro y hy
    obtain ⟨i, hi⟩ := List.mem_iff_getElem?.1 hy
    rw [List.getElem?_take] at hi
    split at hi
    · rename_i hik
      have hkl : k - 1 < S.length := by omega
      have h1 := hpre S[k - 1] (by omega) (List.getElem?_eq_getElem hkl)
      by_cases he : i = k - 1
      · subst he; rw [List.getElem?_eq_getElem hkl] at hi; cases hi; exact h1
      · have h2 := List.pairwise_iff_getElem.1 hS i (k - 1) (by omega) hkl (by omega)
        rw [List.getElem?_eq_getElem (by omega)] at hi; cases hi
        omega
    · cases hi
  refine ⟨hS0.1, List.pairwise_cons.2 ⟨hpost, hS0.2.1⟩, fun a ha b hb => ?_⟩
  rcases List.mem_cons.1 hb with rfl | hb
  · exact hlast a ha
  · have h1 := hlast a ha; have h2 := hpost b hb; omega
theorem insAt_post_step {S : List Int} {x : Int} {k : Nat} (hk : k < S.length) (hpost : ∀ y ∈ S.drop (k + 1), vr x < vr y) (h : vr x < vr S[k]) : ∀ y ∈ S.drop k, vr x < vr y := by
  intro y hy
  rw [List.drop_eq_getElem_cons hk] at hy
  rcases List.mem_cons.1 hy with rfl | hy
  · exact h
  · exact hpost y hy

/-- A clause that has no clean one: 0 is in it, or -2^63 (its own other one), or both literals of a variable. -/
def Bad (c : List Int) : Prop := ∃ x ∈ c, x = 0 ∨ x = -9223372036854775808 ∨ -x ∈ c
def CleanIs (c L : List Int) : Prop := SortedV L ∧ ∀ x, x ∈ L ↔ x ∈ c
theorem CleanIs.eq {c L M : List Int} (h : CleanIs c L) (k : CleanIs c M) : L = M := sortedV_ext h.1 k.1 fun x => (h.2 x).trans (k.2 x).symm
def CleanRes (c : List Int) (r : Option (List Int)) : Prop := match r with | none => Bad c | some L => ¬ Bad c ∧ CleanIs c L
theorem CleanRes.eq {c : List Int} {r s : Option (List Int)} (h : CleanRes c r) (k : CleanRes c s) : r = s := by
  cases r <;> cases s
  · rfl
  · exact absurd h k.1
  · exact absurd k h.1
  · rw [CleanIs.eq h.2 k.2]

/-! ### What follows by clauses of one literal -/
def Steps (c F : List Int) (l : Int) : Prop := l ∈ c ∧ l ∉ F ∧ -l ∉ F ∧ ∀ x ∈ c, x ∉ F ∧ (-x ∈ F ∨ x = l)
inductive Reach (C : List (List Int)) : List Int → Prop
  | nil : Reach C []
  | step {F : List Int} {c : List Int} {l : Int} : Reach C F → c ∈ C → Steps c F l → Reach C (F ++ [l])
/-- Neither a literal follows from it, nor does it fail. -/
def Quiet (c F : List Int) : Prop := (∃ x ∈ c, x ∈ F) ∨ ∃ x ∈ c, ∃ y ∈ c, x ≠ y ∧ -x ∉ F ∧ -y ∉ F
def NoZero (C : List (List Int)) : Prop := ∀ c ∈ C, ∀ x ∈ c, x ≠ 0
structure Cons (F : List Int) : Prop where
  nz : ∀ x ∈ F, x ≠ 0
  one : ∀ x ∈ F, -x ∉ F
  nodup : F.Nodup
theorem Cons.nil : Cons [] := ⟨by simp, by simp, List.nodup_nil⟩
theorem Cons.snoc {F : List Int} (h : Cons F) {l : Int} (h0 : l ≠ 0) (h1 : l ∉ F) (h2 : -l ∉ F) : Cons (F ++ [l]) := by
  refine ⟨?_, ?_, ?_⟩
  · intro x hx
    rcases List.mem_append.1 hx with hx | hx
    · exact h.nz x hx
    · rw [List.mem_singleton.1 hx]; exact h0
  · intro x hx hn
    rcases List.mem_append.1 hx with hx | hx <;> rcases List.mem_append.1 hn with hn | hn
    · exact h.one x hx hn
    · have := List.mem_singleton.1 hn
      apply h2; rw [← this]; simpa using hx
    · rw [List.mem_singleton.1 hx] at hn; exact h2 hn
    · have e1 := List.mem_singleton.1 hx; have e2 := List.mem_singleton.1 hn; omega
  · rw [List.nodup_append]
    refine ⟨h.nodup, by simp, fun a ha b hb => ?_⟩
    rw [List.mem_singleton.1 hb]; rintro rfl; exact h1 ha
theorem Reach.cons {C : List (List Int)} (hC : NoZero C) {F : List Int} (h : Reach C F) : Cons F := by
  induction h with
  | nil => exact Cons.nil
  | step _ hc hs ih => exact ih.snoc (hC _ hc _ hs.1) hs.2.1 hs.2.2.1
theorem Reach.from {C : List (List Int)} {F : List Int} (h : Reach C F) : ∀ x ∈ F, ∃ c ∈ C, x ∈ c := by
  induction h with
  | nil => simp
  | step _ hc hs ih =>
    intro x hx
    rcases List.mem_append.1 hx with hx | hx
    · exact ih x hx
    · rw [List.mem_singleton.1 hx]; exact ⟨_, hc, hs.1⟩
theorem Reach.sub {C : List (List Int)} (hC : NoZero C) {F G : List Int} (hF : Reach C F) (hq : ∀ c ∈ C, Quiet c F) (hG : Reach C G) : ∀ x ∈ G, x ∈ F := by
  have hcons := hF.cons hC
  induction hG with
  | nil => simp
  | @step G c l hG hc hs ih =>
    intro x hx
    rcases List.mem_append.1 hx with hx | hx
    · exact ih x hx
    · rw [List.mem_singleton.1 hx]
      rcases hq c hc with ⟨y, hy, hyF⟩ | ⟨y, hy, z, hz, hne, hyF, hzF⟩
      · rcases (hs.2.2.2 y hy).2 with h | h
        · exact absurd (ih _ h) (hcons.one y hyF)
        · rw [← h]; exact hyF
      · rcases (hs.2.2.2 y hy).2 with h | h
        · exact absurd (ih _ h) hyF
        · rcases (hs.2.2.2 z hz).2 with h' | h'
          · exact absurd (ih _ h') hzF
          · exact absurd (h.trans h'.symm) hne
def UnitsRes (C : List (List Int)) (r : Option (List Int)) : Prop := match r with
  | none => ∃ F, Reach C F ∧ ∃ c ∈ C, ∀ x ∈ c, -x ∈ F
  | some S => ∃ F, Reach C F ∧ (∀ c ∈ C, Quiet c F) ∧ SortedV S ∧ ∀ x, x ∈ S ↔ x ∈ F
theorem units_clash {C : List (List Int)} (hC : NoZero C) {F G : List Int} (hF : Reach C F) (hq : ∀ c ∈ C, Quiet c F) (hG : Reach C G) (h : ∃ c ∈ C, ∀ x ∈ c, -x ∈ G) : False := by
  obtain ⟨c, hc, h⟩ := h
  have hs := Reach.sub hC hF hq hG
  have hcons := hF.cons hC
  rcases hq c hc with ⟨y, hy, hyF⟩ | ⟨y, hy, _, _, _, hyF, _⟩
  · exact hcons.one y hyF (hs _ (h y hy))
  · exact hyF (hs _ (h y hy))
theorem UnitsRes.eq {C : List (List Int)} (hC : NoZero C) {r s : Option (List Int)} (h : UnitsRes C r) (k : UnitsRes C s) : r = s := by
  cases r <;> cases s
  · rfl
  · obtain ⟨F, hF, hf⟩ := h; obtain ⟨G, hG, hq, _⟩ := k
    exact (units_clash hC hG hq hF hf).elim
  · obtain ⟨F, hF, hf⟩ := k; obtain ⟨G, hG, hq, _⟩ := h
    exact (units_clash hC hG hq hF hf).elim
  · obtain ⟨F, hF, hq, hs, hm⟩ := h; obtain ⟨G, hG, hq', hs', hm'⟩ := k
    rw [sortedV_ext hs hs' fun x => (hm x).trans (Iff.trans ⟨fun hx => Reach.sub hC hG hq' hF x hx, fun hx => Reach.sub hC hF hq hG x hx⟩ (hm' x).symm)]

/-- Clauses of the same literals, in whatever order. -/
def Alike (C D : List (List Int)) : Prop := (∀ c ∈ C, ∃ d ∈ D, ∀ x, x ∈ c ↔ x ∈ d) ∧ ∀ d ∈ D, ∃ c ∈ C, ∀ x, x ∈ d ↔ x ∈ c
theorem Reach.alike {C D : List (List Int)} (h : Alike C D) {F : List Int} (hF : Reach C F) : Reach D F := by
  induction hF with
  | nil => exact .nil
  | step _ hc hs ih =>
    obtain ⟨d, hd, hm⟩ := h.1 _ hc
    exact .step ih hd ⟨(hm _).1 hs.1, hs.2.1, hs.2.2.1, fun x hx => hs.2.2.2 x ((hm x).2 hx)⟩
theorem UnitsRes.alike {C D : List (List Int)} (h : Alike C D) {r : Option (List Int)} (k : UnitsRes C r) : UnitsRes D r := by
  cases r with
  | none =>
    obtain ⟨F, hF, c, hc, hf⟩ := k
    obtain ⟨d, hd, hm⟩ := h.1 c hc
    exact ⟨F, hF.alike h, d, hd, fun x hx => hf x ((hm x).2 hx)⟩
  | some S =>
    obtain ⟨F, hF, hq, hs, hm⟩ := k
    refine ⟨F, hF.alike h, fun d hd => ?_, hs, hm⟩
    obtain ⟨c, hc, hx⟩ := h.2 d hd
    rcases hq c hc with ⟨y, hy, hyF⟩ | ⟨y, hy, z, hz, hh⟩
    · exact Or.inl ⟨y, (hx y).2 hy, hyF⟩
    · exact Or.inr ⟨y, (hx y).2 hy, z, (hx z).2 hz, hh⟩

/-! ### Models -/
/-- Does a literal hold? -/
def hl (m : List Bool) (l : Int) : Bool := if 0 < l then m.getD (l.toNat - 1) false else !(m.getD ((-l).toNat - 1) false)
def hc (m : List Bool) (c : List Int) : Bool := c.any (hl m)
def hf (m : List Bool) (C : List (List Int)) : Bool := C.all (hc m)
theorem hl_neg (m : List Bool) {l : Int} (h : l ≠ 0) : hl m (-l) = !hl m l := by
  unfold hl
  by_cases h1 : 0 < l
  · rw [if_neg (by omega), if_pos h1]; simp
  · rw [if_pos (by omega), if_neg h1]; simp
theorem reach_holds {C : List (List Int)} (hC : NoZero C) {m : List Bool} (hm : hf m C = true) {F : List Int} (h : Reach C F) : ∀ x ∈ F, hl m x = true := by
  induction h with
  | nil => simp
  | @step F c l hF hcC hs ih =>
    intro x hx
    rcases List.mem_append.1 hx with hx | hx
    · exact ih x hx
    · rw [List.mem_singleton.1 hx]
      have h1 := List.all_eq_true.1 hm c hcC
      obtain ⟨y, hy, hyh⟩ := List.any_eq_true.1 h1
      rcases (hs.2.2.2 y hy).2 with h | h
      · have h2 := ih _ h
        rw [hl_neg m (hC c hcC y hy), hyh] at h2
        cases h2
      · rw [← h]; exact hyh
theorem units_hold {C : List (List Int)} (hC : NoZero C) {m : List Bool} (hm : hf m C = true) {r : Option (List Int)} (h : UnitsRes C r) : ∃ S, r = some S ∧ ∀ x ∈ S, hl m x = true := by
  cases r with
  | none =>
    obtain ⟨F, hF, c, hcC, hf'⟩ := h
    have h1 := List.all_eq_true.1 hm c hcC
    obtain ⟨y, hy, hyh⟩ := List.any_eq_true.1 h1
    have h2 := reach_holds hC hm hF _ (hf' y hy)
    rw [hl_neg m (hC c hcC y hy), hyh] at h2
    cases h2
  | some S =>
    obtain ⟨F, hF, _, _, hx⟩ := h
    exact ⟨S, rfl, fun x hxS => reach_holds hC hm hF x ((hx x).1 hxS)⟩

/-- What Assign leaves. -/
def asg (C : List (List Int)) (lits : List Int) : List (List Int) :=
  (C.filter fun c => !c.any fun x => lits.contains x).map fun c => c.filter fun x => !lits.contains (-x)
theorem asg_holds {C : List (List Int)} (hC : NoZero C) {m : List Bool} {lits : List Int} (hl' : ∀ x ∈ lits, hl m x = true) : hf m (asg C lits) = hf m C := by
  unfold hf asg
  rw [Bool.eq_iff_iff, List.all_eq_true, List.all_eq_true]
  constructor
  · intro h c hcC
    by_cases hh : (c.any fun x => lits.contains x) = true
    · obtain ⟨x, hx, hxl⟩ := List.any_eq_true.1 hh
      exact List.any_eq_true.2 ⟨x, hx, hl' x (by simpa using hxl)⟩
    · have h1 := h _ (List.mem_map.2 ⟨c, List.mem_filter.2 ⟨hcC, by simpa using hh⟩, rfl⟩)
      obtain ⟨x, hx, hxh⟩ := List.any_eq_true.1 h1
      exact List.any_eq_true.2 ⟨x, (List.mem_filter.1 hx).1, hxh⟩
  · intro h d hd
    obtain ⟨c, hc', rfl⟩ := List.mem_map.1 hd
    have hcC := (List.mem_filter.1 hc').1
    obtain ⟨x, hx, hxh⟩ := List.any_eq_true.1 (h c hcC)
    refine List.any_eq_true.2 ⟨x, List.mem_filter.2 ⟨hx, ?_⟩, hxh⟩
    have hn : ¬ -x ∈ lits := by
      intro hm'
      have h2 := hl' _ hm'
      rw [hl_neg m (hC c hcC x hx), hxh] at h2
      cases h2
    simpa using hn

/-- All literals of both but v. -/
def both (a b : List Int) (v : Int) : List Int := (a.filter fun x => x != v) ++ b.filter fun x => x != -v
theorem both_holds {a b L : List Int} {v : Int} {m : List Bool} (hv : v ≠ 0) (hL : ∀ x, x ∈ L ↔ x ∈ both a b v) (ha : hc m a = true) (hb : hc m b = true) : hc m L = true := by
  obtain ⟨x, hx, hxh⟩ := List.any_eq_true.1 ha
  obtain ⟨y, hy, hyh⟩ := List.any_eq_true.1 hb
  by_cases h1 : x = v
  · by_cases h2 : y = -v
    · subst h1; subst h2
      rw [hl_neg m hv, hxh] at hyh; cases hyh
    · exact List.any_eq_true.2 ⟨y, (hL y).2 (List.mem_append_right _ (List.mem_filter.2 ⟨hy, by simpa using h2⟩)), hyh⟩
  · exact List.any_eq_true.2 ⟨x, (hL x).2 (List.mem_append_left _ (List.mem_filter.2 ⟨hx, by simpa using h1⟩)), hxh⟩
end Go.Proofs.YtlikokeknfhejaaGreatDoor
