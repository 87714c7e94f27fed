/-
  Several texts in one: NMath: Layer 4, plain: forms, the rule that applies to one, what a form comes to in a graph; that it has its value; plain terms. Nothing of the program.; NVal: Layer 4, plain: what a form comes to has its value; plain terms come to plain ones; in graphs with more terms forms come to the same.; NPl: Layer 4, plain: forms in graphs with more terms; plain terms; how deep what a form comes to is; that each rule leads nearer to a term.; NNxt: Layer 4, plain: what next makes leads nearer to what the form comes to; chains of such; what Bin and Not come to.; NOfM: Layer 4, plain: what Of comes to.; NLaw: Layer 4, plain: what is the same (P4.6): each operation with a number; groups; Eq of what Add, Xor, Sub tell.; NLaw2: Layer 4, plain: numbers put to a plain term by an operation that groups: what they come to; in either order; Eq of it and a number.; NLaw3: Layer 4, plain: what numbers put to a plain term come to; Eq of it.; NLaw4: Layer 4, plain: what is the same, as the document tells it (P4.6)..
-/
import Derived.Test.YtgkjdmojbndicaaGreatDoorMC
import Derived.Test.YtgkjdmojbndicaaGreatDoorMD
namespace Go.Proofs.YtgkjdmojbndicaaGreatDoor
open Go

structure Fm where
  o : Int
  x : Int
  y : Int
def kN (n : Int) : Nd := ⟨1, n, 0, 0, 0, 0⟩
def bN (o x y : Int) : Nd := ⟨4, 0, 0, o, x, y⟩
def isC (d : Nd) : Bool := d.k == 1
def isB (d : Nd) (o : Int) : Bool := d.k == 4 && d.o == o
def truthN (d : Nd) : Bool := d.k == 1 && (d.n == 0 || d.n == 1) || d.k == 4 && (d.o == 14 || d.o == 15 || d.o == 16)
def behB (L : List Nd) (d : Nd) (o : Int) : Bool := isB d o && isC (ndAt L d.y)
def behN (L : List Nd) (d : Nd) : Int := (ndAt L d.y).n
def oppB (L : List Nd) (d : Nd) : Bool := behB L d 16 && behN L d == 0 && truthN (ndAt L d.x)

/-- What a rule answers: a term that is there, a number, a form of two terms, a form of a term and a number, Eq of Not of a term and 0; that no rule applies. -/
inductive Out where
  | is (x : Int)
  | con (n : Int)
  | two (o x y : Int)
  | num (o x n : Int)
  | nn (y : Int)
  | add

def tnB (L : List Nd) (o n : Int) (l : Nd) : Bool :=
  !(o == 10 && !oppB L l && !(n == 1)) && !(o == 16 && n == 0 && !oppB L l)
def tnF (L : List Nd) (o x n : Int) (l : Nd) : Out :=
  if o == 10 && oppB L l then .num 10 l.x (opI 10 n 1)
  else if o == 10 then .num 16 x 0
  else if o == 16 && n == 0 then .is l.x
  else if o == 16 && n == 1 || o == 8 && opI 8 n 1 == 1 then .is x
  else .con 0
def cB (L : List Nd) (o x y : Int) (l r : Nd) : Nat → Bool
  | 0 => isC l && isC r
  | 1 => swapsB o && !isC r && (isC l || decide (y < x))
  | 2 => isC r && groupsB o && behB L l o
  | 3 => keepsB o && isC r && r.n == keepsN o
  | 4 => x == y && (o == 2 || o == 10 || o == 14 || o == 15 || o == 16 || o == 8 || o == 9)
  | 5 => isC r && (r.n == 0 && (o == 3 || o == 8 || o == 15) || r.n == -1 && o == 9 || r.n == 1 && (o == 5 || o == 7))
  | 6 => isC r && o == 2
  | 7 => isC r && o == 11
  | 8 => isC r && (o == 12 || o == 13) && !(opI 8 r.n 63 == r.n)
  | 9 => isC r && powB r.n && o == 6
  | 10 => isC r && powB r.n && o == 7
  | 11 => isC r && r.n == 1 && o == 15
  | 12 => o == 15 && isC l && l.n == 0
  | 13 => o == 16 && isC r && (behB L l 1 || behB L l 10)
  | 14 => o == 16 && isC r && r.n == 0 && (isB l 2 || isB l 10)
  | 15 => truthN l && isC r && (o == 16 || o == 8 || o == 10) && tnB L o r.n l
  | _ => false
def oF (L : List Nd) (o x y : Int) (l r : Nd) : Nat → Out
  | 0 => .con (opI o l.n r.n)
  | 1 => .two o y x
  | 2 => .num o l.x (opI o (behN L l) r.n)
  | 3 => .is x
  | 4 => if o == 2 || o == 10 || o == 14 || o == 15 then .con 0 else if o == 16 then .con 1 else .is x
  | 5 => if o == 5 || o == 7 then .con 0 else .is y
  | 6 => .num 1 x (opI 2 0 r.n)
  | 7 => .num 3 x (opI 11 1 r.n)
  | 8 => .num o x (opI 8 r.n 63)
  | 9 => .num 12 x (powN r.n)
  | 10 => .num 8 x (opI 2 r.n 1)
  | 11 => .num 16 x 0
  | 12 => .nn y
  | 13 => .num 16 l.x (if l.o == 1 then opI 2 r.n (behN L l) else opI 10 r.n (behN L l))
  | 14 => .two 16 l.x l.y
  | 15 => tnF L o x r.n l
  | _ => .add
def pick (c : Nat → Bool) (r : Nat → Out) : Nat → Nat → Out
  | _, 0 => .add
  | i, k + 1 => if c i then r i else pick c r (i + 1) k
theorem pick_at {c : Nat → Bool} {r : Nat → Out} : ∀ (k i j : Nat), j < k → (∀ m, i ≤ m → m < i + j → c m = false) → c (i + j) = true → pick c r i k = r (i + j) := by
  intro k
  induction k with
  | zero => intro i j h; omega
  | succ k ih =>
    intro i j hj h0 h1
    unfold pick
    cases j with
    | zero =>
      have h1' : c i = true := h1
      rw [if_pos h1']; rfl
    | succ j =>
      rw [if_neg (by rw [h0 i (Nat.le_refl _) (by omega)]; decide)]
      have := ih (i + 1) j (by omega) (fun m a b => h0 m (by omega) (by omega)) (by rw [show i + 1 + j = i + (j + 1) by omega]; exact h1)
      rw [this, show i + 1 + j = i + (j + 1) by omega]
theorem pick_none {c : Nat → Bool} {r : Nat → Out} : ∀ (k i : Nat), (∀ m, i ≤ m → m < i + k → c m = false) → pick c r i k = .add := by
  intro k
  induction k with
  | zero => intro i _; rfl
  | succ k ih =>
    intro i h
    unfold pick
    rw [if_neg (by rw [h i (Nat.le_refl _) (by omega)]; decide)]
    exact ih (i + 1) fun m a b => h m (by omega) (by omega)
theorem pick_cases (c : Nat → Bool) (r : Nat → Out) : ∀ (k i : Nat), (pick c r i k = .add ∧ ∀ m, i ≤ m → m < i + k → c m = false) ∨ ∃ j, j < k ∧ (∀ m, i ≤ m → m < i + j → c m = false) ∧ c (i + j) = true ∧ pick c r i k = r (i + j) := by
  intro k
  induction k with
  | zero => intro i; exact Or.inl ⟨rfl, fun m a b => by omega⟩
  | succ k ih =>
    intro i
    cases hc : c i with
    | true => exact Or.inr ⟨0, by omega, fun m a b => by omega, hc, by unfold pick; rw [if_pos hc]; rfl⟩
    | false =>
      have e : pick c r i (k + 1) = pick c r (i + 1) k := by
        show (if c i then r i else pick c r (i + 1) k) = _
        rw [if_neg (by rw [hc]; decide)]
      rw [e]
      rcases ih (i + 1) with ⟨h1, h2⟩ | ⟨j, h1, h2, h3, h4⟩
      · refine Or.inl ⟨h1, fun m a b => ?_⟩
        by_cases hm : m = i
        · rw [hm]; exact hc
        · exact h2 m (by omega) (by omega)
      · refine Or.inr ⟨j + 1, by omega, fun m a b => ?_, ?_, ?_⟩
        · by_cases hm : m = i
          · rw [hm]; exact hc
          · exact h2 m (by omega) (by omega)
        · rw [show i + (j + 1) = i + 1 + j by omega]; exact h3
        · rw [show i + (j + 1) = i + 1 + j by omega]; exact h4
/-- What the first rule that applies answers. -/
def nx (L : List Nd) (f : Fm) : Out :=
  if f.o = 0 then .is f.x else pick (cB L f.o f.x f.y (ndAt L f.x) (ndAt L f.y)) (oF L f.o f.x f.y (ndAt L f.x) (ndAt L f.y)) 0 16
/-- The rules of which the first that applies is the j-th. -/
theorem nx_cases (L : List Nd) {f : Fm} (h : f.o ≠ 0) :
    (nx L f = .add ∧ ∀ m, m < 16 → cB L f.o f.x f.y (ndAt L f.x) (ndAt L f.y) m = false) ∨
    ∃ j, j < 16 ∧ (∀ m, m < j → cB L f.o f.x f.y (ndAt L f.x) (ndAt L f.y) m = false) ∧ cB L f.o f.x f.y (ndAt L f.x) (ndAt L f.y) j = true ∧ nx L f = oF L f.o f.x f.y (ndAt L f.x) (ndAt L f.y) j := by
  have e : nx L f = pick (cB L f.o f.x f.y (ndAt L f.x) (ndAt L f.y)) (oF L f.o f.x f.y (ndAt L f.x) (ndAt L f.y)) 0 16 := if_neg h
  rw [e]
  rcases pick_cases (cB L f.o f.x f.y (ndAt L f.x) (ndAt L f.y)) (oF L f.o f.x f.y (ndAt L f.x) (ndAt L f.y)) 16 0 with ⟨h1, h2⟩ | ⟨j, h1, h2, h3, h4⟩
  · exact Or.inl ⟨h1, fun m hm => h2 m (Nat.zero_le _) (by omega)⟩
  · refine Or.inr ⟨j, h1, fun m hm => h2 m (Nat.zero_le _) (by omega), ?_, ?_⟩
    · rw [Nat.zero_add] at h3; exact h3
    · rw [Nat.zero_add] at h4; exact h4
theorem nx_at {L : List Nd} {f : Fm} (h : f.o ≠ 0) {j : Nat} (hj : j < 16) (h0 : ∀ m, m < j → cB L f.o f.x f.y (ndAt L f.x) (ndAt L f.y) m = false) (h1 : cB L f.o f.x f.y (ndAt L f.x) (ndAt L f.y) j = true) : nx L f = oF L f.o f.x f.y (ndAt L f.x) (ndAt L f.y) j := by
  have := pick_at (c := cB L f.o f.x f.y (ndAt L f.x) (ndAt L f.y)) (r := oF L f.o f.x f.y (ndAt L f.x) (ndAt L f.y)) 16 0 j hj (fun m _ b => h0 m (by omega)) (by rw [Nat.zero_add]; exact h1)
  rw [Nat.zero_add] at this
  exact (if_neg h).trans this
theorem nx_none {L : List Nd} {f : Fm} (h : f.o ≠ 0) (h0 : ∀ m, m < 16 → cB L f.o f.x f.y (ndAt L f.x) (ndAt L f.y) m = false) : nx L f = .add :=
  (if_neg h).trans (pick_none 16 0 fun m _ b => h0 m (by omega))

/-! ### Graphs that have more terms -/
def Ext (L L' : List Nd) : Prop := ∃ Z, L' = L ++ Z
theorem Ext.refl (L : List Nd) : Ext L L := ⟨[], (List.append_nil L).symm⟩
theorem Ext.trans {A B C : List Nd} (h : Ext A B) (k : Ext B C) : Ext A C := by
  obtain ⟨Z, rfl⟩ := h
  obtain ⟨Y, rfl⟩ := k
  exact ⟨Z ++ Y, by rw [List.append_assoc]⟩
theorem Ext.add (L : List Nd) (d : Nd) : Ext L (addL L d) := addL_pre L d
theorem Ext.le {L L' : List Nd} (h : Ext L L') : L.length ≤ L'.length := by
  obtain ⟨Z, rfl⟩ := h; simp
theorem Ext.has {L L' : List Nd} (h : Ext L L') {i : Int} (hi : hasB L.length i = true) : hasB L'.length i = true := by
  obtain ⟨Z, rfl⟩ := h; exact hasB_pre hi
theorem Ext.nd {L L' : List Nd} (h : Ext L L') {i : Int} (hi : hasB L.length i = true) : ndAt L' i = ndAt L i := by
  obtain ⟨Z, rfl⟩ := h
  obtain ⟨h0, h1⟩ := (hasB_iff _ _).1 hi
  unfold ndAt
  rw [List.getD_eq_getElem?_getD, List.getD_eq_getElem?_getD, List.getElem?_append_left (by omega)]
theorem Ext.deep {L L' : List Nd} (h : Ext L L') {i : Int} (hi : hasB L.length i = true) : deepI L' i = deepI L i := by
  obtain ⟨Z, rfl⟩ := h; exact deepI_pre Z hi
theorem nd_of {L : List Nd} {i : Int} (hi : hasB L.length i = true) : ∃ k : Nat, ∃ h : k < L.length, i = (k : Int) ∧ ndAt L i = L[k] := by
  obtain ⟨h0, h1⟩ := (hasB_iff _ _).1 hi
  obtain ⟨k, rfl⟩ : ∃ k : Nat, i = k := ⟨i.toNat, by omega⟩
  exact ⟨k, by omega, rfl, ndAt_get (by omega)⟩
theorem nd_ok {L : List Nd} (hG : Good L) {i : Int} (hi : hasB L.length i = true) : (ndAt L i).Ok := by
  obtain ⟨k, hk, rfl, e⟩ := nd_of hi
  rw [e]; exact hG.ok _ (List.getElem_mem hk)
theorem nd_kind {L : List Nd} (hG : Good L) {i : Int} (hi : hasB L.length i = true) : (ndAt L i).k = 1 ∨ (ndAt L i).k = 2 ∨ (ndAt L i).k = 3 ∨ (ndAt L i).k = 4 := by
  obtain ⟨k, hk, rfl, e⟩ := nd_of hi
  rw [e]; exact may_kind (hG.may k hk)
theorem nd_4 {L : List Nd} (hG : Good L) {i : Int} (hi : hasB L.length i = true) (h4 : (ndAt L i).k = 4) :
    hasB L.length (ndAt L i).x = true ∧ hasB L.length (ndAt L i).y = true ∧ (ndAt L i).x < i ∧ (ndAt L i).y < i ∧ 1 ≤ (ndAt L i).o ∧ (ndAt L i).o ≤ 16 := by
  have p1 := part_lt hG hi (p := (ndAt L i).x) (by unfold partsOf; rw [if_neg (by omega), if_pos h4]; simp)
  have p2 := part_lt hG hi (p := (ndAt L i).y) (by unfold partsOf; rw [if_neg (by omega), if_pos h4]; simp)
  obtain ⟨k, hk, rfl, e⟩ := nd_of hi
  have o := may_op (hG.may k hk) (by rw [← e]; exact h4)
  rw [← e] at o
  exact ⟨p1.2.2, p2.2.2, p1.2.1, p2.2.1, o.1, o.2⟩
theorem nd_b {L : List Nd} (hG : Good L) {i : Int} (hi : hasB L.length i = true) (h4 : (ndAt L i).k = 4) : ndAt L i = bN (ndAt L i).o (ndAt L i).x (ndAt L i).y := by
  obtain ⟨k, hk, rfl, e⟩ := nd_of hi
  have m := hG.may k hk
  rw [e] at h4 ⊢
  generalize L[k] = d at *
  simp only [mayB, h4] at m
  simp at m
  exact Nd.ext' h4 m.1.1.1.1.1 m.1.1.1.1.2 rfl rfl rfl
theorem nd_c {L : List Nd} (hG : Good L) {i : Int} (hi : hasB L.length i = true) (h1 : (ndAt L i).k = 1) : ndAt L i = kN (ndAt L i).n := by
  obtain ⟨k, hk, rfl, e⟩ := nd_of hi
  have m := hG.may k hk
  rw [e] at h1 ⊢
  generalize L[k] = d at *
  simp only [mayB, h1] at m
  simp at m
  exact Nd.ext' h1 rfl m.1.1.1 m.1.1.2 m.1.2 m.2
theorem nd_inj {L : List Nd} (hG : Good L) {i j : Int} (hi : hasB L.length i = true) (hj : hasB L.length j = true) (h : ndAt L i = ndAt L j) : i = j := by
  obtain ⟨k, hk, rfl, e⟩ := nd_of hi
  obtain ⟨m, hm, rfl, e2⟩ := nd_of hj
  rw [e, e2] at h
  have := (List.getElem_inj hG.nodup).1 h
  omega
/-- The number's term. -/
def CN (L : List Nd) (n i : Int) : Prop := hasB L.length i = true ∧ ndAt L i = kN n
theorem CN.ext {L L' : List Nd} {n i : Int} (h : CN L n i) (e : Ext L L') : CN L' n i := ⟨e.has h.1, (e.nd h.1).trans h.2⟩
theorem CN.eq {L : List Nd} (hG : Good L) {n i j : Int} (h : CN L n i) (k : CN L n j) : i = j := nd_inj hG h.1 k.1 (h.2.trans k.2.symm)
theorem add_here {L : List Nd} {d : Nd} (hm : mayB L.length d = true) : hasB (addL L d).length (addR L d) = true ∧ ndAt (addL L d) (addR L d) = d := by
  unfold addR addL
  cases hi : inL L d with
  | true =>
    have hl := idx_lt hi
    simp only [hm, Bool.not_true, Bool.and_false, Bool.false_eq_true, if_false, if_true]
    exact ⟨(hasB_iff _ _).2 ⟨by omega, by omega⟩, (ndAt_get hl).trans (idx_get hl)⟩
  | false =>
    simp only [hm, Bool.not_false, Bool.and_self, if_true, idx_none hi]
    refine ⟨(hasB_iff _ _).2 ⟨by omega, by simp; omega⟩, ?_⟩
    rw [ndAt_get (by simp)]; simp
theorem add_there {L : List Nd} (hG : Good L) {d : Nd} {i : Int} (hi : hasB L.length i = true) (hd : ndAt L i = d) (hm : mayB L.length d = true) : addL L d = L ∧ addR L d = i := by
  obtain ⟨k, hk, rfl, e⟩ := nd_of hi
  have hin : inL L d = true := (inL_iff L d).2 (by rw [← hd, e]; exact List.getElem_mem hk)
  have h1 : addL L d = L := by unfold addL; simp [hm, hin]
  have h2 := add_here hm
  rw [h1] at h2
  exact ⟨h1, nd_inj hG h2.1 hi (h2.2.trans hd.symm)⟩
theorem in0 : InR 0 := ⟨by decide, by decide⟩
theorem inb0 : InB 0 := ⟨by decide, by decide⟩
theorem inb1 : InB 1 := ⟨by decide, by decide⟩
theorem inb4 : InB 4 := ⟨by decide, by decide⟩
theorem may_con (s : Nat) (n : Int) : mayB s (kN n) = true := by simp [mayB, kN]
theorem ok_con {n : Int} (h : InR n) : (kN n).Ok := ⟨inb1, h, in0, inb0, in0, in0⟩
theorem add_con (L : List Nd) (n : Int) : CN (addL L (kN n)) n (addR L (kN n)) := add_here (may_con _ n)
theorem con_there {L : List Nd} (hG : Good L) {n i : Int} (h : CN L n i) : addL L (kN n) = L ∧ addR L (kN n) = i := add_there hG h.1 h.2 (may_con _ n)
theorem may_bin {L : List Nd} {o x y : Int} (h1 : 1 ≤ o) (h2 : o ≤ 16) (hx : hasB L.length x = true) (hy : hasB L.length y = true) : mayB L.length (bN o x y) = true := by
  simp [mayB, bN, h1, h2, hx, hy]
theorem has_in {L : List Nd} (hl : L.length ≤ 9000000000000000000) {x : Int} (hx : hasB L.length x = true) : InR x := by
  obtain ⟨h0, h1⟩ := (hasB_iff _ _).1 hx
  exact ⟨by omega, by omega⟩
theorem ok_bin {o x y : Int} (h1 : 1 ≤ o) (h2 : o ≤ 16) (hx : InR x) (hy : InR y) : (bN o x y).Ok := ⟨inb4, in0, in0, ⟨by show 0 ≤ o; omega, by show o ≤ 255; omega⟩, hx, hy⟩

/-! ### What a form comes to -/
inductive Run (L : List Nd) : Fm → Int → Prop
  | is {f : Fm} {x : Int} : nx L f = .is x → Run L f x
  | con {f : Fm} {n c : Int} : nx L f = .con n → CN L n c → Run L f c
  | two {f : Fm} {o x y i : Int} : nx L f = .two o x y → Run L ⟨o, x, y⟩ i → Run L f i
  | num {f : Fm} {o x n c i : Int} : nx L f = .num o x n → CN L n c → Run L ⟨o, x, c⟩ i → Run L f i
  | nn {f : Fm} {y z t i : Int} : nx L f = .nn y → CN L 0 z → Run L ⟨16, y, z⟩ t → Run L ⟨16, t, z⟩ i → Run L f i
  | add {f : Fm} {i : Int} : nx L f = .add → hasB L.length i = true → ndAt L i = bN f.o f.x f.y → Run L f i

theorem Run.eq {L : List Nd} (hG : Good L) {f : Fm} {i : Int} (h : Run L f i) : ∀ {j : Int}, Run L f j → i = j := by
  induction h with
  | is e => intro j k; cases k <;> simp_all
  | con e c => intro j k; cases k <;> simp_all; exact CN.eq hG c (by assumption)
  | two e r ih =>
    intro j k
    cases k with
    | two e2 r2 =>
      rw [e] at e2
      injection e2 with a b c'
      subst a; subst b; subst c'
      exact ih r2
    | _ => simp_all
  | num e c r ih =>
    intro j k
    cases k with
    | num e2 c2 r2 =>
      rw [e] at e2
      injection e2 with a b c'
      subst a; subst b; subst c'
      have := CN.eq hG c c2
      subst this
      exact ih r2
    | _ => simp_all
  | nn e c r r2 ih ih2 =>
    intro j k
    cases k with
    | nn e' c' r' r2' =>
      rw [e] at e'
      injection e' with a
      subst a
      have := CN.eq hG c c'
      subst this
      have := ih r'
      subst this
      exact ih2 r2'
    | _ => simp_all
  | add e a b => intro j k; cases k <;> simp_all; exact nd_inj hG a (by assumption) (by simp_all)
end Go.Proofs.YtgkjdmojbndicaaGreatDoor

namespace Go.Proofs.YtgkjdmojbndicaaGreatDoor
open Go

namespace Nf
theorem i0 : InR 0 := in0
theorem s2 (v : Int) : opI 2 v v = 0 := by
  show (bv v - bv v).toInt = 0
  rw [BitVec.sub_self]; rfl
theorem s10 (v : Int) : opI 10 v v = 0 := by
  show (bv v ^^^ bv v).toInt = 0
  rw [BitVec.xor_self]; rfl
theorem s14 (v : Int) : opI 14 v v = 0 := by rw [opI_14, if_neg (by simp [BitVec.slt])]
theorem s15 (v : Int) : opI 15 v v = 0 := by rw [opI_15, if_neg (by simp [BitVec.ult])]
theorem s16 (v : Int) : opI 16 v v = 1 := by rw [opI_16, if_pos rfl]
theorem s8 {v : Int} (h : InR v) : opI 8 v v = v := by
  show (bv v &&& bv v).toInt = v
  rw [BitVec.and_self, toInt_bv h]
theorem s9 {v : Int} (h : InR v) : opI 9 v v = v := by
  show (bv v ||| bv v).toInt = v
  rw [BitVec.or_self, toInt_bv h]
theorem f3 (v : Int) : opI 3 v 0 = 0 := by
  show (bv v * 0#64).toInt = 0
  rw [BitVec.mul_zero]; rfl
theorem f8 (v : Int) : opI 8 v 0 = 0 := by
  show (bv v &&& 0#64).toInt = 0
  rw [BitVec.and_zero]; rfl
theorem f15 (v : Int) : opI 15 v 0 = 0 := by
  rw [opI_15, if_neg]
  rw [BitVec.ult, show (bv 0).toNat = 0 from rfl]; simp
theorem f9 (v : Int) : opI 9 v (-1) = -1 := by
  show (bv v ||| BitVec.allOnes 64).toInt = -1
  rw [BitVec.or_allOnes]; rfl
theorem f5 (v : Int) : opI 5 v 1 = 0 := by
  show (if bv 1 = 0 then bv v else (bv v).srem (bv 1)).toInt = 0
  rw [if_neg (by decide), BitVec.toInt_srem, show (bv 1).toInt = 1 from rfl, Int.tmod_one]
theorem f7 (v : Int) : opI 7 v 1 = 0 := by
  show (if bv 1 = 0 then bv v else bv v % bv 1).toInt = 0
  rw [if_neg (by decide)]
  have : bv v % bv 1 = 0#64 := BitVec.eq_of_toNat_eq (by rw [BitVec.toNat_umod, show (bv 1).toNat = 1 from rfl, Nat.mod_one]; rfl)
  rw [this]; rfl
theorem far63 (b : Int) : (bv (opI 8 b 63)).toNat % 64 = (bv b).toNat % 64 := by
  rw [bv_opI]
  show (bv b &&& bv 63).toNat % 64 = _
  rw [BitVec.toNat_and, show (bv 63).toNat = 2 ^ 6 - 1 from rfl, Nat.and_two_pow_sub_one_eq_mod]
  exact Nat.mod_mod _ _
theorem m63 (b : Int) : opI 8 (opI 8 b 63) 63 = opI 8 b 63 := by
  show (bv (opI 8 b 63) &&& bv 63).toInt = (bv b &&& bv 63).toInt
  rw [bv_opI]
  show ((bv b &&& bv 63) &&& bv 63).toInt = _
  rw [BitVec.and_assoc, BitVec.and_self]
theorem l12 (a b : Int) : opI 12 a (opI 8 b 63) = opI 12 a b := by
  show (bv a >>> ((bv (opI 8 b 63)).toNat % 64)).toInt = (bv a >>> ((bv b).toNat % 64)).toInt
  rw [far63]
theorem l13 (a b : Int) : opI 13 a (opI 8 b 63) = opI 13 a b := by
  show ((bv a).sshiftRight ((bv (opI 8 b 63)).toNat % 64)).toInt = ((bv a).sshiftRight ((bv b).toNat % 64)).toInt
  rw [far63]
theorem l11 (a b : Int) : opI 11 a b = opI 3 a (opI 11 1 b) := by
  show (bv a <<< ((bv b).toNat % 64)).toInt = (bv a * bv (opI 11 1 b)).toInt
  rw [bv_opI]
  show _ = (bv a * (bv 1 <<< ((bv b).toNat % 64))).toInt
  have hk : (bv b).toNat % 64 < 64 := Nat.mod_lt _ (by decide)
  generalize (bv b).toNat % 64 = k at hk
  refine congrArg BitVec.toInt (BitVec.eq_of_toNat_eq ?_)
  rw [BitVec.toNat_mul, BitVec.toNat_shiftLeft, BitVec.toNat_shiftLeft, Nat.shiftLeft_eq, Nat.shiftLeft_eq, show (bv 1).toNat = 1 from rfl, Nat.one_mul]
  rw [Nat.mod_eq_of_lt (Nat.pow_lt_pow_right (by decide) hk)]
theorem u1 (a : Int) : opI 15 a 1 = opI 16 a 0 := by
  rw [opI_15, opI_16]
  by_cases h : bv a = bv 0
  · rw [if_pos h, if_pos (by rw [h]; decide)]
  · rw [if_neg h, if_neg]
    intro h1
    refine h (BitVec.eq_of_toNat_eq ?_)
    rw [BitVec.ult, show (bv 1).toNat = 1 from rfl, decide_eq_true_iff] at h1
    rw [show (bv 0).toNat = 0 from rfl]; omega
theorem e16 (a b : Int) : opI 16 a b = 0 ∨ opI 16 a b = 1 := by
  rw [opI_16]; split
  · exact Or.inr rfl
  · exact Or.inl rfl
theorem e14 (a b : Int) : opI 14 a b = 0 ∨ opI 14 a b = 1 := by
  rw [opI_14]; split
  · exact Or.inr rfl
  · exact Or.inl rfl
theorem e15 (a b : Int) : opI 15 a b = 0 ∨ opI 15 a b = 1 := by
  rw [opI_15]; split
  · exact Or.inr rfl
  · exact Or.inl rfl
theorem nn (b : Int) : opI 15 0 b = opI 16 (opI 16 b 0) 0 := by
  rw [opI_15, opI_16 b 0]
  by_cases h : bv b = bv 0
  · rw [if_pos h, if_neg (by rw [h]; decide)]; decide
  · rw [if_neg h, if_pos]
    · decide
    · rw [BitVec.ult, show (bv 0).toNat = 0 from rfl, decide_eq_true_iff]
      exact Nat.pos_of_ne_zero fun e => h (BitVec.eq_of_toNat_eq (by rw [e]; rfl))
theorem eq16 {a b c d : Int} (h : bv a = bv b ↔ bv c = bv d) : opI 16 a b = opI 16 c d := by
  rw [opI_16, opI_16]
  by_cases e : bv a = bv b
  · rw [if_pos e, if_pos (h.1 e)]
  · rw [if_neg e, if_neg fun k => e (h.2 k)]
theorem p1 (a n m : Int) : opI 16 (opI 1 a n) m = opI 16 a (opI 2 m n) := by
  refine eq16 ?_
  rw [bv_opI, bv_opI]
  show bv a + bv n = bv m ↔ bv a = bv m - bv n
  constructor
  · intro h; rw [← h, BitVec.add_sub_cancel]
  · intro h; rw [h, BitVec.sub_add_cancel]
theorem p10 (a n m : Int) : opI 16 (opI 10 a n) m = opI 16 a (opI 10 m n) := by
  refine eq16 ?_
  rw [bv_opI, bv_opI]
  show bv a ^^^ bv n = bv m ↔ bv a = bv m ^^^ bv n
  constructor
  · intro h; rw [← h, BitVec.xor_assoc, BitVec.xor_self, BitVec.xor_zero]
  · intro h; rw [h, BitVec.xor_assoc, BitVec.xor_self, BitVec.xor_zero]
theorem q2 (a b : Int) : opI 16 (opI 2 a b) 0 = opI 16 a b := by
  refine eq16 ?_
  rw [bv_opI]
  show bv a - bv b = 0#64 ↔ bv a = bv b
  constructor
  · intro h
    have := congrArg (· + bv b) h
    simp only [BitVec.sub_add_cancel, BitVec.zero_add] at this
    exact this
  · intro h; rw [h, BitVec.sub_self]
theorem q10 (a b : Int) : opI 16 (opI 10 a b) 0 = opI 16 a b := by
  refine eq16 ?_
  rw [bv_opI]
  show bv a ^^^ bv b = 0#64 ↔ bv a = bv b
  constructor
  · intro h
    have := congrArg (· ^^^ bv b) h
    simp only [BitVec.xor_assoc, BitVec.xor_self, BitVec.xor_zero, BitVec.zero_xor] at this
    exact this
  · intro h; rw [h, BitVec.xor_self]
theorem t16 {t : Int} (h : t = 0 ∨ t = 1) : opI 16 (opI 16 t 0) 0 = t := by rcases h with rfl | rfl <;> decide
theorem t1 {t : Int} (h : t = 0 ∨ t = 1) : opI 16 t 1 = t := by rcases h with rfl | rfl <;> decide
theorem x1 {t : Int} (h : t = 0 ∨ t = 1) : opI 10 t 1 = opI 16 t 0 := by rcases h with rfl | rfl <;> decide
theorem xn {t : Int} (h : t = 0 ∨ t = 1) (n : Int) : opI 10 (opI 16 t 0) n = opI 10 t (opI 10 n 1) := by
  have e : ∀ s : Int, opI 10 s n = opI 10 0 (opI 10 n s) := fun s => by
    show (bv s ^^^ bv n).toInt = (0#64 ^^^ bv (opI 10 n s)).toInt
    rw [bv_opI, BitVec.zero_xor, BitVec.xor_comm]; rfl
  rcases h with rfl | rfl
  · rw [show opI 16 0 0 = 1 from by decide, e 1]
  · rw [show opI 16 1 0 = 0 from by decide]
    show (0#64 ^^^ bv n).toInt = (bv 1 ^^^ bv (opI 10 n 1)).toInt
    rw [bv_opI]
    show _ = (bv 1 ^^^ (bv n ^^^ bv 1)).toInt
    rw [BitVec.xor_comm (bv n), ← BitVec.xor_assoc, BitVec.xor_self]
theorem e0 {n : Int} (hn : InR n) (h0 : ¬ n = 0) (h1 : ¬ n = 1) {t : Int} (h : t = 0 ∨ t = 1) : opI 16 t n = 0 := by
  rw [opI_16, if_neg]
  intro e
  rcases h with rfl | rfl
  · exact h0 (bv_inj in0 hn e).symm
  · exact h1 (bv_inj ⟨by decide, by decide⟩ hn e).symm
theorem odd (n : Int) : opI 8 n 1 = 0 ∨ opI 8 n 1 = 1 := by
  have e : opI 8 n 1 = (bv ((bv n).toNat % 2 : Nat)).toInt := by
    show (bv n &&& bv 1).toInt = _
    refine congrArg BitVec.toInt (BitVec.eq_of_toNat_eq ?_)
    rw [BitVec.toNat_and, show (bv 1).toNat = 2 ^ 1 - 1 from rfl, Nat.and_two_pow_sub_one_eq_mod, Pw.toNat_bv _ (by omega)]
  rw [e]
  rcases Nat.mod_two_eq_zero_or_one (bv n).toNat with h | h <;> rw [h]
  · exact Or.inl rfl
  · exact Or.inr rfl
theorem an {n t : Int} (h : t = 0 ∨ t = 1) : opI 8 t n = if opI 8 n 1 = 1 then t else 0 := by
  rcases h with rfl | rfl
  · have : opI 8 0 n = 0 := by
      show (0#64 &&& bv n).toInt = 0
      rw [BitVec.zero_and]; rfl
    rw [this]; split <;> rfl
  · have : opI 8 1 n = opI 8 n 1 := congrArg BitVec.toInt (BitVec.and_comm ..)
    rw [this]
    rcases odd n with h | h <;> rw [h]
    · rw [if_neg (by decide)]
    · rw [if_pos rfl]
end Nf

section
variable {S : List Int} {C : List Cl} {L L' : List Nd}
theorem vals_pre (L : List Nd) : ∀ Z, ∃ Y, vals S C (L ++ Z) = vals S C L ++ Y := by
  refine snocInd ⟨[], by simp⟩ fun Z d ih => ?_
  obtain ⟨Y, h⟩ := ih
  exact ⟨Y ++ [val1 S C (vals S C (L ++ Z)) d], by rw [← List.append_assoc, vals_snoc, h, List.append_assoc]⟩
theorem val_ext (e : Ext L L') {i : Int} (hi : hasB L.length i = true) : valI S C L' i = valI S C L i := by
  obtain ⟨Z, rfl⟩ := e
  obtain ⟨Y, h⟩ := vals_pre (S := S) (C := C) L Z
  obtain ⟨h0, h1⟩ := (hasB_iff _ _).1 hi
  unfold valI vAt
  rw [h, List.getD_eq_getElem?_getD, List.getD_eq_getElem?_getD, List.getElem?_append_left (by rw [vals_length]; omega)]
theorem val_c (hG : Good L) {i : Int} (hi : hasB L.length i = true) (h : (ndAt L i).k = 1) : valI S C L i = (ndAt L i).n := by
  obtain ⟨k, hk, rfl, e⟩ := nd_of hi
  rw [e] at h ⊢; exact valI_1 hG hk h
theorem val_b (hG : Good L) {i : Int} (hi : hasB L.length i = true) (h : (ndAt L i).k = 4) : valI S C L i = opI (ndAt L i).o (valI S C L (ndAt L i).x) (valI S C L (ndAt L i).y) := by
  obtain ⟨k, hk, rfl, e⟩ := nd_of hi
  rw [e] at h ⊢; exact valI_4 hG hk h
theorem val_cn (hG : Good L) {n i : Int} (h : CN L n i) : valI S C L i = n := by
  rw [val_c hG h.1 (by rw [h.2]; rfl), h.2]; rfl
theorem isC_iff (d : Nd) : isC d = true ↔ d.k = 1 := by unfold isC; simp
theorem isB_iff (d : Nd) (o : Int) : isB d o = true ↔ d.k = 4 ∧ d.o = o := by unfold isB; simp
theorem behB_iff (L : List Nd) (d : Nd) (o : Int) : behB L d o = true ↔ (d.k = 4 ∧ d.o = o) ∧ (ndAt L d.y).k = 1 := by unfold behB; rw [Bool.and_eq_true, isB_iff, isC_iff]
theorem oppB_iff (L : List Nd) (d : Nd) : oppB L d = true ↔ (((d.k = 4 ∧ d.o = 16) ∧ (ndAt L d.y).k = 1) ∧ (ndAt L d.y).n = 0) ∧ truthN (ndAt L d.x) = true := by
  unfold oppB behN; rw [Bool.and_eq_true, Bool.and_eq_true, behB_iff]; simp
theorem truth_k (d : Nd) : truthN d = true ↔ d.k = 1 ∧ (d.n = 0 ∨ d.n = 1) ∨ d.k = 4 ∧ (d.o = 14 ∨ d.o = 15 ∨ d.o = 16) := by
  unfold truthN; simp [or_assoc]
theorem truth_val (hG : Good L) {i : Int} (hi : hasB L.length i = true) (h : truthN (ndAt L i) = true) : valI S C L i = 0 ∨ valI S C L i = 1 := by
  rcases (truth_k _).1 h with ⟨h1, h2⟩ | ⟨h1, h2⟩
  · rw [val_c hG hi h1]; exact h2
  · rw [val_b hG hi h1]
    rcases h2 with e | e | e <;> rw [e]
    · exact Nf.e14 _ _
    · exact Nf.e15 _ _
    · exact Nf.e16 _ _

/-! ### What a form's outcome is -/
structure Fw (L : List Nd) (f : Fm) : Prop where
  lo : 1 ≤ f.o
  hi : f.o ≤ 16
  x : hasB L.length f.x = true
  y : hasB L.length f.y = true
theorem fw16 {x y : Int} (hx : hasB L.length x = true) (hy : hasB L.length y = true) : Fw L ⟨16, x, y⟩ := ⟨(by decide : (1 : Int) ≤ 16), (by decide : (16 : Int) ≤ 16), hx, hy⟩
theorem Fw.ne {f : Fm} (h : Fw L f) : f.o ≠ 0 := by have := h.lo; omega
theorem Fw.ext {f : Fm} (h : Fw L f) (e : Ext L L') : Fw L' f := ⟨h.lo, h.hi, e.has h.x, e.has h.y⟩
def okO (L : List Nd) : Out → Prop
  | .is x => hasB L.length x = true
  | .con n => InR n
  | .two o x y => Fw L ⟨o, x, y⟩ ∧ o ≠ 15
  | .num o x n => (1 ≤ o ∧ o ≤ 16 ∧ hasB L.length x = true ∧ InR n) ∧ o ≠ 15
  | .nn y => hasB L.length y = true
  | .add => True
def ovO (S : List Int) (C : List Cl) (L : List Nd) (f : Fm) : Out → Int
  | .is x => valI S C L x
  | .con n => n
  | .two o x y => opI o (valI S C L x) (valI S C L y)
  | .num o x n => opI o (valI S C L x) n
  | .nn y => opI 16 (opI 16 (valI S C L y) 0) 0
  | .add => opI f.o (valI S C L f.x) (valI S C L f.y)
theorem in1 : InR 1 := ⟨by decide, by decide⟩
theorem tnF_ok (hG : Good L) {f : Fm} (hf : Fw L f) (ht : truthN (ndAt L f.x) = true) (hl : ¬ (ndAt L f.x).k = 1) (n : Int) : okO L (tnF L f.o f.x n (ndAt L f.x)) := by
  unfold tnF
  have h4 : (ndAt L f.x).k = 4 := by
    rcases (truth_k _).1 ht with h | h
    · exact absurd h.1 hl
    · exact h.1
  have p := nd_4 hG hf.x h4
  split
  · exact ⟨⟨by decide, by decide, p.1, opI_in _ _ _⟩, by decide⟩
  · split
    · exact ⟨⟨by decide, by decide, hf.x, in0⟩, by decide⟩
    · split
      · exact p.1
      · split
        · exact hf.x
        · exact in0
theorem nx_ok (hG : Good L) {f : Fm} (hf : Fw L f) : okO L (nx L f) := by
  rcases nx_cases L hf.ne with ⟨e, _⟩ | ⟨j, hj, h0, h1, e⟩
  · rw [e]; trivial
  · rw [e]
    have hlx := fun h4 => nd_4 hG hf.x h4
    have oy := nd_ok hG hf.y
    have ny : InR (ndAt L f.y).n := oy.2.1
    have lo := hf.lo
    have hi := hf.hi
    match j, hj with
    | 0, _ => exact opI_in _ _ _
    | 1, _ =>
      simp only [cB, Bool.and_eq_true] at h1
      refine ⟨⟨lo, hi, hf.y, hf.x⟩, ?_⟩
      show f.o ≠ 15
      intro e15
      rw [e15] at h1
      exact absurd h1.1.1 (by decide)
    | 2, _ =>
      simp only [cB, Bool.and_eq_true, behB_iff] at h1
      refine ⟨⟨lo, hi, (hlx h1.2.1.1).1, opI_in _ _ _⟩, ?_⟩
      show f.o ≠ 15
      intro e15
      rw [e15] at h1
      exact absurd h1.1.2 (by decide)
    | 3, _ => exact hf.x
    | 4, _ =>
      show okO L (if _ then _ else if _ then _ else _)
      split
      · exact in0
      · split
        · exact in1
        · exact hf.x
    | 5, _ =>
      show okO L (if _ then _ else _)
      split
      · exact in0
      · exact hf.y
    | 6, _ => exact ⟨⟨by decide, by decide, hf.x, opI_in _ _ _⟩, by decide⟩
    | 7, _ => exact ⟨⟨by decide, by decide, hf.x, opI_in _ _ _⟩, by decide⟩
    | 8, _ =>
      refine ⟨⟨lo, hi, hf.x, opI_in _ _ _⟩, ?_⟩
      show f.o ≠ 15
      intro e15
      rw [cB, e15] at h1
      simp at h1
    | 9, _ => exact ⟨⟨by decide, by decide, hf.x, Lw.pow_in _⟩, by decide⟩
    | 10, _ => exact ⟨⟨by decide, by decide, hf.x, opI_in _ _ _⟩, by decide⟩
    | 11, _ => exact ⟨⟨by decide, by decide, hf.x, in0⟩, by decide⟩
    | 12, _ => exact hf.y
    | 13, _ =>
      simp only [cB, Bool.and_eq_true, Bool.or_eq_true, behB_iff] at h1
      have h4 : (ndAt L f.x).k = 4 := by rcases h1.2 with h | h <;> exact h.1.1
      refine ⟨⟨by decide, by decide, (hlx h4).1, ?_⟩, by decide⟩
      split
      · exact opI_in _ _ _
      · exact opI_in _ _ _
    | 14, _ =>
      simp only [cB, Bool.and_eq_true, Bool.or_eq_true, isB_iff] at h1
      have h4 : (ndAt L f.x).k = 4 := by rcases h1.2 with h | h <;> exact h.1
      exact ⟨fw16 (hlx h4).1 (hlx h4).2.1, by decide⟩
    | 15, _ =>
      simp only [cB, Bool.and_eq_true, isC_iff] at h1
      refine tnF_ok hG hf h1.1.1.1 (fun hl => ?_) _
      have := h0 0 (by decide)
      simp only [cB, Bool.and_eq_false_iff] at this
      rcases this with h | h
      · exact absurd ((isC_iff _).2 hl) (by rw [h]; decide)
      · exact absurd ((isC_iff _).2 h1.1.1.2) (by rw [h]; decide)
    | j + 16, hj => omega
theorem nx_val (hS : ∀ x ∈ S, InR x) (hC : ∀ c ∈ C, c.Ok) (hG : Good L) {f : Fm} (hf : Fw L f) : ovO S C L f (nx L f) = opI f.o (valI S C L f.x) (valI S C L f.y) := by
  have vin := fun i => valI_in hS hC hG i
  rcases nx_cases L hf.ne with ⟨e, _⟩ | ⟨j, hj, h0, h1, e⟩
  · rw [e]; rfl
  · rw [e]
    have hbx : (ndAt L f.x).k = 4 → valI S C L f.x = opI (ndAt L f.x).o (valI S C L (ndAt L f.x).x) (valI S C L (ndAt L f.x).y) := fun h => val_b hG hf.x h
    have hcy : (ndAt L f.y).k = 1 → valI S C L f.y = (ndAt L f.y).n := fun h => val_c hG hf.y h
    have hcx : (ndAt L f.x).k = 1 → valI S C L f.x = (ndAt L f.x).n := fun h => val_c hG hf.x h
    have hby : (ndAt L f.x).k = 4 → (ndAt L (ndAt L f.x).y).k = 1 → valI S C L (ndAt L f.x).y = behN L (ndAt L f.x) := fun h h' => val_c hG (nd_4 hG hf.x h).2.1 h'
    match j, hj with
    | 0, _ =>
      simp only [cB, Bool.and_eq_true, isC_iff] at h1
      show opI _ _ _ = _
      rw [hcx h1.1, hcy h1.2]
    | 1, _ =>
      simp only [cB, Bool.and_eq_true] at h1
      exact (Lw.swap h1.1.1 _ _)
    | 2, _ =>
      simp only [cB, Bool.and_eq_true, behB_iff, isC_iff] at h1
      show opI _ _ (opI _ _ _) = _
      rw [hbx h1.2.1.1, hcy h1.1.1, hby h1.2.1.1 h1.2.2, h1.2.1.2, Lw.group h1.1.2]
    | 3, _ =>
      simp only [cB, Bool.and_eq_true, isC_iff, beq_iff_eq] at h1
      show valI S C L f.x = _
      rw [hcy h1.1.2, h1.2, Lw.keep h1.1.1 (vin _)]
    | 4, _ =>
      simp only [cB, Bool.and_eq_true, Bool.or_eq_true, beq_iff_eq] at h1
      obtain ⟨hxy, ho⟩ := h1
      show ovO S C L f (if _ then _ else if _ then _ else _) = _
      rw [← hxy]
      rcases ho with (((((o | o) | o) | o) | o) | o) | o <;> rw [o]
      · exact (Nf.s2 _).symm
      · exact (Nf.s10 _).symm
      · exact (Nf.s14 _).symm
      · exact (Nf.s15 _).symm
      · exact (Nf.s16 _).symm
      · exact (Nf.s8 (vin _)).symm
      · exact (Nf.s9 (vin _)).symm
    | 5, _ =>
      simp only [cB, Bool.and_eq_true, Bool.or_eq_true, beq_iff_eq, isC_iff] at h1
      obtain ⟨hr, ho⟩ := h1
      have hv := hcy hr
      show ovO S C L f (if _ then _ else _) = _
      rcases ho with (⟨n0, (o | o) | o⟩ | ⟨n0, o⟩) | ⟨n0, o | o⟩ <;> rw [o] <;> rw [n0] at hv
      · show valI S C L f.y = _
        rw [hv, Nf.f3]
      · show valI S C L f.y = _
        rw [hv, Nf.f8]
      · show valI S C L f.y = _
        rw [hv, Nf.f15]
      · show valI S C L f.y = _
        rw [hv, Nf.f9]
      · show (0 : Int) = _
        rw [hv, Nf.f5]
      · show (0 : Int) = _
        rw [hv, Nf.f7]
    | 6, _ =>
      simp only [cB, Bool.and_eq_true, beq_iff_eq, isC_iff] at h1
      show opI 1 _ _ = _
      rw [h1.2, hcy h1.1]
      exact (Lw.sub0 _ _).symm
    | 7, _ =>
      simp only [cB, Bool.and_eq_true, beq_iff_eq, isC_iff] at h1
      show opI 3 _ _ = _
      rw [h1.2, hcy h1.1]
      exact (Nf.l11 _ _).symm
    | 8, _ =>
      simp only [cB, Bool.and_eq_true, Bool.or_eq_true, beq_iff_eq, isC_iff] at h1
      show opI _ _ _ = _
      rw [hcy h1.1.1]
      rcases h1.1.2 with o | o <;> rw [o]
      · exact Nf.l12 _ _
      · exact Nf.l13 _ _
    | 9, _ =>
      simp only [cB, Bool.and_eq_true, beq_iff_eq, isC_iff] at h1
      show opI 12 _ _ = _
      rw [h1.2, hcy h1.1.1, Lw.divp h1.1.2]
    | 10, _ =>
      simp only [cB, Bool.and_eq_true, beq_iff_eq, isC_iff] at h1
      show opI 8 _ _ = _
      rw [h1.2, hcy h1.1.1, Lw.modp h1.1.2]
    | 11, _ =>
      simp only [cB, Bool.and_eq_true, beq_iff_eq, isC_iff] at h1
      show opI 16 _ _ = _
      rw [h1.2, hcy h1.1.1, h1.1.2, Nf.u1]
    | 12, _ =>
      simp only [cB, Bool.and_eq_true, beq_iff_eq, isC_iff] at h1
      show opI 16 _ _ = _
      rw [h1.1.1, hcx h1.1.2, h1.2, Nf.nn]
    | 13, _ =>
      simp only [cB, Bool.and_eq_true, Bool.or_eq_true, behB_iff, isC_iff, beq_iff_eq] at h1
      show opI 16 _ (if _ then _ else _) = _
      rw [h1.1.1, hcy h1.1.2]
      rcases h1.2 with h | h
      · rw [hbx h.1.1, hby h.1.1 h.2, h.1.2, if_pos (by decide), Nf.p1]
      · rw [hbx h.1.1, hby h.1.1 h.2, h.1.2, if_neg (by decide), Nf.p10]
    | 14, _ =>
      simp only [cB, Bool.and_eq_true, Bool.or_eq_true, isB_iff, isC_iff, beq_iff_eq] at h1
      show opI 16 _ _ = _
      rw [h1.1.1.1, hcy h1.1.1.2, h1.1.2]
      rcases h1.2 with h | h
      · rw [hbx h.1, h.2, Nf.q2]
      · rw [hbx h.1, h.2, Nf.q10]
    | 15, _ =>
      have hnl : ¬ (ndAt L f.x).k = 1 := fun hl => by
        simp only [cB, Bool.and_eq_true, isC_iff] at h1
        have := h0 0 (by decide)
        simp only [cB, Bool.and_eq_false_iff] at this
        rcases this with h | h
        · exact absurd ((isC_iff _).2 hl) (by rw [h]; decide)
        · exact absurd ((isC_iff _).2 h1.1.1.2) (by rw [h]; decide)
      simp only [cB, Bool.and_eq_true, Bool.or_eq_true, beq_iff_eq, isC_iff] at h1
      obtain ⟨⟨⟨ht, hr⟩, ho⟩, hn⟩ := h1
      have hv := hcy hr
      have tv := truth_val (S := S) (C := C) hG hf.x ht
      have nin : InR (ndAt L f.y).n := (nd_ok hG hf.y).2.1
      rw [hv]
      show ovO S C L f (tnF L f.o f.x (ndAt L f.y).n (ndAt L f.x)) = _
      generalize (ndAt L f.y).n = n at *
      have opp : oppB L (ndAt L f.x) = true → valI S C L f.x = opI 16 (valI S C L (ndAt L f.x).x) 0 ∧ (valI S C L (ndAt L f.x).x = 0 ∨ valI S C L (ndAt L f.x).x = 1) := fun h => by
        obtain ⟨⟨⟨⟨a, b⟩, c⟩, d⟩, e⟩ := (oppB_iff _ _).1 h
        refine ⟨?_, truth_val hG (nd_4 hG hf.x a).1 e⟩
        rw [hbx a, b, hby a c]
        show opI 16 _ (ndAt L (ndAt L f.x).y).n = _
        rw [d]
      unfold tnF
      split
      · rename_i c
        simp only [Bool.and_eq_true, beq_iff_eq] at c
        obtain ⟨v1, v2⟩ := opp c.2
        show opI 10 _ _ = _
        rw [v1, c.1, Nf.xn v2]
      · rename_i c
        split
        · rename_i c2
          simp only [beq_iff_eq] at c2
          simp only [tnB, c2] at hn
          have n1 : n = 1 := by
            have hop : oppB L (ndAt L f.x) = false := by
              cases hq : oppB L (ndAt L f.x) with
              | false => rfl
              | true => exact absurd (by rw [c2, hq]; rfl) c
            rw [hop] at hn
            simp at hn
            exact hn
          show opI 16 _ _ = _
          rw [n1, c2, Nf.x1 tv]
        · rename_i c2
          split
          · rename_i c3
            simp only [Bool.and_eq_true, beq_iff_eq] at c3
            have hop : oppB L (ndAt L f.x) = true := by
              cases hq : oppB L (ndAt L f.x) with
              | true => rfl
              | false => rw [tnB, hq, c3.1, c3.2] at hn; simp at hn
            obtain ⟨v1, v2⟩ := opp hop
            show valI S C L (ndAt L f.x).x = _
            rw [v1, c3.1, c3.2, Nf.t16 v2]
          · rename_i c3
            split
            · rename_i c4
              simp only [Bool.and_eq_true, Bool.or_eq_true, beq_iff_eq] at c4
              show valI S C L f.x = _
              rcases c4 with ⟨a, b⟩ | ⟨a, b⟩
              · rw [a, b, Nf.t1 tv]
              · rw [a, Nf.an tv, if_pos b]
            · rename_i c4
              simp only [Bool.and_eq_true, Bool.or_eq_true, beq_iff_eq, not_or, not_and] at c2 c3 c4
              show (0 : Int) = _
              rcases ho with (o | o) | o
              · rw [o, Nf.e0 nin (c3 o) (c4.1 o) tv]
              · rw [o, Nf.an tv, if_neg (c4.2 o)]
              · exact absurd o c2
    | j + 16, hj => omega
theorem run_has (hG : Good L) {f : Fm} {i : Int} (h : Run L f i) : Fw L f → hasB L.length i = true := by
  induction h with
  | is e => intro hf; have := nx_ok hG hf; rw [e] at this; exact this
  | con e c => intro _; exact c.1
  | two e r ih => intro hf; have := nx_ok hG hf; rw [e] at this; exact ih this.1
  | num e c r ih => intro hf; have := nx_ok hG hf; rw [e] at this; exact ih ⟨this.1.1, this.1.2.1, this.1.2.2.1, c.1⟩
  | nn e c r r2 ih ih2 =>
    intro hf
    have := nx_ok hG hf
    rw [e] at this
    exact ih2 (fw16 (ih (fw16 this c.1)) c.1)
  | add e a b => intro _; exact a
theorem run_val (hS : ∀ x ∈ S, InR x) (hC : ∀ c ∈ C, c.Ok) (hG : Good L) {f : Fm} {i : Int} (h : Run L f i) : Fw L f → valI S C L i = opI f.o (valI S C L f.x) (valI S C L f.y) := by
  induction h with
  | is e => intro hf; have := nx_val hS hC hG hf; rw [e] at this; exact this
  | con e c => intro hf; have := nx_val hS hC hG hf; rw [e] at this; exact (val_cn hG c).trans this
  | two e r ih =>
    intro hf
    have v := nx_val hS hC hG hf
    have := nx_ok hG hf
    rw [e] at this v
    exact (ih this.1).trans v
  | num e c r ih =>
    intro hf
    have v := nx_val hS hC hG hf
    have := nx_ok hG hf
    rw [e] at this v
    refine (ih ⟨this.1.1, this.1.2.1, this.1.2.2.1, c.1⟩).trans ?_
    show opI _ _ (valI S C L _) = _
    rw [val_cn hG c]; exact v
  | nn e c r r2 ih ih2 =>
    intro hf
    have v := nx_val hS hC hG hf
    have := nx_ok hG hf
    rw [e] at this v
    have fw := fw16 (y := _) this c.1
    refine (ih2 (fw16 (run_has hG r fw) c.1)).trans ?_
    show opI 16 (valI S C L _) (valI S C L _) = _
    rw [ih fw]
    show opI 16 (opI 16 _ (valI S C L _)) (valI S C L _) = _
    rw [val_cn hG c]; exact v
  | add e a b =>
    intro hf
    rw [val_b hG a (by rw [b]; rfl), b]; rfl
end
end Go.Proofs.YtgkjdmojbndicaaGreatDoor

namespace Go.Proofs.YtgkjdmojbndicaaGreatDoor
open Go

section
variable {L L' : List Nd}
theorem behB_ext (hG : Good L) (e : Ext L L') {i : Int} (hi : hasB L.length i = true) (o : Int) : behB L' (ndAt L i) o = behB L (ndAt L i) o := by
  unfold behB
  cases h : isB (ndAt L i) o with
  | false => rfl
  | true => rw [e.nd (nd_4 hG hi ((isB_iff _ _).1 h).1).2.1]
theorem behN_ext (hG : Good L) (e : Ext L L') {i : Int} (hi : hasB L.length i = true) (h : (ndAt L i).k = 4) : behN L' (ndAt L i) = behN L (ndAt L i) := by
  unfold behN
  rw [e.nd (nd_4 hG hi h).2.1]
theorem oppB_ext (hG : Good L) (e : Ext L L') {i : Int} (hi : hasB L.length i = true) : oppB L' (ndAt L i) = oppB L (ndAt L i) := by
  unfold oppB
  rw [behB_ext hG e hi]
  cases h : behB L (ndAt L i) 16 with
  | false => rfl
  | true =>
    have h4 := ((behB_iff _ _ _).1 h).1.1
    rw [behN_ext hG e hi h4, e.nd (nd_4 hG hi h4).1]
theorem cB_ext (hG : Good L) (e : Ext L L') {i : Int} (hi : hasB L.length i = true) (o x y : Int) (r : Nd) (m : Nat) : cB L' o x y (ndAt L i) r m = cB L o x y (ndAt L i) r m := by
  have hb := fun o => behB_ext hG e hi o
  have ho := oppB_ext hG e hi
  match m with
  | 0 => rfl
  | 1 => rfl
  | 2 =>
    show (_ && behB L' _ _) = (_ && behB L _ _)
    rw [hb]
  | 3 => rfl
  | 4 => rfl
  | 5 => rfl
  | 6 => rfl
  | 7 => rfl
  | 8 => rfl
  | 9 => rfl
  | 10 => rfl
  | 11 => rfl
  | 12 => rfl
  | 13 =>
    show (_ && (behB L' _ _ || behB L' _ _)) = (_ && (behB L _ _ || behB L _ _))
    rw [hb, hb]
  | 14 => rfl
  | 15 =>
    show (_ && tnB L' _ _ _) = (_ && tnB L _ _ _)
    unfold tnB
    rw [ho]
  | m + 16 => rfl
theorem nx_ext (hG : Good L) (e : Ext L L') {f : Fm} (hf : Fw L f) : nx L' f = nx L f := by
  have ex := e.nd hf.x
  have ey := e.nd hf.y
  rcases nx_cases L hf.ne with ⟨h, h0⟩ | ⟨j, hj, h0, h1, h⟩
  · rw [h]
    refine nx_none hf.ne fun m hm => ?_
    rw [ex, ey, cB_ext hG e hf.x]; exact h0 m hm
  · rw [h, nx_at hf.ne hj (fun m hm => by rw [ex, ey, cB_ext hG e hf.x]; exact h0 m hm) (by rw [ex, ey, cB_ext hG e hf.x]; exact h1), ex, ey]
    have hb := fun h4 => behN_ext hG e hf.x h4
    have ho := oppB_ext hG e hf.x
    match j, hj with
    | 0, _ => simp only [oF]
    | 1, _ => simp only [oF]
    | 2, _ =>
      simp only [cB, Bool.and_eq_true, behB_iff] at h1
      show Out.num _ _ (opI _ (behN L' _) _) = Out.num _ _ (opI _ (behN L _) _)
      rw [hb h1.2.1.1]
    | 3, _ => simp only [oF]
    | 4, _ => simp only [oF]
    | 5, _ => simp only [oF]
    | 6, _ => simp only [oF]
    | 7, _ => simp only [oF]
    | 8, _ => simp only [oF]
    | 9, _ => simp only [oF]
    | 10, _ => simp only [oF]
    | 11, _ => simp only [oF]
    | 12, _ => simp only [oF]
    | 13, _ =>
      simp only [cB, Bool.and_eq_true, Bool.or_eq_true, behB_iff] at h1
      have h4 : (ndAt L f.x).k = 4 := by rcases h1.2 with h | h <;> exact h.1.1
      show Out.num _ _ (if _ then opI _ _ (behN L' _) else opI _ _ (behN L' _)) = Out.num _ _ (if _ then opI _ _ (behN L _) else opI _ _ (behN L _))
      rw [hb h4]
    | 14, _ => simp only [oF]
    | 15, _ =>
      show tnF L' _ _ _ _ = tnF L _ _ _ _
      unfold tnF
      rw [ho]
    | j + 16, hj => omega
theorem run_ext (hG : Good L) (e : Ext L L') {f : Fm} {i : Int} (h : Run L f i) : Fw L f → Run L' f i := by
  induction h with
  | is h => intro hf; exact .is ((nx_ext hG e hf).trans h)
  | con h c => intro hf; exact .con ((nx_ext hG e hf).trans h) (c.ext e)
  | two h r ih => intro hf; have := nx_ok hG hf; rw [h] at this; exact .two ((nx_ext hG e hf).trans h) (ih this.1)
  | num h c r ih => intro hf; have := nx_ok hG hf; rw [h] at this; exact .num ((nx_ext hG e hf).trans h) (c.ext e) (ih ⟨this.1.1, this.1.2.1, this.1.2.2.1, c.1⟩)
  | nn h c r r2 ih ih2 =>
    intro hf
    have := nx_ok hG hf
    rw [h] at this
    have fw := fw16 this c.1
    exact .nn ((nx_ext hG e hf).trans h) (c.ext e) (ih fw) (ih2 (fw16 (run_has hG r fw) c.1))
  | add h a b => intro hf; exact .add ((nx_ext hG e hf).trans h) (e.has a) ((e.nd a).trans b)

/-! ### Plain terms -/
inductive Pl (L : List Nd) : Int → Prop
  | leaf {i : Int} : hasB L.length i = true → (ndAt L i).k = 1 ∨ (ndAt L i).k = 2 → Pl L i
  | cell {i : Int} : hasB L.length i = true → (ndAt L i).k = 3 → Pl L (ndAt L i).y → Pl L i
  | bin {i : Int} : hasB L.length i = true → (ndAt L i).k = 4 → Pl L (ndAt L i).x → Pl L (ndAt L i).y → nx L ⟨(ndAt L i).o, (ndAt L i).x, (ndAt L i).y⟩ = .add → Pl L i
theorem Pl.has {i : Int} (h : Pl L i) : hasB L.length i = true := by cases h <;> assumption
theorem Pl.part {i : Int} (h : Pl L i) (h4 : (ndAt L i).k = 4) : Pl L (ndAt L i).x ∧ Pl L (ndAt L i).y ∧ nx L ⟨(ndAt L i).o, (ndAt L i).x, (ndAt L i).y⟩ = .add := by
  cases h with
  | leaf a b => omega
  | cell a b c => omega
  | bin a b c d e => exact ⟨c, d, e⟩
theorem Pl.place {i : Int} (h : Pl L i) (h3 : (ndAt L i).k = 3) : Pl L (ndAt L i).y := by
  cases h with
  | leaf a b => omega
  | cell a b c => exact c
  | bin a b c d e => omega
theorem fw_node (hG : Good L) {i : Int} (hi : hasB L.length i = true) (h4 : (ndAt L i).k = 4) : Fw L ⟨(ndAt L i).o, (ndAt L i).x, (ndAt L i).y⟩ := by
  have p := nd_4 hG hi h4
  exact ⟨p.2.2.2.2.1, p.2.2.2.2.2, p.1, p.2.1⟩
theorem Pl.ext (hG : Good L) (e : Ext L L') {i : Int} (h : Pl L i) : Pl L' i := by
  induction h with
  | leaf a b => exact .leaf (e.has a) (by rw [e.nd a]; exact b)
  | cell a b c ih => exact .cell (e.has a) (by rw [e.nd a]; exact b) (by rw [e.nd a]; exact ih)
  | bin a b c d f ih1 ih2 =>
    refine .bin (e.has a) (by rw [e.nd a]; exact b) (by rw [e.nd a]; exact ih1) (by rw [e.nd a]; exact ih2) ?_
    rw [e.nd a, nx_ext hG e (fw_node hG a b)]
    exact f
theorem Pl.cn {n i : Int} (h : CN L n i) : Pl L i := .leaf h.1 (Or.inl (by rw [h.2]; rfl))
def plO (L : List Nd) : Out → Prop
  | .is x => Pl L x
  | .two _ x y => Pl L x ∧ Pl L y
  | .num _ x _ => Pl L x
  | .nn y => Pl L y
  | _ => True
theorem c0_no {o x y : Int} {l r : Nd} (h : cB L o x y l r 0 = false) (hr : isC r = true) : ¬ l.k = 1 := fun hl => by
  simp only [cB, Bool.and_eq_false_iff] at h
  rcases h with h | h
  · exact absurd ((isC_iff _).2 hl) (by rw [h]; decide)
  · exact absurd hr (by rw [h]; decide)
theorem truth_4 {d : Nd} (ht : truthN d = true) (hl : ¬ d.k = 1) : d.k = 4 := by
  rcases (truth_k _).1 ht with h | h
  · exact absurd h.1 hl
  · exact h.1
theorem nx_pl {f : Fm} (hf : Fw L f) (px : Pl L f.x) (py : Pl L f.y) : plO L (nx L f) := by
  rcases nx_cases L hf.ne with ⟨e, _⟩ | ⟨j, hj, h0, h1, e⟩
  · rw [e]; trivial
  · rw [e]
    match j, hj with
    | 0, _ => trivial
    | 1, _ => exact ⟨py, px⟩
    | 2, _ =>
      simp only [cB, Bool.and_eq_true, behB_iff] at h1
      exact (px.part h1.2.1.1).1
    | 3, _ => exact px
    | 4, _ =>
      show plO L (if _ then _ else if _ then _ else _)
      split
      · trivial
      · split
        · trivial
        · exact px
    | 5, _ =>
      show plO L (if _ then _ else _)
      split
      · trivial
      · exact py
    | 6, _ => exact px
    | 7, _ => exact px
    | 8, _ => exact px
    | 9, _ => exact px
    | 10, _ => exact px
    | 11, _ => exact px
    | 12, _ => exact py
    | 13, _ =>
      simp only [cB, Bool.and_eq_true, Bool.or_eq_true, behB_iff] at h1
      have h4 : (ndAt L f.x).k = 4 := by rcases h1.2 with h | h <;> exact h.1.1
      exact (px.part h4).1
    | 14, _ =>
      simp only [cB, Bool.and_eq_true, Bool.or_eq_true, isB_iff] at h1
      have h4 : (ndAt L f.x).k = 4 := by rcases h1.2 with h | h <;> exact h.1
      exact ⟨(px.part h4).1, (px.part h4).2.1⟩
    | 15, _ =>
      simp only [cB, Bool.and_eq_true] at h1
      have h4 := truth_4 h1.1.1.1 (c0_no (h0 0 (by decide)) h1.1.1.2)
      have p := px.part h4
      show plO L (tnF _ _ _ _ _)
      unfold tnF
      split
      · exact p.1
      · split
        · exact px
        · split
          · exact p.1
          · split
            · exact px
            · trivial
    | j + 16, hj => omega
theorem run_pl (hG : Good L) {f : Fm} {i : Int} (h : Run L f i) : Fw L f → Pl L f.x → Pl L f.y → Pl L i := by
  induction h with
  | is h => intro hf px py; have := nx_pl hf px py; rw [h] at this; exact this
  | con h c => intro _ _ _; exact Pl.cn c
  | two h r ih => intro hf px py; have p := nx_pl hf px py; have o := nx_ok hG hf; rw [h] at p o; exact ih o.1 p.1 p.2
  | num h c r ih => intro hf px py; have p := nx_pl hf px py; have o := nx_ok hG hf; rw [h] at p o; exact ih ⟨o.1.1, o.1.2.1, o.1.2.2.1, c.1⟩ p (Pl.cn c)
  | nn h c r r2 ih ih2 =>
    intro hf px py
    have p := nx_pl hf px py
    have o := nx_ok hG hf
    rw [h] at p o
    have fw := fw16 o c.1
    exact ih2 (fw16 (run_has hG r fw) c.1) (ih fw p (Pl.cn c)) (Pl.cn c)
  | add h a b =>
    intro hf px py
    refine .bin a (by rw [b]; rfl) ?_ ?_ ?_
    · rw [b]; exact px
    · rw [b]; exact py
    · rw [b]; exact h
/-- A plain Bin comes to itself. -/
theorem Pl.run {i : Int} (h : Pl L i) (h4 : (ndAt L i).k = 4) (hG : Good L) : Run L ⟨(ndAt L i).o, (ndAt L i).x, (ndAt L i).y⟩ i :=
  .add (h.part h4).2.2 h.has (nd_b hG h.has h4)

/-! ### How deep, how far -/
def dN (L : List Nd) (i : Int) : Nat := (deepI L i).toNat
theorem dN_ext (e : Ext L L') {i : Int} (hi : hasB L.length i = true) : dN L' i = dN L i := by unfold dN; rw [e.deep hi]
theorem dN_1 (hG : Good L) {i : Int} (hi : hasB L.length i = true) (h : (ndAt L i).k = 1 ∨ (ndAt L i).k = 2) : dN L i = 1 := by
  obtain ⟨k, hk, rfl, e⟩ := nd_of hi
  unfold dN
  rw [e] at h
  rw [deep_k0 hG hk (by omega) (by omega)]; rfl
theorem dN_3 (hG : Good L) {i : Int} (hi : hasB L.length i = true) (h : (ndAt L i).k = 3) : dN L i = 1 + dN L (ndAt L i).y := by
  obtain ⟨k, hk, rfl, e⟩ := nd_of hi
  unfold dN
  rw [e] at h ⊢
  rw [deep_k3 hG hk h]
  have := deepI_nonneg L (L[k]).y
  omega
theorem dN_4 (hG : Good L) {i : Int} (hi : hasB L.length i = true) (h : (ndAt L i).k = 4) : dN L i = 1 + max (dN L (ndAt L i).x) (dN L (ndAt L i).y) := by
  obtain ⟨k, hk, rfl, e⟩ := nd_of hi
  unfold dN
  rw [e] at h ⊢
  rw [deep_k4 hG hk h]
  have := deepI_nonneg L (L[k]).y
  have := deepI_nonneg L (L[k]).x
  omega
theorem dN_pos (hG : Good L) {i : Int} (hi : hasB L.length i = true) : 1 ≤ dN L i := by
  rcases nd_kind hG hi with h | h | h | h
  · rw [dN_1 hG hi (Or.inl h)]; exact Nat.le_refl _
  · rw [dN_1 hG hi (Or.inr h)]; exact Nat.le_refl _
  · rw [dN_3 hG hi h]; omega
  · rw [dN_4 hG hi h]; omega
theorem dN_le (hG : Good L) : ∀ (n : Nat) (i : Int), i < n → hasB L.length i = true → (dN L i : Int) ≤ i + 1 := by
  intro n
  induction n with
  | zero => intro i h hi; have := ((hasB_iff _ _).1 hi).1; omega
  | succ n ih =>
    intro i h hi
    have h0 := ((hasB_iff _ _).1 hi).1
    rcases nd_kind hG hi with k | k | k | k
    · rw [dN_1 hG hi (Or.inl k)]; omega
    · rw [dN_1 hG hi (Or.inr k)]; omega
    · have p := part_lt hG hi (p := (ndAt L i).y) (by unfold partsOf; rw [if_pos k]; simp)
      have := ih _ (by omega) p.2.2
      rw [dN_3 hG hi k]; omega
    · have p := nd_4 hG hi k
      have h1 := ih _ (by omega) p.1
      have h2 := ih _ (by omega) p.2.1
      rw [dN_4 hG hi k]; omega
theorem dN_cn (hG : Good L) {n i : Int} (h : CN L n i) : dN L i = 1 := dN_1 hG h.1 (Or.inl (by rw [h.2]; rfl))
def dF (L : List Nd) (f : Fm) : Nat := max (dN L f.x) (dN L f.y)
def rkO (o n : Int) : Nat := if o == 2 || o == 11 || o == 6 || o == 7 || o == 10 || (o == 12 || o == 13) && !(opI 8 n 63 == n) then 1 else 0
def sw (L : List Nd) (f : Fm) : Nat := if cB L f.o f.x f.y (ndAt L f.x) (ndAt L f.y) 1 then 1 else 0
/-- How far a form is from a term. -/
def mu (L : List Nd) (f : Fm) : Nat :=
  if f.o = 0 then 0 else if f.o = 15 then 8 * dF L f + 20 else 4 * dF L f + 2 * rkO f.o (ndAt L f.y).n + sw L f + 1
theorem rk_yes {o : Int} (h : o = 2 ∨ o = 11 ∨ o = 6 ∨ o = 7 ∨ o = 10) (n : Int) : rkO o n = 1 := by
  unfold rkO
  rcases h with rfl | rfl | rfl | rfl | rfl <;> simp
theorem rk_no {o : Int} (h : o = 1 ∨ o = 3 ∨ o = 8 ∨ o = 9 ∨ o = 16) (n : Int) : rkO o n = 0 := by
  unfold rkO
  rcases h with rfl | rfl | rfl | rfl | rfl <;> simp
theorem rkO_le (o n : Int) : rkO o n ≤ 1 := by unfold rkO; split <;> omega
theorem sw_le (f : Fm) : sw L f ≤ 1 := by unfold sw; split <;> omega
theorem mu_other {f : Fm} (h0 : f.o ≠ 0) (h : f.o ≠ 15) : mu L f = 4 * dF L f + 2 * rkO f.o (ndAt L f.y).n + sw L f + 1 := by unfold mu; rw [if_neg h0, if_neg h]
theorem mu_15 {f : Fm} (h : f.o = 15) : mu L f = 8 * dF L f + 20 := by unfold mu; rw [if_neg (by omega), if_pos h]
theorem mu_16 {f : Fm} (h0 : f.o ≠ 0) (h : f.o ≠ 15) : mu L f ≤ 4 * dF L f + 4 := by
  rw [mu_other h0 h]
  have := rkO_le f.o (ndAt L f.y).n
  have := sw_le (L := L) f
  omega
theorem mu_le (f : Fm) : mu L f ≤ 8 * dF L f + 20 := by
  by_cases h0 : f.o = 0
  · unfold mu; rw [if_pos h0]; omega
  · by_cases h : f.o = 15
    · rw [mu_15 h]; exact Nat.le_refl _
    · have := mu_16 (L := L) h0 h; omega
theorem mu_pos {f : Fm} (h : f.o ≠ 0) : 1 ≤ mu L f := by
  by_cases h1 : f.o = 15
  · rw [mu_15 h1]; omega
  · rw [mu_other h h1]; omega
theorem sw_cn {f : Fm} (h : isC (ndAt L f.y) = true) : sw L f = 0 := by
  unfold sw
  rw [if_neg]
  show ¬ (_ && _ && _) = true
  rw [h]; simp
theorem mu_num (hG' : Good L') (e : Ext L L') {o x n c : Int} (h0 : o ≠ 0) (h : o ≠ 15) (hx : hasB L.length x = true) (hc : CN L' n c) : mu L' ⟨o, x, c⟩ = 4 * max (dN L x) 1 + 2 * rkO o n + 1 := by
  rw [mu_other h0 h, sw_cn (by rw [hc.2]; rfl)]
  show 4 * max (dN L' x) (dN L' c) + 2 * rkO o (ndAt L' c).n + 0 + 1 = _
  rw [dN_ext e hx, dN_cn hG' hc, hc.2]; rfl
def muO (L : List Nd) (f : Fm) : Out → Prop
  | .is x => dN L x ≤ dF L f
  | .two o x y => mu L ⟨o, x, y⟩ + 1 ≤ mu L f ∧ dF L ⟨o, x, y⟩ ≤ dF L f
  | .num o x n => (∀ L' c, Good L' → Ext L L' → CN L' n c → mu L' ⟨o, x, c⟩ + 1 ≤ mu L f) ∧ dN L x ≤ dF L f
  | .nn y => y = f.y ∧ f.o = 15
  | _ => True
theorem num_less {f : Fm} {o x n : Int} (h0 : o ≠ 0) (h : o ≠ 15) (hx : hasB L.length x = true) (hd : dN L x ≤ dF L f) (hl : 4 * max (dN L x) 1 + 2 * rkO o n + 2 ≤ mu L f) : muO L f (.num o x n) :=
  ⟨fun L' c hG' e hc => by rw [mu_num hG' e h0 h hx hc]; omega, hd⟩
theorem rk_one {f : Fm} (h0 : f.o ≠ 0) (h : f.o ≠ 15) (hr : rkO f.o (ndAt L f.y).n = 1) : 4 * dF L f + 3 ≤ mu L f := by rw [mu_other h0 h, hr]; omega
theorem nx_mu (hG : Good L) {f : Fm} (hf : Fw L f) : muO L f (nx L f) := by
  have ok := nx_ok hG hf
  rcases nx_cases L hf.ne with ⟨e, _⟩ | ⟨j, hj, h0, h1, e⟩
  · rw [e]; trivial
  · rw [e] at ok ⊢
    have dx : dN L f.x ≤ dF L f := Nat.le_max_left _ _
    have dy : dN L f.y ≤ dF L f := Nat.le_max_right _ _
    have px := dN_pos hG hf.x
    have lx : (ndAt L f.x).k = 4 → dN L (ndAt L f.x).x + 1 ≤ dF L f ∧ dN L (ndAt L f.x).y + 1 ≤ dF L f ∧ 1 ≤ dN L (ndAt L f.x).x ∧ 1 ≤ dN L (ndAt L f.x).y := fun h4 => by
      have p := nd_4 hG hf.x h4
      have q := dN_4 hG hf.x h4
      exact ⟨by omega, by omega, dN_pos hG p.1, dN_pos hG p.2.1⟩
    have hn := hf.ne
    match j, hj with
    | 0, _ => trivial
    | 1, _ =>
      have h15 : f.o ≠ 15 := ok.2
      have hsw : sw L f = 1 := by unfold sw; rw [if_pos h1]
      simp only [cB, Bool.and_eq_true, Bool.or_eq_true, Bool.not_eq_true', decide_eq_true_eq] at h1
      have hd : dF L ⟨f.o, f.y, f.x⟩ = dF L f := Nat.max_comm _ _
      refine ⟨?_, Nat.le_of_eq hd⟩
      show mu L ⟨f.o, f.y, f.x⟩ + 1 ≤ _
      rw [mu_other (f := ⟨f.o, f.y, f.x⟩) hn h15, mu_other hn h15, hd, hsw]
      have hs : sw L ⟨f.o, f.y, f.x⟩ = 0 := by
        unfold sw
        rw [if_neg]
        show ¬ (_ && !isC (ndAt L f.x) && (isC (ndAt L f.y) || decide (f.x < f.y))) = true
        rw [h1.1.2]
        rcases h1.2 with h | h
        · rw [h]; simp
        · have : decide (f.x < f.y) = false := decide_eq_false (by omega)
          rw [this]; simp
      have hr : rkO f.o (ndAt L f.x).n = rkO f.o (ndAt L f.y).n := by
        have hs := Lw.swaps_cases h1.1.1
        by_cases h10 : f.o = 10
        · rw [rk_yes (by omega), rk_yes (by omega)]
        · rw [rk_no (by omega), rk_no (by omega)]
      show 4 * _ + 2 * rkO f.o (ndAt L f.x).n + _ + 1 + 1 ≤ _
      rw [hs, hr]; omega
    | 2, _ =>
      simp only [cB, Bool.and_eq_true, behB_iff] at h1
      have p := lx h1.2.1.1
      refine num_less hn ok.2 ok.1.2.2.1 (by omega) ?_
      have := rkO_le f.o (opI f.o (behN L (ndAt L f.x)) (ndAt L f.y).n)
      rw [mu_other hn ok.2]
      omega
    | 3, _ => exact dx
    | 4, _ =>
      show muO L f (if _ then _ else if _ then _ else _)
      split
      · trivial
      · split
        · trivial
        · exact dx
    | 5, _ =>
      show muO L f (if _ then _ else _)
      split
      · trivial
      · exact dy
    | 6, _ =>
      simp only [cB, Bool.and_eq_true, beq_iff_eq] at h1
      refine num_less (by decide) (by decide) hf.x dx ?_
      have := rk_one (L := L) (f := f) hn (by omega) (rk_yes (by omega) _)
      have := rk_no (o := 1) (by decide) (opI 2 0 (ndAt L f.y).n)
      omega
    | 7, _ =>
      simp only [cB, Bool.and_eq_true, beq_iff_eq] at h1
      refine num_less (by decide) (by decide) hf.x dx ?_
      have := rk_one (L := L) (f := f) hn (by omega) (rk_yes (by omega) _)
      have := rk_no (o := 3) (by decide) (opI 11 1 (ndAt L f.y).n)
      omega
    | 8, _ =>
      simp only [cB, Bool.and_eq_true, Bool.or_eq_true, beq_iff_eq, Bool.not_eq_true'] at h1
      have h15 : f.o ≠ 15 := ok.2
      refine num_less hn h15 hf.x dx ?_
      have r1 : rkO f.o (ndAt L f.y).n = 1 := by
        unfold rkO
        rw [h1.2]
        rcases h1.1.2 with o | o <;> rw [o] <;> simp
      have r2 : rkO f.o (opI 8 (ndAt L f.y).n 63) = 0 := by
        unfold rkO
        rw [Nf.m63]
        rcases h1.1.2 with o | o <;> rw [o] <;> simp
      have := rk_one (L := L) (f := f) hn h15 r1
      omega
    | 9, _ =>
      simp only [cB, Bool.and_eq_true, beq_iff_eq] at h1
      refine num_less (by decide) (by decide) hf.x dx ?_
      have := rk_one (L := L) (f := f) hn (by omega) (rk_yes (by omega) _)
      have : rkO 12 (powN (ndAt L f.y).n) = 0 := by
        obtain ⟨k, hk, _, e⟩ := Lw.pow_is h1.1.2
        have hb : opI 8 (powN (ndAt L f.y).n) 63 = powN (ndAt L f.y).n := by
          rw [e]
          show (bv (k : Int) &&& bv 63).toInt = _
          have : bv (k : Int) &&& bv 63 = bv (k : Int) := BitVec.eq_of_toNat_eq (by
            rw [BitVec.toNat_and, show (bv 63).toNat = 2 ^ 6 - 1 from rfl, Nat.and_two_pow_sub_one_eq_mod, Pw.toNat_bv _ (by omega)]
            exact Nat.mod_eq_of_lt hk)
          rw [this, toInt_bv ⟨by omega, by omega⟩]
        unfold rkO
        rw [hb]; simp
      omega
    | 10, _ =>
      simp only [cB, Bool.and_eq_true, beq_iff_eq] at h1
      refine num_less (by decide) (by decide) hf.x dx ?_
      have := rk_one (L := L) (f := f) hn (by omega) (rk_yes (by omega) _)
      have := rk_no (o := 8) (by decide) (opI 2 (ndAt L f.y).n 1)
      omega
    | 11, _ =>
      simp only [cB, Bool.and_eq_true, beq_iff_eq] at h1
      refine num_less (by decide) (by decide) hf.x dx ?_
      rw [mu_15 h1.2]
      have := rk_no (o := 16) (by decide) 0
      omega
    | 12, _ =>
      simp only [cB, Bool.and_eq_true, beq_iff_eq] at h1
      exact ⟨rfl, h1.1.1⟩
    | 13, _ =>
      simp only [cB, Bool.and_eq_true, Bool.or_eq_true, behB_iff, beq_iff_eq] at h1
      have h4 : (ndAt L f.x).k = 4 := by rcases h1.2 with h | h <;> exact h.1.1
      have p := lx h4
      refine num_less (by decide) (by decide) ok.1.2.2.1 (by omega) ?_
      have e0 : ∀ n, rkO 16 n = 0 := rk_no (by decide)
      rw [e0, mu_other hn (by omega)]
      omega
    | 14, _ =>
      simp only [cB, Bool.and_eq_true, Bool.or_eq_true, isB_iff, beq_iff_eq] at h1
      have h4 : (ndAt L f.x).k = 4 := by rcases h1.2 with h | h <;> exact h.1
      have p := lx h4
      have hd : dF L ⟨16, (ndAt L f.x).x, (ndAt L f.x).y⟩ + 1 ≤ dF L f := by
        show max (dN L (ndAt L f.x).x) (dN L (ndAt L f.x).y) + 1 ≤ _
        omega
      refine ⟨?_, by omega⟩
      have q := mu_16 (L := L) (f := ⟨16, (ndAt L f.x).x, (ndAt L f.x).y⟩) (by show (16 : Int) ≠ 0; decide) (by show (16 : Int) ≠ 15; decide)
      rw [mu_other hn (by omega)]
      omega
    | 15, _ =>
      simp only [cB, Bool.and_eq_true, Bool.or_eq_true, beq_iff_eq] at h1
      have h4 := truth_4 h1.1.1.1 (c0_no (h0 0 (by decide)) h1.1.1.2)
      have p := lx h4
      have q := nd_4 hG hf.x h4
      show muO L f (tnF _ _ _ _ _)
      unfold tnF
      split
      · rename_i c
        simp only [Bool.and_eq_true, beq_iff_eq] at c
        refine num_less (by decide) (by decide) q.1 (by omega) ?_
        have := rk_one (L := L) (f := f) hn (by omega) (rk_yes (by omega) _)
        have := rkO_le 10 (opI 10 (ndAt L f.y).n 1)
        omega
      · split
        · rename_i c
          simp only [beq_iff_eq] at c
          refine num_less (by decide) (by decide) hf.x dx ?_
          have := rk_one (L := L) (f := f) hn (by omega) (rk_yes (by omega) _)
          have := rk_no (o := 16) (by decide) 0
          omega
        · split
          · show dN L _ ≤ _
            omega
          · split
            · exact dx
            · trivial
    | j + 16, hj => omega
theorem run_deep (hG : Good L) {f : Fm} {i : Int} (h : Run L f i) : Fw L f → dN L i ≤ dF L f + (if f.o = 15 then 2 else 1) := by
  induction h with
  | is h => intro hf; have m := nx_mu hG hf; rw [h] at m; have : dN L _ ≤ _ := m; omega
  | con h c => intro hf; rw [dN_cn hG c]; split <;> omega
  | two h r ih =>
    intro hf
    have m := nx_mu hG hf
    have o := nx_ok hG hf
    rw [h] at m o
    have := ih o.1
    rw [if_neg o.2] at this
    have := m.2
    split <;> omega
  | @num f o' x n c' i h c r ih =>
    intro hf
    have m := nx_mu hG hf
    have o := nx_ok hG hf
    rw [h] at m o
    have q := ih ⟨o.1.1, o.1.2.1, o.1.2.2.1, c.1⟩
    rw [if_neg o.2] at q
    have d1 : ∀ o a b, dF L ⟨o, a, b⟩ = max (dN L a) (dN L b) := fun _ _ _ => rfl
    rw [d1, dN_cn hG c] at q
    have := m.2
    have px := dN_pos hG hf.x
    have dx : dN L f.x ≤ dF L f := Nat.le_max_left _ _
    split <;> omega
  | @nn f y z t i h c r r2 ih ih2 =>
    intro hf
    have m := nx_mu hG hf
    have o := nx_ok hG hf
    rw [h] at m o
    have fw := fw16 o c.1
    have q := ih fw
    have q2 := ih2 (fw16 (run_has hG r fw) c.1)
    have d1 : ∀ a b, dF L ⟨16, a, b⟩ = max (dN L a) (dN L b) := fun _ _ => rfl
    rw [d1, dN_cn hG c, if_neg (by show ¬ (16 : Int) = 15; decide)] at q q2
    rw [if_pos m.2]
    have dy : dN L f.y ≤ dF L f := Nat.le_max_right _ _
    have e := m.1
    subst e
    have py := dN_pos hG hf.y
    omega
  | @add f i h a b =>
    intro hf
    rw [dN_4 hG a (by rw [b]; rfl), b]
    have e : 1 + max (dN L (bN f.o f.x f.y).x) (dN L (bN f.o f.x f.y).y) = 1 + dF L f := rfl
    rw [e]
    split <;> omega
end
end Go.Proofs.YtgkjdmojbndicaaGreatDoor

namespace Go.Proofs.YtgkjdmojbndicaaGreatDoor
open Go

section
variable {L L' L1 L2 : List Nd} {f f' f1 f2 : Fm}
theorem run0 (h : f.o = 0) : Run L f f.x := .is (if_pos h)
theorem run0_eq (h : f.o = 0) {i : Int} (k : Run L f i) : i = f.x := by
  have e : nx L f = .is f.x := if_pos h
  cases k <;> simp_all
theorem add_len (L : List Nd) (d : Nd) : (addL L d).length ≤ L.length + 1 := (addL_length L d).1
/-- From a form in L to one in L', no farther from what it comes to. -/
structure Chain (L L' : List Nd) (f f' : Fm) : Prop where
  ext : Ext L L'
  good : Good L'
  fw : f'.o = 0 ∧ hasB L'.length f'.x = true ∨ Fw L' f'
  back : ∀ L'' i, Ext L' L'' → Good L'' → Run L'' f' i → Run L'' f i
  pot : L'.length + mu L' f' ≤ L.length + mu L f
  still : ∀ i, Run L f i → L' = L ∧ Run L f' i
structure Nxt (L L' : List Nd) (f f' : Fm) : Prop extends Chain L L' f f' where
  less : mu L' f' < mu L f
  no15 : f'.o ≠ 15
theorem Chain.refl (hG : Good L) (hf : Fw L f) : Chain L L f f := ⟨Ext.refl L, hG, Or.inr hf, fun _ _ _ _ h => h, Nat.le_refl _, fun _ h => ⟨rfl, h⟩⟩
theorem Chain.step (h : Chain L L1 f f1) (k : Nxt L1 L2 f1 f2) : Chain L L2 f f2 :=
  ⟨h.ext.trans k.ext, k.good, k.fw, fun L'' i e g r => h.back L'' i (k.ext.trans e) g (k.back L'' i e g r), Nat.le_trans k.pot h.pot, fun i r => by
    obtain ⟨e1, r1⟩ := h.still i r
    subst e1
    exact k.still i r1⟩
/-- What Bin comes to. -/
structure Bd (L L' : List Nd) (f : Fm) (i : Int) : Prop where
  ext : Ext L L'
  good : Good L'
  has : hasB L'.length i = true
  run : Run L' f i
  len : L'.length ≤ L.length + mu L f
  still : ∀ j, Run L f j → L' = L ∧ j = i
theorem Chain.bd (h : Chain L L' f f') (h0 : f'.o = 0) : Bd L L' f f'.x := by
  refine ⟨h.ext, h.good, ?_, h.back L' _ (Ext.refl _) h.good (run0 h0), ?_, fun j r => ?_⟩
  · rcases h.fw with k | k
    · exact k.2
    · exact absurd h0 k.ne
  · have := h.pot; omega
  · obtain ⟨e, r'⟩ := h.still j r
    exact ⟨e, run0_eq h0 r'⟩
theorem mu0 (h : f.o = 0) : mu L f = 0 := if_pos h
/-- What Not comes to. -/
structure NotB (L L1 : List Nd) (y t : Int) : Prop where
  ext : Ext L L1
  good : Good L1
  zero : ∃ z, CN L1 0 z ∧ Run L1 ⟨16, y, z⟩ t
  len : L1.length ≤ L.length + 1 + (4 * max (dN L y) 1 + 4)
  still : ∀ z j, CN L 0 z → Run L ⟨16, y, z⟩ j → L1 = L
theorem not_bd (hG : Good L) {y t : Int} (hy : hasB L.length y = true) (h : Bd (addL L (kN 0)) L' ⟨16, y, addR L (kN 0)⟩ t) : NotB L L' y t := by
  have e0 := Ext.add L (kN 0)
  have c0 := add_con L 0
  refine ⟨e0.trans h.ext, h.good, ⟨_, c0.ext h.ext, h.run⟩, ?_, fun z j hz r => ?_⟩
  · have h1 := h.len
    have h2 := add_len L (kN 0)
    have hg : Good (addL L (kN 0)) := hG.add (ok_con in0)
    have h3 := mu_16 (L := addL L (kN 0)) (f := ⟨16, y, addR L (kN 0)⟩) (by show (16 : Int) ≠ 0; decide) (by show (16 : Int) ≠ 15; decide)
    have h4 : dF (addL L (kN 0)) ⟨16, y, addR L (kN 0)⟩ = max (dN (addL L (kN 0)) y) (dN (addL L (kN 0)) (addR L (kN 0))) := rfl
    rw [dN_ext e0 hy, dN_cn hg c0] at h4
    omega
  · obtain ⟨e1, e2⟩ := con_there hG hz
    rw [e1, e2] at h
    exact (h.still j r).1
section
variable (hG : Good L) (hf : Fw L f)
include hG hf
theorem nxt_is {x : Int} (e : nx L f = .is x) : Nxt L L f ⟨0, x, 0⟩ := by
  have ok := nx_ok hG hf
  rw [e] at ok
  have mp := mu_pos (L := L) hf.ne
  have m0 : mu L ⟨0, x, 0⟩ = 0 := mu0 rfl
  refine ⟨⟨Ext.refl L, hG, Or.inl ⟨rfl, ok⟩, fun L'' i e' g r => ?_, by omega, fun i r => ⟨rfl, ?_⟩⟩, by omega, (by show (0 : Int) ≠ 15; decide)⟩
  · rw [run0_eq rfl r]
    exact .is ((nx_ext hG e' hf).trans e)
  · have : i = x := by cases r <;> simp_all
    rw [this]
    exact run0 (f := ⟨0, x, 0⟩) rfl
theorem nxt_con {n : Int} (e : nx L f = .con n) : Nxt L (addL L (kN n)) f ⟨0, addR L (kN n), 0⟩ := by
  have ok : InR n := by have := nx_ok hG hf; rw [e] at this; exact this
  have c := add_con L n
  have mp := mu_pos (L := L) hf.ne
  have m0 : mu (addL L (kN n)) ⟨0, addR L (kN n), 0⟩ = 0 := mu0 rfl
  have hl := add_len L (kN n)
  refine ⟨⟨Ext.add L _, hG.add (ok_con ok), Or.inl ⟨rfl, c.1⟩, fun L'' i e' g r => ?_, by omega, fun i r => ?_⟩, by omega, (by show (0 : Int) ≠ 15; decide)⟩
  · rw [run0_eq rfl r]
    exact .con ((nx_ext hG ((Ext.add L _).trans e') hf).trans e) (c.ext e')
  · have hc : CN L n i := by cases r <;> simp_all
    obtain ⟨e1, e2⟩ := con_there hG hc
    rw [e1, e2]
    exact ⟨rfl, run0 (f := ⟨0, i, 0⟩) rfl⟩
theorem nxt_two {o x y : Int} (e : nx L f = .two o x y) : Nxt L L f ⟨o, x, y⟩ := by
  have ok := nx_ok hG hf
  have m := nx_mu hG hf
  rw [e] at ok m
  have m1 := m.1
  refine ⟨⟨Ext.refl L, hG, Or.inr ok.1, fun L'' i e' g r => .two ((nx_ext hG e' hf).trans e) r, by omega, fun i r => ⟨rfl, ?_⟩⟩, by omega, ok.2⟩
  cases r <;> simp_all
theorem nxt_num {o x n : Int} (e : nx L f = .num o x n) : Nxt L (addL L (kN n)) f ⟨o, x, addR L (kN n)⟩ := by
  have ok := nx_ok hG hf
  have m := nx_mu hG hf
  rw [e] at ok m
  have c := add_con L n
  have hg : Good (addL L (kN n)) := hG.add (ok_con ok.1.2.2.2)
  have m1 := m.1 (addL L (kN n)) (addR L (kN n)) hg (Ext.add L _) c
  have hl := add_len L (kN n)
  refine ⟨⟨Ext.add L _, hg, Or.inr ⟨ok.1.1, ok.1.2.1, (Ext.add L _).has ok.1.2.2.1, c.1⟩, fun L'' i e' g r => .num ((nx_ext hG ((Ext.add L _).trans e') hf).trans e) (c.ext e') r, by omega, fun i r => ?_⟩, by omega, ok.2⟩
  cases r with
  | num e2 c2 r2 =>
    rw [e] at e2
    injection e2 with a1 a2 a3
    subst a1; subst a2; subst a3
    obtain ⟨e1, e3⟩ := con_there hG c2
    rw [e1, e3]
    exact ⟨rfl, r2⟩
  | _ => simp_all
theorem nxt_nn {y t : Int} (e : nx L f = .nn y) (h : NotB L L1 y t) : Nxt L (addL L1 (kN 0)) f ⟨16, t, addR L1 (kN 0)⟩ := by
  have ok : hasB L.length y = true := by have := nx_ok hG hf; rw [e] at this; exact this
  have m := nx_mu hG hf
  rw [e] at m
  obtain ⟨z, hz, hr⟩ := h.zero
  obtain ⟨e1, e2⟩ := con_there h.good hz
  rw [e1, e2]
  have fw1 : Fw L1 ⟨16, y, z⟩ := fw16 (h.ext.has ok) hz.1
  have ht := run_has h.good hr fw1
  have hd := run_deep h.good hr fw1
  have hd1 : dF L1 ⟨16, y, z⟩ = max (dN L1 y) (dN L1 z) := rfl
  have hd2 : dF L1 ⟨16, t, z⟩ = max (dN L1 t) (dN L1 z) := rfl
  rw [hd1, if_neg (by show ¬ (16 : Int) = 15; decide), dN_ext h.ext ok, dN_cn h.good hz] at hd
  rw [dN_cn h.good hz] at hd2
  have h3 := mu_16 (L := L1) (f := ⟨16, t, z⟩) (by show (16 : Int) ≠ 0; decide) (by show (16 : Int) ≠ 15; decide)
  have h4 := mu_15 (L := L) (f := f) m.2
  have h5 : dN L f.y ≤ dF L f := Nat.le_max_right _ _
  have h6 := dN_pos hG ok
  have h7 := h.len
  have h8 : y = f.y := m.1
  rw [← h8] at h5
  refine ⟨⟨h.ext, h.good, Or.inr (fw16 ht hz.1), fun L'' i e' g r => ?_, by omega, fun i r => ?_⟩, by omega, (by show (16 : Int) ≠ 15; decide)⟩
  · exact .nn ((nx_ext hG (h.ext.trans e') hf).trans e) (hz.ext e') (run_ext h.good e' hr fw1) r
  · cases r with
    | nn q1 q2 q3 q4 =>
      rw [e] at q1
      injection q1 with a1
      subst a1
      have q5 := h.still _ _ q2 q3
      subst q5
      have q6 := CN.eq hG hz q2
      subst q6
      have q7 := hr.eq hG q3
      subst q7
      exact ⟨rfl, q4⟩
    | _ => simp_all
theorem nxt_add (hl : L.length ≤ 9000000000000000000) (e : nx L f = .add) : Nxt L (addL L (bN f.o f.x f.y)) f ⟨0, addR L (bN f.o f.x f.y), 0⟩ := by
  have hm := may_bin hf.lo hf.hi hf.x hf.y
  have c := add_here hm
  have mp := mu_pos (L := L) hf.ne
  have m0 : mu (addL L (bN f.o f.x f.y)) ⟨0, addR L (bN f.o f.x f.y), 0⟩ = 0 := mu0 rfl
  have hl1 := add_len L (bN f.o f.x f.y)
  refine ⟨⟨Ext.add L _, hG.add (ok_bin hf.lo hf.hi (has_in hl hf.x) (has_in hl hf.y)), Or.inl ⟨rfl, c.1⟩, fun L'' i e' g r => ?_, by omega, fun i r => ?_⟩, by omega, (by show (0 : Int) ≠ 15; decide)⟩
  · rw [run0_eq rfl r]
    exact .add ((nx_ext hG ((Ext.add L _).trans e') hf).trans e) (e'.has c.1) ((e'.nd c.1).trans c.2)
  · have hc : hasB L.length i = true ∧ ndAt L i = bN f.o f.x f.y := by cases r <;> simp_all
    obtain ⟨e1, e2⟩ := add_there hG hc.1 hc.2 hm
    rw [e1, e2]
    exact ⟨rfl, run0 (f := ⟨0, i, 0⟩) rfl⟩
end
end
end Go.Proofs.YtgkjdmojbndicaaGreatDoor

namespace Go.Proofs.YtgkjdmojbndicaaGreatDoor
open Go

def cN (a n q : Int) : Nd := ⟨3, n, a, 0, 0, q⟩
inductive OfR (L : List Nd) : Int → Int → Prop
  | leaf {i : Int} : hasB L.length i = true → (ndAt L i).k = 1 ∨ (ndAt L i).k = 2 → OfR L i i
  | cell {i q j : Int} : hasB L.length i = true → (ndAt L i).k = 3 → OfR L (ndAt L i).y q → hasB L.length j = true → ndAt L j = cN (ndAt L i).a (ndAt L i).n q → OfR L i j
  | bin {i p q j : Int} : hasB L.length i = true → (ndAt L i).k = 4 → OfR L (ndAt L i).x p → OfR L (ndAt L i).y q → Run L ⟨(ndAt L i).o, p, q⟩ j → OfR L i j
section
variable {L L' : List Nd} {i j : Int}
theorem OfR.both (hG : Good L) (h : OfR L i j) : hasB L.length i = true ∧ hasB L.length j = true := by
  induction h with
  | leaf a b => exact ⟨a, a⟩
  | cell a b c d e ih => exact ⟨a, d⟩
  | bin a b c d e ih1 ih2 =>
    have p := nd_4 hG a b
    exact ⟨a, run_has hG e ⟨p.2.2.2.2.1, p.2.2.2.2.2, ih1.2, ih2.2⟩⟩
theorem OfR.fw (hG : Good L) {p q : Int} (hi : hasB L.length i = true) (h4 : (ndAt L i).k = 4) (h1 : OfR L (ndAt L i).x p) (h2 : OfR L (ndAt L i).y q) : Fw L ⟨(ndAt L i).o, p, q⟩ := by
  have r := nd_4 hG hi h4
  exact ⟨r.2.2.2.2.1, r.2.2.2.2.2, (h1.both hG).2, (h2.both hG).2⟩
theorem OfR.ext (hG : Good L) (e : Ext L L') (h : OfR L i j) : OfR L' i j := by
  induction h with
  | leaf a b => exact .leaf (e.has a) (by rw [e.nd a]; exact b)
  | cell a b c d f ih => exact .cell (e.has a) (by rw [e.nd a]; exact b) (by rw [e.nd a]; exact ih) (e.has d) (by rw [e.nd a, e.nd d]; exact f)
  | bin a b c d f ih1 ih2 => exact .bin (e.has a) (by rw [e.nd a]; exact b) (by rw [e.nd a]; exact ih1) (by rw [e.nd a]; exact ih2) (by rw [e.nd a]; exact run_ext hG e f (OfR.fw hG a b c d))
theorem OfR.eq (hG : Good L) (h : OfR L i j) : ∀ {j' : Int}, OfR L i j' → j = j' := by
  induction h with
  | leaf a b => intro j' k; cases k <;> first | rfl | omega
  | cell a b c d f ih =>
    intro j' k
    cases k with
    | leaf a' b' => omega
    | cell a' b' c' d' f' =>
      have := ih c'
      subst this
      exact nd_inj hG d d' (f.trans f'.symm)
    | bin a' b' => omega
  | bin a b c d f ih1 ih2 =>
    intro j' k
    cases k with
    | leaf a' b' => omega
    | cell a' b' => omega
    | bin a' b' c' d' f' =>
      have := ih1 c'
      subst this
      have := ih2 d'
      subst this
      exact f.eq hG f'
theorem OfR.pl (hG : Good L) (h : OfR L i j) : Pl L j := by
  induction h with
  | leaf a b => exact .leaf a b
  | cell a b c d f ih => exact .cell d (by rw [f]; rfl) (by rw [f]; exact ih)
  | bin a b c d f ih1 ih2 => exact run_pl hG f (OfR.fw hG a b c d) ih1 ih2
theorem nd_3 (hG : Good L) (hi : hasB L.length i = true) (h3 : (ndAt L i).k = 3) : ndAt L i = cN (ndAt L i).a (ndAt L i).n (ndAt L i).y := by
  obtain ⟨k, hk, rfl, e⟩ := nd_of hi
  have m := hG.may k hk
  rw [e] at h3 ⊢
  generalize L[k] = d at *
  simp only [mayB, h3] at m
  simp at m
  exact Nd.ext' h3 rfl rfl m.1.1.1.1 m.1.1.1.2 rfl
theorem Pl.of (hG : Good L) (h : Pl L i) : OfR L i i := by
  induction h with
  | leaf a b => exact .leaf a b
  | cell a b c ih => exact .cell a b ih a (nd_3 hG a b)
  | bin a b c d e ih1 ih2 => exact .bin a b ih1 ih2 (.add e a (nd_b hG a b))
theorem OfR.deep (hG : Good L) (h : OfR L i j) : dN L j ≤ 2 * dN L i := by
  induction h with
  | leaf a b => omega
  | @cell i q j a b c d f ih =>
    rw [dN_3 hG a b, dN_3 hG d (by rw [f]; rfl), f]
    show 1 + dN L q ≤ _
    omega
  | @bin i p q j a b c d f ih1 ih2 =>
    have h1 := run_deep hG f (OfR.fw hG a b c d)
    have h2 : dF L ⟨(ndAt L i).o, p, q⟩ = max (dN L p) (dN L q) := rfl
    rw [h2] at h1
    rw [dN_4 hG a b]
    split at h1 <;> omega
variable {S : List Int} {C : List Cl}
theorem val_3 (hG : Good L) (hi : hasB L.length i = true) (h : (ndAt L i).k = 3) : valI S C L i = cellI C (ndAt L i).a (ndAt L i).n (valI S C L (ndAt L i).y) := by
  obtain ⟨k, hk, rfl, e⟩ := nd_of hi
  rw [e] at h ⊢; exact valI_3 hG hk h
theorem OfR.val (hS : ∀ x ∈ S, InR x) (hC : ∀ c ∈ C, c.Ok) (hG : Good L) (h : OfR L i j) : valI S C L j = valI S C L i := by
  induction h with
  | leaf a b => rfl
  | @cell i q j a b c d f ih =>
    rw [val_3 hG a b, val_3 hG d (by rw [f]; rfl), f]
    show cellI C (ndAt L i).a (ndAt L i).n (valI S C L q) = _
    rw [ih]
  | bin a b c d f ih1 ih2 =>
    rw [run_val hS hC hG f (OfR.fw hG a b c d), val_b hG a b]
    show opI _ (valI S C L _) (valI S C L _) = _
    rw [ih1, ih2]
end
end Go.Proofs.YtgkjdmojbndicaaGreatDoor

namespace Go.Proofs.YtgkjdmojbndicaaGreatDoor
open Go

theorem nx_if (L : List Nd) {f : Fm} (h : f.o ≠ 0) : nx L f =
    (let c := cB L f.o f.x f.y (ndAt L f.x) (ndAt L f.y); let r := oF L f.o f.x f.y (ndAt L f.x) (ndAt L f.y)
     if c 0 then r 0 else if c 1 then r 1 else if c 2 then r 2 else if c 3 then r 3 else if c 4 then r 4 else if c 5 then r 5 else if c 6 then r 6 else if c 7 then r 7 else
     if c 8 then r 8 else if c 9 then r 9 else if c 10 then r 10 else if c 11 then r 11 else if c 12 then r 12 else if c 13 then r 13 else if c 14 then r 14 else if c 15 then r 15 else .add) := if_neg h

section
variable {L : List Nd}
/-- A form of a term that is no number, and a number. -/
structure Fc (L : List Nd) (x y : Int) (n : Int) : Prop where
  hx : hasB L.length x = true
  hc : CN L n y
  hl : isC (ndAt L x) = false
theorem Fc.ne {x y n : Int} (h : Fc L x y n) : x ≠ y := fun e => by
  have h1 := h.hl
  rw [e, h.hc.2] at h1
  exact absurd h1 (by simp [isC, kN])
theorem Fc.fw {x y n : Int} (h : Fc L x y n) {o : Int} (h1 : 1 ≤ o) (h2 : o ≤ 16) : Fw L ⟨o, x, y⟩ := ⟨h1, h2, h.hx, h.hc.1⟩
theorem isC_kN (n : Int) : isC (kN n) = true := rfl
theorem kN_n (n : Int) : (kN n).n = n := rfl
set_option maxHeartbeats 1000000 in
theorem nx1 {x y n : Int} (h : Fc L x y n) : nx L ⟨1, x, y⟩ = if behB L (ndAt L x) 1 then .num 1 (ndAt L x).x (opI 1 (behN L (ndAt L x)) n) else if n = 0 then .is x else .add := by
  rw [nx_if L (by show (1 : Int) ≠ 0; decide)]
  simp [cB, oF, h.hl, h.hc.2, isC_kN, kN_n, swapsB, groupsB, keepsB, keepsN, knownB]
set_option maxHeartbeats 1000000 in
theorem nx3 {x y n : Int} (h : Fc L x y n) : nx L ⟨3, x, y⟩ = if behB L (ndAt L x) 3 then .num 3 (ndAt L x).x (opI 3 (behN L (ndAt L x)) n) else if n = 1 then .is x else if n = 0 then .is y else .add := by
  rw [nx_if L (by show (3 : Int) ≠ 0; decide)]
  simp [cB, oF, h.hl, h.hc.2, isC_kN, kN_n, swapsB, groupsB, keepsB, keepsN, knownB]
set_option maxHeartbeats 1000000 in
theorem nx9 {x y n : Int} (h : Fc L x y n) : nx L ⟨9, x, y⟩ = if behB L (ndAt L x) 9 then .num 9 (ndAt L x).x (opI 9 (behN L (ndAt L x)) n) else if n = 0 then .is x else if n = -1 then .is y else .add := by
  rw [nx_if L (by show (9 : Int) ≠ 0; decide)]
  have hne := h.ne
  simp [cB, oF, h.hl, h.hc.2, isC_kN, kN_n, swapsB, groupsB, keepsB, keepsN, knownB, hne]
set_option maxHeartbeats 1000000 in
theorem nx8 {x y n : Int} (h : Fc L x y n) : nx L ⟨8, x, y⟩ = if behB L (ndAt L x) 8 then .num 8 (ndAt L x).x (opI 8 (behN L (ndAt L x)) n) else if n = -1 then .is x else if n = 0 then .is y else if truthN (ndAt L x) then (if opI 8 n 1 = 1 then .is x else .con 0) else .add := by
  rw [nx_if L (by show (8 : Int) ≠ 0; decide)]
  have hne := h.ne
  simp [cB, oF, h.hl, h.hc.2, isC_kN, kN_n, swapsB, groupsB, keepsB, keepsN, knownB, hne, tnB, tnF]
set_option maxHeartbeats 1000000 in
theorem nx10 {x y n : Int} (h : Fc L x y n) : nx L ⟨10, x, y⟩ = if behB L (ndAt L x) 10 then .num 10 (ndAt L x).x (opI 10 (behN L (ndAt L x)) n) else if n = 0 then .is x else if truthN (ndAt L x) && oppB L (ndAt L x) then .num 10 (ndAt L x).x (opI 10 n 1) else if truthN (ndAt L x) && n == 1 then .num 16 x 0 else .add := by
  rw [nx_if L (by show (10 : Int) ≠ 0; decide)]
  have hne := h.ne
  cases hb : behB L (ndAt L x) 10 <;> cases ht : truthN (ndAt L x) <;> cases ho : oppB L (ndAt L x) <;> by_cases h0 : n = 0 <;> by_cases h1 : n = 1 <;>
    simp [cB, oF, h.hl, h.hc.2, isC_kN, kN_n, swapsB, groupsB, keepsB, keepsN, knownB, hne, tnB, tnF, hb, ht, ho, h0, h1]
set_option maxHeartbeats 4000000 in
theorem nx16 {x y n : Int} (h : Fc L x y n) : nx L ⟨16, x, y⟩ = if behB L (ndAt L x) 1 || behB L (ndAt L x) 10 then .num 16 (ndAt L x).x (if (ndAt L x).o == 1 then opI 2 n (behN L (ndAt L x)) else opI 10 n (behN L (ndAt L x)))
    else if n == 0 && (isB (ndAt L x) 2 || isB (ndAt L x) 10) then .two 16 (ndAt L x).x (ndAt L x).y
    else if truthN (ndAt L x) then (if n = 0 then (if oppB L (ndAt L x) then .is (ndAt L x).x else .add) else if n = 1 then .is x else .con 0) else .add := by
  rw [nx_if L (by show (16 : Int) ≠ 0; decide)]
  have hne := h.ne
  cases hb : (behB L (ndAt L x) 1 || behB L (ndAt L x) 10) <;> cases hc : (isB (ndAt L x) 2 || isB (ndAt L x) 10) <;> cases ht : truthN (ndAt L x) <;> cases ho : oppB L (ndAt L x) <;> by_cases h0 : n = 0 <;> by_cases h1 : n = 1 <;>
    simp [cB, oF, h.hl, h.hc.2, isC_kN, kN_n, swapsB, groupsB, keepsB, keepsN, knownB, hne, tnB, tnF, hb, hc, ht, ho, h0, h1]
theorem nx2 {x y n : Int} (h : Fc L x y n) : nx L ⟨2, x, y⟩ = if n = 0 then .is x else .num 1 x (opI 2 0 n) := by
  rw [nx_if L (by show (2 : Int) ≠ 0; decide)]
  have hne := h.ne
  simp [cB, oF, h.hl, h.hc.2, isC_kN, kN_n, swapsB, groupsB, keepsB, keepsN, knownB, hne]
theorem nx11 {x y n : Int} (h : Fc L x y n) : nx L ⟨11, x, y⟩ = if n = 0 then .is x else .num 3 x (opI 11 1 n) := by
  rw [nx_if L (by show (11 : Int) ≠ 0; decide)]
  simp [cB, oF, h.hl, h.hc.2, isC_kN, kN_n, swapsB, groupsB, keepsB, keepsN, knownB]
theorem nx12 {x y n : Int} (h : Fc L x y n) : nx L ⟨12, x, y⟩ = if n = 0 then .is x else if opI 8 n 63 = n then .add else .num 12 x (opI 8 n 63) := by
  rw [nx_if L (by show (12 : Int) ≠ 0; decide)]
  by_cases h6 : opI 8 n 63 = n <;> simp [cB, oF, h.hl, h.hc.2, isC_kN, kN_n, swapsB, groupsB, keepsB, keepsN, knownB, h6]
theorem nx13 {x y n : Int} (h : Fc L x y n) : nx L ⟨13, x, y⟩ = if n = 0 then .is x else if opI 8 n 63 = n then .add else .num 13 x (opI 8 n 63) := by
  rw [nx_if L (by show (13 : Int) ≠ 0; decide)]
  by_cases h6 : opI 8 n 63 = n <;> simp [cB, oF, h.hl, h.hc.2, isC_kN, kN_n, swapsB, groupsB, keepsB, keepsN, knownB, h6]
theorem nx6 {x y n : Int} (h : Fc L x y n) : nx L ⟨6, x, y⟩ = if n = 1 then .is x else if powB n then .num 12 x (powN n) else .add := by
  rw [nx_if L (by show (6 : Int) ≠ 0; decide)]
  simp [cB, oF, h.hl, h.hc.2, isC_kN, kN_n, swapsB, groupsB, keepsB, keepsN, knownB]
theorem nx7 {x y n : Int} (h : Fc L x y n) : nx L ⟨7, x, y⟩ = if n = 0 then .is x else if n = 1 then .con 0 else if powB n then .num 8 x (opI 2 n 1) else .add := by
  rw [nx_if L (by show (7 : Int) ≠ 0; decide)]
  simp [cB, oF, h.hl, h.hc.2, isC_kN, kN_n, swapsB, groupsB, keepsB, keepsN, knownB]
theorem nx5 {x y n : Int} (h : Fc L x y n) : nx L ⟨5, x, y⟩ = if n = 0 then .is x else if n = 1 then .con 0 else .add := by
  rw [nx_if L (by show (5 : Int) ≠ 0; decide)]
  simp [cB, oF, h.hl, h.hc.2, isC_kN, kN_n, swapsB, groupsB, keepsB, keepsN, knownB]
theorem nx4 {x y n : Int} (h : Fc L x y n) : nx L ⟨4, x, y⟩ = if n = 1 then .is x else .add := by
  rw [nx_if L (by show (4 : Int) ≠ 0; decide)]
  simp [cB, oF, h.hl, h.hc.2, isC_kN, kN_n, swapsB, groupsB, keepsB, keepsN, knownB]
theorem nx15 {x y n : Int} (h : Fc L x y n) : nx L ⟨15, x, y⟩ = if n = 0 then .is y else if n = 1 then .num 16 x 0 else .add := by
  rw [nx_if L (by show (15 : Int) ≠ 0; decide)]
  have hne := h.ne
  simp [cB, oF, h.hl, h.hc.2, isC_kN, kN_n, swapsB, groupsB, keepsB, keepsN, knownB, hne]
end
end Go.Proofs.YtgkjdmojbndicaaGreatDoor

namespace Go.Proofs.YtgkjdmojbndicaaGreatDoor
open Go

section
variable {L : List Nd}
def NN (L : List Nd) (o b m i : Int) : Prop := ∃ c, CN L m c ∧ hasB L.length i = true ∧ ndAt L i = bN o b c
theorem NN.eq (hG : Good L) {o b m i j : Int} (h : NN L o b m i) (k : NN L o b m j) : i = j := by
  obtain ⟨c, h1, h2, h3⟩ := h
  obtain ⟨d, k1, k2, k3⟩ := k
  have := h1.eq hG k1
  subst this
  exact nd_inj hG h2 k2 (h3.trans k3.symm)
/-- What b and the number m come to. -/
def Res (L : List Nd) (o b m i : Int) : Prop :=
  if o = 1 then (if m = 0 then i = b else NN L 1 b m i)
  else if o = 3 then (if m = 1 then i = b else if m = 0 then CN L 0 i else NN L 3 b m i)
  else if o = 9 then (if m = 0 then i = b else if m = -1 then CN L (-1) i else NN L 9 b m i)
  else if o = 8 then (if truthN (ndAt L b) then (if opI 8 m 1 = 1 then i = b else CN L 0 i) else if m = -1 then i = b else if m = 0 then CN L 0 i else NN L 8 b m i)
  else (if m = 0 then i = b else if truthN (ndAt L b) && m == 1 then NN L 16 b 0 i else NN L 10 b m i)
structure Root (L : List Nd) (o b : Int) : Prop where
  pl : Pl L b
  nc : isC (ndAt L b) = false
  nb : behB L (ndAt L b) o = false
  no : o = 10 → oppB L (ndAt L b) = false
theorem Res.eq (hG : Good L) {o b m i j : Int} (h : Res L o b m i) (k : Res L o b m j) : i = j := by
  unfold Res at h k
  split at h <;> rename_i c1 <;> simp only [c1, if_true, if_false] at k
  · split at h <;> rename_i c2 <;> simp only [c2, if_true, if_false] at k
    · rw [h, k]
    · exact h.eq hG k
  · split at h <;> rename_i c2 <;> simp only [c2, if_true, if_false] at k
    · split at h <;> rename_i c3 <;> simp only [c3, if_true, if_false] at k
      · rw [h, k]
      · split at h <;> rename_i c4 <;> simp only [c4, if_true, if_false] at k
        · exact h.eq hG k
        · exact h.eq hG k
    · split at h <;> rename_i c3 <;> simp only [c3, if_true, if_false] at k
      · split at h <;> rename_i c4 <;> simp only [c4, if_true, if_false] at k
        · rw [h, k]
        · split at h <;> rename_i c5 <;> simp only [c5, if_true, if_false] at k
          · exact h.eq hG k
          · exact h.eq hG k
      · split at h <;> rename_i c4 <;> simp only [c4, if_true, if_false] at k
        · split at h <;> rename_i c5 <;> simp only [c5, if_true] at k
          · split at h <;> rename_i c6 <;> simp only [c6, if_true, if_false] at k
            · rw [h, k]
            · exact h.eq hG k
          · split at h <;> rename_i c6 <;> simp only [c6, if_true, if_false] at k
            · rw [h, k]
            · split at h <;> rename_i c7 <;> simp only [c7, if_true, if_false] at k
              · exact h.eq hG k
              · exact h.eq hG k
        · split at h <;> rename_i c5 <;> simp only [c5, if_true, if_false] at k
          · rw [h, k]
          · split at h <;> rename_i c6 <;> simp only [c6, if_true] at k
            · exact h.eq hG k
            · exact h.eq hG k
theorem run_is {f : Fm} {x i : Int} (e : nx L f = .is x) (r : Run L f i) : i = x := by cases r <;> simp_all
theorem run_con {f : Fm} {n i : Int} (e : nx L f = .con n) (r : Run L f i) : CN L n i := by cases r <;> simp_all
theorem run_two {f : Fm} {o x y i : Int} (e : nx L f = .two o x y) (r : Run L f i) : Run L ⟨o, x, y⟩ i := by cases r <;> simp_all
theorem run_num {f : Fm} {o x n i : Int} (e : nx L f = .num o x n) (r : Run L f i) : ∃ c, CN L n c ∧ Run L ⟨o, x, c⟩ i := by
  cases r with
  | num e2 c r2 =>
    rw [e] at e2
    injection e2 with a1 a2 a3
    subst a1; subst a2; subst a3
    exact ⟨_, c, r2⟩
  | _ => simp_all
theorem run_nn {f : Fm} {y i : Int} (e : nx L f = .nn y) (r : Run L f i) : ∃ z t, CN L 0 z ∧ Run L ⟨16, y, z⟩ t ∧ Run L ⟨16, t, z⟩ i := by
  cases r with
  | nn e2 c r2 r3 =>
    rw [e] at e2
    injection e2 with a1
    subst a1
    exact ⟨_, _, c, r2, r3⟩
  | _ => simp_all
theorem run_add {f : Fm} {i : Int} (e : nx L f = .add) (r : Run L f i) : hasB L.length i = true ∧ ndAt L i = bN f.o f.x f.y := by cases r <;> simp_all
theorem Pl.fc {b c m : Int} (h : Pl L b) (hn : isC (ndAt L b) = false) (hc : CN L m c) : Fc L b c m := ⟨h.has, hc, hn⟩
theorem grp {o : Int} (h : groupsB o = true) : o = 1 ∨ o = 3 ∨ o = 8 ∨ o = 9 ∨ o = 10 := Lw.groups_cases h
theorem truth_nb {d : Nd} (ht : truthN d = true) {o : Int} (h : o = 1 ∨ o = 2 ∨ o = 3 ∨ o = 8 ∨ o = 9 ∨ o = 10) : behB L d o = false ∧ isB d o = false := by
  have : isB d o = false := by
    cases hb : isB d o with
    | false => rfl
    | true =>
      have h1 := (isB_iff _ _).1 hb
      rcases (truth_k _).1 ht with h2 | h2 <;> omega
  refine ⟨?_, this⟩
  unfold behB
  rw [this]; rfl
/-- A root and a number come to what is told. -/
theorem res_of {o b m c i : Int} (hg : groupsB o = true) (hr : Root L o b) (hc : CN L m c) (r : Run L ⟨o, b, c⟩ i) : Res L o b m i := by
  have fc := hr.pl.fc hr.nc hc
  have nb := hr.nb
  unfold Res
  rcases grp hg with rfl | rfl | rfl | rfl | rfl
  · have e := nx1 fc
    rw [nb] at e
    simp only [if_true]
    split <;> rename_i c1
    · simp [c1] at e; exact run_is e r
    · simp [c1] at e
      have := run_add e r
      exact ⟨c, hc, this.1, this.2⟩
  · have e := nx3 fc
    rw [nb] at e
    rw [if_neg (by decide), if_pos rfl]
    split <;> rename_i c1
    · simp [c1] at e; exact run_is e r
    · split <;> rename_i c2
      · simp [c2] at e; rw [run_is e r, ← c2]; exact hc
      · simp [c1, c2] at e
        have := run_add e r
        exact ⟨c, hc, this.1, this.2⟩
  · have e := nx8 fc
    rw [nb] at e
    rw [if_neg (by decide), if_neg (by decide), if_neg (by decide), if_pos rfl]
    split <;> rename_i c1
    · split <;> rename_i c2
      · by_cases c3 : m = -1
        · simp [c3] at e; exact run_is e r
        · by_cases c4 : m = 0
          · rw [c4] at c2; exact absurd c2 (by decide)
          · simp [c1, c2, c3, c4] at e; exact run_is e r
      · by_cases c3 : m = -1
        · rw [c3] at c2; exact absurd (by decide) c2
        · by_cases c4 : m = 0
          · simp [c4] at e; rw [run_is e r]; rw [c4] at hc; exact hc
          · simp [c1, c2, c3, c4] at e; exact run_con e r
    · split <;> rename_i c2
      · simp [c2] at e; exact run_is e r
      · split <;> rename_i c3
        · simp [c3] at e; rw [run_is e r]; rw [c3] at hc; exact hc
        · simp [c1, c2, c3] at e
          have := run_add e r
          exact ⟨c, hc, this.1, this.2⟩
  · have e := nx9 fc
    rw [nb] at e
    rw [if_neg (by decide), if_neg (by decide), if_pos rfl]
    split <;> rename_i c1
    · simp [c1] at e; exact run_is e r
    · split <;> rename_i c2
      · simp [c2] at e; rw [run_is e r, ← c2]; exact hc
      · simp [c1, c2] at e
        have := run_add e r
        exact ⟨c, hc, this.1, this.2⟩
  · have e := nx10 fc
    have no := hr.no rfl
    rw [nb, no] at e
    rw [if_neg (by decide), if_neg (by decide), if_neg (by decide), if_neg (by decide)]
    split <;> rename_i c1
    · simp [c1] at e; exact run_is e r
    · split <;> rename_i c2
      · simp only [Bool.and_eq_true, beq_iff_eq] at c2
        simp [c2] at e
        obtain ⟨z, hz, r2⟩ := run_num e r
        have e2 := nx16 (hr.pl.fc hr.nc hz)
        have t1 := (truth_nb (L := L) c2.1 (o := 1) (by decide)).1
        have t10 := (truth_nb (L := L) c2.1 (o := 10) (by decide))
        have t2 := (truth_nb (L := L) c2.1 (o := 2) (by decide)).2
        rw [t1, t10.1, t2, t10.2, no] at e2
        simp [c2.1] at e2
        have := run_add e2 r2
        exact ⟨z, hz, this.1, this.2⟩
      · have c3 : (truthN (ndAt L b) && m == 1) = false := by simpa using c2
        simp [c1, c3] at e
        have := run_add e r
        exact ⟨c, hc, this.1, this.2⟩
theorem op_keep {o : Int} (hg : groupsB o = true) {m : Int} (hm : InR m) : opI o (keepsN o) m = m := by
  rw [Lw.swap (by unfold swapsB; rw [hg]; simp)]
  exact Lw.keep (by rcases grp hg with rfl | rfl | rfl | rfl | rfl <;> decide) hm
/-- The left part of a plain Bin of an operation that groups, and a number, is a root. -/
theorem root_left (hG : Good L) {o x : Int} (hg : groupsB o = true) (h : Pl L x) (hb : behB L (ndAt L x) o = true) : Root L o (ndAt L x).x ∧ CN L (behN L (ndAt L x)) (ndAt L x).y ∧ InR (behN L (ndAt L x)) := by
  obtain ⟨⟨h4, ho⟩, h1⟩ := (behB_iff _ _ _).1 hb
  have p := h.part h4
  have q := nd_4 hG h.has h4
  have hc : CN L (behN L (ndAt L x)) (ndAt L x).y := ⟨q.2.1, nd_c hG q.2.1 h1⟩
  have fw := fw_node hG h.has h4
  rcases nx_cases L fw.ne with ⟨_, h0⟩ | ⟨j, hj, _, hj1, e⟩
  · have k0 := h0 0 (by decide)
    have k2 := h0 2 (by decide)
    have k15 := h0 15 (by decide)
    simp only [cB] at k0 k2 k15
    have hr : isC (ndAt L (ndAt L x).y) = true := (isC_iff _).2 h1
    rw [hr] at k0 k2 k15
    rw [ho] at k2 k15
    rw [hg] at k2
    simp at k0 k2
    refine ⟨⟨p.1, k0, k2, fun e10 => ?_⟩, hc, (nd_ok hG q.2.1).2.1⟩
    rw [e10] at k15
    cases hopp : oppB L (ndAt L (ndAt L x).x) with
    | false => rfl
    | true =>
      obtain ⟨⟨⟨⟨a1, a2⟩, _⟩, _⟩, _⟩ := (oppB_iff _ _).1 hopp
      have ht : truthN (ndAt L (ndAt L x).x) = true := (truth_k _).2 (Or.inr ⟨a1, Or.inr (Or.inr a2)⟩)
      simp [ht, tnB, hopp] at k15
  · rw [p.2.2] at e
    match j, hj with
    | 0, _ => cases e
    | 1, _ => cases e
    | 2, _ => cases e
    | 3, _ => cases e
    | 4, _ => exfalso; revert e; show ¬ Out.add = (if _ then _ else if _ then _ else _); split <;> (try split) <;> exact fun e => by cases e
    | 5, _ => exfalso; revert e; show ¬ Out.add = (if _ then _ else _); split <;> exact fun e => by cases e
    | 6, _ => cases e
    | 7, _ => cases e
    | 8, _ => cases e
    | 9, _ => cases e
    | 10, _ => cases e
    | 11, _ => cases e
    | 12, _ => cases e
    | 13, _ => cases e
    | 14, _ => cases e
    | 15, _ =>
      exfalso
      revert e
      show ¬ Out.add = tnF _ _ _ _ _
      unfold tnF
      split
      · exact fun e => by cases e
      · split
        · exact fun e => by cases e
        · split
          · exact fun e => by cases e
          · split <;> exact fun e => by cases e
    | j + 16, hj => omega
end
end Go.Proofs.YtgkjdmojbndicaaGreatDoor

namespace Go.Proofs.YtgkjdmojbndicaaGreatDoor
open Go

section
variable {L : List Nd}
theorem nx_all {f : Fm} (h : f.o ≠ 0) (e : nx L f = .add) (hn : cB L f.o f.x f.y (ndAt L f.x) (ndAt L f.y) 15 = true → False) : ∀ m, m < 16 → cB L f.o f.x f.y (ndAt L f.x) (ndAt L f.y) m = false := by
  rcases nx_cases L h with ⟨_, h0⟩ | ⟨j, hj, _, hj1, e2⟩
  · exact h0
  · exfalso
    rw [e] at e2
    match j, hj with
    | 0, _ => cases e2
    | 1, _ => cases e2
    | 2, _ => cases e2
    | 3, _ => cases e2
    | 4, _ => revert e2; show ¬ Out.add = (if _ then _ else if _ then _ else _); split <;> (try split) <;> exact fun e => by cases e
    | 5, _ => revert e2; show ¬ Out.add = (if _ then _ else _); split <;> exact fun e => by cases e
    | 6, _ => cases e2
    | 7, _ => cases e2
    | 8, _ => cases e2
    | 9, _ => cases e2
    | 10, _ => cases e2
    | 11, _ => cases e2
    | 12, _ => cases e2
    | 13, _ => cases e2
    | 14, _ => cases e2
    | 15, _ => exact hn hj1
    | j + 16, hj => omega
theorem nx_all' {f : Fm} (h : f.o ≠ 0) (e : nx L f = .add) : ∀ m, m < 16 → cB L f.o f.x f.y (ndAt L f.x) (ndAt L f.y) m = false := by
  refine nx_all h e fun h15 => ?_
  rcases nx_cases L h with ⟨_, h0⟩ | ⟨j, hj, hjf, hj1, e2⟩
  · rw [h0 15 (by decide)] at h15; cases h15
  · rw [e] at e2
    match j, hj with
    | 0, _ => cases e2
    | 1, _ => cases e2
    | 2, _ => cases e2
    | 3, _ => cases e2
    | 4, _ => revert e2; show ¬ Out.add = (if _ then _ else if _ then _ else _); split <;> (try split) <;> exact fun e => by cases e
    | 5, _ => revert e2; show ¬ Out.add = (if _ then _ else _); split <;> exact fun e => by cases e
    | 6, _ => cases e2
    | 7, _ => cases e2
    | 8, _ => cases e2
    | 9, _ => cases e2
    | 10, _ => cases e2
    | 11, _ => cases e2
    | 12, _ => cases e2
    | 13, _ => cases e2
    | 14, _ => cases e2
    | 15, _ =>
      revert e2
      show ¬ Out.add = tnF _ _ _ _ _
      unfold tnF
      split
      · exact fun e => by cases e
      · split
        · exact fun e => by cases e
        · split
          · exact fun e => by cases e
          · split <;> exact fun e => by cases e
    | j + 16, hj => omega
theorem run_cc {o a m x c i : Int} (h0 : o ≠ 0) (hx : CN L a x) (hc : CN L m c) (r : Run L ⟨o, x, c⟩ i) : CN L (opI o a m) i := by
  have e : nx L ⟨o, x, c⟩ = .con (opI o a m) := by
    rw [nx_if L h0]
    simp [cB, oF, hx.2, hc.2, isC_kN, kN_n]
  exact run_con e r
theorem nx_beh {o x c m : Int} (hg : groupsB o = true) (fc : Fc L x c m) (hb : behB L (ndAt L x) o = true) : nx L ⟨o, x, c⟩ = .num o (ndAt L x).x (opI o (behN L (ndAt L x)) m) := by
  have h0 : o ≠ 0 := by rcases grp hg with rfl | rfl | rfl | rfl | rfl <;> decide
  rw [nx_if L h0]
  simp [cB, oF, fc.hl, fc.hc.2, isC_kN, kN_n, hg, hb]
theorem swap_two {o a b : Int} (hs : swapsB o = true) (hr : isC (ndAt L b) = false) (hl : isC (ndAt L a) = true ∨ b < a) : nx L ⟨o, a, b⟩ = .two o b a := by
  have h0 : o ≠ 0 := by rcases Lw.swaps_cases hs with rfl | rfl | rfl | rfl | rfl | rfl <;> decide
  rw [nx_if L h0]
  rcases hl with hl | hl
  · simp [cB, oF, hs, hr, hl]
  · simp [cB, oF, hs, hr, hl]
theorem run_swap (hG : Good L) {o a b i : Int} (hs : swapsB o = true) (hf : Fw L ⟨o, a, b⟩) (r : Run L ⟨o, a, b⟩ i) : Run L ⟨o, b, a⟩ i := by
  by_cases hab : a = b
  · subst hab; exact r
  · cases ha : isC (ndAt L a) with
    | true =>
      cases hb : isC (ndAt L b) with
      | true =>
        have ca : CN L (ndAt L a).n a := ⟨hf.x, nd_c hG hf.x ((isC_iff _).1 ha)⟩
        have cb : CN L (ndAt L b).n b := ⟨hf.y, nd_c hG hf.y ((isC_iff _).1 hb)⟩
        have h := run_cc hf.ne ca cb r
        rw [Lw.swap hs] at h
        refine .con (n := opI o (ndAt L b).n (ndAt L a).n) ?_ h
        rw [nx_if L (f := ⟨o, b, a⟩) hf.ne]
        simp [cB, oF, ha, hb]
      | false => exact run_two (swap_two hs hb (Or.inl ha)) r
    | false =>
      cases hb : isC (ndAt L b) with
      | true => exact .two (swap_two hs ha (Or.inl hb)) r
      | false =>
        by_cases hlt : b < a
        · exact run_two (swap_two hs hb (Or.inr hlt)) r
        · exact .two (swap_two hs ha (Or.inr (by omega))) r
theorem nn_node (_hG : Good L) {o b k x : Int} (h : NN L o b k x) : isC (ndAt L x) = false ∧ behB L (ndAt L x) o = true ∧ behN L (ndAt L x) = k ∧ (ndAt L x).x = b := by
  obtain ⟨c, h1, h2, h3⟩ := h
  rw [h3]
  refine ⟨rfl, (behB_iff _ _ _).2 ⟨⟨rfl, rfl⟩, ?_⟩, ?_, rfl⟩
  · show (ndAt L c).k = 1
    rw [h1.2]; rfl
  · show (ndAt L c).n = k
    rw [h1.2]; rfl
theorem nn_opp (hG : Good L) {b x : Int} (h : NN L 16 b 0 x) (ht : truthN (ndAt L b) = true) : oppB L (ndAt L x) = true ∧ truthN (ndAt L x) = true := by
  have n := nn_node hG h
  refine ⟨?_, ?_⟩
  · unfold oppB
    rw [n.2.1, n.2.2.1, n.2.2.2, ht]; rfl
  · obtain ⟨c, h1, h2, h3⟩ := h
    rw [h3]; rfl
/-- One number more. -/
theorem res_put (hG : Good L) {o b k m x c i : Int} (hg : groupsB o = true) (hr : Root L o b) (_hk : InR k) (hm : InR m) (h : Res L o b k x) (hx : hasB L.length x = true) (hc : CN L m c) (r : Run L ⟨o, x, c⟩ i) : Res L o b (opI o k m) i := by
  have node : NN L o b k x → Res L o b (opI o k m) i := fun hn => by
    have n := nn_node hG hn
    have e := nx_beh hg ⟨hx, hc, n.1⟩ n.2.1
    rw [n.2.2.1, n.2.2.2] at e
    obtain ⟨d, hd, r2⟩ := run_num e r
    exact res_of hg hr hd r2
  rcases grp hg with rfl | rfl | rfl | rfl | rfl
  · have h' := h
    unfold Res at h'
    rw [if_pos rfl] at h'
    split at h' <;> rename_i c1
    · subst h'
      have := op_keep (o := 1) rfl hm
      rw [c1, show (0 : Int) = keepsN 1 from rfl, this]
      exact res_of rfl hr hc r
    · exact node h'
  · have h' := h
    unfold Res at h'
    rw [if_neg (by decide), if_pos rfl] at h'
    split at h' <;> rename_i c1
    · subst h'
      have := op_keep (o := 3) rfl hm
      rw [c1, show (1 : Int) = keepsN 3 from rfl, this]
      exact res_of rfl hr hc r
    · split at h' <;> rename_i c2
      · have q := run_cc (by decide) h' hc r
        have z : opI 3 0 m = 0 := by rw [Lw.swap (by decide)]; exact Nf.f3 m
        rw [z] at q
        rw [c2, z]
        unfold Res
        rw [if_neg (by decide), if_pos rfl, if_neg (by decide), if_pos rfl]; exact q
      · exact node h'
  · have h' := h
    unfold Res at h'
    rw [if_neg (by decide), if_neg (by decide), if_neg (by decide), if_pos rfl] at h'
    have par : opI 8 (opI 8 k m) 1 = opI 8 m (opI 8 k 1) := by
      rw [Lw.swap (op := 8) (by decide) k m, Lw.group (by decide)]
    split at h' <;> rename_i ct
    · split at h' <;> rename_i c1
      · subst h'
        have q := res_of rfl hr hc r
        unfold Res at q ⊢
        rw [if_neg (by decide), if_neg (by decide), if_neg (by decide), if_pos rfl, if_pos ct] at q ⊢
        rw [par, c1]; exact q
      · have c0 : opI 8 k 1 = 0 := (Nf.odd k).resolve_right c1
        have q := run_cc (by decide) h' hc r
        have z : opI 8 0 m = 0 := by rw [Lw.swap (by decide)]; exact Nf.f8 m
        rw [z] at q
        unfold Res
        rw [if_neg (by decide), if_neg (by decide), if_neg (by decide), if_pos rfl, if_pos ct, par, c0, Nf.f8, if_neg (by decide)]; exact q
    · split at h' <;> rename_i c1
      · subst h'
        have := op_keep (o := 8) rfl hm
        rw [c1, show (-1 : Int) = keepsN 8 from rfl, this]
        exact res_of rfl hr hc r
      · split at h' <;> rename_i c2
        · have q := run_cc (by decide) h' hc r
          have z : opI 8 0 m = 0 := by rw [Lw.swap (by decide)]; exact Nf.f8 m
          rw [z] at q
          rw [c2, z]
          unfold Res
          rw [if_neg (by decide), if_neg (by decide), if_neg (by decide), if_pos rfl, if_neg ct, if_neg (by decide), if_pos rfl]; exact q
        · exact node h'
  · have h' := h
    unfold Res at h'
    rw [if_neg (by decide), if_neg (by decide), if_pos rfl] at h'
    split at h' <;> rename_i c1
    · subst h'
      have := op_keep (o := 9) rfl hm
      rw [c1, show (0 : Int) = keepsN 9 from rfl, this]
      exact res_of rfl hr hc r
    · split at h' <;> rename_i c2
      · have q := run_cc (by decide) h' hc r
        have z : opI 9 (-1) m = -1 := by rw [Lw.swap (by decide)]; exact Nf.f9 m
        rw [z] at q
        rw [c2, z]
        unfold Res
        rw [if_neg (by decide), if_neg (by decide), if_pos rfl, if_neg (by decide), if_pos rfl]; exact q
      · exact node h'
  · have h' := h
    unfold Res at h'
    rw [if_neg (by decide), if_neg (by decide), if_neg (by decide), if_neg (by decide)] at h'
    split at h' <;> rename_i c1
    · subst h'
      have := op_keep (o := 10) rfl hm
      rw [c1, show (0 : Int) = keepsN 10 from rfl, this]
      exact res_of rfl hr hc r
    · split at h' <;> rename_i c2
      · simp only [Bool.and_eq_true, beq_iff_eq] at c2
        have n := nn_node hG h'
        have op := nn_opp hG h' c2.1
        have e := nx10 (L := L) (x := x) (y := c) (n := m) ⟨hx, hc, n.1⟩
        have nb := (truth_nb (L := L) op.2 (o := 10) (by decide)).1
        rw [nb, op.1, op.2, n.2.2.2] at e
        rw [c2.2]
        by_cases m0 : m = 0
        · simp [m0] at e
          rw [run_is e r, m0]
          unfold Res
          rw [if_neg (by decide), if_neg (by decide), if_neg (by decide), if_neg (by decide), if_neg (by decide), if_pos (by rw [c2.1]; decide)]
          exact h'
        · simp [m0] at e
          obtain ⟨d, hd, r2⟩ := run_num e r
          rw [Lw.swap (by decide)]
          exact res_of rfl hr hd r2
      · exact node h'
/-- A plain term, as what a root (or none) and a number come to. -/
def Rep (L : List Nd) (o : Int) : Option Int → Int → Int → Prop
  | none, k, x => CN L k x
  | some b, k, x => Root L o b ∧ Res L o b k x
theorem Rep.eq (hG : Good L) {o : Int} {s : Option Int} {k x y : Int} (h : Rep L o s k x) (h2 : Rep L o s k y) : x = y := by
  cases s with
  | none => exact CN.eq hG h h2
  | some b => exact h.2.eq hG h2.2
theorem rep_put (hG : Good L) {o : Int} {s : Option Int} {k m x c i : Int} (hg : groupsB o = true) (hk : InR k) (hm : InR m) (h : Rep L o s k x) (hx : hasB L.length x = true) (hc : CN L m c) (r : Run L ⟨o, x, c⟩ i) : Rep L o s (opI o k m) i := by
  cases s with
  | none => exact run_cc (by rcases grp hg with rfl | rfl | rfl | rfl | rfl <;> decide) h hc r
  | some b => exact ⟨h.1, res_put hG hg h.1 hk hm h.2 hx hc r⟩
theorem cn_in (hG : Good L) {n i : Int} (h : CN L n i) : InR n := by
  have := (nd_ok hG h.1).2.1
  rw [h.2] at this; exact this
theorem rep_of (hG : Good L) {o x : Int} (hg : groupsB o = true) (h : Pl L x) : ∃ s k, InR k ∧ Rep L o s k x := by
  cases hc : isC (ndAt L x) with
  | true =>
    have c : CN L (ndAt L x).n x := ⟨h.has, nd_c hG h.has ((isC_iff _).1 hc)⟩
    exact ⟨none, _, cn_in hG c, c⟩
  | false =>
    cases hb : behB L (ndAt L x) o with
    | true =>
      obtain ⟨h1, h2, h3⟩ := root_left hG hg h hb
      have h4 := (behB_iff _ _ _).1 hb
      have r := h.run h4.1.1 hG
      rw [h4.1.2] at r
      exact ⟨some _, _, h3, h1, res_of hg h1 h2 r⟩
    | false =>
      by_cases hop : o = 10 ∧ oppB L (ndAt L x) = true
      · obtain ⟨rfl, hopp⟩ := hop
        obtain ⟨⟨⟨⟨a1, a2⟩, a3⟩, a4⟩, a5⟩ := (oppB_iff _ _).1 hopp
        have p := h.part a1
        have q := nd_4 hG h.has a1
        have cz : CN L 0 (ndAt L x).y := by
          have := nd_c hG q.2.1 a3
          rw [a4] at this
          exact ⟨q.2.1, this⟩
        have al := nx_all' (fw_node hG h.has a1).ne p.2.2
        have k0 := al 0 (by decide)
        have k15 := al 15 (by decide)
        simp only [cB] at k0 k15
        rw [(isC_iff _).2 a3] at k0 k15
        rw [a2, a5, a4] at k15
        simp at k0
        refine ⟨some (ndAt L x).x, 1, ⟨by decide, by decide⟩, ⟨p.1, k0, (truth_nb a5 (by decide)).1, fun _ => ?_⟩, ?_⟩
        · cases hq : oppB L (ndAt L (ndAt L x).x) with
          | false => rfl
          | true => simp [tnB, hq] at k15
        · unfold Res
          rw [if_neg (by decide), if_neg (by decide), if_neg (by decide), if_neg (by decide), if_neg (by decide), if_pos (by rw [a5]; decide)]
          exact ⟨_, cz, h.has, by rw [← a2]; exact nd_b hG h.has a1⟩
      · refine ⟨some x, keepsN o, Lw.keeps_in o, ⟨h, hc, hb, fun e => ?_⟩, ?_⟩
        · cases hq : oppB L (ndAt L x) with
          | false => rfl
          | true => exact absurd ⟨e, hq⟩ hop
        · unfold Res
          rcases grp hg with rfl | rfl | rfl | rfl | rfl
          · rfl
          · rfl
          · show (if truthN (ndAt L x) then (if opI 8 (-1) 1 = 1 then x = x else _) else x = x)
            split
            · rw [if_pos (by decide)]
            · rfl
          · rfl
          · rfl
/-- What Eq of it and a number comes to. -/
def AnsS (L : List Nd) (o b e i : Int) : Prop := if o = 10 ∧ truthN (ndAt L b) = true then (if e = 0 then NN L 16 b 0 i else if e = 1 then i = b else CN L 0 i) else ∃ c, CN L e c ∧ Run L ⟨16, b, c⟩ i
def Ans (L : List Nd) (o : Int) : Option Int → Int → Int → Prop
  | none, e, i => CN L (opI 16 e 0) i
  | some b, e, i => AnsS L o b e i
theorem Ans.eq (hG : Good L) {o : Int} {s : Option Int} {e i j : Int} (h : Ans L o s e i) (k : Ans L o s e j) : i = j := by
  cases s with
  | none => exact CN.eq hG h k
  | some b =>
    change AnsS L o b e i at h
    change AnsS L o b e j at k
    unfold AnsS at h k
    split at h <;> rename_i c1
    · rw [if_pos c1] at k
      split at h <;> rename_i c2
      · rw [if_pos c2] at k; exact h.eq hG k
      · rw [if_neg c2] at k
        split at h <;> rename_i c3
        · rw [if_pos c3] at k; rw [h, k]
        · rw [if_neg c3] at k; exact h.eq hG k
    · rw [if_neg c1] at k
      obtain ⟨c, h1, h2⟩ := h
      obtain ⟨d, k1, k2⟩ := k
      have := h1.eq hG k1
      subst this
      exact h2.eq hG k2
theorem truth_eq {b c d i : Int} (fc : Fc L b c d) (ht : truthN (ndAt L b) = true) (no : oppB L (ndAt L b) = false) (r : Run L ⟨16, b, c⟩ i) : if d = 0 then NN L 16 b 0 i else if d = 1 then i = b else CN L 0 i := by
  have e2 := nx16 fc
  have t1 := (truth_nb (L := L) ht (o := 1) (by decide)).1
  have t10 := (truth_nb (L := L) ht (o := 10) (by decide))
  have t2 := (truth_nb (L := L) ht (o := 2) (by decide)).2
  rw [t1, t10.1, t2, t10.2, no, ht] at e2
  split <;> rename_i c1
  · simp [c1] at e2
    have := run_add e2 r
    rw [c1] at fc
    exact ⟨c, fc.hc, this.1, this.2⟩
  · split <;> rename_i c2
    · simp [c2] at e2; exact run_is e2 r
    · simp [c1, c2] at e2; exact run_con e2 r
theorem opp_eq {x c d i : Int} (fc : Fc L x c d) (ho : oppB L (ndAt L x) = true) (ht : truthN (ndAt L x) = true) (r : Run L ⟨16, x, c⟩ i) : if d = 0 then i = (ndAt L x).x else if d = 1 then i = x else CN L 0 i := by
  have e2 := nx16 fc
  have t1 := (truth_nb (L := L) ht (o := 1) (by decide)).1
  have t10 := (truth_nb (L := L) ht (o := 10) (by decide))
  have t2 := (truth_nb (L := L) ht (o := 2) (by decide)).2
  rw [t1, t10.1, t2, t10.2, ho, ht] at e2
  split <;> rename_i c1
  · simp [c1] at e2
    exact run_is e2 r
  · split <;> rename_i c2
    · simp [c2] at e2; exact run_is e2 r
    · simp [c1, c2] at e2; exact run_con e2 r
theorem xor_one {d : Int} (hd : InR d) : opI 10 d 1 = 0 ↔ d = 1 := by
  constructor
  · intro h
    have h2 := Lw.group (op := 10) (by decide) d 1 1
    rw [h, show opI 10 1 1 = 0 from by decide, show opI 10 0 1 = 1 from by decide] at h2
    rw [h2]
    have := op_keep (o := 10) rfl hd
    rw [Lw.swap (by decide)]
    exact this.symm
  · intro h; rw [h]; decide
theorem xor_zero {d : Int} (hd : InR d) : opI 10 d 1 = 1 ↔ d = 0 := by
  constructor
  · intro h
    have h2 := Lw.group (op := 10) (by decide) d 1 1
    rw [h, show opI 10 1 1 = 0 from by decide] at h2
    have h3 : opI 10 d 0 = d := Lw.keep (op := 10) (by decide) hd
    rw [h3] at h2
    exact h2.symm
  · intro h; rw [h]; decide
def dOp (o d k : Int) : Int := if o = 1 then opI 2 d k else opI 10 d k
theorem eq_rep (hG : Good L) {o : Int} {s : Option Int} {k d x c i : Int} (ho : o = 1 ∨ o = 10) (_hk : InR k) (hd : InR d) (h : Rep L o s k x) (hx : hasB L.length x = true) (hc : CN L d c) (r : Run L ⟨16, x, c⟩ i) : Ans L o s (dOp o d k) i := by
  have sub0 : opI 2 d 0 = d := Lw.keep (op := 2) (by decide) hd
  have xor0 : opI 10 d 0 = d := Lw.keep (op := 10) (by decide) hd
  cases s with
  | none =>
    have q := run_cc (by decide) h hc r
    show CN L (opI 16 (dOp o d k) 0) i
    have e : opI 16 (dOp o d k) 0 = opI 16 k d := by
      unfold dOp
      rcases ho with rfl | rfl
      · rw [if_pos rfl, Nf.q2, Lw.swap (by decide)]
      · rw [if_neg (by decide), Nf.q10, Lw.swap (by decide)]
    rw [e]; exact q
  | some b =>
    obtain ⟨hr, hres⟩ := h
    rcases ho with rfl | rfl
    · show AnsS L 1 b _ i
      unfold AnsS
      rw [if_neg (fun h => absurd h.1 (by decide))]
      unfold dOp
      rw [if_pos rfl]
      unfold Res at hres
      rw [if_pos rfl] at hres
      split at hres <;> rename_i c1
      · subst hres
        rw [c1, sub0]
        exact ⟨c, hc, r⟩
      · have n := nn_node hG hres
        have e := nx16 (L := L) (x := x) (y := c) (n := d) ⟨hx, hc, n.1⟩
        rw [n.2.1] at e
        have ho1 : ((ndAt L x).o == 1) = true := by
          obtain ⟨_, _, _, h3⟩ := hres
          rw [h3]; rfl
        rw [ho1, n.2.2.1, n.2.2.2] at e
        simp at e
        exact run_num e r
    · unfold dOp
      rw [if_neg (by decide)]
      unfold Res at hres
      rw [if_neg (by decide), if_neg (by decide), if_neg (by decide), if_neg (by decide)] at hres
      split at hres <;> rename_i c1
      · subst hres
        rw [c1, xor0]
        show AnsS L 10 _ _ i
        unfold AnsS
        split <;> rename_i ct
        · exact truth_eq ⟨hx, hc, hr.nc⟩ ct.2 (hr.no rfl) r
        · exact ⟨c, hc, r⟩
      · split at hres <;> rename_i c2
        · simp only [Bool.and_eq_true, beq_iff_eq] at c2
          have n := nn_node hG hres
          have op := nn_opp hG hres c2.1
          have q := opp_eq ⟨hx, hc, n.1⟩ op.1 op.2 r
          rw [n.2.2.2] at q
          show AnsS L 10 b _ i
          unfold AnsS
          rw [if_pos ⟨rfl, c2.1⟩, c2.2]
          by_cases d0 : d = 0
          · rw [if_pos d0] at q
            have := (xor_zero hd).2 d0
            rw [this, if_neg (by decide), if_pos rfl]; exact q
          · rw [if_neg d0] at q
            by_cases d1 : d = 1
            · rw [if_pos d1] at q
              have := (xor_one hd).2 d1
              rw [this, if_pos rfl, q]; exact hres
            · rw [if_neg d1] at q
              rw [if_neg (fun e => d1 ((xor_one hd).1 e)), if_neg (fun e => d0 ((xor_zero hd).1 e))]; exact q
        · have n := nn_node hG hres
          have e := nx16 (L := L) (x := x) (y := c) (n := d) ⟨hx, hc, n.1⟩
          have nb1 : behB L (ndAt L x) 1 = false := by
            obtain ⟨_, _, _, h3⟩ := hres
            rw [h3]; rfl
          have ho1 : ((ndAt L x).o == 1) = false := by
            obtain ⟨_, _, _, h3⟩ := hres
            rw [h3]; rfl
          rw [n.2.1, ho1, n.2.2.1, n.2.2.2] at e
          simp at e
          obtain ⟨c', hc', r2⟩ := run_num e r
          show AnsS L 10 b _ i
          unfold AnsS
          split <;> rename_i ct
          · exact truth_eq (hr.pl.fc hr.nc hc') ct.2 (hr.no rfl) r2
          · exact ⟨c', hc', r2⟩
end
end Go.Proofs.YtgkjdmojbndicaaGreatDoor

namespace Go.Proofs.YtgkjdmojbndicaaGreatDoor
open Go

section
variable {L : List Nd}
theorem pl_const (hG : Good L) {a : Int} (h : Pl L a) (hc : isC (ndAt L a) = true) : CN L (ndAt L a).n a := ⟨h.has, nd_c hG h.has ((isC_iff _).1 hc)⟩
theorem same_group (hG : Good L) {o a c d p q pq t u v : Int} (hg : groupsB o = true) (h : Pl L a) (hp : CN L c p) (hq : CN L d q) (hpq : CN L (opI o c d) pq) (r1 : Run L ⟨o, a, p⟩ t) (r2 : Run L ⟨o, t, q⟩ u) (r3 : Run L ⟨o, a, pq⟩ v) : u = v := by
  obtain ⟨s, k, hk, hr⟩ := rep_of hG hg h
  have hkn := grp hg
  have fw : Fw L ⟨o, a, p⟩ := ⟨(by show 1 ≤ o; omega), (by show o ≤ 16; omega), h.has, hp.1⟩
  have h1 := rep_put hG hg hk (cn_in hG hp) hr h.has hp r1
  have h2 := rep_put hG hg (opI_in _ _ _) (cn_in hG hq) h1 (run_has hG r1 fw) hq r2
  have h3 := rep_put hG hg hk (opI_in _ _ _) hr h.has hpq r3
  rw [Lw.group hg] at h2
  exact h2.eq hG h3
theorem same_keep (hG : Good L) {o a k i : Int} (hk : keepsB o = true) (h : Pl L a) (hc : CN L (keepsN o) k) (r : Run L ⟨o, a, k⟩ i) : i = a := by
  cases hg : groupsB o with
  | true =>
    obtain ⟨s, k0, hk0, hr⟩ := rep_of hG hg h
    have h1 := rep_put hG hg hk0 (Lw.keeps_in o) hr h.has hc r
    rw [Lw.keep hk hk0] at h1
    exact h1.eq hG hr
  | false =>
    cases hcc : isC (ndAt L a) with
    | true =>
      have ca := pl_const hG h hcc
      have h0 : o ≠ 0 := by rintro rfl; exact absurd hk (by decide)
      have q := run_cc h0 ca hc r
      rw [Lw.keep hk (cn_in hG ca)] at q
      exact q.eq hG ca
    | false =>
      have fc := h.fc hcc hc
      rcases op_cases o with rfl | rfl | rfl | rfl | rfl | rfl | rfl | rfl | rfl | rfl | rfl | rfl | rfl | rfl | rfl | rfl | hkn
      · exact absurd hg (by decide)
      · exact run_is ((nx2 fc).trans (if_pos rfl)) r
      · exact absurd hg (by decide)
      · exact run_is ((nx4 fc).trans (if_pos rfl)) r
      · exact run_is ((nx5 fc).trans (if_pos rfl)) r
      · exact run_is ((nx6 fc).trans (if_pos rfl)) r
      · exact run_is ((nx7 fc).trans (if_pos rfl)) r
      · exact absurd hg (by decide)
      · exact absurd hg (by decide)
      · exact absurd hg (by decide)
      · exact run_is ((nx11 fc).trans (if_pos rfl)) r
      · exact run_is ((nx12 fc).trans (if_pos rfl)) r
      · exact run_is ((nx13 fc).trans (if_pos rfl)) r
      · exact absurd hk (by decide)
      · exact absurd hk (by decide)
      · exact absurd hk (by decide)
      · unfold keepsB at hk; rw [hkn] at hk; exact absurd hk (by simp)
theorem nx_self {o a : Int} (h0 : o ≠ 0) (ho : o = 2 ∨ o = 10 ∨ o = 14 ∨ o = 15 ∨ o = 16 ∨ o = 8 ∨ o = 9) (hl : isC (ndAt L a) = false) : nx L ⟨o, a, a⟩ = if o == 2 || o == 10 || o == 14 || o == 15 then .con 0 else if o == 16 then .con 1 else .is a := by
  rw [nx_if L h0]
  rcases ho with rfl | rfl | rfl | rfl | rfl | rfl | rfl <;> simp [cB, oF, hl, Int.lt_irrefl]
theorem same_self (hG : Good L) {o a i : Int} (ho : o = 2 ∨ o = 10 ∨ o = 14 ∨ o = 15 ∨ o = 16 ∨ o = 8 ∨ o = 9) (h : Pl L a) (r : Run L ⟨o, a, a⟩ i) : if o = 8 ∨ o = 9 then i = a else if o = 16 then CN L 1 i else CN L 0 i := by
  have h0 : o ≠ 0 := by omega
  cases hc : isC (ndAt L a) with
  | true =>
    have ca := pl_const hG h hc
    have q := run_cc h0 ca ca r
    rcases ho with rfl | rfl | rfl | rfl | rfl | rfl | rfl
    · rw [Nf.s2] at q; simpa using q
    · rw [Nf.s10] at q; simpa using q
    · rw [Nf.s14] at q; simpa using q
    · rw [Nf.s15] at q; simpa using q
    · rw [Nf.s16] at q; simpa using q
    · rw [Nf.s8 (cn_in hG ca)] at q; simpa using q.eq hG ca
    · rw [Nf.s9 (cn_in hG ca)] at q; simpa using q.eq hG ca
  | false =>
    have e := nx_self h0 ho hc
    rcases ho with rfl | rfl | rfl | rfl | rfl | rfl | rfl
    · simp at e; simpa using run_con e r
    · simp at e; simpa using run_con e r
    · simp at e; simpa using run_con e r
    · simp at e; simpa using run_con e r
    · simp at e; simpa using run_con e r
    · simp at e; simpa using run_is e r
    · simp at e; simpa using run_is e r
/-- Which operations with which number make a number, and which. -/
def fixB (o m : Int) : Bool := (o == 3 || o == 8 || o == 15) && m == 0 || o == 9 && m == -1 || (o == 5 || o == 7) && m == 1
def fixN (o m : Int) : Int := if (o == 3 || o == 8 || o == 15) && m == 0 then 0 else if o == 9 && m == -1 then -1 else 0
theorem same_fixed (hG : Good L) {o m a c i : Int} (hf : fixB o m = true) (h : Pl L a) (hc : CN L m c) (r : Run L ⟨o, a, c⟩ i) : CN L (fixN o m) i := by
  unfold fixB at hf
  simp only [Bool.or_eq_true, Bool.and_eq_true, beq_iff_eq] at hf
  have rep : groupsB o = true → ∀ z, (∀ k, opI o k m = z) → (∀ b, Res L o b z i → CN L z i) → CN L z i := fun hg z hz hb => by
    obtain ⟨s, k0, hk0, hr⟩ := rep_of hG hg h
    have h1 := rep_put hG hg hk0 (cn_in hG hc) hr h.has hc r
    rw [hz] at h1
    cases s with
    | none => exact h1
    | some b => exact hb b h1.2
  rcases hf with (⟨(rfl | rfl) | rfl, rfl⟩ | ⟨rfl, rfl⟩) | ⟨rfl | rfl, rfl⟩
  · exact rep rfl 0 Nf.f3 fun b hb => by
      unfold Res at hb
      rwa [if_neg (by decide), if_pos rfl, if_neg (by decide), if_pos rfl] at hb
  · exact rep rfl 0 Nf.f8 fun b hb => by
      unfold Res at hb
      rw [if_neg (by decide), if_neg (by decide), if_neg (by decide), if_pos rfl] at hb
      split at hb
      · rwa [if_neg (by decide)] at hb
      · rwa [if_neg (by decide), if_pos rfl] at hb
  · cases hcc : isC (ndAt L a) with
    | true =>
      have q := run_cc (by decide) (pl_const hG h hcc) hc r
      rw [Nf.f15] at q; exact q
    | false =>
      rw [run_is ((nx15 (h.fc hcc hc)).trans (if_pos rfl)) r]; exact hc
  · exact rep rfl (-1) Nf.f9 fun b hb => by
      unfold Res at hb
      rwa [if_neg (by decide), if_neg (by decide), if_pos rfl, if_neg (by decide), if_pos rfl] at hb
  · cases hcc : isC (ndAt L a) with
    | true =>
      have q := run_cc (by decide) (pl_const hG h hcc) hc r
      rw [Nf.f5] at q; exact q
    | false => exact run_con ((nx5 (h.fc hcc hc)).trans (by rw [if_neg (by decide), if_pos rfl]; rfl)) r
  · cases hcc : isC (ndAt L a) with
    | true =>
      have q := run_cc (by decide) (pl_const hG h hcc) hc r
      rw [Nf.f7] at q; exact q
    | false => exact run_con ((nx7 (h.fc hcc hc)).trans (by rw [if_neg (by decide), if_pos rfl]; rfl)) r

/-! ### By another operation -/
theorem mv_sub (hG : Good L) {a c n x y : Int} {d : Int} (h : Pl L a) (hc : CN L n c) (hd : CN L (opI 2 0 n) d) (r1 : Run L ⟨2, a, c⟩ x) (r2 : Run L ⟨1, a, d⟩ y) : x = y := by
  cases hcc : isC (ndAt L a) with
  | true =>
    have ca := pl_const hG h hcc
    have q1 := run_cc (by decide) ca hc r1
    have q2 := run_cc (by decide) ca hd r2
    rw [Lw.sub0] at q1
    exact q1.eq hG q2
  | false =>
    have e := nx2 (h.fc hcc hc)
    by_cases h0 : n = 0
    · rw [if_pos h0] at e
      rw [run_is e r1]
      rw [h0] at hd
      exact (same_keep hG (o := 1) (by decide) h hd r2).symm
    · rw [if_neg h0] at e
      obtain ⟨c2, hc2, r3⟩ := run_num e r1
      rw [hc2.eq hG hd] at r3
      exact r3.eq hG r2
theorem mv_shl (hG : Good L) {a c n x y d : Int} (h : Pl L a) (hc : CN L n c) (hd : CN L (opI 11 1 n) d) (r1 : Run L ⟨11, a, c⟩ x) (r2 : Run L ⟨3, a, d⟩ y) : x = y := by
  cases hcc : isC (ndAt L a) with
  | true =>
    have ca := pl_const hG h hcc
    have q1 := run_cc (by decide) ca hc r1
    have q2 := run_cc (by decide) ca hd r2
    rw [Nf.l11] at q1
    exact q1.eq hG q2
  | false =>
    have e := nx11 (h.fc hcc hc)
    by_cases h0 : n = 0
    · rw [if_pos h0] at e
      rw [run_is e r1]
      rw [h0] at hd
      exact (same_keep hG (o := 3) (by decide) h hd r2).symm
    · rw [if_neg h0] at e
      obtain ⟨c2, hc2, r3⟩ := run_num e r1
      rw [hc2.eq hG hd] at r3
      exact r3.eq hG r2
theorem mv_shr (hG : Good L) {o a c n x y d : Int} (ho : o = 12 ∨ o = 13) (h : Pl L a) (hc : CN L n c) (hd : CN L (opI 8 n 63) d) (r1 : Run L ⟨o, a, c⟩ x) (r2 : Run L ⟨o, a, d⟩ y) : x = y := by
  by_cases hm : opI 8 n 63 = n
  · rw [hm] at hd
    have := hc.eq hG hd
    subst this
    exact r1.eq hG r2
  · cases hcc : isC (ndAt L a) with
    | true =>
      have ca := pl_const hG h hcc
      have q1 := run_cc (by omega) ca hc r1
      have q2 := run_cc (by omega) ca hd r2
      rcases ho with rfl | rfl
      · rw [Nf.l12] at q2; exact q1.eq hG q2
      · rw [Nf.l13] at q2; exact q1.eq hG q2
    | false =>
      have h0 : n ≠ 0 := by rintro rfl; exact hm (by decide)
      have e : nx L ⟨o, a, c⟩ = .num o a (opI 8 n 63) := by
        rcases ho with rfl | rfl
        · have e := nx12 (h.fc hcc hc); rwa [if_neg h0, if_neg hm] at e
        · have e := nx13 (h.fc hcc hc); rwa [if_neg h0, if_neg hm] at e
      obtain ⟨c2, hc2, r3⟩ := run_num e r1
      rw [hc2.eq hG hd] at r3
      exact r3.eq hG r2
theorem mv_div (hG : Good L) {a c n x y d : Int} (hp : powB n = true) (h : Pl L a) (hc : CN L n c) (hd : CN L (powN n) d) (r1 : Run L ⟨6, a, c⟩ x) (r2 : Run L ⟨12, a, d⟩ y) : x = y := by
  cases hcc : isC (ndAt L a) with
  | true =>
    have ca := pl_const hG h hcc
    have q1 := run_cc (by decide) ca hc r1
    have q2 := run_cc (by decide) ca hd r2
    rw [Lw.divp hp] at q1
    exact q1.eq hG q2
  | false =>
    have e := nx6 (h.fc hcc hc)
    by_cases h0 : n = 1
    · rw [if_pos h0] at e
      rw [run_is e r1]
      rw [h0, show powN 1 = 0 from by decide +kernel] at hd
      exact (same_keep hG (o := 12) (by decide) h hd r2).symm
    · rw [if_neg h0, if_pos hp] at e
      obtain ⟨c2, hc2, r3⟩ := run_num e r1
      rw [hc2.eq hG hd] at r3
      exact r3.eq hG r2
theorem mv_rem (hG : Good L) {a c n x y d : Int} (hp : powB n = true) (h : Pl L a) (hc : CN L n c) (hd : CN L (opI 2 n 1) d) (r1 : Run L ⟨7, a, c⟩ x) (r2 : Run L ⟨8, a, d⟩ y) : x = y := by
  cases hcc : isC (ndAt L a) with
  | true =>
    have ca := pl_const hG h hcc
    have q1 := run_cc (by decide) ca hc r1
    have q2 := run_cc (by decide) ca hd r2
    rw [Lw.modp hp] at q1
    exact q1.eq hG q2
  | false =>
    have e := nx7 (h.fc hcc hc)
    rw [if_neg (Lw.pow_ne hp)] at e
    by_cases h0 : n = 1
    · rw [if_pos h0] at e
      have q := run_con e r1
      rw [h0] at hd
      have q2 := same_fixed hG (o := 8) (m := opI 2 1 1) (by decide) h hd r2
      exact q.eq hG q2
    · rw [if_neg h0, if_pos hp] at e
      obtain ⟨c2, hc2, r3⟩ := run_num e r1
      rw [hc2.eq hG hd] at r3
      exact r3.eq hG r2
theorem mv_ltu (hG : Good L) {a c z x y : Int} (h : Pl L a) (hc : CN L 1 c) (hz : CN L 0 z) (r1 : Run L ⟨15, a, c⟩ x) (r2 : Run L ⟨16, a, z⟩ y) : x = y := by
  cases hcc : isC (ndAt L a) with
  | true =>
    have ca := pl_const hG h hcc
    have q1 := run_cc (by decide) ca hc r1
    have q2 := run_cc (by decide) ca hz r2
    rw [Nf.u1] at q1
    exact q1.eq hG q2
  | false =>
    have e := nx15 (h.fc hcc hc)
    rw [if_neg (by decide), if_pos rfl] at e
    obtain ⟨c2, hc2, r3⟩ := run_num e r1
    rw [hc2.eq hG hz] at r3
    exact r3.eq hG r2
theorem mv_nn (hG : Good L) {a z t x y : Int} (h : Pl L a) (hz : CN L 0 z) (r1 : Run L ⟨15, z, a⟩ x) (r2 : Run L ⟨16, a, z⟩ t) (r3 : Run L ⟨16, t, z⟩ y) : x = y := by
  cases hcc : isC (ndAt L a) with
  | true =>
    have ca := pl_const hG h hcc
    have q1 := run_cc (by decide) hz ca r1
    have q2 := run_cc (by decide) ca hz r2
    have q3 := run_cc (by decide) q2 hz r3
    rw [Nf.nn] at q1
    exact q1.eq hG q3
  | false =>
    have hne : z ≠ a := by
      rintro rfl
      rw [hz.2] at hcc
      exact absurd hcc (by decide)
    have e : nx L ⟨15, z, a⟩ = .nn a := by
      rw [nx_if L (by show (15 : Int) ≠ 0; decide)]
      simp [cB, oF, hz.2, isC_kN, kN_n, hcc, swapsB, groupsB, keepsB, keepsN, knownB, hne]
    obtain ⟨z2, t2, hz2, q1, q2⟩ := run_nn e r1
    have := hz2.eq hG hz
    subst this
    have := q1.eq hG r2
    subst this
    exact q2.eq hG r3
theorem mv_add (hG : Good L) {a c d m n p t x y : Int} (h : Pl L a) (hc : CN L m c) (hd : CN L n d) (hp : CN L (opI 2 n m) p) (r1 : Run L ⟨1, a, c⟩ t) (r2 : Run L ⟨16, t, d⟩ x) (r3 : Run L ⟨16, a, p⟩ y) : x = y := by
  obtain ⟨s, k, hk, hr⟩ := rep_of hG (o := 1) rfl h
  have fw : Fw L ⟨1, a, c⟩ := ⟨(by show (1 : Int) ≤ 1; decide), (by show (1 : Int) ≤ 16; decide), h.has, hc.1⟩
  have h1 := rep_put hG rfl hk (cn_in hG hc) hr h.has hc r1
  have h2 := eq_rep hG (Or.inl rfl) (opI_in _ _ _) (cn_in hG hd) h1 (run_has hG r1 fw) hd r2
  have h3 := eq_rep hG (Or.inl rfl) hk (cn_in hG hp) hr h.has hp r3
  have e : dOp 1 n (opI 1 k m) = dOp 1 (opI 2 n m) k := by
    unfold dOp
    rw [if_pos rfl, if_pos rfl]
    show (bv n - bv (opI 1 k m)).toInt = (bv (opI 2 n m) - bv k).toInt
    rw [bv_opI, bv_opI]
    show (bv n - (bv k + bv m)).toInt = ((bv n - bv m) - bv k).toInt
    rw [BitVec.add_comm (bv k)]
    refine congrArg BitVec.toInt ?_
    rw [BitVec.sub_eq_add_neg, BitVec.sub_eq_add_neg, BitVec.sub_eq_add_neg, BitVec.neg_add, BitVec.sub_eq_add_neg, BitVec.add_assoc]
  rw [e] at h2
  exact h2.eq hG h3
/-- Of two terms of which neither is a number: the node, in order. -/
theorem mv_xor_const (hG : Good L) {a b m z t x y : Int} (h : Pl L a) (hb : CN L m b) (hz : CN L 0 z) (r1 : Run L ⟨10, a, b⟩ t) (r2 : Run L ⟨16, t, z⟩ x) (r3 : Run L ⟨16, a, b⟩ y) : x = y := by
  obtain ⟨s, k, hk, hr⟩ := rep_of hG (o := 10) rfl h
  have fw : Fw L ⟨10, a, b⟩ := ⟨(by show (1 : Int) ≤ 10; decide), (by show (10 : Int) ≤ 16; decide), h.has, hb.1⟩
  have h1 := rep_put hG rfl hk (cn_in hG hb) hr h.has hb r1
  have h2 := eq_rep hG (Or.inr rfl) (opI_in _ _ _) in0 h1 (run_has hG r1 fw) hz r2
  have h3 := eq_rep hG (Or.inr rfl) hk (cn_in hG hb) hr h.has hb r3
  have e : dOp 10 0 (opI 10 k m) = dOp 10 m k := by
    unfold dOp
    rw [if_neg (by decide), if_neg (by decide), show (0 : Int) = keepsN 10 from rfl, op_keep (o := 10) rfl (opI_in _ _ _), Lw.swap (by decide)]
  rw [e] at h2
  exact h2.eq hG h3
theorem add_pair {o a b : Int} (ho : o = 2 ∨ o = 10) (ha : isC (ndAt L a) = false ∨ o = 2) (hb : isC (ndAt L b) = false) (hlt : o = 10 → a < b) (hne : a ≠ b) : nx L ⟨o, a, b⟩ = .add := by
  rw [nx_if L (by show o ≠ 0; omega)]
  rcases ho with rfl | rfl
  · cases hca : isC (ndAt L a) <;> simp [cB, hb, hca, swapsB, groupsB, hne]
  · have ha' : isC (ndAt L a) = false := by rcases ha with h | h; exact h; exact absurd h (by decide)
    have h1 := hlt rfl
    simp [cB, hb, ha', hne, show ¬ b < a from by omega]
theorem two_pair (_hG : Good L) {o a b t z x : Int} (ho : o = 2 ∨ o = 10) (ht : hasB L.length t = true) (hn : ndAt L t = bN o a b) (hb : isC (ndAt L b) = false) (hz : CN L 0 z) (r : Run L ⟨16, t, z⟩ x) : Run L ⟨16, a, b⟩ x := by
  have fc : Fc L t z 0 := ⟨ht, hz, by rw [hn]; rfl⟩
  have e := nx16 fc
  have b1 : behB L (ndAt L t) 1 = false := by
    rw [hn]
    rcases ho with rfl | rfl <;> rfl
  have b10 : behB L (ndAt L t) 10 = false := by
    rw [hn]
    unfold behB
    show (_ && isC (ndAt L b)) = false
    rw [hb, Bool.and_false]
  have i2 : (isB (ndAt L t) 2 || isB (ndAt L t) 10) = true := by
    rw [hn]
    rcases ho with rfl | rfl <;> rfl
  rw [b1, b10, i2, hn] at e
  simp at e
  exact run_two e r
theorem mv_eq (hG : Good L) {o a b z t x y : Int} (ho : o = 2 ∨ o = 10) (h : Pl L a) (k : Pl L b) (hz : CN L 0 z) (r1 : Run L ⟨o, a, b⟩ t) (r2 : Run L ⟨16, t, z⟩ x) (r3 : Run L ⟨16, a, b⟩ y): x = y := by
  have fw : Fw L ⟨o, a, b⟩ := ⟨(by show 1 ≤ o; omega), (by show o ≤ 16; omega), h.has, k.has⟩
  have fw16 : Fw L ⟨16, a, b⟩ := fw16 h.has k.has
  cases hca : isC (ndAt L a) with
  | true =>
    have ca := pl_const hG h hca
    cases hcb : isC (ndAt L b) with
    | true =>
      have cb := pl_const hG k hcb
      have q1 := run_cc fw.ne ca cb r1
      have q2 := run_cc (by decide) q1 hz r2
      have q3 := run_cc (by decide) ca cb r3
      rcases ho with rfl | rfl
      · rw [Nf.q2] at q2; exact q2.eq hG q3
      · rw [Nf.q10] at q2; exact q2.eq hG q3
    | false =>
      rcases ho with rfl | rfl
      · have hne : a ≠ b := by rintro rfl; rw [hca] at hcb; cases hcb
        have q := run_add (add_pair (Or.inl rfl) (Or.inr rfl) hcb (fun e => absurd e (by decide)) hne) r1
        exact (two_pair hG (Or.inl rfl) q.1 q.2 hcb hz r2).eq hG r3
      · have s1 := run_swap hG (o := 10) rfl fw r1
        have s3 := run_swap hG (o := 16) rfl fw16 r3
        exact mv_xor_const hG k ca hz s1 r2 s3
  | false =>
    cases hcb : isC (ndAt L b) with
    | true =>
      have cb := pl_const hG k hcb
      rcases ho with rfl | rfl
      · obtain ⟨s, k0, hk0, hr⟩ := rep_of hG (o := 1) rfl h
        have h3 := eq_rep hG (Or.inl rfl) hk0 (cn_in hG cb) hr h.has cb r3
        have h1 : Rep L 1 s (opI 2 k0 (ndAt L b).n) t := by
          have e := nx2 (h.fc hca cb)
          by_cases h0 : (ndAt L b).n = 0
          · rw [if_pos h0] at e
            rw [run_is e r1, h0, show (0 : Int) = keepsN 2 from rfl, Lw.keep (by decide) hk0]
            exact hr
          · rw [if_neg h0] at e
            obtain ⟨d, hd, r4⟩ := run_num e r1
            have := rep_put hG rfl hk0 (opI_in _ _ _) hr h.has hd r4
            rw [← Lw.sub0] at this
            exact this
        have h2 := eq_rep hG (Or.inl rfl) (opI_in _ _ _) in0 h1 (run_has hG r1 fw) hz r2
        have e : dOp 1 0 (opI 2 k0 (ndAt L b).n) = dOp 1 (ndAt L b).n k0 := by
          unfold dOp
          rw [if_pos rfl, if_pos rfl]
          show (0#64 - bv (opI 2 k0 (ndAt L b).n)).toInt = (bv (ndAt L b).n - bv k0).toInt
          rw [bv_opI]
          show (0#64 - (bv k0 - bv (ndAt L b).n)).toInt = _
          refine congrArg BitVec.toInt ?_
          rw [BitVec.zero_sub, BitVec.neg_sub, BitVec.add_comm, ← BitVec.sub_eq_add_neg]
        rw [e] at h2
        exact h2.eq hG h3
      · exact mv_xor_const hG h cb hz r1 r2 r3
    | false =>
      by_cases hab : a = b
      · subst hab
        have q1 := same_self hG (o := o) (by omega) h r1
        rw [if_neg (by omega), if_neg (by omega)] at q1
        have q2 := run_cc (by decide) q1 hz r2
        have q3 := same_self hG (o := 16) (by decide) h r3
        rw [if_neg (by decide), if_pos rfl] at q3
        exact q2.eq hG q3
      · rcases ho with rfl | rfl
        · have q := run_add (add_pair (Or.inl rfl) (Or.inr rfl) hcb (fun e => absurd e (by decide)) hab) r1
          exact (two_pair hG (Or.inl rfl) q.1 q.2 hcb hz r2).eq hG r3
        · by_cases hlt : a < b
          · have q := run_add (add_pair (Or.inr rfl) (Or.inl hca) hcb (fun _ => hlt) hab) r1
            exact (two_pair hG (Or.inr rfl) q.1 q.2 hcb hz r2).eq hG r3
          · have s1 := run_swap hG (o := 10) rfl fw r1
            have s3 := run_swap hG (o := 16) rfl fw16 r3
            have q := run_add (add_pair (Or.inr rfl) (Or.inl hcb) hca (fun _ => by omega) (Ne.symm hab)) s1
            exact (two_pair hG (Or.inr rfl) q.1 q.2 hca hz r2).eq hG s3

/-! ### What is two-valued -/
def trO (L : List Nd) : Out → Prop
  | .is x => truthN (ndAt L x) = true
  | .con n => n = 0 ∨ n = 1
  | .two o _ _ => o = 16
  | .num o _ _ => o = 16
  | _ => True
theorem nx_truth (_hG : Good L) {f : Fm} (hf : Fw L f) (ho : f.o = 14 ∨ f.o = 15 ∨ f.o = 16) : trO L (nx L f) := by
  rcases nx_cases L hf.ne with ⟨e, _⟩ | ⟨j, hj, h0, h1, e⟩
  · rw [e]; trivial
  · rw [e]
    match j, hj with
    | 0, _ =>
      show opI _ _ _ = 0 ∨ opI _ _ _ = 1
      rcases ho with o | o | o <;> rw [o]
      · exact Nf.e14 _ _
      · exact Nf.e15 _ _
      · exact Nf.e16 _ _
    | 1, _ =>
      simp only [cB, Bool.and_eq_true] at h1
      have := Lw.swaps_cases h1.1.1
      show f.o = 16
      omega
    | 2, _ =>
      simp only [cB, Bool.and_eq_true] at h1
      have := grp h1.1.2
      omega
    | 3, _ =>
      simp only [cB, Bool.and_eq_true] at h1
      have := h1.1.1
      rcases ho with o | o | o <;> rw [o] at this <;> exact absurd this (by decide)
    | 4, _ =>
      simp only [cB, Bool.and_eq_true, Bool.or_eq_true, beq_iff_eq] at h1
      show trO L (if _ then _ else if _ then _ else _)
      rcases ho with o | o | o <;> rw [o]
      · exact Or.inl rfl
      · exact Or.inl rfl
      · exact Or.inr rfl
    | 5, _ =>
      simp only [cB, Bool.and_eq_true, Bool.or_eq_true, beq_iff_eq, isC_iff] at h1
      have h15 : f.o = 15 ∧ (ndAt L f.y).n = 0 := by omega
      show trO L (if _ then _ else _)
      rw [h15.1]
      show truthN (ndAt L f.y) = true
      exact (truth_k _).2 (Or.inl ⟨h1.1, Or.inl h15.2⟩)
    | 6, _ => simp only [cB, Bool.and_eq_true, beq_iff_eq] at h1; omega
    | 7, _ => simp only [cB, Bool.and_eq_true, beq_iff_eq] at h1; omega
    | 8, _ => simp only [cB, Bool.and_eq_true, Bool.or_eq_true, beq_iff_eq] at h1; omega
    | 9, _ => simp only [cB, Bool.and_eq_true, beq_iff_eq] at h1; omega
    | 10, _ => simp only [cB, Bool.and_eq_true, beq_iff_eq] at h1; omega
    | 11, _ => rfl
    | 12, _ => trivial
    | 13, _ => rfl
    | 14, _ => rfl
    | 15, _ =>
      simp only [cB, Bool.and_eq_true, Bool.or_eq_true, beq_iff_eq] at h1
      have h16 : f.o = 16 := by omega
      have hn := h1.2
      show trO L (tnF _ _ _ _ _)
      rw [h16] at hn ⊢
      unfold tnF
      unfold tnB at hn
      rw [if_neg (by simp), if_neg (by decide)]
      split
      · rename_i c
        simp at c
        rw [c] at hn
        cases hop : oppB L (ndAt L f.x) with
        | true => exact ((oppB_iff _ _).1 hop).2
        | false => rw [hop] at hn; simp at hn
      · split
        · exact h1.1.1.1
        · exact Or.inl rfl
    | j + 16, hj => omega
theorem truth_cn {n i : Int} (h : CN L n i) (hn : n = 0 ∨ n = 1) : truthN (ndAt L i) = true := by
  rw [h.2]
  exact (truth_k _).2 (Or.inl ⟨rfl, hn⟩)
theorem run_truth (hG : Good L) {f : Fm} {i : Int} (h : Run L f i) : Fw L f → f.o = 14 ∨ f.o = 15 ∨ f.o = 16 → truthN (ndAt L i) = true := by
  induction h with
  | is e => intro hf ho; have := nx_truth hG hf ho; rw [e] at this; exact this
  | con e c => intro hf ho; have := nx_truth hG hf ho; rw [e] at this; exact truth_cn c this
  | two e r ih =>
    intro hf ho
    have t := nx_truth hG hf ho
    have o := nx_ok hG hf
    rw [e] at t o
    exact ih o.1 (Or.inr (Or.inr t))
  | num e c r ih =>
    intro hf ho
    have t := nx_truth hG hf ho
    have o := nx_ok hG hf
    rw [e] at t o
    exact ih ⟨o.1.1, o.1.2.1, o.1.2.2.1, c.1⟩ (Or.inr (Or.inr t))
  | nn e c r r2 ih ih2 =>
    intro hf ho
    have o := nx_ok hG hf
    rw [e] at o
    have fw := fw16 o c.1
    exact ih2 (fw16 (run_has hG r fw) c.1) (Or.inr (Or.inr rfl))
  | @add f i e a b =>
    intro hf ho
    rw [b]
    exact (truth_k _).2 (Or.inr ⟨rfl, ho⟩)
theorem opp_root (hG : Good L) {t : Int} (h : Pl L t) (hopp : oppB L (ndAt L t) = true) : Root L 10 (ndAt L t).x ∧ NN L 16 (ndAt L t).x 0 t ∧ truthN (ndAt L (ndAt L t).x) = true := by
  obtain ⟨⟨⟨⟨a1, a2⟩, a3⟩, a4⟩, a5⟩ := (oppB_iff _ _).1 hopp
  have p := h.part a1
  have q := nd_4 hG h.has a1
  have cz : CN L 0 (ndAt L t).y := by
    have := nd_c hG q.2.1 a3
    rw [a4] at this
    exact ⟨q.2.1, this⟩
  have al := nx_all' (fw_node hG h.has a1).ne p.2.2
  have k0 := al 0 (by decide)
  have k15 := al 15 (by decide)
  simp only [cB] at k0 k15
  rw [(isC_iff _).2 a3] at k0 k15
  rw [a2, a5, a4] at k15
  simp at k0
  refine ⟨⟨p.1, k0, (truth_nb a5 (by decide)).1, fun _ => ?_⟩, ⟨_, cz, h.has, by rw [← a2]; exact nd_b hG h.has a1⟩, a5⟩
  cases hq : oppB L (ndAt L (ndAt L t).x) with
  | false => rfl
  | true => simp [tnB, hq] at k15
theorem truth_const (hG : Good L) {t : Int} (h : Pl L t) (ht : truthN (ndAt L t) = true) (hc : isC (ndAt L t) = true) : CN L (ndAt L t).n t ∧ ((ndAt L t).n = 0 ∨ (ndAt L t).n = 1) := by
  refine ⟨pl_const hG h hc, ?_⟩
  have h1 := (isC_iff _).1 hc
  rcases (truth_k _).1 ht with h2 | h2
  · exact h2.2
  · omega
section
variable {t z c n1 i : Int} {d : Int}
theorem tr_one (hG : Good L) (h : Pl L t) (ht : truthN (ndAt L t) = true) (hc : CN L 1 c) (r : Run L ⟨16, t, c⟩ i) : i = t := by
  cases hcc : isC (ndAt L t) with
  | true =>
    obtain ⟨ca, hn⟩ := truth_const hG h ht hcc
    have q := run_cc (by decide) ca hc r
    rw [Nf.t1 hn] at q
    exact q.eq hG ca
  | false =>
    cases ho : oppB L (ndAt L t) with
    | true => simpa using opp_eq (h.fc hcc hc) ho ht r
    | false => simpa using truth_eq (h.fc hcc hc) ht ho r
theorem tr_nn (hG : Good L) (h : Pl L t) (ht : truthN (ndAt L t) = true) (hz : CN L 0 z) (r : Run L ⟨16, t, z⟩ n1) (r2 : Run L ⟨16, n1, z⟩ i) : i = t := by
  cases hcc : isC (ndAt L t) with
  | true =>
    obtain ⟨ca, hn⟩ := truth_const hG h ht hcc
    have q := run_cc (by decide) ca hz r
    have q2 := run_cc (by decide) q hz r2
    rw [Nf.t16 hn] at q2
    exact q2.eq hG ca
  | false =>
    cases ho : oppB L (ndAt L t) with
    | true =>
      obtain ⟨hr, hn, hb⟩ := opp_root hG h ho
      have q : n1 = (ndAt L t).x := by simpa using opp_eq (h.fc hcc hz) ho ht r
      subst q
      have q2 := truth_eq (hr.pl.fc hr.nc hz) hb (hr.no rfl) r2
      rw [if_pos rfl] at q2
      exact q2.eq hG hn
    | false =>
      have q := truth_eq (h.fc hcc hz) ht ho r
      rw [if_pos rfl] at q
      have n := nn_node hG q
      have op := nn_opp hG q ht
      obtain ⟨_, _, hb, _⟩ := q
      have q2 := opp_eq ⟨hb, hz, n.1⟩ op.1 op.2 r2
      rw [if_pos rfl, n.2.2.2] at q2
      exact q2
theorem tr_xor (hG : Good L) (h : Pl L t) (ht : truthN (ndAt L t) = true) (hz : CN L 0 z) (hc : CN L 1 c) (r : Run L ⟨10, t, c⟩ i) (r2 : Run L ⟨16, t, z⟩ n1) : i = n1 := by
  cases hcc : isC (ndAt L t) with
  | true =>
    obtain ⟨ca, hn⟩ := truth_const hG h ht hcc
    have q := run_cc (by decide) ca hc r
    have q2 := run_cc (by decide) ca hz r2
    rw [Nf.x1 hn] at q
    exact q.eq hG q2
  | false =>
    have e := nx10 (h.fc hcc hc)
    rw [(truth_nb (L := L) ht (o := 10) (by decide)).1, ht] at e
    cases ho : oppB L (ndAt L t) with
    | true =>
      obtain ⟨hr, hn, hb⟩ := opp_root hG h ho
      have q : n1 = (ndAt L t).x := by simpa using opp_eq (h.fc hcc hz) ho ht r2
      rw [ho] at e
      simp at e
      obtain ⟨c2, hc2, r3⟩ := run_num e r
      rw [show opI 10 1 1 = keepsN 10 from by decide] at hc2
      rw [q]
      exact same_keep hG (o := 10) (by decide) hr.pl hc2 r3
    | false =>
      rw [ho] at e
      simp at e
      obtain ⟨c2, hc2, r3⟩ := run_num e r
      rw [hc2.eq hG hz] at r3
      exact r3.eq hG r2
theorem tr_and (hG : Good L) (h : Pl L t) (ht : truthN (ndAt L t) = true) (hc : CN L 1 c) (r : Run L ⟨8, t, c⟩ i) : i = t := by
  cases hcc : isC (ndAt L t) with
  | true =>
    obtain ⟨ca, hn⟩ := truth_const hG h ht hcc
    have q := run_cc (by decide) ca hc r
    rw [Nf.an hn, if_pos (by decide)] at q
    exact q.eq hG ca
  | false =>
    have e := nx8 (h.fc hcc hc)
    rw [(truth_nb (L := L) ht (o := 8) (by decide)).1, ht, show opI 8 1 1 = 1 from by decide] at e
    simp at e
    exact run_is e r
theorem tr_no (hG : Good L) (h : Pl L t) (ht : truthN (ndAt L t) = true) (hc : CN L d c) (h0 : d ≠ 0) (h1 : d ≠ 1) (r : Run L ⟨16, t, c⟩ i) : CN L 0 i := by
  cases hcc : isC (ndAt L t) with
  | true =>
    obtain ⟨ca, hn⟩ := truth_const hG h ht hcc
    have q := run_cc (by decide) ca hc r
    rw [Nf.e0 (cn_in hG hc) h0 h1 hn] at q
    exact q
  | false =>
    cases ho : oppB L (ndAt L t) with
    | true => have q := opp_eq (h.fc hcc hc) ho ht r; rwa [if_neg h0, if_neg h1] at q
    | false => have q := truth_eq (h.fc hcc hc) ht ho r; rwa [if_neg h0, if_neg h1] at q
end
end
end Go.Proofs.YtgkjdmojbndicaaGreatDoor
