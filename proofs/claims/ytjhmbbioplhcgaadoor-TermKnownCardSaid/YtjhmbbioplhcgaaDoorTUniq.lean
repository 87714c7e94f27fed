/-
  Layer 2, plain: texts of different terms differ.
-/
import Derived.Test.YtjhmbbioplhcgaaDoorTTextM
namespace Go.Proofs.YtjhmbbioplhcgaaDoor
open Go

/-- A digit. -/
def isDig (b : UInt8) : Bool := decide (48 ≤ b.toNat) && decide (b.toNat ≤ 57)
theorem dig_ofNat {i : Nat} (h : i < 10) : isDig (UInt8.ofNat (48 + i)) = true := by
  have : (UInt8.ofNat (48 + i)).toNat = 48 + i := by rw [UInt8.toNat_ofNat']; omega
  unfold isDig
  rw [this]
  simp; omega
theorem decDigits_dig (u : Nat) : ∀ b ∈ Lib.decDigits u, isDig b = true := by
  induction u using Nat.strongRecOn with
  | _ u ih =>
    intro b hb
    rw [Lib.decDigits] at hb
    split at hb
    · rename_i h
      rw [List.mem_singleton.1 hb]; exact dig_ofNat h
    · rcases List.mem_append.1 hb with hb | hb
      · exact ih (u / 10) (by omega) b hb
      · rw [List.mem_singleton.1 hb]; exact dig_ofNat (by omega)
/-- The number that digits stand for. -/
def valOf (l : List UInt8) : Nat := l.foldl (fun n b => n * 10 + (b.toNat - 48)) 0
theorem valOf_dec (u : Nat) : valOf (Lib.decDigits u) = u := by
  induction u using Nat.strongRecOn with
  | _ u ih =>
    rw [Lib.decDigits]
    split
    · rename_i h
      have : (UInt8.ofNat (48 + u)).toNat = 48 + u := by rw [UInt8.toNat_ofNat']; omega
      simp only [valOf, List.foldl_cons, List.foldl_nil, this]
      omega
    · have hi := ih (u / 10) (by omega)
      have : (UInt8.ofNat (48 + u % 10)).toNat = 48 + u % 10 := by rw [UInt8.toNat_ofNat']; omega
      unfold valOf at hi ⊢
      rw [List.foldl_append, hi, List.foldl_cons, List.foldl_nil, this]
      omega
/-- What may stand in a number's text: a digit, or '-'. -/
def isNum (b : UInt8) : Bool := isDig b || decide (b = 45)
theorem itoa_num (n : Int) : ∀ b ∈ Lib.itoa n, isNum b = true := by
  intro b hb
  unfold Lib.itoa at hb
  unfold isNum
  split at hb
  · rcases List.mem_cons.1 hb with hb | hb
    · rw [hb]; simp
    · rw [decDigits_dig _ b hb]; rfl
  · rw [decDigits_dig _ b hb]; rfl
theorem itoa_inj {a b : Int} (h : Lib.itoa a = Lib.itoa b) : a = b := by
  have dd : ∀ u, ∃ c l, Lib.decDigits u = c :: l ∧ isDig c = true := by
    intro u
    cases hd : Lib.decDigits u with
    | nil =>
      exfalso
      rw [Lib.decDigits] at hd
      split at hd
      · cases hd
      · simp at hd
    | cons c l => exact ⟨c, l, rfl, decDigits_dig u c (by rw [hd]; simp)⟩
  unfold Lib.itoa at h
  split at h
  · split at h
    · have := congrArg valOf (List.cons.inj h).2
      rw [valOf_dec, valOf_dec] at this
      omega
    · obtain ⟨c, l, hc, hd⟩ := dd b.toNat
      rw [hc] at h
      have := (List.cons.inj h).1
      rw [← this] at hd
      exact absurd hd (by decide)
  · split at h
    · obtain ⟨c, l, hc, hd⟩ := dd a.toNat
      rw [hc] at h
      have := (List.cons.inj h).1
      rw [this] at hd
      exact absurd hd (by decide)
    · have := congrArg valOf h
      rw [valOf_dec, valOf_dec] at this
      omega
/-- A number's text, and what stands behind it if that is no number's. -/
theorem itoa_split {a b : Int} {x y : List UInt8} (hx : ∀ c l, x = c :: l → isNum c = false) (hy : ∀ c l, y = c :: l → isNum c = false) (h : Lib.itoa a ++ x = Lib.itoa b ++ y) : a = b ∧ x = y := by
  have key : ∀ (l m x y : List UInt8), (∀ b ∈ l, isNum b = true) → (∀ b ∈ m, isNum b = true) → (∀ c r, x = c :: r → isNum c = false) → (∀ c r, y = c :: r → isNum c = false) → l ++ x = m ++ y → l = m ∧ x = y := by
    intro l
    induction l with
    | nil =>
      intro m x y _ hm hx _ h
      cases m with
      | nil => exact ⟨rfl, h⟩
      | cons c m =>
        have := hx c (m ++ y) h
        rw [hm c (by simp)] at this
        cases this
    | cons c l ih =>
      intro m x y hl hm hx hy h
      cases m with
      | nil =>
        have := hy c (l ++ x) h.symm
        rw [hl c (by simp)] at this
        cases this
      | cons d m =>
        have h1 := List.cons.inj h
        obtain ⟨h2, h3⟩ := ih m x y (fun b hb => hl b (by simp [hb])) (fun b hb => hm b (by simp [hb])) hx hy h1.2
        exact ⟨by rw [h1.1, h2], h3⟩
  obtain ⟨h1, h2⟩ := key _ _ x y (itoa_num a) (itoa_num b) hx hy h
  exact ⟨itoa_inj h1, h2⟩

theorem sign_inj {a b : Nat} {x y : List UInt8} (ha : 1 ≤ a ∧ a ≤ 16) (hb : 1 ≤ b ∧ b ≤ 16) (h : signOf (a : Int) ++ 32 :: x = signOf (b : Int) ++ 32 :: y) : a = b ∧ x = y := by
  obtain ⟨ha1, ha2⟩ := ha
  obtain ⟨hb1, hb2⟩ := hb
  unfold signOf at h
  rw [Int.toNat_natCast, Int.toNat_natCast] at h
  have A : a = 1 ∨ a = 2 ∨ a = 3 ∨ a = 4 ∨ a = 5 ∨ a = 6 ∨ a = 7 ∨ a = 8 ∨ a = 9 ∨ a = 10 ∨ a = 11 ∨ a = 12 ∨ a = 13 ∨ a = 14 ∨ a = 15 ∨ a = 16 := by omega
  have B : b = 1 ∨ b = 2 ∨ b = 3 ∨ b = 4 ∨ b = 5 ∨ b = 6 ∨ b = 7 ∨ b = 8 ∨ b = 9 ∨ b = 10 ∨ b = 11 ∨ b = 12 ∨ b = 13 ∨ b = 14 ∨ b = 15 ∨ b = 16 := by omega
  rcases A with rfl | rfl | rfl | rfl | rfl | rfl | rfl | rfl | rfl | rfl | rfl | rfl | rfl | rfl | rfl | rfl <;>
    rcases B with rfl | rfl | rfl | rfl | rfl | rfl | rfl | rfl | rfl | rfl | rfl | rfl | rfl | rfl | rfl | rfl <;>
    simp_all

theorem may_f1 {s : Nat} {d : Nd} (h : mayB s d = true) (hk : d.k = 1) : d = ⟨1, d.n, 0, 0, 0, 0⟩ := by
  simp [mayB, hk] at h
  exact Nd.ext' hk rfl h.1.1.1 h.1.1.2 h.1.2 h.2
theorem may_f2 {s : Nat} {d : Nd} (h : mayB s d = true) (hk : d.k = 2) : d = ⟨2, d.n, 0, 0, 0, 0⟩ := by
  simp [mayB, hk] at h
  exact Nd.ext' hk rfl h.1.1.1.1 h.1.1.1.2 h.1.1.2 h.1.2
theorem may_f3 {s : Nat} {d : Nd} (h : mayB s d = true) (hk : d.k = 3) : d = ⟨3, d.n, d.a, 0, 0, d.y⟩ := by
  simp [mayB, hk] at h
  exact Nd.ext' hk rfl rfl h.1.1.1.1 h.1.1.1.2 rfl
theorem may_f4 {s : Nat} {d : Nd} (h : mayB s d = true) (hk : d.k = 4) : d = ⟨4, 0, 0, d.o, d.x, d.y⟩ := by
  simp [mayB, hk] at h
  exact Nd.ext' hk h.1.1.1.1.1 h.1.1.1.1.2 rfl rfl rfl
/-- What a text begins with, by its node's kind. -/
theorem text_head {T : List (List UInt8)} {d : Nd} (hk : d.k = 1 ∨ d.k = 2 ∨ d.k = 3 ∨ d.k = 4) : ∃ c l, text1 T d = c :: l ∧ (d.k = 1 → isNum c = true) ∧ (d.k = 2 → c = 115) ∧ (d.k = 3 → c = 97) ∧ (d.k = 4 → c = 40) := by
  rcases hk with h | h | h | h
  · cases hi : Lib.itoa d.n with
    | nil =>
      exfalso
      unfold Lib.itoa at hi
      split at hi
      · cases hi
      · rw [Lib.decDigits] at hi
        split at hi
        · cases hi
        · simp at hi
    | cons c l =>
      have hc := itoa_num d.n c (by rw [hi]; simp)
      exact ⟨c, l, by simp [text1, h, mark0, hi], fun _ => hc, by omega, by omega, by omega⟩
  · exact ⟨115, Lib.itoa d.n, by simp [text1, h, mark0], by omega, fun _ => rfl, by omega, by omega⟩
  · exact ⟨97, _, by simp only [text1, h, mark0, if_true]; rfl, by omega, by omega, fun _ => rfl, by omega⟩
  · exact ⟨40, _, by simp only [text1, h, mark0]; rfl, by omega, by omega, by omega, fun _ => rfl⟩
/-- A text, and what stands behind it if that is no number's, tells its term. -/
theorem text_split {L : List Nd} (hG : Good L) : ∀ i j, i < L.length → j < L.length → ∀ x y : List UInt8, (∀ c l, x = c :: l → isNum c = false) → (∀ c l, y = c :: l → isNum c = false) → textOf L (i : Int) ++ x = textOf L (j : Int) ++ y → i = j ∧ x = y := by
  intro i
  induction i using Nat.strongRecOn with
  | _ i ih =>
    intro j hi hj x y hx hy h
    rw [textOf_eq L hG i hi, textOf_eq L hG j hj] at h
    have mi := hG.may i hi
    have mj := hG.may j hj
    have pi := may_parts mi
    have pj := may_parts mj
    have fin : L[i] = L[j] → i = j := fun e => by
      have hp := List.pairwise_iff_getElem.1 hG.nodup
      rcases Nat.lt_trichotomy i j with h | h | h
      · exact absurd e (hp i j hi hj h)
      · exact h
      · exact absurd e.symm (hp j i hj hi h)
    obtain ⟨d, hd⟩ : ∃ d, L[i] = d := ⟨_, rfl⟩
    obtain ⟨e, he⟩ : ∃ e, L[j] = e := ⟨_, rfl⟩
    rw [hd] at h mi pi fin
    rw [he] at h mj pj fin
    have kd := may_kind mi
    have ke := may_kind mj
    have hk : d.k = e.k := by
      obtain ⟨c, l, h1, a1, a2, a3, a4⟩ := text_head (T := texts L) kd
      obtain ⟨c', l', h2, b1, b2, b3, b4⟩ := text_head (T := texts L) ke
      rw [h1, h2] at h
      have hc : c = c' := (List.cons.inj h).1
      subst hc
      rcases kd with k | k | k | k <;> rcases ke with k' | k' | k' | k' <;> rw [k, k']
      all_goals first
        | (exfalso; have u := a1 k; rw [b2 k'] at u; exact absurd u (by decide))
        | (exfalso; have u := a1 k; rw [b3 k'] at u; exact absurd u (by decide))
        | (exfalso; have u := a1 k; rw [b4 k'] at u; exact absurd u (by decide))
        | (exfalso; have u := b1 k'; rw [a2 k] at u; exact absurd u (by decide))
        | (exfalso; have u := b1 k'; rw [a3 k] at u; exact absurd u (by decide))
        | (exfalso; have u := b1 k'; rw [a4 k] at u; exact absurd u (by decide))
        | (exfalso; have u := (a2 k).symm.trans (b3 k'); exact absurd u (by decide))
        | (exfalso; have u := (a2 k).symm.trans (b4 k'); exact absurd u (by decide))
        | (exfalso; have u := (a3 k).symm.trans (b2 k'); exact absurd u (by decide))
        | (exfalso; have u := (a3 k).symm.trans (b4 k'); exact absurd u (by decide))
        | (exfalso; have u := (a4 k).symm.trans (b2 k'); exact absurd u (by decide))
        | (exfalso; have u := (a4 k).symm.trans (b3 k'); exact absurd u (by decide))
    have part : ∀ p q : Int, p ∈ partsOf d → q ∈ partsOf e → ∀ u v : List UInt8, (∀ c l, u = c :: l → isNum c = false) → (∀ c l, v = c :: l → isNum c = false) → tAt (texts L) p ++ u = tAt (texts L) q ++ v → p = q ∧ u = v := by
      intro p q hp hq u v hu hv huv
      obtain ⟨p0, p1⟩ := pi p hp
      obtain ⟨q0, q1⟩ := pj q hq
      obtain ⟨p', rfl⟩ : ∃ p' : Nat, p = p' := ⟨p.toNat, by omega⟩
      obtain ⟨q', rfl⟩ : ∃ q' : Nat, q = q' := ⟨q.toNat, by omega⟩
      obtain ⟨h1, h2⟩ := ih p' (by omega) q' (by omega) (by omega) u v hu hv huv
      exact ⟨by rw [h1], h2⟩
    have lit : ∀ (a : UInt8) (r : List UInt8), isNum a = false → ∀ c l, a :: r = c :: l → isNum c = false := fun a r ha c l e => by rw [← (List.cons.inj e).1]; exact ha
    rcases kd with k | k | k | k
    · have k' := hk.symm.trans k
      simp only [text1, mark0, k, k', if_true] at h
      simp at h
      obtain ⟨h1, h2⟩ := itoa_split hx hy h
      refine ⟨fin ?_, h2⟩
      rw [may_f1 mi k, may_f1 mj k', h1]
    · have k' := hk.symm.trans k
      simp only [text1, mark0, k, k'] at h
      simp at h
      obtain ⟨h1, h2⟩ := itoa_split hx hy h
      refine ⟨fin ?_, h2⟩
      rw [may_f2 mi k, may_f2 mj k', h1]
    · have k' := hk.symm.trans k
      simp only [text1, mark0, mark1, k, k', if_true] at h
      simp at h
      obtain ⟨h1, h2⟩ := itoa_split (lit 118 _ (by decide)) (lit 118 _ (by decide)) h
      have h2 := (List.cons.inj h2).2
      obtain ⟨h3, h4⟩ := itoa_split (lit 91 _ (by decide)) (lit 91 _ (by decide)) h2
      have h4 := (List.cons.inj h4).2
      obtain ⟨h5, h6⟩ := part d.y e.y (by simp [partsOf, k]) (by simp [partsOf, k']) _ _ (lit 93 _ (by decide)) (lit 93 _ (by decide)) h4
      refine ⟨fin ?_, (List.cons.inj h6).2⟩
      rw [may_f3 mi k, may_f3 mj k', h1, h3, h5]
    · have k' := hk.symm.trans k
      simp only [text1, mark0, mark1, mark2, k, k'] at h
      simp at h
      obtain ⟨h1, h2⟩ := part d.x e.x (by simp [partsOf, k]) (by simp [partsOf, k']) _ _ (lit 32 _ (by decide)) (lit 32 _ (by decide)) h
      have h2 := (List.cons.inj h2).2
      obtain ⟨o1, o2⟩ := may_op mi k
      obtain ⟨o3, o4⟩ := may_op mj k'
      have ed : d.o = ((d.o.toNat : Nat) : Int) := by omega
      have ee : e.o = ((e.o.toNat : Nat) : Int) := by omega
      rw [ed, ee] at h2
      obtain ⟨h3, h4⟩ := sign_inj (by omega) (by omega) h2
      obtain ⟨h5, h6⟩ := part d.y e.y (by simp [partsOf, k]) (by simp [partsOf, k']) _ _ (lit 41 _ (by decide)) (lit 41 _ (by decide)) h4
      refine ⟨fin ?_, (List.cons.inj h6).2⟩
      have ho : d.o = e.o := by omega
      rw [may_f4 mi k, may_f4 mj k', ho, h1, h5]
theorem text_inj {L : List Nd} (hG : Good L) {i j : Nat} (hi : i < L.length) (hj : j < L.length) (h : textOf L (i : Int) = textOf L (j : Int)) : i = j :=
  (text_split hG i j hi hj [] [] (by simp) (by simp) (by rw [h])).1
end Go.Proofs.YtjhmbbioplhcgaaDoor
