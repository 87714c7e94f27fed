/-
  Layer 5, plain: the clauses of a formula in another order, their literals turned about, some twice. Nothing of the program.
-/
import Derived.Test.YtemijkfgnedlnaaDoorCUnit
namespace Go.Proofs.YtemijkfgnedlnaaDoor

/-- What the statement makes of the i-th place. -/
def ordAt (C : List (List Int)) (t i : Nat) : List (List Int) := match C[(i + t) % C.length]? with
  | some c => c.reverse :: if i % 3 = 0 then [c] else []
  | none => []
def ordL (C : List (List Int)) (t i : Nat) : List (List Int) := (List.range i).flatMap (ordAt C t)
theorem ordL_zero (C : List (List Int)) (t : Nat) : ordL C t 0 = [] := rfl
theorem ordL_succ (C : List (List Int)) (t i : Nat) : ordL C t (i + 1) = ordL C t i ++ ordAt C t i := by
  unfold ordL; rw [List.range_succ, List.flatMap_append]; simp
theorem ordAt_some {C : List (List Int)} {t i : Nat} {c : List Int} (h : C[(i + t) % C.length]? = some c) : ordAt C t i = c.reverse :: if i % 3 = 0 then [c] else [] := by
  unfold ordAt; rw [h]
theorem ordAt_len (C : List (List Int)) (t i : Nat) : (ordAt C t i).length ≤ 2 := by
  unfold ordAt
  split
  · split <;> simp
  · simp
theorem ordL_len (C : List (List Int)) (t i : Nat) : (ordL C t i).length ≤ 2 * i := by
  induction i with
  | zero => simp [ordL]
  | succ i ih => rw [ordL_succ, List.length_append]; have := ordAt_len C t i; omega
theorem mem_ordL {C : List (List Int)} {t i : Nat} {d : List Int} (h : d ∈ ordL C t i) : ∃ c ∈ C, d.length = c.length ∧ ∀ x, x ∈ d ↔ x ∈ c := by
  unfold ordL at h
  obtain ⟨j, _, hd⟩ := List.mem_flatMap.1 h
  unfold ordAt at hd
  split at hd
  · rename_i c hc
    refine ⟨c, List.mem_of_getElem? hc, ?_⟩
    rcases List.mem_cons.1 hd with rfl | hd
    · exact ⟨List.length_reverse, fun x => List.mem_reverse⟩
    · split at hd
      · rw [List.mem_singleton.1 hd]; exact ⟨rfl, fun x => Iff.rfl⟩
      · cases hd
  · cases hd
theorem ord_all {C : List (List Int)} (t : Nat) {c : List Int} (h : c ∈ C) : c.reverse ∈ ordL C t C.length := by
  obtain ⟨p, hp⟩ := List.mem_iff_getElem?.1 h
  have hl := (List.getElem?_eq_some_iff.1 hp).1
  have hn : 0 < C.length := by omega
  have hm := Nat.mod_lt t hn
  have hj : ∃ j, j < C.length ∧ (j + t) % C.length = p := by
    refine ⟨(p + (C.length - t % C.length)) % C.length, Nat.mod_lt _ hn, ?_⟩
    rw [Nat.mod_add_mod]
    have e : p + (C.length - t % C.length) + t = p + C.length * (1 + t / C.length) := by
      have := Nat.div_add_mod t C.length
      rw [Nat.mul_add, Nat.mul_one]
      omega
    rw [e, Nat.add_mul_mod_self_left, Nat.mod_eq_of_lt hl]
  obtain ⟨j, hj1, hj2⟩ := hj
  unfold ordL
  refine List.mem_flatMap.2 ⟨j, List.mem_range.2 hj1, ?_⟩
  rw [ordAt_some (by rw [hj2]; exact hp)]
  simp
theorem ord_alike (C : List (List Int)) (t : Nat) : Alike C (ordL C t C.length) := by
  refine ⟨fun c hc => ⟨c.reverse, ord_all t hc, fun x => List.mem_reverse.symm⟩, fun d hd => ?_⟩
  obtain ⟨c, hc, _, hx⟩ := mem_ordL hd
  exact ⟨c, hc, hx⟩
theorem Alike.symm {C D : List (List Int)} (h : Alike C D) : Alike D C := ⟨fun d hd => h.2 d hd, fun c hc => h.1 c hc⟩
theorem hc_alike (m : List Bool) {c d : List Int} (h : ∀ x, x ∈ c ↔ x ∈ d) : hc m c = hc m d := by
  unfold hc
  rw [Bool.eq_iff_iff, List.any_eq_true, List.any_eq_true]
  constructor
  · rintro ⟨x, hx, hh⟩; exact ⟨x, (h x).1 hx, hh⟩
  · rintro ⟨x, hx, hh⟩; exact ⟨x, (h x).2 hx, hh⟩
theorem hf_alike (m : List Bool) {C D : List (List Int)} (h : Alike C D) : hf m C = hf m D := by
  unfold hf
  rw [Bool.eq_iff_iff, List.all_eq_true, List.all_eq_true]
  constructor
  · intro k d hd
    obtain ⟨c, hc', hx⟩ := h.2 d hd
    rw [hc_alike m hx]; exact k c hc'
  · intro k c hc'
    obtain ⟨d, hd, hx⟩ := h.1 c hc'
    rw [hc_alike m hx]; exact k d hd
end Go.Proofs.YtemijkfgnedlnaaDoor
