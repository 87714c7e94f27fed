/-
  Layer 5: contracts of slices.Clone, and of the program's risingBy at variable.
-/
import Derived.Test.YtlikokeknfhejaaGreatDoorCRight
import Derived.Test.YtlikokeknfhejaaGreatDoorShelf
namespace Go.Proofs.YtlikokeknfhejaaGreatDoor
open Go Go.RowKit Go.Sort Go.Lib

/-! ### A row of one's own, sorted, cut -/
theorem put_row {N ur c n : Nat} {W : World} {U S : List Int} {os : Array Obj} (hrow : W.ownsRow N 3 1 (.slice (some ⟨ur, 0, none⟩) U.length c) U.length (U.map (Value.int .i64))) (hS : S.length = U.length) :
    (grow (putRow (Value.int .i64) (Sort.ahead W n) ur 0 S.toArray) os).ownsRow N 3 1 (.slice (some ⟨ur, 0, none⟩) U.length c) U.length (S.map (Value.int .i64)) ∧
    Turned (fun q => q = ur) W (grow (putRow (Value.int .i64) (Sort.ahead W n) ur 0 S.toArray) os) := by
  have hb : ∀ q, q < W.heap.size → (grow (putRow (Value.int .i64) (Sort.ahead W n) ur 0 S.toArray) os).heap[q]? = (W.heap.modify ur (onCells (putCells (Value.int .i64) 0 S.toArray)))[q]? := by
    intro q hq
    show ((W.heap.modify ur (onCells (putCells (Value.int .i64) 0 S.toArray))) ++ os)[q]? = _
    rw [Array.getElem?_append_left (by simpa using hq)]
  obtain ⟨h1, h2⟩ := hrow
  rcases h2 with ⟨h2, _⟩ | ⟨r, cap, cur, hv, hN, hblk, hle, hmx, hsz, htk⟩
  · cases h2
  · have hr : ur = r := by injection hv with h1 _ _; injection h1 with h1; injection h1
    have hc : c = cap := by injection hv with _ _ h3
    subst hr; subst hc
    have hlt : ur < W.heap.size := (Array.getElem?_eq_some_iff.1 hblk).1
    refine ⟨⟨by simp [hS], Or.inr ⟨ur, c, putCells (Value.int .i64) 0 S.toArray cur, rfl, hN, ?_, hle, hmx, ?_, ?_⟩⟩, ⟨rfl, rfl, rfl, ?_, ?_⟩⟩
    · rw [hb ur hlt, Array.getElem?_modify, if_pos rfl, hblk]; rfl
    · simp [putCells, hsz]
    · apply List.ext_getElem?
      intro i
      rw [List.getElem?_take]
      split
      · rename_i hi
        have hic : i < cur.size := by omega
        simp only [putCells, Array.getElem?_toList, Array.getElem?_mapIdx, Array.getElem?_eq_getElem hic, Option.map_some]
        rw [if_pos ⟨Nat.zero_le _, by simp; omega⟩]
        have hiS : i < S.length := by omega
        simp [List.getElem?_map, List.getElem?_eq_getElem hiS]
      · rename_i hi
        rw [List.getElem?_eq_none (by simp; omega)]
    · show W.heap.size ≤ ((W.heap.modify ur (onCells (putCells (Value.int .i64) 0 S.toArray))) ++ os).size
      simp
    · intro q hq hne
      rw [hb q hq, Array.getElem?_modify, if_neg (fun e => hne e.symm)]
theorem row_holds {N ur c : Nat} {W : World} {U : List Int} (hrow : W.ownsRow N 3 1 (.slice (some ⟨ur, 0, none⟩) U.length c) U.length (U.map (Value.int .i64))) : Holds (Value.int .i64) W ur 0 U.toArray := by
  intro j hj
  have hj' : j < U.length := by simpa using hj
  rcases hrow.2 with ⟨h2, _⟩ | ⟨r, cap, cur, hv, hN, hblk, hle, hmx, hsz, htk⟩
  · cases h2
  · have hr : ur = r := by injection hv with h1 _ _; injection h1 with h1; injection h1
    subst hr
    refine ⟨?_, frozen_of_row hblk _⟩
    rw [Nat.zero_add, cell_of_row _ _ _ _ _ _ hblk]
    have h2 : (U.map (Value.int .i64))[j]? = some (.int .i64 (U.toArray[j]!)) := by
      rw [List.getElem?_map, List.getElem?_eq_getElem hj']
      simp [getElem!_pos, hj']
    rw [← htk, List.getElem?_take, if_pos (by omega)] at h2
    simpa using h2
/-- Of a row that is not empty: its block, and that the capacity is enough. -/
theorem row_some {w : World} {N n c : Nat} {e : TypeId} {a : Option Addr} {xs : List Value} (h : w.ownsRow N e 1 (.slice a n c) n xs) (hn : 0 < n) : ∃ r, a = some ⟨r, 0, none⟩ ∧ N ≤ r ∧ r < w.heap.size ∧ n ≤ c := by
  rcases h.2 with ⟨_, h0⟩ | ⟨r, cap, cur, hv, hN, hblk, hle, hmx, hsz, htk⟩
  · omega
  · injection hv with h1 _ h3
    subst h3
    refine ⟨r, h1, hN, (Array.getElem?_eq_some_iff.1 hblk).1, ?_⟩
    have h4 := congrArg List.length htk
    simp [List.length_take] at h4
    have := h.1
    omega

theorem clone_any (la : Option Addr) (n c : Nat) (L : List Int) (w : World) (hL : IntsAt w la n L) (hn : n ≤ 1000000) (hz : la = none → n = 0 ∧ c = 0) :
    Calls Tryz.prog 121 #[.slice la n c] w fun e w' => ∃ a' c', e = .returned (.slice a' n c') ∧ w'.ownsRow w.heap.size 3 1 (.slice a' n c') n (L.map (Value.int .i64)) ∧ Kept w w' := by
  cases la with
  | none =>
    obtain ⟨rfl, rfl⟩ := hz rfl
    have hnil := List.eq_nil_of_length_eq_zero hL.len
    subst hnil
    refine (Tryz.slices_Clone_int_nil 0 0 w).mono ?_
    rintro e w' ⟨rfl, rfl⟩
    exact ⟨none, 0, rfl, World.ownsRow_nil _ _ _ _, Kept.refl _⟩
  | some ad =>
    by_cases h0 : n = 0
    · subst h0
      have hnil := List.eq_nil_of_length_eq_zero hL.len
      subst hnil
      refine (Tryz.slices_Clone_int_zero ad c w).mono ?_
      rintro e w' ⟨v', rfl, hown, _, hk⟩
      obtain ⟨a', c', rfl⟩ := slice_of_row hown
      exact ⟨a', c', rfl, hown, hk⟩
    · obtain ⟨b, off, hl, _⟩ := hL.at_ (by omega)
      cases hl
      refine (Tryz.slices_Clone_int b off n c L w (by rw [hL.len]; exact Nat.le_refl _) (by omega) (hL.all (by omega))).mono ?_
      rintro e w' ⟨v', rfl, hown, _, hk⟩
      obtain ⟨a', c', rfl⟩ := slice_of_row hown
      refine ⟨a', c', rfl, ?_, hk⟩
      rwa [← hL.len, List.take_length, hL.len] at hown

/-! ### The order by variables -/
def kx (x : Int) : Int := max x (wrap64 (-x))
theorem kx_vr {x : Int} (h : InR x) (hm : x ≠ -9223372036854775808) : kx x = vr x := by
  unfold kx vr wrap64
  unfold InR at h
  omega
def cf (x y : Int) : Int := Lib.compareInt (kx x) (kx y)
theorem ltOf_cf : ltOf cf = fun x y => decide (kx x < kx y) := by
  funext x y
  unfold ltOf cf Lib.compareInt
  by_cases h1 : kx x < kx y
  · simp [h1]
  · by_cases h2 : kx y < kx x <;> simp [h1, h2]
set_option maxHeartbeats 1000000 in
theorem variable_all (x : Int) (w : World) : Calls Tryz.prog 69 #[.int .i64 x] w fun e w' => e = .returned (.int .i64 (kx x)) ∧ w = w' := by
  have HK : Hid (kx x = max x (wrap64 (-x))) := Lib.hid rfl
  generalize kx x = k at *
  go_enter Tryz.func69, Tryz.ntmps69
  go_wp2
  all_goals go_ret
  all_goals
    refine ⟨ret_int ?_, rfl⟩
    rw [HK.out]
    try omega
set_option maxHeartbeats 1000000 in
theorem rise_cmp (x y : Int) (B : Nat) (W : World) (hc : W.cell? ⟨B, 0, none⟩ = some (.func (.func 69) #[] #[])) :
    Calls Tryz.prog 123 #[.int .i64 x, .int .i64 y, .pointer (some ⟨B, 0, none⟩)] W fun e w' => e = .returned (.int .i64 (cf x y)) ∧ ∃ q, w' = W.drewN q := by
  have HCF : Hid (cf x y = Lib.compareInt (kx x) (kx y)) := Lib.hid rfl
  generalize cf x y = r at *
  go_enter Tryz.func123, Tryz.ntmps123
  go_wp2_with fail
  go_quiet (first
    | ((go_at_call 124; exact Calls.quiet_of_same (Tryz.cmp_Compare_int _ _ _)))
    | ((go_at_call 69; exact Calls.quiet_of_same ((variable_all _ _).mono fun _ _ h => ⟨h.1, h.2.symm⟩))))
  go_wp2
  go_ret
  exact ⟨ret_int HCF.out.symm, _, rfl⟩
end Go.Proofs.YtlikokeknfhejaaGreatDoor
