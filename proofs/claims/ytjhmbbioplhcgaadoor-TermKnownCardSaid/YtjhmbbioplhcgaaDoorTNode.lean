/-
  Layer 2: contracts of Deep, Node and New.
-/
import Derived.Test.YtjhmbbioplhcgaaDoorTHas
namespace Go.Proofs.YtjhmbbioplhcgaaDoor
open Go Go.RowKit

def deepI (L : List Nd) (i : Int) : Int := if hasB L.length i then ((kAt (kps L) i).deep : Int) else 0
def longI (L : List Nd) (i : Int) : Int := if hasB L.length i then ((kAt (kps L) i).long : Int) else 0
def nd0 : Nd := ⟨0, 0, 0, 0, 0, 0⟩
def nodeAt (L : List Nd) (i : Int) : Nd := if hasB L.length i then L.getD i.toNat nd0 else nd0

theorem kAt_get {L : List Nd} {k : Nat} (h : k < L.length) : (kps L)[k]? = some (kAt (kps L) (k : Int)) := by
  have hl : k < (kps L).length := by rw [kps_length]; exact h
  unfold kAt
  rw [Int.toNat_natCast, List.getD_eq_getElem?_getD, List.getElem?_eq_getElem hl]
  rfl
theorem kps_d (L : List Nd) : (kps L).map Kp.d = L := by
  refine snocInd (p := fun L => (kps L).map Kp.d = L) rfl (fun L d ih => ?_) L
  rw [kps_snoc, List.map_append, ih]
  rfl
theorem kAt_d {L : List Nd} {k : Nat} (h : k < L.length) : (kAt (kps L) (k : Int)).d = L.getD k nd0 := by
  have h1 := kAt_get h
  have h2 := congrArg (fun l => l[k]?) (kps_d L)
  simp only [List.getElem?_map, h1, Option.map_some] at h2
  rw [List.getD_eq_getElem?_getD, ← h2]
  rfl

set_option maxHeartbeats 1000000 in
theorem deep_any {B g m c : Nat} {a : Option Addr} {L : List Nd} {w : World} (h : GraphAt B w g m a c L) (i : Int) :
    Calls Tryd.prog 19 #[.pointer (some ⟨g, 0, none⟩), .int .i64 i] w fun e w' => e = .returned (.int .i64 (deepI L i)) ∧ w = w' := by
  have hc := h.cell0
  by_cases hb : hasB L.length i = true
  · obtain ⟨h0, h1⟩ := (hasB_iff _ _).1 hb
    obtain ⟨k, rfl⟩ : ∃ k : Nat, i = k := ⟨i.toNat, by omega⟩
    have hk : k < L.length := by omega
    obtain ⟨r, rfl, _, _, _, hcap, hmx, hcell⟩ := h.rowAt (by omega)
    have hd := hcell k _ (kAt_get hk) 6 _ rfl
    have HE := Lib.hid (show deepI L (k : Int) = ((kAt (kps L) (k : Int)).deep : Int) by unfold deepI; rw [if_pos hb])
    generalize (kAt (kps L) (k : Int)).deep = dd at hd HE
    generalize hn : L.length = n at *
    unfold maxLen at hmx
    have HB := Lib.hid hb; clear hb hcell
    have HN := Lib.hid hn; clear hn
    clear h
    go_enter Tryd.func19, Tryd.ntmps19
    go_wp2_with ((go_at_call 36; refine (has_cell _ _ _ _ _ _ hc).mono ?_; rintro e w' ⟨rfl, rfl⟩; rw [HB.out]))
    go_ret
    exact ⟨ret_i HE.out.symm, rfl⟩
  · have hb' : hasB L.length i = false := by cases hq : hasB L.length i with | false => rfl | true => exact absurd hq hb
    have HE := Lib.hid (show deepI L i = 0 by unfold deepI; rw [if_neg hb])
    have HB := Lib.hid hb'; clear hb hb' h
    go_enter Tryd.func19, Tryd.ntmps19
    go_wp2_with ((go_at_call 36; refine (has_cell _ _ _ _ _ _ hc).mono ?_; rintro e w' ⟨rfl, rfl⟩; rw [HB.out]))
    go_ret
    exact ⟨ret_i HE.out.symm, rfl⟩
theorem deep_nil (i : Int) (w : World) :
    Calls Tryd.prog 19 #[.pointer none, .int .i64 i] w fun e w' => e = .returned (.int .i64 0) ∧ w = w' := by
  go_enter Tryd.func19, Tryd.ntmps19
  go_wp2_with ((go_at_call 36; refine (has_nil _ _).mono ?_; rintro e w' ⟨rfl, rfl⟩))
  go_ret
  exact ⟨rfl, rfl⟩

set_option maxHeartbeats 1000000 in
theorem node_any {B g m c : Nat} {a : Option Addr} {L : List Nd} {w : World} (h : GraphAt B w g m a c L) (i : Int) :
    Calls Tryd.prog 16 #[.pointer (some ⟨g, 0, none⟩), .int .i64 i] w fun e w' => e = .returned (.tuple #[(nodeAt L i).val, .bool (hasB L.length i)]) ∧ Kept w w' := by
  have hc := h.cell0
  by_cases hb : hasB L.length i = true
  · obtain ⟨h0, h1⟩ := (hasB_iff _ _).1 hb
    obtain ⟨k, rfl⟩ : ∃ k : Nat, i = k := ⟨i.toNat, by omega⟩
    have hk : k < L.length := by omega
    obtain ⟨r, rfl, _, hrl, _, hcap, hmx, hcell⟩ := h.rowAt (by omega)
    have hq := hcell k _ (kAt_get hk)
    have hdd := kAt_d hk
    have hc0 := hq 0 _ rfl
    have hc1 := hq 1 _ rfl
    have hc2 := hq 2 _ rfl
    have hc3 := hq 3 _ rfl
    have hc4 := hq 4 _ rfl
    have hc5 := hq 5 _ rfl
    simp only [Nat.add_zero] at hc0
    have hne : g ≠ w.heap.size := Nat.ne_of_lt h.gLt
    have hne0 : r ≠ w.heap.size := Nat.ne_of_lt hrl
    have hgl := h.gLt
    have HE := Lib.hid (show nodeAt L (k : Int) = (kAt (kps L) (k : Int)).d by unfold nodeAt; rw [if_pos hb, Int.toNat_natCast, hdd])
    clear hdd hq hcell
    generalize (kAt (kps L) (k : Int)).d = d at hc0 hc1 hc2 hc3 hc4 hc5 HE
    generalize hn : L.length = n at *
    unfold maxLen at hmx
    have HB := Lib.hid hb; clear hb
    have HN := Lib.hid hn; clear hn
    clear h
    go_enter Tryd.func16, Tryd.ntmps16
    go_wp2_with ((go_at_call 36; refine (has_cell _ _ _ _ _ _ ((Kept.alloc (Kept.refl _) _).cell hc)).mono ?_; rintro e w' ⟨rfl, rfl⟩; rw [HB.out]))
    rw [HE.out, HB.out]
    exact bodyPost_ret (v := .tuple #[d.val, .bool true]) (by simp [results, Tryd.results16, go_sem, Nd.val]) rfl ⟨rfl, (Kept.refl _).alloc _⟩
  · have hb' : hasB L.length i = false := by cases hq : hasB L.length i with | false => rfl | true => exact absurd hq hb
    have HE := Lib.hid (show nodeAt L i = nd0 by unfold nodeAt; rw [if_neg hb])
    have HB := Lib.hid hb'; clear hb hb' h
    go_enter Tryd.func16, Tryd.ntmps16
    go_wp2_with ((go_at_call 36; refine (has_cell _ _ _ _ _ _ ((Kept.alloc (Kept.refl _) _).cell hc)).mono ?_; rintro e w' ⟨rfl, rfl⟩; rw [HB.out]))
    rw [HE.out, HB.out]
    exact bodyPost_ret (v := .tuple #[nd0.val, .bool false]) (by simp [results, Tryd.results16, go_sem, Nd.val, nd0]) rfl ⟨rfl, (Kept.refl _).alloc _⟩
theorem node_nil (i : Int) (w : World) :
    Calls Tryd.prog 16 #[.pointer none, .int .i64 i] w fun e w' => e = .returned (.tuple #[nd0.val, .bool false]) ∧ Kept w w' := by
  go_enter Tryd.func16, Tryd.ntmps16
  go_wp2_with ((go_at_call 36; refine (has_nil _ _).mono ?_; rintro e w' ⟨rfl, rfl⟩))
  exact bodyPost_ret (v := .tuple #[nd0.val, .bool false]) (by simp [results, Tryd.results16, go_sem, Nd.val, nd0]) rfl ⟨rfl, (Kept.refl _).alloc _⟩

set_option maxHeartbeats 1000000 in
theorem new_any (B : Nat) (w : World) (hB : B ≤ w.heap.size) :
    Calls Tryd.prog 11 #[] w fun e w' => ∃ g m, e = .returned (.pointer (some ⟨g, 0, none⟩)) ∧ GraphAt B w' g m none 0 [] ∧ Kept w w' ∧ (∀ b, Takes g m none b → w.heap.size ≤ b) := by
  have hmm := @run_makeMap Tryd.prog
  go_enter Tryd.func11, Tryd.ntmps11
  go_wp2
  go_ret
  refine ⟨w.heap.size + 1, w.heap.size, by simp, ?_, ((Kept.refl _).alloc _).alloc _, ?_⟩
  · have hm := (World.ownsMap_made w Tryd.prog 34 (plainElem (H := Unit) Tryd.prog 30)).alloc (.cells #[.slice none 0 0, .map (some w.heap.size)] 76)
    have hb := (MapKept.heap_alloc (w.alloc (.map #[] 0)) (.cells #[.slice none 0 0, .map (some w.heap.size)] 76)).1
    refine ⟨?_, World.ownsRow_nil _ _ _ _, hm, fun x hx => (by cases hx), ⟨by omega, hB⟩, good_nil⟩
    simpa using hb
  · rintro b (rfl | rfl | ⟨x, hx, _⟩)
    · omega
    · omega
    · cases hx
end Go.Proofs.YtjhmbbioplhcgaaDoor
