/-
  Layer 5: the chapter's examples: works answers true.
-/
import Derived.Test.YtlikokeknfhejaaGreatDoorCUnits
import Derived.Test.YtlikokeknfhejaaGreatDoorCPut
import Derived.Test.YtlikokeknfhejaaGreatDoorCResolve
import Derived.Test.YtlikokeknfhejaaGreatDoorCRef
namespace Go.Proofs.YtlikokeknfhejaaGreatDoor
open Go Go.RowKit Go.Lib

theorem ints_lit {w : World} {b : Nat} {L : List Int} {cs : Array Value} (h : w.heap[b]? = some (.cells cs 3 (0, 0))) (hcs : cs.toList = L.map (Value.int .i64)) (hin : ∀ x ∈ L, InR x) : IntsAt w (some ⟨b, 0, none⟩) L.length L := by
  refine ⟨rfl, hin, fun _ => ⟨b, 0, rfl, fun j x hx => ?_⟩⟩
  rw [Nat.zero_add, cell_of_row _ _ _ _ _ _ h, ← Array.getElem?_toList, hcs, List.getElem?_map, hx]; rfl
theorem clean_ex1 : CleanRes [3, -1, 3] (some [-1, 3]) := by
  refine ⟨?_, ?_, ?_⟩
  · rintro ⟨x, hx, h⟩
    simp only [List.mem_cons, List.not_mem_nil, or_false] at hx h
    omega
  · unfold SortedV; simp [vr]; omega
  · intro x; simp only [List.mem_cons, List.not_mem_nil, or_false]; omega
theorem clean_ex2 : CleanRes [1, -1] none := ⟨1, by simp, Or.inr (Or.inr (by simp))⟩
theorem clean_ex3 : CleanRes [2, 3] (some [2, 3]) := by
  refine ⟨?_, ?_, ?_⟩
  · rintro ⟨x, hx, h⟩
    simp only [List.mem_cons, List.not_mem_nil, or_false] at hx h
    omega
  · unfold SortedV; simp [vr]; omega
  · intro x; simp only [List.mem_cons, List.not_mem_nil, or_false]
abbrev exC : List (List Int) := [[1], [-1, 2], [-2, 3, 4]]
theorem units_ex : UnitsRes exC (some [1, 2]) := by
  refine ⟨[1, 2], ?_, ?_, ?_, fun x => Iff.rfl⟩
  · have h1 : Reach exC ([] ++ [1]) := .step .nil (c := [1]) (by simp) ⟨by simp, by simp, by simp, by simp⟩
    exact .step h1 (c := [-1, 2]) (by simp) ⟨by simp, by simp, by simp, by simp⟩
  · intro c hc
    simp only [List.mem_cons, List.not_mem_nil, or_false] at hc
    rcases hc with rfl | rfl | rfl
    · exact Or.inl ⟨1, by simp, by simp⟩
    · exact Or.inl ⟨2, by simp, by simp⟩
    · exact Or.inr ⟨3, by simp, 4, by simp, by simp, by simp, by simp⟩
  · unfold SortedV; simp [vr]; omega
theorem noZero_ex : NoZero exC := by
  intro c hc x hx
  simp only [List.mem_cons, List.not_mem_nil, or_false] at hc
  rcases hc with rfl | rfl | rfl <;> (simp only [List.mem_cons, List.not_mem_nil, or_false] at hx; omega)
theorem res_ex : ResOk [1, 2] [-1, 3] 1 := ⟨by decide, by simp, by simp, by simp, by simp⟩
theorem both_ex : both [1, 2] [-1, 3] 1 = [2, 3] := rfl
theorem put_ex : putT 2 [[1, -2]] = [112, 32, 99, 110, 102, 32, 50, 32, 49, 10, 49, 32, 45, 50, 32, 48, 10] := by decide +kernel
theorem cls_lit {w : World} {b : Nat} {cs : Array Value} {t : TypeId} {C : List (List Int)} (h : w.heap[b]? = some (.cells cs t (0, 0))) (hc : ∀ (j : Nat) (c : List Int), C[j]? = some c → ∃ a k cap, cs[j]? = some (Value.slice a k cap) ∧ IntsAt w a k c ∧ (a = none → k = 0 ∧ cap = 0) ∧ k ≤ cap ∧ cap ≤ 9223372036854775807) : ClsAt w (some ⟨b, 0, none⟩) C.length C := by
  refine ⟨rfl, fun _ => ⟨b, 0, rfl, fun j c hj => ?_⟩⟩
  obtain ⟨a, k, cap, h1, h2⟩ := hc j c hj
  exact ⟨a, k, cap, by rw [Nat.zero_add, cell_of_row _ _ _ _ _ _ h]; exact h1, h2⟩
abbrev xA : Obj := .cells #[.int .i64 1] 3
abbrev xB : Obj := .cells #[.int .i64 (-1), .int .i64 2] 3
abbrev xC : Obj := .cells #[.int .i64 (-2), .int .i64 3, .int .i64 4] 3
abbrev xD (n : Nat) : Obj := .cells #[.slice (some ⟨n, 0, none⟩) 1 1, .slice (some ⟨n + 1, 0, none⟩) 2 2, .slice (some ⟨n + 1 + 1, 0, none⟩) 3 3] 22
theorem inr_lit {L : List Int} (h : L.all fun x => decide (-9223372036854775808 ≤ x ∧ x ≤ 9223372036854775807) = true) : ∀ x ∈ L, InR x := fun x hx => by
  have := List.all_eq_true.1 h x hx
  simpa [InR] using this
theorem exC_at (w : World) : ClsAt ((((w.alloc xA).alloc xB).alloc xC).alloc (xD w.heap.size)) (some ⟨w.heap.size + 1 + 1 + 1, 0, none⟩) 3 exC := by
  have s1 : (w.alloc xA).heap.size = w.heap.size + 1 := by simp
  have s2 : ((w.alloc xA).alloc xB).heap.size = w.heap.size + 1 + 1 := by simp
  have s3 : (((w.alloc xA).alloc xB).alloc xC).heap.size = w.heap.size + 1 + 1 + 1 := by simp
  have bA := (MapKept.heap_alloc w xA).1
  have bB := (MapKept.heap_alloc (w.alloc xA) xB).1
  have bC := (MapKept.heap_alloc ((w.alloc xA).alloc xB) xC).1
  have bD := (MapKept.heap_alloc (((w.alloc xA).alloc xB).alloc xC) (xD w.heap.size)).1
  rw [s1] at bB
  rw [s2] at bC
  rw [s3] at bD
  have k3 := (Kept.refl (((w.alloc xA).alloc xB).alloc xC)).alloc (xD w.heap.size)
  have k2 := ((Kept.refl ((w.alloc xA).alloc xB)).alloc xC).alloc (xD w.heap.size)
  have k1 := (((Kept.refl (w.alloc xA)).alloc xB).alloc xC).alloc (xD w.heap.size)
  refine cls_lit (C := exC) bD (fun j c hj => ?_)
  match j, hj with
  | 0, hj =>
    obtain rfl : [1] = c := by simpa using hj
    exact ⟨_, 1, 1, rfl, ints_lit (L := [1]) (k1.row bA) rfl (inr_lit (by decide)), (fun h => by cases h), by decide, by decide⟩
  | 1, hj =>
    obtain rfl : [-1, 2] = c := by simpa using hj
    exact ⟨_, 2, 2, rfl, ints_lit (L := [-1, 2]) (k2.row bB) rfl (inr_lit (by decide)), (fun h => by cases h), by decide, by decide⟩
  | 2, hj =>
    obtain rfl : [-2, 3, 4] = c := by simpa using hj
    exact ⟨_, 3, 3, rfl, ints_lit (L := [-2, 3, 4]) (k3.row bC) rfl (inr_lit (by decide)), (fun h => by cases h), by decide, by decide⟩
abbrev yA : Obj := .cells #[.int .i64 1, .int .i64 (-2)] 3
abbrev yD (n : Nat) : Obj := .cells #[.slice (some ⟨n, 0, none⟩) 2 2] 22
theorem exP_at (w : World) : ClsAt ((w.alloc yA).alloc (yD w.heap.size)) (some ⟨w.heap.size + 1, 0, none⟩) 1 [[1, -2]] := by
  have s1 : (w.alloc yA).heap.size = w.heap.size + 1 := by simp
  have bA := (MapKept.heap_alloc w yA).1
  have bD := (MapKept.heap_alloc (w.alloc yA) (yD w.heap.size)).1
  rw [s1] at bD
  have k1 := (Kept.refl (w.alloc yA)).alloc (yD w.heap.size)
  refine cls_lit (C := [[1, -2]]) bD (fun j c hj => ?_)
  match j, hj with
  | 0, hj =>
    obtain rfl : [1, -2] = c := by simpa using hj
    exact ⟨_, 2, 2, rfl, ints_lit (L := [1, -2]) (k1.row bA) rfl (inr_lit (by decide)), (fun h => by cases h), by decide, by decide⟩
theorem bytes_row {w : World} {B n c : Nat} {e : TypeId} {a : Option Addr} {L : List UInt8} (h : w.ownsRow B e 1 (.slice a n c) n (byteCells L)) (hn : n = L.length) (h0 : 0 < n) : ∃ r, a = some ⟨r, 0, none⟩ ∧ ∀ j (hj : j < L.length), w.cell? ⟨r, j, none⟩ = some (.int .u8 (L[j].toNat : Int)) := by
  obtain ⟨_, h2⟩ := h
  rcases h2 with ⟨_, h0'⟩ | ⟨r, cap', cur, hv, hB, hblk, hle, hmx, hsz, htk⟩
  · omega
  · injection hv with ha _ _
    refine ⟨r, ha, fun j hj => ?_⟩
    rw [cell_of_row _ _ _ _ _ _ hblk]
    have hf : (byteCells L)[j]? = some (.int .u8 (L[j].toNat : Int)) := by
      unfold byteCells
      rw [List.getElem?_map, List.getElem?_eq_getElem hj]; rfl
    rw [← htk, List.getElem?_take] at hf
    split at hf
    · simpa using hf
    · cases hf

set_option maxRecDepth 100000 in
set_option maxHeartbeats 8000000 in
theorem works_any (w : World) (hW : Laid w) : Calls Tryz.prog 12 #[] w fun e w' => e = .returned (.bool true) ∧ Kept w w' := by
  have HW := Lib.hid hW; clear hW
  go_enter Tryz.func12, Tryz.ntmps12
  -- Clean(3 -1 3)
  have HI1 := Lib.hid (ints_lit (L := [3, -1, 3]) (MapKept.heap_alloc w (.cells #[.int .i64 3, .int .i64 (-1), .int .i64 3] 3)).1 rfl (inr_lit (by decide)))
  have HK1 := Lib.hid ((Kept.refl w).alloc (.cells #[.int .i64 3, .int .i64 (-1), .int .i64 3] 3))
  go_wp2_with fail
  refine (clean_any (some ⟨w.heap.size, 0, none⟩) 3 3 [3, -1, 3] _ HI1.out (by omega) (fun h => by cases h)).mono ?_
  rintro e w2 ⟨hk2, hpost⟩
  rcases hpost with ⟨hno, _⟩ | ⟨a2, k2, c2, K2, hyes, rfl, hI2, _, _, _⟩
  · exact absurd (CleanRes.eq hno clean_ex1) (by simp)
  obtain rfl : K2 = [-1, 3] := Option.some.inj (CleanRes.eq hyes clean_ex1)
  have HI2 := Lib.hid hI2; have HK2 := Lib.hid (HK1.out.trans hk2)
  clear hyes hI2 hk2 HI1 HK1
  -- Clean(1 -1)
  have HI1 := Lib.hid (ints_lit (L := [1, -1]) (MapKept.heap_alloc w2 (.cells #[.int .i64 1, .int .i64 (-1)] 3)).1 rfl (inr_lit (by decide)))
  have HK1 := Lib.hid ((Kept.refl w2).alloc (.cells #[.int .i64 1, .int .i64 (-1)] 3))
  go_wp2_with fail
  refine (clean_any (some ⟨w2.heap.size, 0, none⟩) 2 2 [1, -1] _ HI1.out (by omega) (fun h => by cases h)).mono ?_
  rintro e w3 ⟨hk3, hpost⟩
  rcases hpost with ⟨_, rfl⟩ | ⟨a3, k3, c3, K3, hyes, _⟩
  case inr => exact absurd (CleanRes.eq hyes clean_ex2) (by simp)
  have HK3 := Lib.hid (HK2.out.trans (HK1.out.trans hk3))
  have HI23 := Lib.hid (HI2.out.kept (HK1.out.trans hk3))
  clear hk3 HI1 HK1 HI2 HK2
  -- Units
  have HC := Lib.hid (exC_at w3)
  have HK1 := Lib.hid (((((Kept.refl w3).alloc xA).alloc xB).alloc xC).alloc (xD w3.heap.size))
  go_wp2_with fail
  refine (units_any 4 (some ⟨w3.heap.size + 1 + 1 + 1, 0, none⟩) 3 3 exC _ (by unfold InR; decide) HC.out (by decide) (by decide) (by decide)).mono ?_
  rintro e w4 ⟨hk4, hpost⟩
  have hr4 : rightB 4 exC = true := by decide
  rcases hpost with ⟨hno, _⟩ | ⟨_, hpost⟩
  · rw [hr4] at hno; cases hno
  rcases hpost with ⟨hno, _⟩ | ⟨a4, k4, c4, K4, hyes, rfl, hI4, _⟩
  · exact absurd (UnitsRes.eq noZero_ex hno units_ex) (by simp)
  obtain rfl : K4 = [1, 2] := Option.some.inj (UnitsRes.eq noZero_ex hyes units_ex)
  have HI4 := Lib.hid hI4
  have HK4 := Lib.hid (HK3.out.trans (HK1.out.trans hk4))
  have HI24 := Lib.hid (HI23.out.kept (HK1.out.trans hk4))
  clear hk4 hyes hI4 HC HK1 HI23 HK3 hr4
  -- Resolve
  have HA := Lib.hid (ints_lit (L := [1, 2]) (((Kept.refl (w4.alloc (.cells #[.int .i64 1, .int .i64 2] 3))).alloc (.cells #[.int .i64 (-1), .int .i64 3] 3)).row (MapKept.heap_alloc w4 (.cells #[.int .i64 1, .int .i64 2] 3)).1) rfl (inr_lit (by decide)))
  have hs : (w4.alloc (.cells #[.int .i64 1, .int .i64 2] 3)).heap.size = w4.heap.size + 1 := by simp
  have hb := (MapKept.heap_alloc (w4.alloc (.cells #[.int .i64 1, .int .i64 2] 3)) (.cells #[.int .i64 (-1), .int .i64 3] 3)).1
  rw [hs] at hb
  have HB := Lib.hid (ints_lit (L := [-1, 3]) hb rfl (inr_lit (by decide)))
  have HK1 := Lib.hid (((Kept.refl w4).alloc (.cells #[.int .i64 1, .int .i64 2] 3)).alloc (.cells #[.int .i64 (-1), .int .i64 3] 3))
  clear hs hb
  go_wp2_with fail
  refine (resolve_any (some ⟨w4.heap.size, 0, none⟩) (some ⟨w4.heap.size + 1, 0, none⟩) 2 2 2 2 [1, 2] [-1, 3] 1 _ HA.out HB.out (by decide) (by decide) (fun h => by cases h) (fun h => by cases h) (by unfold InR; decide)).mono ?_
  rintro e w5 ⟨hk5, hpost⟩
  rcases hpost with ⟨hno, _⟩ | ⟨_, a5, k5, c5, K5, hyes, rfl, hI5, _⟩
  · rcases hno with h | h
    · exact absurd res_ex h
    · rw [both_ex] at h
      exact absurd (CleanRes.eq h clean_ex3) (by simp)
  rw [both_ex] at hyes
  obtain rfl : K5 = [2, 3] := Option.some.inj (CleanRes.eq hyes clean_ex3)
  have HI5 := Lib.hid hI5
  have HK5 := Lib.hid (HK4.out.trans (HK1.out.trans hk5))
  have HI25 := Lib.hid (HI24.out.kept (HK1.out.trans hk5))
  have HI45 := Lib.hid (HI4.out.kept (HK1.out.trans hk5))
  clear hk5 hyes hI5 HA HB HK1 HI24 HI4 HK4
  -- Put
  have HC := Lib.hid (exP_at w5)
  have HK1 := Lib.hid (((Kept.refl w5).alloc yA).alloc (yD w5.heap.size))
  go_wp2_with fail
  refine (put_small 2 (by decide) (some ⟨w5.heap.size + 1, 0, none⟩) 1 1 [[1, -2]] _ (by unfold InR; decide) HC.out (by decide) (by decide) (HW.out.kept (HK5.out.trans HK1.out))).mono ?_
  rintro e w6 ⟨hk6, hpost⟩
  have hr6 : rightB 2 [[1, -2]] = true := by decide
  rcases hpost with ⟨hno, _⟩ | ⟨_, a6, c6, L6, hL6, rfl, B6, hrow⟩
  · have hno' : rightB 2 [[1, -2]] = false := hno
    rw [hr6] at hno'; cases hno'
  have hL6' : L6 = [112, 32, 99, 110, 102, 32, 50, 32, 49, 10, 49, 32, 45, 50, 32, 48, 10] := hL6.trans put_ex
  subst hL6'
  obtain ⟨r6, rfl, hcells⟩ := bytes_row hrow rfl (by decide)
  have HR6 := Lib.hid hcells
  have HK6 := Lib.hid (HK5.out.trans (HK1.out.trans hk6))
  have HI26 := Lib.hid (HI25.out.kept (HK1.out.trans hk6))
  have HI46 := Lib.hid (HI45.out.kept (HK1.out.trans hk6))
  have HI56 := Lib.hid (HI5.out.kept (HK1.out.trans hk6))
  clear hk6 hL6 hrow hcells HC HK1 HI25 HI45 HI5 HK5 hr6
  -- the last row
  have HM := Lib.hid (ints_lit (L := [-1, 3]) (MapKept.heap_alloc w6 (.cells #[.int .i64 (-1), .int .i64 3] 3)).1 rfl (inr_lit (by decide)))
  have HK1 := Lib.hid ((Kept.refl w6).alloc (.cells #[.int .i64 (-1), .int .i64 3] 3))
  go_wp2_with fail
  refine (same_true a2 (some ⟨w6.heap.size, 0, none⟩) k2 c2 2 2 [-1, 3] [-1, 3] _ (HI26.out.kept HK1.out) HM.out rfl (by rw [← HI26.out.len]; decide)).mono ?_
  rintro e w7 ⟨rfl, hk7⟩
  have HK7 := Lib.hid (HK1.out.trans hk7)
  clear hk7 HM HK1
  have HM := Lib.hid (ints_lit (L := [1, 2]) (MapKept.heap_alloc w7 (.cells #[.int .i64 1, .int .i64 2] 3)).1 rfl (inr_lit (by decide)))
  have HK1 := Lib.hid ((Kept.refl w7).alloc (.cells #[.int .i64 1, .int .i64 2] 3))
  go_wp2_with fail
  refine (same_true a4 (some ⟨w7.heap.size, 0, none⟩) k4 c4 2 2 [1, 2] [1, 2] _ (HI46.out.kept (HK7.out.trans HK1.out)) HM.out rfl (by rw [← HI46.out.len]; decide)).mono ?_
  rintro e w8 ⟨rfl, hk8⟩
  have HK8 := Lib.hid (HK7.out.trans (HK1.out.trans hk8))
  clear hk8 HM HK1 HK7
  have HM := Lib.hid (ints_lit (L := [2, 3]) (MapKept.heap_alloc w8 (.cells #[.int .i64 2, .int .i64 3] 3)).1 rfl (inr_lit (by decide)))
  have HK1 := Lib.hid ((Kept.refl w8).alloc (.cells #[.int .i64 2, .int .i64 3] 3))
  go_wp2_with fail
  refine (same_true a5 (some ⟨w8.heap.size, 0, none⟩) k5 c5 2 2 [2, 3] [2, 3] _ (HI56.out.kept (HK8.out.trans HK1.out)) HM.out rfl (by rw [← HI56.out.len]; decide)).mono ?_
  rintro e w9 ⟨rfl, hk9⟩
  have HK9 := Lib.hid (HK8.out.trans (HK1.out.trans hk9))
  clear hk9 HM HK1 HK8
  have hconv := run_convert_bytes_back (P := Tryz.prog) w9 26 9 5 ⟨r6, 0, none⟩ c6 [112, 32, 99, 110, 102, 32, 50, 32, 49, 10, 49, 32, 45, 50, 32, 48, 10] Tryz.underlying26 Tryz.underlying5 Tryz.underlying9 (fun j hj => by
    have h1 := HK9.out.cell (HR6.out j hj)
    have e : (⟨r6, 0, none⟩ : Addr).add j = ⟨r6, j, none⟩ := by
      unfold Addr.add
      split <;> simp_all
    rw [e]; exact h1)
  have HKA := Lib.hid (HK6.out.trans HK9.out)
  simp only [List.length_cons, List.length_nil, Nat.zero_add, Nat.reduceAdd] at hconv
  go_wp2
  go_ret
  exact ⟨rfl, HKA.out⟩
end Go.Proofs.YtlikokeknfhejaaGreatDoor
