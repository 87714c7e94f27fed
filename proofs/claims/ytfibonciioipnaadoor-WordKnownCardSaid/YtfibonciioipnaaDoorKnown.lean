/-
  Layer 1, WordKnown: its walk: numbers about their bounds, in twos and threes, of all operations and one beside.
-/
import Derived.Test.YtfibonciioipnaaDoorDo
import Derived.Test.YtfibonciioipnaaDoorLaws
import Derived.Test.YtfibonciioipnaaDoorFacts
import Derived.Test.YtfibonciioipnaaDoorAll
import Derived.Deep.RegionHeld3
namespace Go.Proofs.YtfibonciioipnaaDoor
open Go.RowKit

/-- The numbers about their bounds. -/
def zl (i : Nat) : Int := [0, 1, -1, 2, 3, -2, 7, 63, 64, 65, 255, 2147483648, -2147483648, 2147483647, 4294967296, 4611686018427387904, 9223372036854775807, -9223372036854775808, -9223372036854775807].getD i 0
theorem zl_in (i : Nat) (h : i < 19) : InR (zl i) := by
  have e : ∀ i, i < 19 → (-9223372036854775808 ≤ zl i ∧ zl i ≤ 9223372036854775807) := by decide +kernel
  exact e i h

/-- The row's block, as it is laid. -/
def rowObj : Obj := Obj.cells #[Value.int IntKind.i64 0, Value.int IntKind.i64 1, Value.int IntKind.i64 (-1), Value.int IntKind.i64 2, Value.int IntKind.i64 3, Value.int IntKind.i64 (-2), Value.int IntKind.i64 7, Value.int IntKind.i64 63, Value.int IntKind.i64 64, Value.int IntKind.i64 65, Value.int IntKind.i64 255, Value.int IntKind.i64 2147483648, Value.int IntKind.i64 (-2147483648), Value.int IntKind.i64 2147483647, Value.int IntKind.i64 4294967296, Value.int IntKind.i64 4611686018427387904, Value.int IntKind.i64 9223372036854775807, Value.int IntKind.i64 (-9223372036854775808), Value.int IntKind.i64 (-9223372036854775807)] 2
/-- The row's cells, in a world. -/
def RowAt (B : Nat) (w : World) : Prop := ∀ i, i < 19 → w.cell? ⟨B, i, none⟩ = some (.int .i64 (zl i))
theorem row_laid (w : World) : RowAt w.heap.size (w.alloc rowObj) := by
  intro i hi
  have h : i = 0 ∨ i = 1 ∨ i = 2 ∨ i = 3 ∨ i = 4 ∨ i = 5 ∨ i = 6 ∨ i = 7 ∨ i = 8 ∨ i = 9 ∨ i = 10 ∨ i = 11 ∨ i = 12 ∨ i = 13 ∨ i = 14 ∨ i = 15 ∨ i = 16 ∨ i = 17 ∨ i = 18 := by omega
  unfold rowObj zl
  rcases h with rfl | rfl | rfl | rfl | rfl | rfl | rfl | rfl | rfl | rfl | rfl | rfl | rfl | rfl | rfl | rfl | rfl | rfl | rfl <;> simp
theorem RowAt.kept {B : Nat} {w w' : World} (h : RowAt B w) (hB : B < w.heap.size) (hk : Kept w w') : RowAt B w' := fun i hi =>
  (Below.cell hk (p := ⟨B, i, none⟩) hB).trans (h i hi)

theorem Kept.drew {w w' : World} (h : Kept w w') : Kept w w'.drew := Below.drew h
/-- What the round's three calls ask and give: the row stays. -/
theorem known_do (op : Int) (B i k j : Nat) (w0 w : World) (hT : Tab w0) (hB : B < w0.heap.size) (hR : RowAt B w0) (hi : i < 19) (hk : k < 19) (hj : j < 19) (hK : Kept w0 w) :
    Calls Tryd.prog 3 #[.int .u8 op, .int .i64 (zl i), .int .i64 (zl k)] w fun e w' => e = .returned (.bool true) ∧ Kept w0 w' ∧ w'.cell? ⟨B, i, none⟩ = some (.int .i64 (zl i)) ∧ w'.cell? ⟨B, k, none⟩ = some (.int .i64 (zl k)) ∧ w'.cell? ⟨B, j, none⟩ = some (.int .i64 (zl j)) := by
  refine (worddo_any op _ _ w (zl_in i hi) (zl_in k hk) (hK.tab hT)).mono ?_
  rintro e w' ⟨he, hk'⟩
  have g := hR.kept hB (Kept.trans hK hk')
  exact ⟨he, Kept.trans hK hk', g i hi, g k hk, g j hj⟩
theorem known_laws (op : Int) (B i k j : Nat) (w0 w : World) (hT : Tab w0) (hB : B < w0.heap.size) (hR : RowAt B w0) (hi : i < 19) (hk : k < 19) (hj : j < 19) (hK : Kept w0 w) :
    Calls Tryd.prog 6 #[.int .u8 op, .int .i64 (zl i), .int .i64 (zl k), .int .i64 (zl j)] w fun e w' => e = .returned (.bool true) ∧ Kept w0 w' ∧ w'.cell? ⟨B, i, none⟩ = some (.int .i64 (zl i)) ∧ w'.cell? ⟨B, k, none⟩ = some (.int .i64 (zl k)) ∧ w'.cell? ⟨B, j, none⟩ = some (.int .i64 (zl j)) := by
  refine (laws_any op _ _ _ w (zl_in i hi) (zl_in k hk) (zl_in j hj) (hK.tab hT)).mono ?_
  rintro e w' ⟨he, hk'⟩
  have g := hR.kept hB (Kept.trans hK hk')
  exact ⟨he, Kept.trans hK hk', g i hi, g k hk, g j hj⟩
theorem known_facts (op : Int) (x y : Bool) (B i k j : Nat) (w0 w : World) (hT : Tab w0) (hB : B < w0.heap.size) (hR : RowAt B w0) (hi : i < 19) (hk : k < 19) (hj : j < 19) (hK : Kept w0 w) :
    Calls Tryd.prog 5 #[.int .u8 op, .int .i64 (zl i), .int .i64 (zl k), .bool x, .bool y] w fun e w' => e = .returned (.bool true) ∧ Kept w0 w' ∧ w'.cell? ⟨B, i, none⟩ = some (.int .i64 (zl i)) ∧ w'.cell? ⟨B, k, none⟩ = some (.int .i64 (zl k)) ∧ w'.cell? ⟨B, j, none⟩ = some (.int .i64 (zl j)) := by
  refine (facts_any op _ _ x y w (zl_in i hi) (zl_in k hk) (hK.tab hT)).mono ?_
  rintro e w' ⟨he, hk'⟩
  have g := hR.kept hB (Kept.trans hK hk')
  exact ⟨he, Kept.trans hK hk', g i hi, g k hk, g j hj⟩
theorem known_all (op : Int) (B n : Nat) (w0 w : World) (hT : Tab w0) (hB : B < w0.heap.size) (hR : RowAt B w0) (h1 : 1 ≤ n) (h2 : n ≤ 19) (hK : Kept w0 w) :
    Calls Tryd.prog 4 #[.int .u8 op, .slice (some ⟨B, 0, none⟩) n 19] w fun e w' => e = .returned (.bool true) ∧ Kept w0 w' := by
  have g := hR.kept hB hK
  refine (wordall_some op B 0 n 19 zl w (hK.tab hT) h1 h2 (by decide) (fun i hi => zl_in i (by omega)) (fun i hi => ?_)).mono ?_
  · rw [Nat.zero_add]; exact g i (by omega)
  · rintro e w' ⟨he, hk'⟩
    exact ⟨he, Kept.trans hK hk'⟩

theorem known_facts0 (op a b : Int) (x y : Bool) (w0 w : World) (hT : Tab w0) (ha : InR a) (hb : InR b) (hK : Kept w0 w) :
    Calls Tryd.prog 5 #[.int .u8 op, .int .i64 a, .int .i64 b, .bool x, .bool y] w fun e w' => e = .returned (.bool true) ∧ Kept w0 w' :=
  (facts_any op a b x y w ha hb (hK.tab hT)).mono fun _ _ h => ⟨h.1, Kept.trans hK h.2⟩
theorem known_do0 (op a b : Int) (w0 w : World) (hT : Tab w0) (ha : InR a) (hb : InR b) (hK : Kept w0 w) :
    Calls Tryd.prog 3 #[.int .u8 op, .int .i64 a, .int .i64 b] w fun e w' => e = .returned (.bool true) ∧ Kept w0 w' :=
  (worddo_any op a b w ha hb (hK.tab hT)).mono fun _ _ h => ⟨h.1, Kept.trans hK h.2⟩
theorem known_works (w0 w : World) (hT : Tab w0) (hK : Kept w0 w) :
    Calls Tryd.prog 14 #[] w fun e w' => e = .returned (.bool true) ∧ Kept w0 w' :=
  (works_any w (hK.tab hT)).mono fun _ _ h => ⟨h.1, Kept.trans hK h.2⟩
theorem known_none (op : Int) (w0 w : World) (hT : Tab w0) (hK : Kept w0 w) :
    Calls Tryd.prog 4 #[.int .u8 op, .slice none 0 0] w fun e w' => e = .returned (.bool true) ∧ Kept w0 w' :=
  (wordall_empty op none 0 w (hK.tab hT)).mono fun _ _ h => ⟨h.1, Kept.trans hK h.2⟩

set_option maxRecDepth 100000 in
set_option maxHeartbeats 8000000 in
theorem wordknown_any (w : World) (hT : Tab w) :
    Calls Tryd.prog 9 #[] w fun e w' => e = .returned (.bool true) ∧ Kept w w' := by
  have HT := Lib.hid (Kept.tab (w' := w.alloc rowObj) ((Below.refl _ _).alloc (Nat.le_refl _) _) hT); clear hT
  have HR := Lib.hid (row_laid w)
  have HB : Hid (w.heap.size < (w.alloc rowObj).heap.size) := by show _ < _; simp
  have HK : Hid (Kept w (w.alloc rowObj)) := (Below.refl _ _).alloc (Nat.le_refl _) _
  go_enter Tryd.func9, Tryd.ntmps9
  go_wp2_with fail
  change Code.wp _ _ _ _ (w.alloc rowObj)
  generalize w.alloc rowObj = W1 at *
  generalize w.heap.size = B at *
  go_loopw [2] (fun o wr => ∃ n : Nat, n ≤ 19 ∧ o = .int .u8 n ∧ Kept W1 wr) (fun o _ => 19 - (intOf o).toNat)
  case atStart => exact ⟨0, Nat.zero_le _, rfl, Kept.refl _⟩
  case round =>
    obtain ⟨n, hn, rfl, hQ⟩ := hrel
    by_cases hlt : n < 19
    · have n1 : (n : Int) < 19 := by omega
      go_wp2_with fail
      go_loopw [3] (fun o wr => ∃ i : Nat, i ≤ 19 ∧ o = .int .i64 i ∧ Kept W1 wr) (fun o _ => 19 - (intOf o).toNat)
      case atStart => exact ⟨0, Nat.zero_le _, rfl, hQ⟩
      case round =>
        obtain ⟨i, hi, rfl, hQ2⟩ := hrel
        by_cases hil : i < 19
        · have i1 : (i : Int) < 19 := by omega
          go_wp2_with fail
          go_loopw [4] (fun o wr => ∃ k : Nat, k ≤ 19 ∧ o = .int .i64 k ∧ Kept W1 wr) (fun o _ => 19 - (intOf o).toNat)
          case atStart => exact ⟨0, Nat.zero_le _, rfl, hQ2⟩
          case round =>
            obtain ⟨k, hk, rfl, hQ3⟩ := hrel
            by_cases hkl : k < 19
            · go_wp2_with fail
              have hj : (i * 5 + k) % 19 < 19 := Nat.mod_lt _ (by decide)
              have rj : ((i : Int) * 5 + (k : Int)).tmod 19 = (((i * 5 + k) % 19 : Nat) : Int) := by
                rw [Int.tmod_eq_emod_of_nonneg (by omega)]; omega
              have m1 : IntKind.i64.wrap ((i : Int) * 5) = (i : Int) * 5 := IntWalk.i64_in _ ⟨by omega, by omega⟩
              have m2 : IntKind.i64.wrap ((i : Int) * 5 + (k : Int)) = (i : Int) * 5 + (k : Int) := IntWalk.i64_in _ ⟨by omega, by omega⟩
              have G := HR.out.kept HB.out hQ3
              have ci := G i hil
              have ck := G k hkl
              have cj := G _ hj
              clear G
              generalize (i * 5 + k) % 19 = j at *
              have i0 : (0 : Int) ≤ (i : Int) := by omega
              have k0 : (0 : Int) ≤ (k : Int) := by omega
              have k1 : (k : Int) < 19 := by omega
              have j0 : (0 : Int) ≤ (j : Int) := by omega
              have j1 : (j : Int) < 19 := by omega
              by_cases h4 : (n : Int) < 4
              · have d4 : decide ((n : Int) < 4) = true := decide_eq_true h4
                go_region_held3 (fun w' => Kept W1 w' ∧ w'.cell? ⟨B, i, none⟩ = some (.int .i64 (zl i)) ∧ w'.cell? ⟨B, k, none⟩ = some (.int .i64 (zl k)) ∧ w'.cell? ⟨B, j, none⟩ = some (.int .i64 (zl j))) (first | exact ⟨by assumption, by assumption, by assumption, by assumption⟩ | exact ⟨Kept.drew (by assumption), by simpa using ci, by simpa using ck, by simpa using cj⟩ | go_keep)
                  (first | (go_at_call 3; refine (known_do _ B i k j W1 _ HT.out HB.out HR.out hil hkl hj (by first | exact Kept.drew hQ3 | assumption)).mono ?_; rintro e w' ⟨rfl, hq, g1, g2, g3⟩) | (go_at_call 6; refine (known_laws _ B i k j W1 _ HT.out HB.out HR.out hil hkl hj (by first | exact Kept.drew hQ3 | assumption)).mono ?_; rintro e w' ⟨rfl, hq, g1, g2, g3⟩) | (go_at_call 5; refine (known_facts _ _ _ B i k j W1 _ HT.out HB.out HR.out hil hkl hj (by first | exact Kept.drew hQ3 | assumption)).mono ?_; rintro e w' ⟨rfl, hq, g1, g2, g3⟩))
                go_wp2
                go_roundw
                case rel => exact ⟨k + 1, by omega, by go_num, by assumption⟩
                case measure => simp [intOf]; omega
              · have d4 : decide ((n : Int) < 4) = false := decide_eq_false h4
                refine wp_region_held_drew (S := (fun w' => Kept W1 w' ∧ w'.cell? ⟨B, i, none⟩ = some (.int .i64 (zl i)) ∧ w'.cell? ⟨B, k, none⟩ = some (.int .i64 (zl k)) ∧ w'.cell? ⟨B, j, none⟩ = some (.int .i64 (zl j)))) (by kernel_rfl) ⟨Kept.drew (by assumption), by simpa using ci, by simpa using ck, by simpa using cj⟩ (fun hHeld => ?_)
                refine wpAnyH_take (i := 0) (v := ?vv0) rfl (by kernel_rfl) (by kernel_rfl) (by kernel_rfl) (fun _ _ _ h => h) (Or.inl ⟨by rfl, ?hy0⟩) hHeld ?hr0
                case hy0 =>
                  intro w hSw
                  try dsimp only at hSw
                  simp only [List.getElem_toArray, List.getElem_cons_zero, List.getElem_cons_succ]
                  go_simp
                  try with_reducible rfl
                simp only [List.getElem_toArray, List.getElem_cons_zero, List.getElem_cons_succ, Act.put, List.setIfInBounds_toArray, List.set_cons_zero, List.set_cons_succ]
                refine wpAnyH_take (i := 1) (v := ?vv1) rfl (by kernel_rfl) (by kernel_rfl) (by kernel_rfl) (fun _ _ _ h => h) (Or.inl ⟨by rfl, ?hy1⟩) hHeld ?hr1
                case hy1 =>
                  intro w hSw
                  try dsimp only at hSw
                  simp only [List.getElem_toArray, List.getElem_cons_zero, List.getElem_cons_succ]
                  go_simp
                  try with_reducible rfl
                simp only [List.getElem_toArray, List.getElem_cons_zero, List.getElem_cons_succ, Act.put, List.setIfInBounds_toArray, List.set_cons_zero, List.set_cons_succ]
                refine wpAnyH_take (i := 2) (v := ?vv2) rfl (by kernel_rfl) (by kernel_rfl) (by kernel_rfl) (fun _ _ _ h => h) (Or.inl ⟨by rfl, ?hy2⟩) hHeld ?hr2
                case hy2 =>
                  intro w hSw
                  try dsimp only at hSw
                  simp only [List.getElem_toArray, List.getElem_cons_zero, List.getElem_cons_succ]
                  go_simp
                  try with_reducible rfl
                simp only [List.getElem_toArray, List.getElem_cons_zero, List.getElem_cons_succ, Act.put, List.setIfInBounds_toArray, List.set_cons_zero, List.set_cons_succ]
                refine wpAnyH_take (i := 3) (v := ?vv3) rfl (by kernel_rfl) (by kernel_rfl) (by kernel_rfl) (fun _ _ _ h => h) (Or.inl ⟨by rfl, ?hy3⟩) hHeld ?hr3
                case hy3 =>
                  intro w hSw
                  try dsimp only at hSw
                  simp only [List.getElem_toArray, List.getElem_cons_zero, List.getElem_cons_succ]
                  go_simp
                  try with_reducible rfl
                simp only [List.getElem_toArray, List.getElem_cons_zero, List.getElem_cons_succ, Act.put, List.setIfInBounds_toArray, List.set_cons_zero, List.set_cons_succ]
                refine wpAnyH_take (i := 4) (v := ?vv4) rfl (by kernel_rfl) (by kernel_rfl) (by kernel_rfl) (fun _ _ _ h => h) (Or.inl ⟨by rfl, ?hy4⟩) hHeld ?hr4
                case hy4 =>
                  intro w hSw
                  try dsimp only at hSw
                  simp only [List.getElem_toArray, List.getElem_cons_zero, List.getElem_cons_succ]
                  go_simp
                  try with_reducible rfl
                simp only [List.getElem_toArray, List.getElem_cons_zero, List.getElem_cons_succ, Act.put, List.setIfInBounds_toArray, List.set_cons_zero, List.set_cons_succ]
                refine wpAnyH_take (i := 5) (v := ?vv5) rfl (by kernel_rfl) (by kernel_rfl) (by kernel_rfl) (fun _ _ _ h => h) (Or.inl ⟨by rfl, ?hy5⟩) hHeld ?hr5
                case hy5 =>
                  intro w hSw
                  try dsimp only at hSw
                  simp only [List.getElem_toArray, List.getElem_cons_zero, List.getElem_cons_succ]
                  go_simp
                  try with_reducible rfl
                simp only [List.getElem_toArray, List.getElem_cons_zero, List.getElem_cons_succ, Act.put, List.setIfInBounds_toArray, List.set_cons_zero, List.set_cons_succ]
                refine wpAnyH_take (i := 6) (v := ?vv6) rfl (by kernel_rfl) (by kernel_rfl) (by kernel_rfl) (fun _ _ _ h => h) (Or.inl ⟨by rfl, ?hy6⟩) hHeld ?hr6
                case hy6 =>
                  intro w hSw
                  try dsimp only at hSw
                  simp only [List.getElem_toArray, List.getElem_cons_zero, List.getElem_cons_succ]
                  go_simp
                  try with_reducible rfl
                simp only [List.getElem_toArray, List.getElem_cons_zero, List.getElem_cons_succ, Act.put, List.setIfInBounds_toArray, List.set_cons_zero, List.set_cons_succ]
                refine wpAnyH_take (i := 7) (v := ?vv7) rfl (by kernel_rfl) (by kernel_rfl) (by kernel_rfl) (fun _ _ _ h => h) (Or.inl ⟨by rfl, ?hy7⟩) hHeld ?hr7
                case hy7 =>
                  intro w hSw
                  try dsimp only at hSw
                  simp only [List.getElem_toArray, List.getElem_cons_zero, List.getElem_cons_succ]
                  go_simp
                  try with_reducible rfl
                simp only [List.getElem_toArray, List.getElem_cons_zero, List.getElem_cons_succ, Act.put, List.setIfInBounds_toArray, List.set_cons_zero, List.set_cons_succ]
                refine wpAnyH_take (i := 8) (v := ?vv8) rfl (by kernel_rfl) (by kernel_rfl) (by kernel_rfl) (fun _ _ _ h => h) (Or.inl ⟨by rfl, ?hy8⟩) hHeld ?hr8
                case hy8 =>
                  intro w hSw
                  try dsimp only at hSw
                  simp only [List.getElem_toArray, List.getElem_cons_zero, List.getElem_cons_succ]
                  go_simp
                  try with_reducible rfl
                simp only [List.getElem_toArray, List.getElem_cons_zero, List.getElem_cons_succ, Act.put, List.setIfInBounds_toArray, List.set_cons_zero, List.set_cons_succ]
                refine wpAnyH_ready (rs := [9]) (by kernel_rfl) (by simp) ?_
                refine AllReadyH.cons rfl (fun K hK => ?_) AllReadyH.nil
                try simp only [List.getElem_toArray, List.getElem_cons_zero, List.getElem_cons_succ]
                go_simp
                refine (known_do _ B i k j W1 _ HT.out HB.out HR.out hil hkl hj hHeld.1).mono ?_; rintro e w' ⟨rfl, hq, g1, g2, g3⟩
                go_wp2_with fail
                refine hK.out _ _ ⟨hq, g1, g2, g3⟩ (fun hHeld => ?_)
                clear hK K
                try simp only [List.getElem_toArray, List.getElem_cons_zero, List.getElem_cons_succ, Act.put, List.setIfInBounds_toArray, List.set_cons_zero, List.set_cons_succ]
                refine wpAnyH_take (i := 10) (v := ?vv10) rfl (by kernel_rfl) (by kernel_rfl) (by kernel_rfl) (fun _ _ _ h => h) (Or.inl ⟨by rfl, ?hy10⟩) hHeld ?hr10
                case hy10 =>
                  intro w hSw
                  try dsimp only at hSw
                  simp only [List.getElem_toArray, List.getElem_cons_zero, List.getElem_cons_succ]
                  go_simp
                  try with_reducible rfl
                simp only [List.getElem_toArray, List.getElem_cons_zero, List.getElem_cons_succ, Act.put, List.setIfInBounds_toArray, List.set_cons_zero, List.set_cons_succ]
                refine wpAnyH_take (i := 11) (v := ?vv11) rfl (by kernel_rfl) (by kernel_rfl) (by kernel_rfl) (fun _ _ _ h => h) (Or.inl ⟨by rfl, ?hy11⟩) hHeld ?hr11
                case hy11 =>
                  intro w hSw
                  try dsimp only at hSw
                  simp only [List.getElem_toArray, List.getElem_cons_zero, List.getElem_cons_succ]
                  go_simp
                  try with_reducible rfl
                simp only [List.getElem_toArray, List.getElem_cons_zero, List.getElem_cons_succ, Act.put, List.setIfInBounds_toArray, List.set_cons_zero, List.set_cons_succ]
                refine wpAnyH_take (i := 12) (v := ?vv12) rfl (by kernel_rfl) (by kernel_rfl) (by kernel_rfl) (fun _ _ _ h => h) (Or.inl ⟨by rfl, ?hy12⟩) hHeld ?hr12
                case hy12 =>
                  intro w hSw
                  try dsimp only at hSw
                  simp only [List.getElem_toArray, List.getElem_cons_zero, List.getElem_cons_succ]
                  go_simp
                  try with_reducible rfl
                simp only [List.getElem_toArray, List.getElem_cons_zero, List.getElem_cons_succ, Act.put, List.setIfInBounds_toArray, List.set_cons_zero, List.set_cons_succ]
                refine wpAnyH_take (i := 13) (v := ?vv13) rfl (by kernel_rfl) (by kernel_rfl) (by kernel_rfl) (fun _ _ _ h => h) (Or.inl ⟨by rfl, ?hy13⟩) hHeld ?hr13
                case hy13 =>
                  intro w hSw
                  try dsimp only at hSw
                  simp only [List.getElem_toArray, List.getElem_cons_zero, List.getElem_cons_succ]
                  go_simp
                  try with_reducible rfl
                simp only [List.getElem_toArray, List.getElem_cons_zero, List.getElem_cons_succ, Act.put, List.setIfInBounds_toArray, List.set_cons_zero, List.set_cons_succ]
                refine wpAnyH_take (i := 14) (v := ?vv14) rfl (by kernel_rfl) (by kernel_rfl) (by kernel_rfl) (fun _ _ _ h => h) (Or.inl ⟨by rfl, ?hy14⟩) hHeld ?hr14
                case hy14 =>
                  intro w hSw
                  try dsimp only at hSw
                  simp only [List.getElem_toArray, List.getElem_cons_zero, List.getElem_cons_succ]
                  go_simp
                  try with_reducible rfl
                simp only [List.getElem_toArray, List.getElem_cons_zero, List.getElem_cons_succ, Act.put, List.setIfInBounds_toArray, List.set_cons_zero, List.set_cons_succ]
                refine wpAnyH_take (i := 15) (v := ?vv15) rfl (by kernel_rfl) (by kernel_rfl) (by kernel_rfl) (fun _ _ _ h => h) (Or.inl ⟨by rfl, ?hy15⟩) hHeld ?hr15
                case hy15 =>
                  intro w hSw
                  try dsimp only at hSw
                  simp only [List.getElem_toArray, List.getElem_cons_zero, List.getElem_cons_succ]
                  go_simp
                  try with_reducible rfl
                simp only [List.getElem_toArray, List.getElem_cons_zero, List.getElem_cons_succ, Act.put, List.setIfInBounds_toArray, List.set_cons_zero, List.set_cons_succ]
                refine wpAnyH_take (i := 16) (v := ?vv16) rfl (by kernel_rfl) (by kernel_rfl) (by kernel_rfl) (fun _ _ _ h => h) (Or.inl ⟨by rfl, ?hy16⟩) hHeld ?hr16
                case hy16 =>
                  intro w hSw
                  try dsimp only at hSw
                  simp only [List.getElem_toArray, List.getElem_cons_zero, List.getElem_cons_succ]
                  go_simp
                  try with_reducible rfl
                simp only [List.getElem_toArray, List.getElem_cons_zero, List.getElem_cons_succ, Act.put, List.setIfInBounds_toArray, List.set_cons_zero, List.set_cons_succ]
                refine wpAnyH_take (i := 17) (v := ?vv17) rfl (by kernel_rfl) (by kernel_rfl) (by kernel_rfl) (fun _ _ _ h => h) (Or.inl ⟨by rfl, ?hy17⟩) hHeld ?hr17
                case hy17 =>
                  intro w hSw
                  try dsimp only at hSw
                  simp only [List.getElem_toArray, List.getElem_cons_zero, List.getElem_cons_succ]
                  go_simp
                  try with_reducible rfl
                simp only [List.getElem_toArray, List.getElem_cons_zero, List.getElem_cons_succ, Act.put, List.setIfInBounds_toArray, List.set_cons_zero, List.set_cons_succ]
                refine wpAnyH_take (i := 18) (v := ?vv18) rfl (by kernel_rfl) (by kernel_rfl) (by kernel_rfl) (fun _ _ _ h => h) (Or.inl ⟨by rfl, ?hy18⟩) hHeld ?hr18
                case hy18 =>
                  intro w hSw
                  try dsimp only at hSw
                  simp only [List.getElem_toArray, List.getElem_cons_zero, List.getElem_cons_succ]
                  go_simp
                  try with_reducible rfl
                simp only [List.getElem_toArray, List.getElem_cons_zero, List.getElem_cons_succ, Act.put, List.setIfInBounds_toArray, List.set_cons_zero, List.set_cons_succ]
                refine wpAnyH_take (i := 19) (v := ?vv19) rfl (by kernel_rfl) (by kernel_rfl) (by kernel_rfl) (fun _ _ _ h => h) (Or.inl ⟨by rfl, ?hy19⟩) hHeld ?hr19
                case hy19 =>
                  intro w hSw
                  try dsimp only at hSw
                  simp only [List.getElem_toArray, List.getElem_cons_zero, List.getElem_cons_succ]
                  go_simp
                  try with_reducible rfl
                simp only [List.getElem_toArray, List.getElem_cons_zero, List.getElem_cons_succ, Act.put, List.setIfInBounds_toArray, List.set_cons_zero, List.set_cons_succ]
                refine wpAnyH_take (i := 20) (v := ?vv20) rfl (by kernel_rfl) (by kernel_rfl) (by kernel_rfl) (fun _ _ _ h => h) (Or.inl ⟨by rfl, ?hy20⟩) hHeld ?hr20
                case hy20 =>
                  intro w hSw
                  try dsimp only at hSw
                  simp only [List.getElem_toArray, List.getElem_cons_zero, List.getElem_cons_succ]
                  go_simp
                  try with_reducible rfl
                simp only [List.getElem_toArray, List.getElem_cons_zero, List.getElem_cons_succ, Act.put, List.setIfInBounds_toArray, List.set_cons_zero, List.set_cons_succ]
                refine wpAnyH_take (i := 21) (v := ?vv21) rfl (by kernel_rfl) (by kernel_rfl) (by kernel_rfl) (fun _ _ _ h => h) (Or.inl ⟨by rfl, ?hy21⟩) hHeld ?hr21
                case hy21 =>
                  intro w hSw
                  try dsimp only at hSw
                  simp only [List.getElem_toArray, List.getElem_cons_zero, List.getElem_cons_succ]
                  go_simp
                  try with_reducible rfl
                simp only [List.getElem_toArray, List.getElem_cons_zero, List.getElem_cons_succ, Act.put, List.setIfInBounds_toArray, List.set_cons_zero, List.set_cons_succ]
                refine wpAnyH_take (i := 22) (v := ?vv22) rfl (by kernel_rfl) (by kernel_rfl) (by kernel_rfl) (fun _ _ _ h => h) (Or.inl ⟨by rfl, ?hy22⟩) hHeld ?hr22
                case hy22 =>
                  intro w hSw
                  try dsimp only at hSw
                  simp only [List.getElem_toArray, List.getElem_cons_zero, List.getElem_cons_succ]
                  go_simp
                  try with_reducible rfl
                simp only [List.getElem_toArray, List.getElem_cons_zero, List.getElem_cons_succ, Act.put, List.setIfInBounds_toArray, List.set_cons_zero, List.set_cons_succ]
                refine wpAnyH_take (i := 23) (v := ?vv23) rfl (by kernel_rfl) (by kernel_rfl) (by kernel_rfl) (fun _ _ _ h => h) (Or.inl ⟨by rfl, ?hy23⟩) hHeld ?hr23
                case hy23 =>
                  intro w hSw
                  try dsimp only at hSw
                  simp only [List.getElem_toArray, List.getElem_cons_zero, List.getElem_cons_succ]
                  go_simp
                  try with_reducible rfl
                simp only [List.getElem_toArray, List.getElem_cons_zero, List.getElem_cons_succ, Act.put, List.setIfInBounds_toArray, List.set_cons_zero, List.set_cons_succ]
                refine wpAnyH_take (i := 24) (v := ?vv24) rfl (by kernel_rfl) (by kernel_rfl) (by kernel_rfl) (fun _ _ _ h => h) (Or.inl ⟨by rfl, ?hy24⟩) hHeld ?hr24
                case hy24 =>
                  intro w hSw
                  try dsimp only at hSw
                  simp only [List.getElem_toArray, List.getElem_cons_zero, List.getElem_cons_succ]
                  go_simp
                  try with_reducible rfl
                simp only [List.getElem_toArray, List.getElem_cons_zero, List.getElem_cons_succ, Act.put, List.setIfInBounds_toArray, List.set_cons_zero, List.set_cons_succ]
                refine wpAnyH_take (i := 25) (v := ?vv25) rfl (by kernel_rfl) (by kernel_rfl) (by kernel_rfl) (fun _ _ _ h => h) (Or.inl ⟨by rfl, ?hy25⟩) hHeld ?hr25
                case hy25 =>
                  intro w hSw
                  try dsimp only at hSw
                  simp only [List.getElem_toArray, List.getElem_cons_zero, List.getElem_cons_succ]
                  go_simp
                  try with_reducible rfl
                simp only [List.getElem_toArray, List.getElem_cons_zero, List.getElem_cons_succ, Act.put, List.setIfInBounds_toArray, List.set_cons_zero, List.set_cons_succ]
                refine wpAnyH_take (i := 26) (v := ?vv26) rfl (by kernel_rfl) (by kernel_rfl) (by kernel_rfl) (fun _ _ _ h => h) (Or.inl ⟨by rfl, ?hy26⟩) hHeld ?hr26
                case hy26 =>
                  intro w hSw
                  try dsimp only at hSw
                  simp only [List.getElem_toArray, List.getElem_cons_zero, List.getElem_cons_succ]
                  go_simp
                  try with_reducible rfl
                simp only [List.getElem_toArray, List.getElem_cons_zero, List.getElem_cons_succ, Act.put, List.setIfInBounds_toArray, List.set_cons_zero, List.set_cons_succ]
                refine wpAnyH_take (i := 27) (v := ?vv27) rfl (by kernel_rfl) (by kernel_rfl) (by kernel_rfl) (fun _ _ _ h => h) (Or.inl ⟨by rfl, ?hy27⟩) hHeld ?hr27
                case hy27 =>
                  intro w hSw
                  try dsimp only at hSw
                  simp only [List.getElem_toArray, List.getElem_cons_zero, List.getElem_cons_succ]
                  go_simp
                  try with_reducible rfl
                simp only [List.getElem_toArray, List.getElem_cons_zero, List.getElem_cons_succ, Act.put, List.setIfInBounds_toArray, List.set_cons_zero, List.set_cons_succ]
                refine wpAnyH_take (i := 28) (v := ?vv28) rfl (by kernel_rfl) (by kernel_rfl) (by kernel_rfl) (fun _ _ _ h => h) (Or.inl ⟨by rfl, ?hy28⟩) hHeld ?hr28
                case hy28 =>
                  intro w hSw
                  try dsimp only at hSw
                  simp only [List.getElem_toArray, List.getElem_cons_zero, List.getElem_cons_succ]
                  go_simp
                  try with_reducible rfl
                simp only [List.getElem_toArray, List.getElem_cons_zero, List.getElem_cons_succ, Act.put, List.setIfInBounds_toArray, List.set_cons_zero, List.set_cons_succ]
                refine wpAnyH_take (i := 29) (v := ?vv29) rfl (by kernel_rfl) (by kernel_rfl) (by kernel_rfl) (fun _ _ _ h => h) (Or.inl ⟨by rfl, ?hy29⟩) hHeld ?hr29
                case hy29 =>
                  intro w hSw
                  try dsimp only at hSw
                  simp only [List.getElem_toArray, List.getElem_cons_zero, List.getElem_cons_succ]
                  go_simp
                  try with_reducible rfl
                simp only [List.getElem_toArray, List.getElem_cons_zero, List.getElem_cons_succ, Act.put, List.setIfInBounds_toArray, List.set_cons_zero, List.set_cons_succ]
                refine wpAnyH_take (i := 30) (v := ?vv30) rfl (by kernel_rfl) (by kernel_rfl) (by kernel_rfl) (fun _ _ _ h => h) (Or.inl ⟨by rfl, ?hy30⟩) hHeld ?hr30
                case hy30 =>
                  intro w hSw
                  try dsimp only at hSw
                  simp only [List.getElem_toArray, List.getElem_cons_zero, List.getElem_cons_succ]
                  go_simp
                  try with_reducible rfl
                simp only [List.getElem_toArray, List.getElem_cons_zero, List.getElem_cons_succ, Act.put, List.setIfInBounds_toArray, List.set_cons_zero, List.set_cons_succ]
                refine wpAnyH_ready (rs := [31]) (by kernel_rfl) (by simp) ?_
                refine AllReadyH.cons rfl (fun K hK => ?_) AllReadyH.nil
                try simp only [List.getElem_toArray, List.getElem_cons_zero, List.getElem_cons_succ]
                go_simp
                refine (known_laws _ B i k j W1 _ HT.out HB.out HR.out hil hkl hj hHeld.1).mono ?_; rintro e w' ⟨rfl, hq, g1, g2, g3⟩
                go_wp2_with fail
                refine hK.out _ _ ⟨hq, g1, g2, g3⟩ (fun hHeld => ?_)
                clear hK K
                try simp only [List.getElem_toArray, List.getElem_cons_zero, List.getElem_cons_succ, Act.put, List.setIfInBounds_toArray, List.set_cons_zero, List.set_cons_succ]
                refine wpAnyH_take (i := 32) (v := ?vv32) rfl (by kernel_rfl) (by kernel_rfl) (by kernel_rfl) (fun _ _ _ h => h) (Or.inl ⟨by rfl, ?hy32⟩) hHeld ?hr32
                case hy32 =>
                  intro w hSw
                  try dsimp only at hSw
                  simp only [List.getElem_toArray, List.getElem_cons_zero, List.getElem_cons_succ]
                  go_simp
                  try with_reducible rfl
                simp only [List.getElem_toArray, List.getElem_cons_zero, List.getElem_cons_succ, Act.put, List.setIfInBounds_toArray, List.set_cons_zero, List.set_cons_succ]
                refine wpAnyH_take (i := 33) (v := ?vv33) rfl (by kernel_rfl) (by kernel_rfl) (by kernel_rfl) (fun _ _ _ h => h) (Or.inl ⟨by rfl, ?hy33⟩) hHeld ?hr33
                case hy33 =>
                  intro w hSw
                  try dsimp only at hSw
                  simp only [List.getElem_toArray, List.getElem_cons_zero, List.getElem_cons_succ]
                  go_simp
                  try with_reducible rfl
                simp only [List.getElem_toArray, List.getElem_cons_zero, List.getElem_cons_succ, Act.put, List.setIfInBounds_toArray, List.set_cons_zero, List.set_cons_succ]
                refine wpAnyH_take (i := 34) (v := ?vv34) rfl (by kernel_rfl) (by kernel_rfl) (by kernel_rfl) (fun _ _ _ h => h) (Or.inl ⟨by rfl, ?hy34⟩) hHeld ?hr34
                case hy34 =>
                  intro w hSw
                  try dsimp only at hSw
                  simp only [List.getElem_toArray, List.getElem_cons_zero, List.getElem_cons_succ]
                  go_simp
                  try with_reducible rfl
                simp only [List.getElem_toArray, List.getElem_cons_zero, List.getElem_cons_succ, Act.put, List.setIfInBounds_toArray, List.set_cons_zero, List.set_cons_succ]
                refine wpAnyH_take (i := 35) (v := ?vv35) rfl (by kernel_rfl) (by kernel_rfl) (by kernel_rfl) (fun _ _ _ h => h) (Or.inl ⟨by rfl, ?hy35⟩) hHeld ?hr35
                case hy35 =>
                  intro w hSw
                  try dsimp only at hSw
                  simp only [List.getElem_toArray, List.getElem_cons_zero, List.getElem_cons_succ]
                  go_simp
                  try with_reducible rfl
                simp only [List.getElem_toArray, List.getElem_cons_zero, List.getElem_cons_succ, Act.put, List.setIfInBounds_toArray, List.set_cons_zero, List.set_cons_succ]
                refine wpAnyH_take (i := 36) (v := ?vv36) rfl (by kernel_rfl) (by kernel_rfl) (by kernel_rfl) (fun _ _ _ h => h) (Or.inl ⟨by rfl, ?hy36⟩) hHeld ?hr36
                case hy36 =>
                  intro w hSw
                  try dsimp only at hSw
                  simp only [List.getElem_toArray, List.getElem_cons_zero, List.getElem_cons_succ]
                  go_simp
                  try with_reducible rfl
                simp only [List.getElem_toArray, List.getElem_cons_zero, List.getElem_cons_succ, Act.put, List.setIfInBounds_toArray, List.set_cons_zero, List.set_cons_succ]
                refine wpAnyH_take (i := 37) (v := ?vv37) rfl (by kernel_rfl) (by kernel_rfl) (by kernel_rfl) (fun _ _ _ h => h) (Or.inl ⟨by rfl, ?hy37⟩) hHeld ?hr37
                case hy37 =>
                  intro w hSw
                  try dsimp only at hSw
                  simp only [List.getElem_toArray, List.getElem_cons_zero, List.getElem_cons_succ]
                  go_simp
                  try with_reducible rfl
                simp only [List.getElem_toArray, List.getElem_cons_zero, List.getElem_cons_succ, Act.put, List.setIfInBounds_toArray, List.set_cons_zero, List.set_cons_succ]
                refine wpAnyH_take (i := 38) (v := undef) rfl (by kernel_rfl) (by kernel_rfl) (by kernel_rfl) (fun _ _ _ h => h) (Or.inr ⟨by rfl, rfl⟩) hHeld ?hr38
                simp only [List.getElem_toArray, List.getElem_cons_zero, List.getElem_cons_succ, Act.put, List.setIfInBounds_toArray, List.set_cons_zero, List.set_cons_succ]
                refine wpAnyH_take (i := 39) (v := undef) rfl (by kernel_rfl) (by kernel_rfl) (by kernel_rfl) (fun _ _ _ h => h) (Or.inr ⟨by rfl, rfl⟩) hHeld ?hr39
                simp only [List.getElem_toArray, List.getElem_cons_zero, List.getElem_cons_succ, Act.put, List.setIfInBounds_toArray, List.set_cons_zero, List.set_cons_succ]
                refine wpAnyH_take (i := 40) (v := undef) rfl (by kernel_rfl) (by kernel_rfl) (by kernel_rfl) (fun _ _ _ h => h) (Or.inr ⟨by rfl, rfl⟩) hHeld ?hr40
                simp only [List.getElem_toArray, List.getElem_cons_zero, List.getElem_cons_succ, Act.put, List.setIfInBounds_toArray, List.set_cons_zero, List.set_cons_succ]
                refine wpAnyH_take (i := 41) (v := undef) rfl (by kernel_rfl) (by kernel_rfl) (by kernel_rfl) (fun _ _ _ h => h) (Or.inr ⟨by rfl, rfl⟩) hHeld ?hr41
                simp only [List.getElem_toArray, List.getElem_cons_zero, List.getElem_cons_succ, Act.put, List.setIfInBounds_toArray, List.set_cons_zero, List.set_cons_succ]
                refine wpAnyH_take (i := 42) (v := undef) rfl (by kernel_rfl) (by kernel_rfl) (by kernel_rfl) (fun _ _ _ h => h) (Or.inr ⟨by rfl, rfl⟩) hHeld ?hr42
                simp only [List.getElem_toArray, List.getElem_cons_zero, List.getElem_cons_succ, Act.put, List.setIfInBounds_toArray, List.set_cons_zero, List.set_cons_succ]
                refine wpAnyH_take (i := 43) (v := undef) rfl (by kernel_rfl) (by kernel_rfl) (by kernel_rfl) (fun _ _ _ h => h) (Or.inr ⟨by rfl, rfl⟩) hHeld ?hr43
                simp only [List.getElem_toArray, List.getElem_cons_zero, List.getElem_cons_succ, Act.put, List.setIfInBounds_toArray, List.set_cons_zero, List.set_cons_succ]
                refine wpAnyH_take (i := 44) (v := undef) rfl (by kernel_rfl) (by kernel_rfl) (by kernel_rfl) (fun _ _ _ h => h) (Or.inr ⟨by rfl, rfl⟩) hHeld ?hr44
                simp only [List.getElem_toArray, List.getElem_cons_zero, List.getElem_cons_succ, Act.put, List.setIfInBounds_toArray, List.set_cons_zero, List.set_cons_succ]
                refine wpAnyH_take (i := 45) (v := undef) rfl (by kernel_rfl) (by kernel_rfl) (by kernel_rfl) (fun _ _ _ h => h) (Or.inr ⟨by rfl, rfl⟩) hHeld ?hr45
                simp only [List.getElem_toArray, List.getElem_cons_zero, List.getElem_cons_succ, Act.put, List.setIfInBounds_toArray, List.set_cons_zero, List.set_cons_succ]
                refine wpAnyH_take (i := 46) (v := undef) rfl (by kernel_rfl) (by kernel_rfl) (by kernel_rfl) (fun _ _ _ h => h) (Or.inr ⟨by rfl, rfl⟩) hHeld ?hr46
                simp only [List.getElem_toArray, List.getElem_cons_zero, List.getElem_cons_succ, Act.put, List.setIfInBounds_toArray, List.set_cons_zero, List.set_cons_succ]
                refine wpAnyH_take (i := 47) (v := undef) rfl (by kernel_rfl) (by kernel_rfl) (by kernel_rfl) (fun _ _ _ h => h) (Or.inr ⟨by rfl, rfl⟩) hHeld ?hr47
                simp only [List.getElem_toArray, List.getElem_cons_zero, List.getElem_cons_succ, Act.put, List.setIfInBounds_toArray, List.set_cons_zero, List.set_cons_succ]
                refine wpAnyH_take (i := 48) (v := undef) rfl (by kernel_rfl) (by kernel_rfl) (by kernel_rfl) (fun _ _ _ h => h) (Or.inr ⟨by rfl, rfl⟩) hHeld ?hr48
                simp only [List.getElem_toArray, List.getElem_cons_zero, List.getElem_cons_succ, Act.put, List.setIfInBounds_toArray, List.set_cons_zero, List.set_cons_succ]
                refine wpAnyH_take (i := 49) (v := undef) rfl (by kernel_rfl) (by kernel_rfl) (by kernel_rfl) (fun _ _ _ h => h) (Or.inr ⟨by rfl, rfl⟩) hHeld ?hr49
                simp only [List.getElem_toArray, List.getElem_cons_zero, List.getElem_cons_succ, Act.put, List.setIfInBounds_toArray, List.set_cons_zero, List.set_cons_succ]
                refine wpAnyH_take (i := 50) (v := undef) rfl (by kernel_rfl) (by kernel_rfl) (by kernel_rfl) (fun _ _ _ h => h) (Or.inr ⟨by rfl, rfl⟩) hHeld ?hr50
                simp only [List.getElem_toArray, List.getElem_cons_zero, List.getElem_cons_succ, Act.put, List.setIfInBounds_toArray, List.set_cons_zero, List.set_cons_succ]
                refine wpAnyH_take (i := 51) (v := undef) rfl (by kernel_rfl) (by kernel_rfl) (by kernel_rfl) (fun _ _ _ h => h) (Or.inr ⟨by rfl, rfl⟩) hHeld ?hr51
                simp only [List.getElem_toArray, List.getElem_cons_zero, List.getElem_cons_succ, Act.put, List.setIfInBounds_toArray, List.set_cons_zero, List.set_cons_succ]
                refine wpAnyH_take (i := 52) (v := undef) rfl (by kernel_rfl) (by kernel_rfl) (by kernel_rfl) (fun _ _ _ h => h) (Or.inr ⟨by rfl, rfl⟩) hHeld ?hr52
                simp only [List.getElem_toArray, List.getElem_cons_zero, List.getElem_cons_succ, Act.put, List.setIfInBounds_toArray, List.set_cons_zero, List.set_cons_succ]
                refine wpAnyH_take (i := 53) (v := undef) rfl (by kernel_rfl) (by kernel_rfl) (by kernel_rfl) (fun _ _ _ h => h) (Or.inr ⟨by rfl, rfl⟩) hHeld ?hr53
                simp only [List.getElem_toArray, List.getElem_cons_zero, List.getElem_cons_succ, Act.put, List.setIfInBounds_toArray, List.set_cons_zero, List.set_cons_succ]
                refine wpAnyH_take (i := 54) (v := ?vv54) rfl (by kernel_rfl) (by kernel_rfl) (by kernel_rfl) (fun _ _ _ h => h) (Or.inl ⟨by rfl, ?hy54⟩) hHeld ?hr54
                case hy54 =>
                  intro w hSw
                  try dsimp only at hSw
                  simp only [List.getElem_toArray, List.getElem_cons_zero, List.getElem_cons_succ]
                  go_simp
                  try with_reducible rfl
                simp only [List.getElem_toArray, List.getElem_cons_zero, List.getElem_cons_succ, Act.put, List.setIfInBounds_toArray, List.set_cons_zero, List.set_cons_succ]
                refine wpAnyH_take (i := 55) (v := ?vv55) rfl (by kernel_rfl) (by kernel_rfl) (by kernel_rfl) (fun _ _ _ h => h) (Or.inl ⟨by rfl, ?hy55⟩) hHeld ?hr55
                case hy55 =>
                  intro w hSw
                  try dsimp only at hSw
                  simp only [List.getElem_toArray, List.getElem_cons_zero, List.getElem_cons_succ]
                  go_simp
                  try with_reducible rfl
                simp only [List.getElem_toArray, List.getElem_cons_zero, List.getElem_cons_succ, Act.put, List.setIfInBounds_toArray, List.set_cons_zero, List.set_cons_succ]
                refine wpAnyH_done (by kernel_rfl) ?_ _
                go_wp2
                go_roundw
                case rel => exact ⟨k + 1, by omega, by go_num, by assumption⟩
                case measure => simp [intOf]; omega
            · go_wp2
              go_roundw
              case rel => exact ⟨i + 1, by omega, by go_num, hQ3⟩
              case measure => simp [intOf]; omega
        · go_wp2_with (first
            | (go_at_call 4; first
                | ((with_reducible refine (known_all _ B 19 W1 _ HT.out HB.out HR.out (by decide) (by decide) (by assumption)).mono ?_); rintro e w' ⟨rfl, hq⟩)
                | ((with_reducible refine (known_all _ B 1 W1 _ HT.out HB.out HR.out (by decide) (by decide) (by assumption)).mono ?_); rintro e w' ⟨rfl, hq⟩)
                | ((with_reducible refine (known_none _ W1 _ HT.out (by assumption)).mono ?_); rintro e w' ⟨rfl, hq⟩))
            | (go_at_call 5; refine (known_facts0 _ _ _ _ _ W1 _ HT.out ⟨by decide, by decide⟩ ⟨by decide, by decide⟩ (by assumption)).mono ?_; rintro e w' ⟨rfl, hq⟩))
          go_roundw
          case rel => exact ⟨n + 1, by omega, by go_num, by assumption⟩
          case measure => simp [intOf]; omega
    · go_wp2_with (first
        | (go_at_call 3; refine (known_do0 _ _ _ W1 _ HT.out ⟨by decide, by decide⟩ ⟨by decide, by decide⟩ (by assumption)).mono ?_; rintro e w' ⟨rfl, hq⟩)
        | (go_at_call 14; refine (known_works W1 _ HT.out (by assumption)).mono ?_; rintro e w' ⟨rfl, hq⟩))
      go_ret
      exact ⟨rfl, Kept.trans HK.out (by assumption)⟩
end Go.Proofs.YtfibonciioipnaaDoor
