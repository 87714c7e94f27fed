/-
  Layer 5: the contract of utf8.DecodeRune: a rune, and how many bytes it takes.
  Before it: Layer 5: utf8.DecodeRune of bytes: a rune, and how many bytes it takes: at least one, at most all.
-/
import Derived.Test.YtlikokeknfhejaaGreatDoorDWords
import Derived.Shelf.Unicode.DecodeSlow
namespace Go.Proofs.YtlikokeknfhejaaGreatDoor
open Go Go.RowKit Go.Lib

def DecPost (n : Nat) (w : World) (e : Ending) (w' : World) : Prop := ∃ (r : Int) (z : Nat), e = .returned (.tuple #[.int .i32 r, .int .i64 (z : Int)]) ∧ -2147483648 ≤ r ∧ r ≤ 2147483647 ∧ 1 ≤ z ∧ z ≤ n ∧ Kept w w'
theorem DecPost.mk {n : Nat} {w w' : World} (r : Int) (z : Nat) (h1 : -2147483648 ≤ r) (h2 : r ≤ 2147483647) (h3 : 1 ≤ z) (h4 : z ≤ n) (hk : Kept w w') : DecPost n w (.returned (.tuple #[.int .i32 r, .int .i64 (z : Int)])) w' := ⟨r, z, rfl, h1, h2, h3, h4, hk⟩
abbrev accO (lo hi : Int) : Obj := .cells #[.int .u8 lo, .int .u8 hi] 341
set_option maxRecDepth 1000000 in
set_option maxHeartbeats 8000000 in
theorem decslow_any (b off n c : Nat) (L : List UInt8) (w : World) (hL : BytesAt w (some ⟨b, off, none⟩) n L) (hn : 0 < n) (hnc : n ≤ 1000000000) (hT : Lib.Utf8Tabs 9 10 w) :
    Calls Tryz.prog 255 #[.slice (some ⟨b, off, none⟩) n c] w (DecPost n w) := by
  have HL := Lib.hid hL.len
  obtain ⟨b', off', he, hc⟩ := hL.at_ hn
  cases he
  have hcell : ∀ j, j < n → ∃ k : Nat, k < 256 ∧ w.cell? ⟨b, off + j, none⟩ = some (.int .u8 (k : Int)) := fun j hj => by
    have hl : j < L.length := by rw [HL.out]; exact hj
    exact ⟨_, (L[j]).toNat_lt, hc j _ (List.getElem?_eq_getElem hl)⟩
  obtain ⟨k0, hk0, y0⟩ := hcell 0 hn
  rw [Nat.add_zero] at y0
  have hb : b < w.heap.size := World.block_lt_of_cell? w _ y0
  have hc0 := hT.1 k0 hk0
  have n0 : (0 : Int) < (n : Int) := by omega
  have n1 : ¬ ((n : Int) < 1) := by omega
  have kk0 : (0 : Int) ≤ (k0 : Int) := Int.natCast_nonneg _
  have kk0' : (k0 : Int) < 256 := by omega
  have HC := Lib.hid hcell
  have HT2 := Lib.hid hT.2
  clear hc hcell hL hT
  rcases Lib.firstT_cases k0 with hX | hX | hX | hX | hX | hX | hX | hX | hX
  · rw [hX] at hc0
    clear hX
    go_enter Tryz.func255, Tryz.ntmps255
    go_wp2
    rw [Utf8W.mask240, Utf8W.keep_byte ⟨k0, hk0⟩]
    go_ret2
    exact DecPost.mk (k0 : Int) 1 (by omega) (by omega) (by omega) (by omega) (Kept.refl _)
  · rw [hX] at hc0
    clear hX
    go_enter Tryz.func255, Tryz.ntmps255
    go_wp2
    rw [Utf8W.mask241, Utf8W.drop_byte ⟨k0, hk0⟩]
    go_ret2
    exact DecPost.mk 65533 1 (by omega) (by omega) (by omega) (by omega) (Kept.refl _)
  · rw [hX] at hc0
    have ha0 := (HT2.out 0 (by omega)).1
    have ha1 := (HT2.out 0 (by omega)).2
    simp only [accLo, accHi, Nat.reduceMul, Nat.reduceAdd, Nat.reduceEqDiff, if_true, if_false] at ha0 ha1
    clear hX
    by_cases hsz : n < 2
    · have hz : (n : Int) < 2 := by omega
      go_enter Tryz.func255, Tryz.ntmps255
      go_wp2
      all_goals (go_ret2; exact DecPost.mk 65533 1 (by omega) (by omega) (by omega) (by omega) ((Kept.refl _).alloc _))
    · have hz : ¬ ((n : Int) < 2) := by omega
      obtain ⟨k1, hk1, y1⟩ := HC.out 1 (by omega)
      have z1 := ((Kept.refl w).alloc (accO 128 191)).cell y1
      have n1' : (1 : Int) < (n : Int) := by omega
      have kk1 : (0 : Int) ≤ (k1 : Int) := Int.natCast_nonneg _
      have kk1' : (k1 : Int) < 256 := by omega
      go_enter Tryz.func255, Tryz.ntmps255
      go_wp2
      all_goals (go_ret2; first | exact DecPost.mk _ 1 (by omega) (by omega) (by omega) (by omega) ((Kept.refl _).alloc _) | exact DecPost.mk _ 2 (by omega) (by omega) (by omega) (by omega) ((Kept.refl _).alloc _))
  · rw [hX] at hc0
    have ha0 := (HT2.out 1 (by omega)).1
    have ha1 := (HT2.out 1 (by omega)).2
    simp only [accLo, accHi, Nat.reduceMul, Nat.reduceAdd, Nat.reduceEqDiff, if_true, if_false] at ha0 ha1
    clear hX
    by_cases hsz : n < 3
    · have hz : (n : Int) < 3 := by omega
      go_enter Tryz.func255, Tryz.ntmps255
      go_wp2
      all_goals (go_ret2; exact DecPost.mk 65533 1 (by omega) (by omega) (by omega) (by omega) ((Kept.refl _).alloc _))
    · have hz : ¬ ((n : Int) < 3) := by omega
      obtain ⟨k1, hk1, y1⟩ := HC.out 1 (by omega)
      have z1 := ((Kept.refl w).alloc (accO 160 191)).cell y1
      have n1' : (1 : Int) < (n : Int) := by omega
      have kk1 : (0 : Int) ≤ (k1 : Int) := Int.natCast_nonneg _
      have kk1' : (k1 : Int) < 256 := by omega
      obtain ⟨k2, hk2, y2⟩ := HC.out 2 (by omega)
      have z2 := ((Kept.refl w).alloc (accO 160 191)).cell y2
      have n2' : (2 : Int) < (n : Int) := by omega
      have kk2 : (0 : Int) ≤ (k2 : Int) := Int.natCast_nonneg _
      have kk2' : (k2 : Int) < 256 := by omega
      go_enter Tryz.func255, Tryz.ntmps255
      go_wp2
      all_goals (go_ret2; first | exact DecPost.mk _ 1 (by omega) (by omega) (by omega) (by omega) ((Kept.refl _).alloc _) | exact DecPost.mk _ 3 (by omega) (by omega) (by omega) (by omega) ((Kept.refl _).alloc _))
  · rw [hX] at hc0
    have ha0 := (HT2.out 0 (by omega)).1
    have ha1 := (HT2.out 0 (by omega)).2
    simp only [accLo, accHi, Nat.reduceMul, Nat.reduceAdd, Nat.reduceEqDiff, if_true, if_false] at ha0 ha1
    clear hX
    by_cases hsz : n < 3
    · have hz : (n : Int) < 3 := by omega
      go_enter Tryz.func255, Tryz.ntmps255
      go_wp2
      all_goals (go_ret2; exact DecPost.mk 65533 1 (by omega) (by omega) (by omega) (by omega) ((Kept.refl _).alloc _))
    · have hz : ¬ ((n : Int) < 3) := by omega
      obtain ⟨k1, hk1, y1⟩ := HC.out 1 (by omega)
      have z1 := ((Kept.refl w).alloc (accO 128 191)).cell y1
      have n1' : (1 : Int) < (n : Int) := by omega
      have kk1 : (0 : Int) ≤ (k1 : Int) := Int.natCast_nonneg _
      have kk1' : (k1 : Int) < 256 := by omega
      obtain ⟨k2, hk2, y2⟩ := HC.out 2 (by omega)
      have z2 := ((Kept.refl w).alloc (accO 128 191)).cell y2
      have n2' : (2 : Int) < (n : Int) := by omega
      have kk2 : (0 : Int) ≤ (k2 : Int) := Int.natCast_nonneg _
      have kk2' : (k2 : Int) < 256 := by omega
      go_enter Tryz.func255, Tryz.ntmps255
      go_wp2
      all_goals (go_ret2; first | exact DecPost.mk _ 1 (by omega) (by omega) (by omega) (by omega) ((Kept.refl _).alloc _) | exact DecPost.mk _ 3 (by omega) (by omega) (by omega) (by omega) ((Kept.refl _).alloc _))
  · rw [hX] at hc0
    have ha0 := (HT2.out 2 (by omega)).1
    have ha1 := (HT2.out 2 (by omega)).2
    simp only [accLo, accHi, Nat.reduceMul, Nat.reduceAdd, Nat.reduceEqDiff, if_true, if_false] at ha0 ha1
    clear hX
    by_cases hsz : n < 3
    · have hz : (n : Int) < 3 := by omega
      go_enter Tryz.func255, Tryz.ntmps255
      go_wp2
      all_goals (go_ret2; exact DecPost.mk 65533 1 (by omega) (by omega) (by omega) (by omega) ((Kept.refl _).alloc _))
    · have hz : ¬ ((n : Int) < 3) := by omega
      obtain ⟨k1, hk1, y1⟩ := HC.out 1 (by omega)
      have z1 := ((Kept.refl w).alloc (accO 128 159)).cell y1
      have n1' : (1 : Int) < (n : Int) := by omega
      have kk1 : (0 : Int) ≤ (k1 : Int) := Int.natCast_nonneg _
      have kk1' : (k1 : Int) < 256 := by omega
      obtain ⟨k2, hk2, y2⟩ := HC.out 2 (by omega)
      have z2 := ((Kept.refl w).alloc (accO 128 159)).cell y2
      have n2' : (2 : Int) < (n : Int) := by omega
      have kk2 : (0 : Int) ≤ (k2 : Int) := Int.natCast_nonneg _
      have kk2' : (k2 : Int) < 256 := by omega
      go_enter Tryz.func255, Tryz.ntmps255
      go_wp2
      all_goals (go_ret2; first | exact DecPost.mk _ 1 (by omega) (by omega) (by omega) (by omega) ((Kept.refl _).alloc _) | exact DecPost.mk _ 3 (by omega) (by omega) (by omega) (by omega) ((Kept.refl _).alloc _))
  · rw [hX] at hc0
    have ha0 := (HT2.out 3 (by omega)).1
    have ha1 := (HT2.out 3 (by omega)).2
    simp only [accLo, accHi, Nat.reduceMul, Nat.reduceAdd, Nat.reduceEqDiff, if_true, if_false] at ha0 ha1
    clear hX
    by_cases hsz : n < 4
    · have hz : (n : Int) < 4 := by omega
      go_enter Tryz.func255, Tryz.ntmps255
      go_wp2
      all_goals (go_ret2; exact DecPost.mk 65533 1 (by omega) (by omega) (by omega) (by omega) ((Kept.refl _).alloc _))
    · have hz : ¬ ((n : Int) < 4) := by omega
      obtain ⟨k1, hk1, y1⟩ := HC.out 1 (by omega)
      have z1 := ((Kept.refl w).alloc (accO 144 191)).cell y1
      have n1' : (1 : Int) < (n : Int) := by omega
      have kk1 : (0 : Int) ≤ (k1 : Int) := Int.natCast_nonneg _
      have kk1' : (k1 : Int) < 256 := by omega
      obtain ⟨k2, hk2, y2⟩ := HC.out 2 (by omega)
      have z2 := ((Kept.refl w).alloc (accO 144 191)).cell y2
      have n2' : (2 : Int) < (n : Int) := by omega
      have kk2 : (0 : Int) ≤ (k2 : Int) := Int.natCast_nonneg _
      have kk2' : (k2 : Int) < 256 := by omega
      obtain ⟨k3, hk3, y3⟩ := HC.out 3 (by omega)
      have z3 := ((Kept.refl w).alloc (accO 144 191)).cell y3
      have n3' : (3 : Int) < (n : Int) := by omega
      have kk3 : (0 : Int) ≤ (k3 : Int) := Int.natCast_nonneg _
      have kk3' : (k3 : Int) < 256 := by omega
      go_enter Tryz.func255, Tryz.ntmps255
      go_wp2
      all_goals (go_ret2; first | exact DecPost.mk _ 1 (by omega) (by omega) (by omega) (by omega) ((Kept.refl _).alloc _) | exact DecPost.mk _ 4 (by omega) (by omega) (by omega) (by omega) ((Kept.refl _).alloc _))
  · rw [hX] at hc0
    have ha0 := (HT2.out 0 (by omega)).1
    have ha1 := (HT2.out 0 (by omega)).2
    simp only [accLo, accHi, Nat.reduceMul, Nat.reduceAdd, Nat.reduceEqDiff, if_true, if_false] at ha0 ha1
    clear hX
    by_cases hsz : n < 4
    · have hz : (n : Int) < 4 := by omega
      go_enter Tryz.func255, Tryz.ntmps255
      go_wp2
      all_goals (go_ret2; exact DecPost.mk 65533 1 (by omega) (by omega) (by omega) (by omega) ((Kept.refl _).alloc _))
    · have hz : ¬ ((n : Int) < 4) := by omega
      obtain ⟨k1, hk1, y1⟩ := HC.out 1 (by omega)
      have z1 := ((Kept.refl w).alloc (accO 128 191)).cell y1
      have n1' : (1 : Int) < (n : Int) := by omega
      have kk1 : (0 : Int) ≤ (k1 : Int) := Int.natCast_nonneg _
      have kk1' : (k1 : Int) < 256 := by omega
      obtain ⟨k2, hk2, y2⟩ := HC.out 2 (by omega)
      have z2 := ((Kept.refl w).alloc (accO 128 191)).cell y2
      have n2' : (2 : Int) < (n : Int) := by omega
      have kk2 : (0 : Int) ≤ (k2 : Int) := Int.natCast_nonneg _
      have kk2' : (k2 : Int) < 256 := by omega
      obtain ⟨k3, hk3, y3⟩ := HC.out 3 (by omega)
      have z3 := ((Kept.refl w).alloc (accO 128 191)).cell y3
      have n3' : (3 : Int) < (n : Int) := by omega
      have kk3 : (0 : Int) ≤ (k3 : Int) := Int.natCast_nonneg _
      have kk3' : (k3 : Int) < 256 := by omega
      go_enter Tryz.func255, Tryz.ntmps255
      go_wp2
      all_goals (go_ret2; first | exact DecPost.mk _ 1 (by omega) (by omega) (by omega) (by omega) ((Kept.refl _).alloc _) | exact DecPost.mk _ 4 (by omega) (by omega) (by omega) (by omega) ((Kept.refl _).alloc _))
  · rw [hX] at hc0
    have ha0 := (HT2.out 4 (by omega)).1
    have ha1 := (HT2.out 4 (by omega)).2
    simp only [accLo, accHi, Nat.reduceMul, Nat.reduceAdd, Nat.reduceEqDiff, if_true, if_false] at ha0 ha1
    clear hX
    by_cases hsz : n < 4
    · have hz : (n : Int) < 4 := by omega
      go_enter Tryz.func255, Tryz.ntmps255
      go_wp2
      all_goals (go_ret2; exact DecPost.mk 65533 1 (by omega) (by omega) (by omega) (by omega) ((Kept.refl _).alloc _))
    · have hz : ¬ ((n : Int) < 4) := by omega
      obtain ⟨k1, hk1, y1⟩ := HC.out 1 (by omega)
      have z1 := ((Kept.refl w).alloc (accO 128 143)).cell y1
      have n1' : (1 : Int) < (n : Int) := by omega
      have kk1 : (0 : Int) ≤ (k1 : Int) := Int.natCast_nonneg _
      have kk1' : (k1 : Int) < 256 := by omega
      obtain ⟨k2, hk2, y2⟩ := HC.out 2 (by omega)
      have z2 := ((Kept.refl w).alloc (accO 128 143)).cell y2
      have n2' : (2 : Int) < (n : Int) := by omega
      have kk2 : (0 : Int) ≤ (k2 : Int) := Int.natCast_nonneg _
      have kk2' : (k2 : Int) < 256 := by omega
      obtain ⟨k3, hk3, y3⟩ := HC.out 3 (by omega)
      have z3 := ((Kept.refl w).alloc (accO 128 143)).cell y3
      have n3' : (3 : Int) < (n : Int) := by omega
      have kk3 : (0 : Int) ≤ (k3 : Int) := Int.natCast_nonneg _
      have kk3' : (k3 : Int) < 256 := by omega
      go_enter Tryz.func255, Tryz.ntmps255
      go_wp2
      all_goals (go_ret2; first | exact DecPost.mk _ 1 (by omega) (by omega) (by omega) (by omega) ((Kept.refl _).alloc _) | exact DecPost.mk _ 4 (by omega) (by omega) (by omega) (by omega) ((Kept.refl _).alloc _))
end Go.Proofs.YtlikokeknfhejaaGreatDoor

namespace Go.Proofs.YtlikokeknfhejaaGreatDoor
open Go Go.RowKit Go.Lib

set_option maxRecDepth 100000 in
set_option maxHeartbeats 4000000 in
theorem rune_any (b off n c : Nat) (L : List UInt8) (w : World) (hL : BytesAt w (some ⟨b, off, none⟩) n L) (hn : 0 < n) (hnc : n ≤ 1000000000) (hT : Lib.Utf8Tabs 9 10 w) :
    Calls Tryz.prog 203 #[.slice (some ⟨b, off, none⟩) n c] w (DecPost n w) := by
  have HS := Lib.hid (decslow_any b off n c L w hL hn hnc hT)
  obtain ⟨b', off', he, hc⟩ := hL.at_ hn
  cases he
  have hl : 0 < L.length := by rw [hL.len]; exact hn
  have y0 := hc 0 _ (List.getElem?_eq_getElem hl)
  rw [Nat.add_zero] at y0
  obtain ⟨k, hk⟩ : ∃ k : Nat, k = (L[0]).toNat := ⟨_, rfl⟩
  have hk1 : k < 256 := by rw [hk]; exact (L[0]).toNat_lt
  rw [← hk] at y0
  have k0 : (0 : Int) ≤ (k : Int) := Int.natCast_nonneg _
  have k1 : (k : Int) < 256 := by omega
  have n0 : (0 : Int) < (n : Int) := by omega
  clear hc hL hT hk hl
  go_enter Tryz.func203, Tryz.ntmps203
  go_wp2
  go_loopw [8] (fun i wr => i = .int .i64 0 ∧ wr = w) (fun _ _ => 0)
  case atStart => exact ⟨rfl, rfl⟩
  case round =>
    obtain ⟨rfl, rfl⟩ := hrel
    by_cases h : k < 128
    · have d0 : decide ((k : Int) < 128) = true := decide_eq_true (by omega)
      clear h
      go_wp2
      go_ret2
      exact DecPost.mk (k : Int) 1 (by omega) (by omega) (by omega) (by omega) (Kept.refl _)
    · have d0 : decide ((k : Int) < 128) = false := decide_eq_false (by omega)
      clear h
      go_wp2_with fail
      refine HS.out.mono ?_
      rintro e w' ⟨r, z, rfl, h1, h2, h3, h4, hk⟩
      have HK := Lib.hid hk
      clear hk
      go_wp2
      go_ret2
      exact DecPost.mk r z h1 h2 h3 h4 HK.out
end Go.Proofs.YtlikokeknfhejaaGreatDoor
