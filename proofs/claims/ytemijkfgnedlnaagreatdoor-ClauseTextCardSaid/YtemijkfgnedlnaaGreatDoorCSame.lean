/-
  Layer 5, ClauseUnits: contracts of the statement's helpers plain and same.
-/
import Derived.Test.YtemijkfgnedlnaaGreatDoorCModels0
namespace Go.Proofs.YtemijkfgnedlnaaGreatDoor
open Go Go.RowKit Go.Lib

set_option maxHeartbeats 1000000 in
theorem fplain_any (V : Int) (ca : Option Addr) (cn cc : Nat) (w : World) :
    Calls Tryz.prog 9 #[.agg #[.int .i64 V, .slice ca cn cc]] w fun e w' => e = .returned (.agg #[.int .i64 V, .slice ca cn cc]) ∧ Kept w w' := by
  go_enter Tryz.func9, Tryz.ntmps9
  go_wp2
  exact bodyPost_ret (v := .agg #[.int .i64 V, .slice ca cn cc]) (by simp [results, Tryz.results9, go_sem]) rfl ⟨rfl, ((Kept.refl _).alloc _).alloc _⟩
abbrev mObj (V : Int) (ca : Option Addr) (cn cc : Nat) : Obj := .cells #[.int .i64 V, .slice ca cn cc] 33
set_option maxHeartbeats 4000000 in
theorem fsame_any (V : Int) (ca cb : Option Addr) (cn cc dn dc : Nat) (C : List (List Int)) (w : World) (hC : ClsAt w ca cn C) (hD : ClsAt w cb dn C) (hcn : cn ≤ 1000000) (hS : ∀ c ∈ C, c.length ≤ 1000000) :
    Calls Tryz.prog 11 #[.agg #[.int .i64 V, .slice ca cn cc], .agg #[.int .i64 V, .slice cb dn dc]] w fun e w' => e = .returned (.bool true) ∧ Kept w w' := by
  obtain rfl : dn = cn := hD.len.symm.trans hC.len
  have HK := Lib.hid (((Kept.refl w).alloc (fObj V ca dn cc)).alloc (mObj V cb dn dc))
  have HB := Lib.hid (((Kept.refl (w.alloc (fObj V ca dn cc))).alloc (mObj V cb dn dc)).row (MapKept.heap_alloc w (fObj V ca dn cc)).1)
  have hb := (MapKept.heap_alloc (w.alloc (fObj V ca dn cc)) (mObj V cb dn dc)).1
  have hs : (w.alloc (fObj V ca dn cc)).heap.size = w.heap.size + 1 := by simp
  rw [hs] at hb
  have HD2 := Lib.hid hb
  have HC := Lib.hid (hC.kept HK.out)
  have HD := Lib.hid (hD.kept HK.out)
  have HS := Lib.hid hS
  clear hC hD hS hb hs
  go_enter Tryz.func11, Tryz.ntmps11
  go_upto_region 1 with (fail)
  change Code.wp _ _ _ _ ((w.alloc (fObj V ca dn cc)).alloc (mObj V cb dn dc))
  generalize (w.alloc (fObj V ca dn cc)).alloc (mObj V cb dn dc) = W at *
  obtain ⟨b, hb⟩ : ∃ b : Nat, b = w.heap.size := ⟨_, rfl⟩
  rw [← hb] at HB HD2 ⊢
  clear hb
  have HF : Hid (∀ w', Kept W w' → (w'.cell? ⟨b, 0, none⟩ = some (.int .i64 V) ∧ w'.cell? ⟨b, 1, none⟩ = some (.slice ca dn cc)) ∧ w'.cell? ⟨b + 1, 0, none⟩ = some (.int .i64 V) ∧ w'.cell? ⟨b + 1, 1, none⟩ = some (.slice cb dn dc)) := fun w' hk => by
    refine ⟨box_facts HB.out hk, ?_, ?_⟩ <;> (rw [cell_of_row _ _ _ _ _ _ (hk.row HD2.out)]; rfl)
  obtain ⟨⟨f0, f1⟩, g0, g1⟩ := HF.out W (Kept.refl W)
  have v0 : (V != V) = false := by simp
  have n0 : ((dn : Int) != (dn : Int)) = false := by simp
  go_wp2
  clear f0 f1 g0 g1
  go_loopw [5] (fun i wr => ∃ j : Nat, j ≤ dn ∧ i = .int .i64 j ∧ Hid (Kept W wr)) (fun i _ => dn - (intOf i).toNat)
  case atStart => exact ⟨0, Nat.zero_le _, rfl, Kept.refl _⟩
  case round =>
    obtain ⟨j, hj, rfl, HKJ⟩ := hrel
    have j0 : (0 : Int) ≤ (j : Int) := Int.natCast_nonneg _
    obtain ⟨⟨f0, f1⟩, g0, g1⟩ := HF.out wr HKJ.out
    by_cases hjn : j < dn
    · have j1 : (j : Int) < (dn : Int) := by omega
      have HC5 := Lib.hid (HC.out.kept HKJ.out)
      have HD5 := Lib.hid (HD.out.kept HKJ.out)
      obtain ⟨c1, hc1⟩ : ∃ c1, C[j]? = some c1 := ⟨_, List.getElem?_eq_getElem (by rw [HC.out.len]; exact hjn)⟩
      obtain ⟨b1, o1, rfl, hat1⟩ := HC5.out.at_ (by omega)
      obtain ⟨b2, o2, rfl, hat2⟩ := HD5.out.at_ (by omega)
      obtain ⟨a1, k1, p1, x1, hI1, _⟩ := hat1 j c1 hc1
      obtain ⟨a2, k2, p2, x2, hI2, _⟩ := hat2 j c1 hc1
      have HI1 := Lib.hid hI1
      have HI2 := Lib.hid hI2
      have hk1 : k1 ≤ 1000000 := by rw [← hI1.len]; exact HS.out c1 (List.mem_of_getElem? hc1)
      have FN : Hid (∀ w', Kept wr w' → Kept wr w' ∧ w'.cell? ⟨b, 1, none⟩ = some (.slice (some ⟨b1, o1, none⟩) dn cc) ∧ w'.cell? ⟨b + 1, 1, none⟩ = some (.slice (some ⟨b2, o2, none⟩) dn dc) ∧ w'.cell? ⟨b1, o1 + j, none⟩ = some (.slice a1 k1 p1) ∧ w'.cell? ⟨b2, o2 + j, none⟩ = some (.slice a2 k2 p2)) := fun w' hk => ⟨hk, hk.cell f1, hk.cell g1, hk.cell x1, hk.cell x2⟩
      clear hat1 hat2 hI1 hI2 hc1
      go_upto_region 6 with (fail)
      go_region_held3 (fun w' => Kept wr w' ∧ w'.cell? ⟨b, 1, none⟩ = some (.slice (some ⟨b1, o1, none⟩) dn cc) ∧ w'.cell? ⟨b + 1, 1, none⟩ = some (.slice (some ⟨b2, o2, none⟩) dn dc) ∧ w'.cell? ⟨b1, o1 + j, none⟩ = some (.slice a1 k1 p1) ∧ w'.cell? ⟨b2, o2 + j, none⟩ = some (.slice a2 k2 p2))
        (first | exact FN.out _ (Kept.refl _) | exact FN.out _ (Kept.drew (Kept.refl _)) | assumption | exact FN.out _ (Kept.trans (And.left ‹Kept wr _ ∧ _›) (by assumption)))
        ((go_at_call 20; refine (same_true a1 a2 k1 p1 k2 p2 c1 c1 _ (HI1.out.kept (And.left ‹Kept wr _ ∧ _›)) (HI2.out.kept (And.left ‹Kept wr _ ∧ _›)) rfl (by omega)).mono ?_; rintro e w2 ⟨rfl, hk2⟩))
      have HK2 := Lib.hid (HKJ.out.trans (And.left ‹Kept wr w2 ∧ _›))
      go_wp2
      go_roundw
      case rel => exact ⟨j + 1, by omega, by go_num, HK2.out⟩
      case measure => simp [intOf]; omega
    · obtain rfl : j = dn := by omega
      go_wp2
      go_ret
      exact ⟨rfl, HK.out.trans HKJ.out⟩
end Go.Proofs.YtemijkfgnedlnaaGreatDoor
