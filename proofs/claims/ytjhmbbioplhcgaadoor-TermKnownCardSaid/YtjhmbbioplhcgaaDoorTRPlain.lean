/-
  Layer 2: the contract of Plain: a graph, as the reference has it.
-/
import Derived.Test.YtjhmbbioplhcgaaDoorTRAdd
import Derived.Test.YtjhmbbioplhcgaaDoorTMade
namespace Go.Proofs.YtjhmbbioplhcgaaDoor
open Go Go.RowKit

set_option maxRecDepth 100000 in
set_option maxHeartbeats 8000000 in
theorem rplain_any {B g m c : Nat} {sa : Option Addr} {L : List Nd} {w : World} (hG : GraphAt B w g m sa c L) (hl : L.length ≤ 900) :
    Calls Tryd.prog 18 #[.pointer (some ⟨g, 0, none⟩)] w fun e w' => ∃ h a' c', e = .returned (.pointer (some ⟨h, 0, none⟩)) ∧ RefAt w.heap.size w' h a' c' L ∧ Kept w w' := by
  have HG := Lib.hid hG; clear hG
  obtain ⟨ik, hik, hz0, hz1, hz2⟩ := info_parts infoRef
  have HIK := Lib.hid (And.intro hik (And.intro hz0 (And.intro hz1 hz2))); clear hik hz0 hz1 hz2
  go_enter Tryd.func18, Tryd.ntmps18
  go_upto_region 3 with (fail)
  have HS : Hid (RefAt w.heap.size (w.alloc (.cells #[.slice none 0 0] 29)) w.heap.size none 0 []) :=
    ⟨(MapKept.heap_alloc w _).1, World.ownsRow_nil _ _ _ _, (fun x hx => by cases hx), Nat.le_refl _⟩
  have HK0 := Lib.hid ((Kept.refl w).alloc (.cells #[.slice none 0 0] 29))
  obtain ⟨h, hh⟩ : ∃ h : Nat, h = w.heap.size := ⟨_, rfl⟩
  have HH := Lib.hid hh
  rw [← hh]
  clear hh
  go_loopw [4] (fun i wr => ∃ (k : Nat) (a' : Option Addr) (c' : Nat), k ≤ L.length ∧ i = .int .i64 k ∧ RefAt h wr h a' c' (L.take k) ∧ Kept w wr) (fun i _ => L.length - (intOf i).toNat)
  case atStart => exact ⟨0, none, 0, Nat.zero_le _, rfl, by rw [HH.out]; exact HS.out, HK0.out⟩
  case round =>
    obtain ⟨k, a', c', hk, rfl, hR, hK⟩ := hrel
    have HR := Lib.hid hR; have HK := Lib.hid hK
    clear hR hK
    have HGW := Lib.hid (HG.out.kept HK.out)
    have gc := HGW.out.cell0
    have k0 : (0 : Int) ≤ (k : Int) := Int.natCast_nonneg _
    by_cases hlt : k < L.length
    · have k1 : (k : Int) < (L.length : Int) := by omega
      obtain ⟨d, hd⟩ : ∃ d, L[k] = d := ⟨_, rfl⟩
      have HTK : Hid (L.take (k + 1) = L.take k ++ [d]) := by
        show _ = _
        rw [List.take_succ_eq_append_getElem hlt, hd]
      have HB : Hid (hasB L.length (k : Int) = true) := (hasB_iff _ _).2 ⟨k0, k1⟩
      have HN : Hid (nodeAt L (k : Int) = d) := by
        show _ = _
        unfold nodeAt
        rw [HB.out, Int.toNat_natCast, List.getD_eq_getElem?_getD, List.getElem?_eq_getElem hlt, hd]
        rfl
      have HTL : Hid ((L.take k).length = k) := by show _ = _; rw [List.length_take]; omega
      clear hd
      go_wp2_with (go_at_call 15; refine (size_cell _ _ _ _ _ gc).mono ?_; rintro e w' ⟨rfl, rfl⟩)
      refine (node_any HGW.out (k : Int)).mono ?_
      rintro e w2 ⟨rfl, hk2⟩
      rw [HB.out, HN.out]
      simp only [Nd.val]
      have HK2 := Lib.hid hk2; clear hk2 gc
      go_upto_region 6 with (fail)
      have HBN := Lib.hid (MapKept.heap_alloc w2 (nodeObj d)).1
      have HK3 := Lib.hid (HK2.out.trans ((Kept.refl w2).alloc (nodeObj d)))
      change Code.wp _ _ _ _ (w2.alloc (nodeObj d))
      generalize w2.alloc (nodeObj d) = w3 at *
      generalize w2.heap.size = bn at *
      have HR3 := Lib.hid (HR.out.kept HK3.out)
      have HV : Hid ((Value.slice a' (L.take k).length c').ownBlock ≠ some h) := by
        intro e
        cases a' with
        | none => cases e
        | some x => exact HR3.out.apart x rfl (by simpa [Value.ownBlock] using e)
      have HZ : Hid (∀ w', Kept w3 w' → w'.cell? ⟨h, 0, none⟩ = some (.slice a' k c') ∧ w'.frozen? ⟨h, 0, none⟩ = false ∧ h < w'.heap.size ∧ h ≠ w'.heap.size) := fun w' hk => by
        have h1 := (HR3.out.kept hk).cell0
        rw [HTL.out] at h1
        have h2 := (HR3.out.kept hk).blk
        exact ⟨h1, frozen_of_row h2 0, (Array.getElem?_eq_some_iff.1 h2).1, Nat.ne_of_lt (Array.getElem?_eq_some_iff.1 h2).1⟩
      have HPL : Hid (∀ w', Kept w3 w' → Calls Tryd.prog 14 #[.agg #[.int .u8 d.k, .int .i64 d.n, .int .i64 d.a, .int .u8 d.o, .int .i64 d.x, .int .i64 d.y]] w' fun e w'' => e = .returned (.agg #[.int .u8 d.k, .int .i64 d.n, .int .i64 d.a, .int .u8 d.o, .int .i64 d.x, .int .i64 d.y]) ∧ Kept w3 w'') := fun w' hk =>
        (plain_any d w').mono fun e w'' hh => ⟨hh.1, hk.trans hh.2⟩
      have HVK : Hid ((Value.slice a' k c').ownBlock ≠ some h) := by
        have h1 := HV.out
        rwa [HTL.out] at h1
      have hK0 := Kept.refl w3
      obtain ⟨f0, f1, f2, f3, f4, f5⟩ := box_facts HBN.out (Kept.refl w3)
      obtain ⟨q0, q1, q2, q3⟩ := HZ.out w3 (Kept.refl w3)
      have HROW : Hid (∀ w', Kept w3 w' → w'.ownsRow h 37 6 (.slice a' k c') k (nodeCells (L.take k))) := fun w' hk => by
        have h1 := (HR3.out.kept hk).row
        rwa [HTL.out] at h1
      go_region_law ((first
        | (refine step_append_lies _ (by rfl) _ _ _ (by rfl) h 37 ik _ 6 48 Tryd.underlying27 HIK.out.1 HIK.out.2.1 HIK.out.2.2.1 HIK.out.2.2.2 rfl (by omega) (.slice a' k c') k (nodeCells (L.take k)) (by rfl) ((HROW.out _ hk3).alloc _)
            ⟨w4.heap.size, 0, none⟩ 1 1 [.int .u8 d.k, .int .i64 d.n, .int .i64 d.a, .int .u8 d.o, .int .i64 d.x, .int .i64 d.y] (by rfl) (by rfl) (World.news_of_block (cs := #[.int .u8 d.k, .int .i64 d.n, .int .i64 d.a, .int .u8 d.o, .int .i64 d.x, .int .i64 d.y]) (t := 37) (fr := (0, 0)) (heap_alloc_new w4 _)) (by simp [Value.oneCell'])
            (by omega) (by unfold maxLen; omega) (by omega) (by have := hk3.size; simp; omega) (w4.heap.size + 1) (by simp) ?_; intro gg cap w5 hown5 hgrow5 hat5 hlt5
           have hz5 := HZ.out _ (hk3.alloc (refObj d))
           have c5 : w5.cell? ⟨h, 0, none⟩ = some (.slice a' k c') := (hgrow5.cell_far ⟨h, 0, none⟩ hz5.2.2.1 (Ne.symm HVK.out)).trans hz5.1
           have z5 : w5.frozen? ⟨h, 0, none⟩ = false := (hgrow5.frozen_far ⟨h, 0, none⟩ hz5.2.2.1 (Ne.symm HVK.out)).trans hz5.2.1
           have HGR := Lib.hid hgrow5; have HOW := Lib.hid hown5; have HAT := Lib.hid hat5; have HK5 := Lib.hid hk3
           clear hgrow5 hown5 hat5 hlt5 hk3 hz5)
        | (go_simp; go_at_call 14; refine (HPL.out _ (by first | exact hK0 | exact Kept.drew hK0)).mono ?_; rintro e w4 ⟨rfl, hk3⟩; obtain ⟨p0, p1, p2, p3⟩ := HZ.out w4 hk3)))
      all_goals
        have hE := radd_end (d := d) HR3.out HK5.out (by rw [HTL.out]; exact HOW.out) (by rw [HTL.out]; exact ⟨HGR.out.os, HGR.out.tape, HGR.out.output, HGR.out.size, HGR.out.block⟩) (by rw [HTL.out]; exact HAT.out)
        rw [HTL.out] at hE
        have HE := Lib.hid hE
        have HKE := Lib.hid (HR3.out.keptOn (w0 := w) (by rw [HH.out]; exact Nat.le_refl _) (HK.out.trans HK3.out) hE.2.1)
        clear hE c5 z5 f0 f1 f2 f3 f4 f5 q0 q1 q2 q3 p0 p1 p2 p3 hK0
        go_wp2
        go_roundw
        case rel =>
          refine ⟨k + 1, some ⟨gg, 0, none⟩, cap, by omega, by go_num, ?_, ?_⟩
          · rw [HTK.out]; exact HE.out.1
          · exact HKE.out
        case measure => simp [intOf]; omega
    · obtain rfl : k = L.length := by omega
      go_wp2_with (go_at_call 15; refine (size_cell _ _ _ _ _ gc).mono ?_; rintro e w' ⟨rfl, rfl⟩)
      go_ret
      have hR := HR.out
      rw [List.take_length] at hR
      exact ⟨h, a', c', rfl, by rw [← HH.out]; exact hR, HK.out⟩
end Go.Proofs.YtjhmbbioplhcgaaDoor
