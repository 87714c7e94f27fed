/-
  Layer 5, ClauseText: the law's walk.
  Before it: Layer 5, ClauseUnits: contracts of the statement's helpers plain and same. / Layer 5: the contract of the program's Get.
-/
import Derived.Test.YtlikokeknfhejaaGreatDoorCModels0
import Derived.Test.YtlikokeknfhejaaGreatDoorDRead
import Derived.Test.YtlikokeknfhejaaGreatDoorDPut
import Derived.Test.YtlikokeknfhejaaGreatDoorDRGet
import Derived.Test.YtlikokeknfhejaaGreatDoorCWorks
namespace Go.Proofs.YtlikokeknfhejaaGreatDoor
open Go Go.RowKit Go.Lib

set_option maxHeartbeats 1000000 in
theorem fplain_any (V : Int) (ca : Option Addr) (cn cc : Nat) (w : World) :
    Calls Tryz.prog 37 #[.agg #[.int .i64 V, .slice ca cn cc]] w fun e w' => e = .returned (.agg #[.int .i64 V, .slice ca cn cc]) ∧ Kept w w' := by
  go_enter Tryz.func37, Tryz.ntmps37
  go_wp2
  exact bodyPost_ret (v := .agg #[.int .i64 V, .slice ca cn cc]) (by simp [results, Tryz.results37, go_sem]) rfl ⟨rfl, ((Kept.refl _).alloc _).alloc _⟩
abbrev mObj (V : Int) (ca : Option Addr) (cn cc : Nat) : Obj := .cells #[.int .i64 V, .slice ca cn cc] 83
set_option maxHeartbeats 4000000 in
theorem fsame_any (V : Int) (ca cb : Option Addr) (cn cc dn dc : Nat) (C : List (List Int)) (w : World) (hC : ClsAt w ca cn C) (hD : ClsAt w cb dn C) (hcn : cn ≤ 1000000) (hS : ∀ c ∈ C, c.length ≤ 1000000) :
    Calls Tryz.prog 39 #[.agg #[.int .i64 V, .slice ca cn cc], .agg #[.int .i64 V, .slice cb dn dc]] w fun e w' => e = .returned (.bool true) ∧ Kept w w' := by
  obtain rfl : dn = cn := hD.len.symm.trans hC.len
  have HK := Lib.hid (((Kept.refl w).alloc (fObj V ca dn cc)).alloc (mObj V cb dn dc))
  have HB := Lib.hid (((Kept.refl (w.alloc (fObj V ca dn cc))).alloc (mObj V cb dn dc)).row (MapKept.heap_alloc w (fObj V ca dn cc)).1)
  have hb := (MapKept.heap_alloc (w.alloc (fObj V ca dn cc)) (mObj V cb dn dc)).1
  have hs : (w.alloc (fObj V ca dn cc)).heap.size = w.heap.size + 1 := by simp
  rw [hs] at hb
  have HD2 := Lib.hid hb
  have HC := Lib.hid (hC.kept HK.out)
  have HD := Lib.hid (hD.kept HK.out)
  have HS := Lib.hid hS
  clear hC hD hS hb hs
  go_enter Tryz.func39, Tryz.ntmps39
  go_upto_region 1 with (fail)
  change Code.wp _ _ _ _ ((w.alloc (fObj V ca dn cc)).alloc (mObj V cb dn dc))
  generalize (w.alloc (fObj V ca dn cc)).alloc (mObj V cb dn dc) = W at *
  obtain ⟨b, hb⟩ : ∃ b : Nat, b = w.heap.size := ⟨_, rfl⟩
  rw [← hb] at HB HD2 ⊢
  clear hb
  have HF : Hid (∀ w', Kept W w' → (w'.cell? ⟨b, 0, none⟩ = some (.int .i64 V) ∧ w'.cell? ⟨b, 1, none⟩ = some (.slice ca dn cc)) ∧ w'.cell? ⟨b + 1, 0, none⟩ = some (.int .i64 V) ∧ w'.cell? ⟨b + 1, 1, none⟩ = some (.slice cb dn dc)) := fun w' hk => by
    refine ⟨box_facts HB.out hk, ?_, ?_⟩ <;> (rw [cell_of_row _ _ _ _ _ _ (hk.row HD2.out)]; rfl)
  obtain ⟨⟨f0, f1⟩, g0, g1⟩ := HF.out W (Kept.refl W)
  have v0 : (V != V) = false := by simp
  have n0 : ((dn : Int) != (dn : Int)) = false := by simp
  go_wp2
  clear f0 f1 g0 g1
  go_loopw [5] (fun i wr => ∃ j : Nat, j ≤ dn ∧ i = .int .i64 j ∧ Hid (Kept W wr)) (fun i _ => dn - (intOf i).toNat)
  case atStart => exact ⟨0, Nat.zero_le _, rfl, Kept.refl _⟩
  case round =>
    obtain ⟨j, hj, rfl, HKJ⟩ := hrel
    have j0 : (0 : Int) ≤ (j : Int) := Int.natCast_nonneg _
    obtain ⟨⟨f0, f1⟩, g0, g1⟩ := HF.out wr HKJ.out
    by_cases hjn : j < dn
    · have j1 : (j : Int) < (dn : Int) := by omega
      have HC5 := Lib.hid (HC.out.kept HKJ.out)
      have HD5 := Lib.hid (HD.out.kept HKJ.out)
      obtain ⟨c1, hc1⟩ : ∃ c1, C[j]? = some c1 := ⟨_, List.getElem?_eq_getElem (by rw [HC.out.len]; exact hjn)⟩
      obtain ⟨b1, o1, rfl, hat1⟩ := HC5.out.at_ (by omega)
      obtain ⟨b2, o2, rfl, hat2⟩ := HD5.out.at_ (by omega)
      obtain ⟨a1, k1, p1, x1, hI1, _⟩ := hat1 j c1 hc1
      obtain ⟨a2, k2, p2, x2, hI2, _⟩ := hat2 j c1 hc1
      have HI1 := Lib.hid hI1
      have HI2 := Lib.hid hI2
      have hk1 : k1 ≤ 1000000 := by rw [← hI1.len]; exact HS.out c1 (List.mem_of_getElem? hc1)
      have FN : Hid (∀ w', Kept wr w' → Kept wr w' ∧ w'.cell? ⟨b, 1, none⟩ = some (.slice (some ⟨b1, o1, none⟩) dn cc) ∧ w'.cell? ⟨b + 1, 1, none⟩ = some (.slice (some ⟨b2, o2, none⟩) dn dc) ∧ w'.cell? ⟨b1, o1 + j, none⟩ = some (.slice a1 k1 p1) ∧ w'.cell? ⟨b2, o2 + j, none⟩ = some (.slice a2 k2 p2)) := fun w' hk => ⟨hk, hk.cell f1, hk.cell g1, hk.cell x1, hk.cell x2⟩
      clear hat1 hat2 hI1 hI2 hc1
      go_upto_region 6 with (fail)
      go_region_held3 (fun w' => Kept wr w' ∧ w'.cell? ⟨b, 1, none⟩ = some (.slice (some ⟨b1, o1, none⟩) dn cc) ∧ w'.cell? ⟨b + 1, 1, none⟩ = some (.slice (some ⟨b2, o2, none⟩) dn dc) ∧ w'.cell? ⟨b1, o1 + j, none⟩ = some (.slice a1 k1 p1) ∧ w'.cell? ⟨b2, o2 + j, none⟩ = some (.slice a2 k2 p2))
        (first | exact FN.out _ (Kept.refl _) | exact FN.out _ (Kept.drew (Kept.refl _)) | assumption | exact FN.out _ (Kept.trans (And.left ‹Kept wr _ ∧ _›) (by assumption)))
        ((go_at_call 47; refine (same_true a1 a2 k1 p1 k2 p2 c1 c1 _ (HI1.out.kept (And.left ‹Kept wr _ ∧ _›)) (HI2.out.kept (And.left ‹Kept wr _ ∧ _›)) rfl (by omega)).mono ?_; rintro e w2 ⟨rfl, hk2⟩))
      have HK2 := Lib.hid (HKJ.out.trans (And.left ‹Kept wr w2 ∧ _›))
      go_wp2
      go_roundw
      case rel => exact ⟨j + 1, by omega, by go_num, HK2.out⟩
      case measure => simp [intOf]; omega
    · obtain rfl : j = dn := by omega
      go_wp2
      go_ret
      exact ⟨rfl, HK.out.trans HKJ.out⟩
end Go.Proofs.YtlikokeknfhejaaGreatDoor

namespace Go.Proofs.YtlikokeknfhejaaGreatDoor
open Go Go.RowKit Go.Lib

theorem bytes_of_row {w : World} {N n c : Nat} {a : Option Addr} {L : List UInt8} (h : w.ownsRow N 5 1 (.slice a n c) n (byteCells L)) (hn : n = L.length) : BytesAt w a n L ∧ (a = none → n = 0) ∧ ∀ ad, a = some ad → ad.spot = none := by
  refine ⟨⟨hn.symm, fun h0 => ?_⟩, ?_, ?_⟩
  · obtain ⟨r, ha, hj⟩ := bytes_row h hn h0
    exact ⟨r, 0, ha, fun j x hx => by
      obtain ⟨hl, rfl⟩ := List.getElem?_eq_some_iff.1 hx
      rw [Nat.zero_add]; exact hj j hl⟩
  · intro ha
    rcases Nat.eq_zero_or_pos n with h0 | h0
    · exact h0
    · obtain ⟨r, hr, _⟩ := bytes_row h hn h0; rw [ha] at hr; cases hr
  · intro ad had
    rcases h.2 with ⟨hv, _⟩ | ⟨r, cap, cur, hv, _⟩
    · injection hv with h1; rw [had] at h1; cases h1
    · injection hv with h1; rw [had] at h1; cases h1; rfl
theorem conv_any {w : World} {a : Option Addr} {n c : Nat} {L : List UInt8} (h : BytesAt w a n L) (hz : a = none → n = 0) : (convert 26 9 (.slice a n c)).run Tryz.prog w = .ok (.string ⟨L.toArray⟩) w := by
  rcases Nat.eq_zero_or_pos n with h0 | h0
  · subst h0
    have hL : L = [] := List.eq_nil_of_length_eq_zero h.len
    subst hL
    cases a with
    | none => exact conv_str h (fun _ => rfl) (fun ad e => by cases e)
    | some ad =>
      have hl : (loadCells ad 0).run Tryz.prog w = .ok (([] : List Int).map (Value.int .u8)).toArray w := by
        have := run_loadCells_list (P := Tryz.prog) w ad [] (fun j v hj => by simp at hj)
        simpa using this
      rw [run_convert_bytes_string w 26 9 5 (some ad) 0 c Tryz.underlying26 Tryz.underlying5 Tryz.underlying9, run_bytesToString w ad 0 c [] hl]
      rfl
  · obtain ⟨b, off, rfl, _⟩ := h.at_ h0
    exact conv_str h hz (fun ad e => by cases e; rfl)
theorem flat_le {D : List (List Int)} {c : List Int} (h : c ∈ D) : c.length ≤ D.flatten.length := by
  obtain ⟨s, t, rfl⟩ := List.append_of_mem h
  simp; omega
set_option maxRecDepth 100000 in
set_option maxHeartbeats 16000000 in
theorem get_any (a : Option Addr) (n c : Nat) (L : List UInt8) (w : World) (hL : BytesAt w a n L) (hF : Fit a n c) (hn : n ≤ 100000) (hsm : n ≤ 1000 ∨ ∃ V C, rightB V C = true ∧ L = putT V C ∧ C.length ≤ 1000 ∧ ∀ c ∈ C, c.length ≤ 1000) (hT : Tabs w) (hW : Laid w) :
    Calls Tryz.prog 38 #[.slice a n c] w (RGetPost L w) := by
  have HL := Lib.hid hL
  have HF := Lib.hid hF
  have HSM := Lib.hid hsm
  have HK0 := Lib.hid ((Kept.refl w).alloc zG)
  have HR := Lib.hid (MapKept.heap_alloc w zG).1
  obtain ⟨R0, hRe⟩ : ∃ R0 : Nat, R0 = w.heap.size := ⟨_, rfl⟩
  rw [← hRe] at HR
  have HRL := Lib.hid (show w.heap.size ≤ R0 by omega)
  have HT := Lib.hid (hT.kept HK0.out)
  have HW := Lib.hid (hW.kept HK0.out)
  clear hL hF hT hW hsm
  go_enter Tryz.func38, Tryz.ntmps38
  go_upto_region 1 with (fail)
  rw [← hRe]
  obtain ⟨w1, hw1⟩ : ∃ w1 : World, w1 = w.alloc zG := ⟨_, rfl⟩
  change Code.wp _ _ _ _ (w.alloc zG)
  rw [← hw1] at HR HK0 HT HW ⊢
  have HS1 : Hid (R0 < w1.heap.size) := (Array.getElem?_eq_some_iff.1 HR.out).1
  clear hw1 hRe
  have HRD := Lib.hid (read_any a n c L w1 (HL.out.kept HK0.out) HF.out hn HT.out)
  go_wp2_with fail
  refine HRD.out.mono ?_
  rintro e w2 ⟨hk2, V, fa, fk, fc, ok, D, rfl, hvi, hcls, hdl, hdf, hput⟩
  have HK2 := Lib.hid (HK0.out.trans hk2)
  have HR2 := Lib.hid (hk2.row HR.out)
  have HVI := Lib.hid hvi
  have HCL := Lib.hid hcls
  have HPUT := Lib.hid hput
  have HW2 := Lib.hid (HW.out.kept hk2)
  have HS2 : Hid (R0 < w2.heap.size) := Nat.lt_of_lt_of_le HS1.out hk2.size
  have HLN := Lib.hid HL.out.len
  have HDS : Hid (D.length ≤ 1000 ∧ ∀ c ∈ D, c.length ≤ 1000) := by
    rcases HSM.out with h | ⟨V', C', h1, h2, h3, h4⟩
    · have := HLN.out
      exact ⟨by omega, fun c hc => by have := flat_le hc; omega⟩
    · obtain ⟨_, _, rfl⟩ := hput V' C' h1 h2
      exact ⟨h3, h4⟩
  have HFK : Hid (D.length = fk) := (hcls w2 (Turned.refl _ _)).len
  clear hk2 hvi hcls hdl hdf hput HRD
  go_upto_region 2 with (fail)
  have HB3 := Lib.hid (MapKept.heap_alloc w2 (fObj V fa fk fc)).1
  have HK23 := Lib.hid ((Kept.refl w2).alloc (fObj V fa fk fc))
  obtain ⟨B4, hB4⟩ : ∃ B : Nat, B = w2.heap.size := ⟨_, rfl⟩
  obtain ⟨w3, hw3⟩ : ∃ w3 : World, w3 = w2.alloc (fObj V fa fk fc) := ⟨_, rfl⟩
  change Code.wp _ _ _ _ (w2.alloc (fObj V fa fk fc))
  rw [← hB4] at HB3 ⊢
  rw [← hw3] at HB3 HK23 ⊢
  clear hw3 hB4
  have HKW3 := Lib.hid (HK2.out.trans HK23.out)
  have HBAD : Hid (∀ wx : World, Kept w wx → ∀ (h : ¬ IsPut L), RGetPost L w (.returned (.tuple #[.agg #[.int .i64 0, .slice none 0 0], .int .i64 2])) ((wx.setCell ⟨R0, 0, none⟩ (.int .i64 0)).setCell ⟨R0, 1, none⟩ (.slice none 0 0))) := fun wx hk h =>
    ⟨(hk.setCell (p := ⟨R0, 0, none⟩) HRL.out (.int .i64 0)).setCell (p := ⟨R0, 1, none⟩) HRL.out (.slice none 0 0), Or.inr ⟨h, rfl⟩⟩
  cases ok with
  | false =>
    have HNO : Hid (¬ IsPut L) := fun ⟨V', C', hr, e⟩ => by
      have := (HPUT.out V' C' hr e).1
      cases this
    have HR3 := Lib.hid (HK23.out.row HR2.out)
    have f0' := frozen_of_row HR3.out 0
    have f1' := frozen_of_row HR3.out 1
    obtain ⟨r0, r1⟩ := box_facts HR3.out (Kept.refl w3)
    go_wp2
    have HB := Lib.hid (HBAD.out w3 HKW3.out HNO.out)
    have HR4 := Lib.hid (set2r (u := .int .i64 0) (v := .slice none 0 0) HR3.out)
    generalize (w3.setCell ⟨R0, 0, none⟩ (.int .i64 0)).setCell ⟨R0, 1, none⟩ (.slice none 0 0) = wz at *
    clear r0 r1 f0' f1'
    obtain ⟨r0, r1⟩ := box_facts HR4.out (Kept.refl wz)
    exact bodyPost_ret (v := .tuple #[.agg #[.int .i64 0, .slice none 0 0], .int .i64 2]) (by simp [results, Tryz.results38, go_sem, r0, r1]) rfl HB.out
  | true =>
    have HPC := Lib.hid (put_any V fa fk fc D w3 HVI.out (HCL.out w3 (HK23.out.turned _)) (by have h1 := HDS.out.1; have h2 := HFK.out; omega) HDS.out.2 (HW2.out.kept HK23.out))
    obtain ⟨y0, y1⟩ := box_facts HB3.out (Kept.refl w3)
    go_wp2_with fail
    refine HPC.out.mono ?_
    rintro e w4 ⟨hk4, hp⟩
    have HK4 := Lib.hid (HKW3.out.trans hk4)
    have HK24 := Lib.hid (HK23.out.trans hk4)
    have HR4 := Lib.hid (HK24.out.row HR2.out)
    have HB4 := Lib.hid (hk4.row HB3.out)
    clear y0 y1 hk4 HPC
    rcases hp with ⟨hr, rfl⟩ | ⟨hr, tx, cx, TX, hTX, rfl, BX, hrow⟩
    · have HNO : Hid (¬ IsPut L) := fun ⟨V', C', hr', e⟩ => by
        obtain ⟨_, rfl, rfl⟩ := HPUT.out V' C' hr' e
        rw [hr] at hr'; cases hr'
      clear hr
      have f0' := frozen_of_row HR4.out 0
      have f1' := frozen_of_row HR4.out 1
      obtain ⟨r0, r1⟩ := box_facts HR4.out (Kept.refl w4)
      go_wp2
      have HB := Lib.hid (HBAD.out w4 HK4.out HNO.out)
      have HR5 := Lib.hid (set2r (u := .int .i64 0) (v := .slice none 0 0) HR4.out)
      generalize (w4.setCell ⟨R0, 0, none⟩ (.int .i64 0)).setCell ⟨R0, 1, none⟩ (.slice none 0 0) = wz at *
      clear r0 r1 f0' f1'
      obtain ⟨r0, r1⟩ := box_facts HR5.out (Kept.refl wz)
      exact bodyPost_ret (v := .tuple #[.agg #[.int .i64 0, .slice none 0 0], .int .i64 2]) (by simp [results, Tryz.results38, go_sem, r0, r1]) rfl HB.out
    · have HRY := Lib.hid hr
      obtain ⟨hb1, hb2, hb3⟩ := bytes_of_row hrow rfl
      have HEQ := Lib.hid (Tryz.bytes_Equal_strs (.slice tx TX.length cx) (.slice a n c) ⟨TX.toArray⟩ ⟨L.toArray⟩ w4 (conv_any hb1 hb2) (conv_any (HL.out.kept HK4.out) (fun h => (HF.out.1 h).1)))
      have HTX := Lib.hid hTX
      clear hb1 hb2 hb3 hrow hr hTX
      go_wp2_with fail
      refine HEQ.out.mono ?_
      rintro e w5 ⟨rfl, rfl⟩
      rw [ByteArray.toList_mk, ByteArray.toList_mk]
      clear HEQ
      by_cases hTL : TX = L
      · have HTL := Lib.hid hTL
        have b9 : (TX == L) = true := by rw [hTL]; simp
        rw [b9]
        have HLP : Hid (L = putT V D) := by rw [← HTL.out, HTX.out]; rfl
        clear hTL b9
        have f0' := frozen_of_row HR4.out 0
        have f1' := frozen_of_row HR4.out 1
        obtain ⟨r0, r1⟩ := box_facts HR4.out (Kept.refl w5)
        obtain ⟨q0, q1⟩ := box_facts HB4.out (Kept.refl w5)
        go_wp2
        have HR5 := Lib.hid (set2r (u := .int .i64 V) (v := .slice fa fk fc) HR4.out)
        have HT9 := Lib.hid ((Turned.setCell (T := fun q => q = R0) w5 ⟨R0, 0, none⟩ (.int .i64 V) rfl).trans (Turned.setCell (T := fun q => q = R0) _ ⟨R0, 1, none⟩ (.slice fa fk fc) rfl))
        have HKE := Lib.hid ((HK4.out.setCell (p := ⟨R0, 0, none⟩) HRL.out (.int .i64 V)).setCell (p := ⟨R0, 1, none⟩) HRL.out (.slice fa fk fc))
        generalize (w5.setCell ⟨R0, 0, none⟩ (.int .i64 V)).setCell ⟨R0, 1, none⟩ (.slice fa fk fc) = wz at *
        have HCE := Lib.hid (HCL.out wz ((HK24.out.turned _).trans (HT9.out.mono fun q _ e => by have := HS1.out; omega)))
        clear r0 r1 f0' f1' q0 q1
        obtain ⟨r0, r1⟩ := box_facts HR5.out (Kept.refl wz)
        exact bodyPost_ret (v := .tuple #[.agg #[.int .i64 V, .slice fa fk fc], .int .i64 0]) (by simp [results, Tryz.results38, go_sem, r0, r1]) rfl ⟨HKE.out, Or.inl ⟨V, D, fa, fk, fc, HRY.out, HLP.out, rfl, HCE.out⟩⟩
      · have b9 : (TX == L) = false := beq_eq_false_iff_ne.2 hTL
        rw [b9]
        have HNO : Hid (¬ IsPut L) := fun ⟨V', C', hr', e⟩ => by
          obtain ⟨_, rfl, rfl⟩ := HPUT.out V' C' hr' e
          exact hTL (HTX.out.trans e.symm)
        clear hTL b9
        have f0' := frozen_of_row HR4.out 0
        have f1' := frozen_of_row HR4.out 1
        obtain ⟨r0, r1⟩ := box_facts HR4.out (Kept.refl w5)
        go_wp2
        have HB := Lib.hid (HBAD.out w5 HK4.out HNO.out)
        have HR5 := Lib.hid (set2r (u := .int .i64 0) (v := .slice none 0 0) HR4.out)
        generalize (w5.setCell ⟨R0, 0, none⟩ (.int .i64 0)).setCell ⟨R0, 1, none⟩ (.slice none 0 0) = wz at *
        clear r0 r1 f0' f1'
        obtain ⟨r0, r1⟩ := box_facts HR5.out (Kept.refl wz)
        exact bodyPost_ret (v := .tuple #[.agg #[.int .i64 0, .slice none 0 0], .int .i64 2]) (by simp [results, Tryz.results38, go_sem, r0, r1]) rfl HB.out
end Go.Proofs.YtlikokeknfhejaaGreatDoor

namespace Go.Proofs.YtlikokeknfhejaaGreatDoor
open Go Go.RowKit Go.Lib

theorem fewt_len {C : List (List Int)} {top : Int} (h : fewF C top = true) : (C.length : Int) ≤ top ∧ ∀ c ∈ C, c.length ≤ 30 := by
  unfold fewF at h
  simpa using h
theorem flatt_len {C : List (List Int)} {b : Nat} (h : ∀ c ∈ C, c.length ≤ b) : C.flatten.length ≤ b * C.length := by
  induction C with
  | nil => simp
  | cons c C ih =>
    have h1 := h c (by simp)
    have h2 := ih fun d hd => h d (List.mem_cons_of_mem _ hd)
    rw [List.flatten_cons, List.length_append, List.length_cons, Nat.mul_add]
    omega
/-- What is said of a formula's text. -/
def PF (V : Int) (C : List (List Int)) (T : List UInt8) (code : Int) : Prop :=
  (rightB V C = true ∧ T = putT V C ∧ code = 0) ∨ (rightB V C = false ∧ T = [] ∧ code = 2)
theorem PF.eq {V : Int} {C : List (List Int)} {T S : List UInt8} {x y : Int} (h : PF V C T x) (k : PF V C S y) : S = T ∧ y = x := by
  rcases h with ⟨h1, rfl, rfl⟩ | ⟨h1, rfl, rfl⟩ <;> rcases k with ⟨k1, rfl, rfl⟩ | ⟨k1, rfl, rfl⟩
  · exact ⟨rfl, rfl⟩
  · rw [h1] at k1; cases k1
  · rw [h1] at k1; cases k1
  · exact ⟨rfl, rfl⟩
theorem PutPost5.told {V : Int} {C : List (List Int)} {w w' : World} {e : Ending} (h : PutPost5 V C w e w') : Kept w w' ∧ ∃ a c T x, e = .returned (.tuple #[.slice a T.length c, .int .i64 x]) ∧ PF V C T x ∧ BytesAt w' a T.length T ∧ Fit a T.length c ∧ ∀ ad, a = some ad → ad.spot = none := by
  obtain ⟨hk, ⟨ho, rfl⟩ | ⟨ho, a, c, L, hL, rfl, B, hrow⟩⟩ := h
  · exact ⟨hk, none, 0, [], 2, rfl, Or.inr ⟨ho, rfl, rfl⟩, BytesAt.nil _ _, ⟨fun _ => ⟨rfl, rfl⟩, Nat.le_refl _, by decide⟩, fun ad h => by cases h⟩
  · obtain ⟨h1, _, h3⟩ := bytes_of_row hrow rfl
    exact ⟨hk, a, c, L, 0, rfl, Or.inl ⟨ho, hL, rfl⟩, h1, row_fit hrow, h3⟩
theorem RPutPost.told {V : Int} {C : List (List Int)} {w w' : World} {e : Ending} (h : RPutPost V C w e w') : Kept w w' ∧ ∃ T x, e = .returned (.tuple #[.string ⟨T.toArray⟩, .int .i64 x]) ∧ PF V C T x := by
  obtain ⟨hk, ⟨ho, rfl⟩ | ⟨ho, rfl⟩⟩ := h
  · exact ⟨hk, [], 2, rfl, Or.inr ⟨ho, rfl, rfl⟩⟩
  · exact ⟨hk, putT V C, 0, rfl, Or.inl ⟨ho, rfl, rfl⟩⟩
def GF (L : List UInt8) (V : Int) (D : List (List Int)) (x : Int) : Prop :=
  (rightB V D = true ∧ L = putT V D ∧ x = 0) ∨ (¬ IsPut L ∧ V = 0 ∧ D = [] ∧ x = 2)
theorem GF.eq {L : List UInt8} {V W : Int} {C D : List (List Int)} {x y : Int} (h : GF L V C x) (k : GF L W D y) : W = V ∧ D = C ∧ y = x := by
  rcases h with ⟨h1, rfl, rfl⟩ | ⟨h1, rfl, rfl, rfl⟩ <;> rcases k with ⟨k1, k2, rfl⟩ | ⟨k1, rfl, rfl, rfl⟩
  · obtain ⟨rfl, rfl⟩ := put_inj (right_nz2 h1) (right_nz2 k1) k2
    exact ⟨rfl, rfl, rfl⟩
  · exact absurd ⟨V, C, h1, rfl⟩ k1
  · exact absurd ⟨W, D, k1, k2⟩ h1
  · exact ⟨rfl, rfl, rfl⟩
theorem RGetPost.told {L : List UInt8} {w w' : World} {e : Ending} (h : RGetPost L w e w') : Kept w w' ∧ ∃ V a k c x D, e = .returned (.tuple #[.agg #[.int .i64 V, .slice a k c], .int .i64 x]) ∧ ClsAt w' a k D ∧ GF L V D x := by
  obtain ⟨hk, ⟨V, C, a, k, c, h1, h2, rfl, h3⟩ | ⟨h1, rfl⟩⟩ := h
  · exact ⟨hk, V, a, k, c, 0, C, rfl, h3, Or.inl ⟨h1, h2, rfl⟩⟩
  · exact ⟨hk, 0, none, 0, 0, 2, [], rfl, ClsAt.nil _ _, Or.inr ⟨h1, rfl, rfl, rfl⟩⟩
theorem flatMap_le {α : Type} {f : α → List UInt8} {m : Nat} : ∀ {C : List α}, (∀ c ∈ C, (f c).length ≤ m) → (C.flatMap f).length ≤ m * C.length
  | [], _ => by simp
  | c :: C, h => by
    have h1 := h c (by simp)
    have h2 := flatMap_le (C := C) fun d hd => h d (by simp [hd])
    rw [List.flatMap_cons, List.length_append, List.length_cons, Nat.mul_succ]
    omega
theorem flatMap_ge {α : Type} {f : α → List UInt8} : ∀ {C : List α}, (∀ c ∈ C, 1 ≤ (f c).length) → C.length ≤ (C.flatMap f).length
  | [], _ => by simp
  | c :: C, h => by
    have h1 := h c (by simp)
    have h2 := flatMap_ge (C := C) fun d hd => h d (by simp [hd])
    rw [List.flatMap_cons, List.length_append, List.length_cons]
    omega
theorem flatMap_in {α : Type} {f : α → List UInt8} {C : List α} {c : α} (h : c ∈ C) : (f c).length ≤ (C.flatMap f).length := by
  obtain ⟨s, t, rfl⟩ := List.append_of_mem h
  simp; omega
theorem put_len {V : Int} {C : List (List Int)} (hr : rightB V C = true) (hC : C.length ≤ 60) (hS : ∀ c ∈ C, c.length ≤ 30) : (putT V C).length ≤ 100000 := by
  obtain ⟨h1, h2, _, h4⟩ := (rightB_iff V C).1 hr
  have hl : (C.flatMap lineT).length ≤ 700 * C.length := flatMap_le fun c hc => by
    have hx : (c.flatMap litT).length ≤ 22 * c.length := flatMap_le fun x hx => by
      have h5 := h4 c hc x hx
      have := Lib.itoa_length_le x (by omega) (by omega)
      unfold litT
      rw [List.length_append]
      simp; omega
    have := hS c hc
    unfold lineT
    rw [List.length_append]
    simp only [List.length_cons, List.length_nil]
    omega
  have h5 := Lib.itoa_length_le V (by omega) (by omega)
  have h6 := Lib.itoa_length_le (C.length : Int) (by omega) (by omega)
  unfold putT headT
  simp only [List.length_append, List.length_cons, List.length_nil]
  omega
theorem put_big (V : Int) (C : List (List Int)) : C.length ≤ (putT V C).length ∧ ∀ c ∈ C, c.length ≤ (putT V C).length := by
  have h1 : (C.flatMap lineT).length ≤ (putT V C).length := by unfold putT; rw [List.length_append]; omega
  refine ⟨Nat.le_trans (flatMap_ge fun c _ => by unfold lineT; rw [List.length_append]; simp) h1, fun c hc => Nat.le_trans ?_ (Nat.le_trans (flatMap_in hc) h1)⟩
  unfold lineT
  rw [List.length_append]
  have : c.length ≤ (c.flatMap litT).length := flatMap_ge fun x _ => by unfold litT; rw [List.length_append]; simp
  omega
theorem GF.small {L : List UInt8} {V : Int} {D : List (List Int)} {x : Int} (h : GF L V D x) : D.length ≤ L.length ∧ ∀ c ∈ D, c.length ≤ L.length := by
  rcases h with ⟨_, rfl, _⟩ | ⟨_, _, rfl, _⟩
  · exact put_big V D
  · exact ⟨Nat.zero_le _, fun c hc => by cases hc⟩
set_option maxRecDepth 100000 in
set_option maxHeartbeats 16000000 in
theorem clausetext_any (V : Int) (ca a : Option Addr) (cn cc n c : Nat) (C : List (List Int)) (L : List UInt8) (w : World) (hV : InR V) (hC : ClsAt w ca cn C) (hFC : Fit ca cn cc) (hL : BytesAt w a n L) (hFL : Fit a n c) (hW : Laid w) (hT : Tabs w) :
    Calls Tryz.prog 7 #[.agg #[.int .i64 V, .slice ca cn cc], .slice a n c] w fun e w' => e = .returned (.bool true) ∧ Kept w w' := by
  have HK0 := Lib.hid ((Kept.refl w).alloc (fObj V ca cn cc))
  have HC := Lib.hid (hC.kept HK0.out)
  have HL := Lib.hid (hL.kept HK0.out)
  have HW := Lib.hid (hW.kept HK0.out)
  have HT := Lib.hid (hT.kept HK0.out)
  have HB := Lib.hid (MapKept.heap_alloc w (fObj V ca cn cc)).1
  have HV := Lib.hid hV
  have HFL := Lib.hid hFL
  have HFC := Lib.hid hFC
  clear hC hL hW hV hFL hFC hT
  go_enter Tryz.func7, Tryz.ntmps7
  go_upto_region 1 with (fail)
  change Code.wp _ _ _ _ (w.alloc (fObj V ca cn cc))
  generalize w.alloc (fObj V ca cn cc) = W at *
  obtain ⟨fb, hfb⟩ : ∃ b : Nat, b = w.heap.size := ⟨_, rfl⟩
  rw [← hfb] at HB ⊢
  clear hfb
  obtain ⟨f0, f1⟩ := box_facts HB.out (Kept.refl W)
  go_wp2_with fail
  refine (few_any V 60 ca cn cc C W HC.out (Nat.le_trans HFC.out.2.1 HFC.out.2.2) (by unfold InR; decide)).mono ?_
  rintro e w1 ⟨rfl, hk1⟩
  have HK1 := Lib.hid hk1
  clear hk1 f0 f1
  cases hfew : fewF C 60 with
  | false =>
    clear hfew
    go_wp2_with fail
    refine (works_any _ (HW.out.kept HK1.out)).mono ?_
    rintro e w2 ⟨rfl, hk2⟩
    have HK2 := Lib.hid (HK0.out.trans (HK1.out.trans hk2))
    clear hk2
    go_wp2
    go_ret
    exact ⟨rfl, HK2.out⟩
  | true =>
  have HFW : Hid (C.length ≤ 60 ∧ ∀ c ∈ C, c.length ≤ 30) := by
    have := fewt_len hfew
    exact ⟨by omega, this.2⟩
  clear hfew
  have hcn : cn ≤ 60 := by rw [← HC.out.len]; exact HFW.out.1
  have HSH : Hid (∀ c ∈ C, c.length ≤ 1000) := fun c hc => Nat.le_trans (HFW.out.2 c hc) (by decide)
  have HFLAT : Hid (C.flatten.length ≤ 10000) := Nat.le_trans (flatt_len HFW.out.2) (by have := HFW.out.1; omega)
  by_cases h30 : n ≤ 1000
  case neg =>
    have d30 : decide ((1000 : Int) < (n : Int)) = true := decide_eq_true (by omega)
    clear h30
    go_wp2_with fail
    refine (works_any _ (HW.out.kept HK1.out)).mono ?_
    rintro e w3 ⟨rfl, hk3⟩
    have HK3 := Lib.hid (HK0.out.trans (HK1.out.trans hk3))
    clear hk3
    go_wp2
    go_ret
    exact ⟨rfl, HK3.out⟩
  have d30 : decide ((1000 : Int) < (n : Int)) = false := decide_eq_false (by omega)
  have H30 := Lib.hid h30
  clear h30
  obtain ⟨f0, f1⟩ := box_facts HB.out HK1.out
  go_wp2_with fail
  refine (put_any V ca cn cc C w1 HV.out (HC.out.kept HK1.out) (by omega) HSH.out (HW.out.kept HK1.out)).mono ?_
  rintro e w2 hpost
  obtain ⟨hk2, pa, pc, T, x, rfl, hPF, hPB, hPT, hPS⟩ := hpost.told
  have HK12 := Lib.hid hk2
  have HK2 := Lib.hid (HK1.out.trans hk2)
  have HPF := Lib.hid hPF
  have HPB := Lib.hid hPB
  have HPT := Lib.hid hPT
  have HPS := Lib.hid hPS
  clear hpost hk2 hPF hPB hPT hPS f0 f1 d30
  obtain ⟨f0, f1⟩ := box_facts HB.out HK2.out
  go_wp2_with fail
  refine (fplain_any V ca cn cc w2).mono ?_
  rintro e w3 ⟨rfl, hk3⟩
  have HK3 := Lib.hid (HK2.out.trans hk3)
  have HPB3 := Lib.hid (HPB.out.kept hk3)
  clear hk3 f0 f1
  go_wp2_with fail
  refine (rput_any V ca cn cc C w3 HV.out (HC.out.kept HK3.out) (by omega) HSH.out HFLAT.out (HW.out.kept HK3.out)).mono ?_
  rintro e w4 hpost
  obtain ⟨hk4, T2, x2, rfl, hP2⟩ := hpost.told
  obtain ⟨rfl, rfl⟩ := HPF.out.eq hP2
  have HK4 := Lib.hid (HK3.out.trans hk4)
  have HPB4 := Lib.hid (HPB3.out.kept hk4)
  clear hpost hk4 hP2 HPB3
  have cv := conv_str (c := pc) HPB4.out (fun h => (HPT.out.1 h).1) HPS.out
  have b0 : (x2 != x2) = false := by simp
  obtain ⟨TS, hTS⟩ : ∃ TS : ByteArray, TS = ⟨T2.toArray⟩ := ⟨_, rfl⟩
  rw [← hTS] at cv ⊢
  rcases HPF.out with ⟨hr, hTp, rfl⟩ | ⟨hr, hTp, rfl⟩
  case inr =>
    clear hr hTp HPF
    have HKQ := Lib.hid HK4.out
    clear hTS
    go_wp2_with fail
    refine (get_any a n c L _ (HL.out.kept HKQ.out) HFL.out (by have := H30.out; omega) (Or.inl H30.out) (HT.out.kept HKQ.out) (HW.out.kept HKQ.out)).mono ?_
    rintro e w7 hpost
    obtain ⟨hk7, V1, a1, k1, c1, x1, D1, rfl, hD1, hG1⟩ := hpost.told
    have HK7 := Lib.hid (HKQ.out.trans hk7)
    have HD1 := Lib.hid hD1
    have HG1 := Lib.hid hG1
    clear hpost hk7 hD1 hG1
    go_upto_region 12 with (fail)
    have HBA := Lib.hid (MapKept.heap_alloc w7 (fObj V1 a1 k1 c1)).1
    have HKA := Lib.hid ((Kept.refl w7).alloc (fObj V1 a1 k1 c1))
    change Code.wp _ _ _ _ (w7.alloc (fObj V1 a1 k1 c1))
    generalize w7.alloc (fObj V1 a1 k1 c1) = W8 at *
    obtain ⟨ab, hab⟩ : ∃ b : Nat, b = w7.heap.size := ⟨_, rfl⟩
    rw [← hab] at HBA ⊢
    clear hab
    have HK8 := Lib.hid (HK7.out.trans HKA.out)
    have HD8 := Lib.hid (HD1.out.kept HKA.out)
    clear HD1 HKA HKQ
    go_wp2_with fail
    refine (rget_any a n c L W8 (HL.out.kept HK8.out) HFL.out H30.out (HW.out.kept HK8.out)).mono ?_
    rintro e w9 hpost
    obtain ⟨hk9, V3, a3, k3, c3, x3, D3, rfl, hD3, hG3⟩ := hpost.told
    obtain ⟨rfl, rfl, rfl⟩ : V1 = V3 ∧ D1 = D3 ∧ x1 = x3 := ⟨(HG1.out.eq hG3).1.symm, (HG1.out.eq hG3).2.1.symm, (HG1.out.eq hG3).2.2.symm⟩
    have HK89 := Lib.hid hk9
    have HD3 := Lib.hid hD3
    clear hpost hk9 hD3 hG3
    go_upto_region 13 with (fail)
    have HBR := Lib.hid (MapKept.heap_alloc w9 (mObj V1 a3 k3 c3)).1
    have HKR := Lib.hid ((Kept.refl w9).alloc (mObj V1 a3 k3 c3))
    change Code.wp _ _ _ _ (w9.alloc (mObj V1 a3 k3 c3))
    generalize w9.alloc (mObj V1 a3 k3 c3) = W10 at *
    obtain ⟨rb, hrb⟩ : ∃ b : Nat, b = w9.heap.size := ⟨_, rfl⟩
    rw [← hrb] at HBR ⊢
    clear hrb
    have HK10 := Lib.hid (HK89.out.trans HKR.out)
    have HKW := Lib.hid (HK8.out.trans HK10.out)
    obtain ⟨p0, p1⟩ := box_facts HBA.out HK10.out
    obtain ⟨g0, g1⟩ := rbox_facts HBR.out (Kept.refl W10)
    have bx : (x1 == x1) = true := by simp
    have hk1 : k1 ≤ 1000000 := by
      have h1 := HD8.out.len
      have h2 := HG1.out.small.1
      have h3 := HL.out.len
      have h4 := H30.out
      omega
    go_wp2_with fail
    refine (fsame_any V1 a1 a3 k1 c1 k3 c3 D1 W10 (HD8.out.kept HK10.out) (HD3.out.kept HKR.out) hk1 (fun d hd => by have h2 := HG1.out.small.2 d hd; have h3 := HL.out.len; have h4 := H30.out; omega)).mono ?_
    rintro e w11 ⟨rfl, hk11⟩
    have HK11 := Lib.hid (HKW.out.trans hk11)
    clear hk11 p0 p1 g0 g1
    go_wp2_with fail
    refine (works_any _ (HW.out.kept HK11.out)).mono ?_
    rintro e w12 ⟨rfl, hk12⟩
    have HK12' := Lib.hid (HK0.out.trans (HK11.out.trans hk12))
    clear hk12
    go_wp2
    go_ret
    exact ⟨rfl, HK12'.out⟩
  case inl =>
    have HR := Lib.hid hr
    have HTP := Lib.hid hTp
    have HTL : Hid (T2.length ≤ 100000) := by show _ ≤ _; rw [hTp]; exact put_len hr HFW.out.1 HFW.out.2
    clear hr hTp HPF hTS
    go_wp2_with fail
    refine (get_any pa T2.length pc T2 w4 HPB4.out HPT.out HTL.out (Or.inr ⟨V, C, HR.out, HTP.out, by have := HFW.out.1; omega, HSH.out⟩) (HT.out.kept HK4.out) (HW.out.kept HK4.out)).mono ?_
    rintro e w5 hpost
    obtain ⟨hk5, V5, a5, k5, c5, x5, D5, rfl, hD5, hG5⟩ := hpost.told
    have he := GF.eq (Or.inl ⟨HR.out, HTP.out, rfl⟩) hG5
    obtain ⟨rfl, rfl, rfl⟩ : V = V5 ∧ C = D5 ∧ 0 = x5 := ⟨he.1.symm, he.2.1.symm, he.2.2.symm⟩
    have HK5 := Lib.hid (HK4.out.trans hk5)
    have HD5 := Lib.hid hD5
    clear hpost hk5 hD5 hG5 he cv
    go_upto_region 9 with (fail)
    have HBG := Lib.hid (MapKept.heap_alloc w5 (fObj V a5 k5 c5)).1
    have HKG := Lib.hid ((Kept.refl w5).alloc (fObj V a5 k5 c5))
    change Code.wp _ _ _ _ (w5.alloc (fObj V a5 k5 c5))
    generalize w5.alloc (fObj V a5 k5 c5) = W6 at *
    obtain ⟨gb, hgb⟩ : ∃ b : Nat, b = w5.heap.size := ⟨_, rfl⟩
    rw [← hgb] at HBG ⊢
    clear hgb
    have HK6 := Lib.hid (HK5.out.trans HKG.out)
    have FN : Hid (∀ w', Kept W6 w' → Kept W6 w' ∧ (w'.cell? ⟨fb, 0, none⟩ = some (.int .i64 V) ∧ w'.cell? ⟨fb, 1, none⟩ = some (.slice ca cn cc)) ∧ w'.cell? ⟨gb, 0, none⟩ = some (.int .i64 V) ∧ w'.cell? ⟨gb, 1, none⟩ = some (.slice a5 k5 c5)) := fun w' hk =>
      ⟨hk, box_facts HB.out (HK6.out.trans hk), box_facts HBG.out hk⟩
    have HPL := Lib.hid (fun w' => fplain_any V ca cn cc w')
    have HSM : Hid (∀ w', Kept W6 w' → Calls Tryz.prog 39 #[.agg #[.int .i64 V, .slice a5 k5 c5], .agg #[.int .i64 V, .slice ca cn cc]] w' fun e w'' => e = .returned (.bool true) ∧ Kept w' w'') := fun w' hk =>
      fsame_any V a5 ca k5 c5 cn cc C w' (HD5.out.kept (HKG.out.trans hk)) (HC.out.kept (HK6.out.trans hk)) (by have h1 := HD5.out.len; have h2 := HFW.out.1; omega) (fun d hd => Nat.le_trans (HSH.out d hd) (by decide))
    go_region_held3 (fun w' => Kept W6 w' ∧ (w'.cell? ⟨fb, 0, none⟩ = some (.int .i64 V) ∧ w'.cell? ⟨fb, 1, none⟩ = some (.slice ca cn cc)) ∧ w'.cell? ⟨gb, 0, none⟩ = some (.int .i64 V) ∧ w'.cell? ⟨gb, 1, none⟩ = some (.slice a5 k5 c5))
      (first | exact FN.out _ (Kept.refl _) | exact FN.out _ (Kept.drew (Kept.refl _)) | assumption | exact FN.out _ (Kept.trans (And.left ‹Kept W6 _ ∧ _›) (by assumption)))
      ((first
        | (go_at_call 37; refine (HPL.out _).mono ?_; rintro e w10 ⟨rfl, hk10⟩)
        | (go_at_call 39; refine (HSM.out _ (And.left ‹Kept W6 _ ∧ _›)).mono ?_; rintro e w10 ⟨rfl, hk10⟩)))
    have HKQ := Lib.hid (HK6.out.trans (And.left ‹Kept W6 _ ∧ _›))
    go_wp2_with fail
    refine (get_any a n c L _ (HL.out.kept HKQ.out) HFL.out (by have := H30.out; omega) (Or.inl H30.out) (HT.out.kept HKQ.out) (HW.out.kept HKQ.out)).mono ?_
    rintro e w7 hpost
    obtain ⟨hk7, V1, a1, k1, c1, x1, D1, rfl, hD1, hG1⟩ := hpost.told
    have HK7 := Lib.hid (HKQ.out.trans hk7)
    have HD1 := Lib.hid hD1
    have HG1 := Lib.hid hG1
    clear hpost hk7 hD1 hG1
    go_upto_region 12 with (fail)
    have HBA := Lib.hid (MapKept.heap_alloc w7 (fObj V1 a1 k1 c1)).1
    have HKA := Lib.hid ((Kept.refl w7).alloc (fObj V1 a1 k1 c1))
    change Code.wp _ _ _ _ (w7.alloc (fObj V1 a1 k1 c1))
    generalize w7.alloc (fObj V1 a1 k1 c1) = W8 at *
    obtain ⟨ab, hab⟩ : ∃ b : Nat, b = w7.heap.size := ⟨_, rfl⟩
    rw [← hab] at HBA ⊢
    clear hab
    have HK8 := Lib.hid (HK7.out.trans HKA.out)
    have HD8 := Lib.hid (HD1.out.kept HKA.out)
    clear HD1 HKA HKQ
    go_wp2_with fail
    refine (rget_any a n c L W8 (HL.out.kept HK8.out) HFL.out H30.out (HW.out.kept HK8.out)).mono ?_
    rintro e w9 hpost
    obtain ⟨hk9, V3, a3, k3, c3, x3, D3, rfl, hD3, hG3⟩ := hpost.told
    obtain ⟨rfl, rfl, rfl⟩ : V1 = V3 ∧ D1 = D3 ∧ x1 = x3 := ⟨(HG1.out.eq hG3).1.symm, (HG1.out.eq hG3).2.1.symm, (HG1.out.eq hG3).2.2.symm⟩
    have HK89 := Lib.hid hk9
    have HD3 := Lib.hid hD3
    clear hpost hk9 hD3 hG3
    go_upto_region 13 with (fail)
    have HBR := Lib.hid (MapKept.heap_alloc w9 (mObj V1 a3 k3 c3)).1
    have HKR := Lib.hid ((Kept.refl w9).alloc (mObj V1 a3 k3 c3))
    change Code.wp _ _ _ _ (w9.alloc (mObj V1 a3 k3 c3))
    generalize w9.alloc (mObj V1 a3 k3 c3) = W10 at *
    obtain ⟨rb, hrb⟩ : ∃ b : Nat, b = w9.heap.size := ⟨_, rfl⟩
    rw [← hrb] at HBR ⊢
    clear hrb
    have HK10 := Lib.hid (HK89.out.trans HKR.out)
    have HKW := Lib.hid (HK8.out.trans HK10.out)
    obtain ⟨p0, p1⟩ := box_facts HBA.out HK10.out
    obtain ⟨g0, g1⟩ := rbox_facts HBR.out (Kept.refl W10)
    have bx : (x1 == x1) = true := by simp
    have hk1 : k1 ≤ 1000000 := by
      have h1 := HD8.out.len
      have h2 := HG1.out.small.1
      have h3 := HL.out.len
      have h4 := H30.out
      omega
    go_wp2_with fail
    refine (fsame_any V1 a1 a3 k1 c1 k3 c3 D1 W10 (HD8.out.kept HK10.out) (HD3.out.kept HKR.out) hk1 (fun d hd => by have h2 := HG1.out.small.2 d hd; have h3 := HL.out.len; have h4 := H30.out; omega)).mono ?_
    rintro e w11 ⟨rfl, hk11⟩
    have HK11 := Lib.hid (HKW.out.trans hk11)
    clear hk11 p0 p1 g0 g1
    go_wp2_with fail
    refine (works_any _ (HW.out.kept HK11.out)).mono ?_
    rintro e w12 ⟨rfl, hk12⟩
    have HK12' := Lib.hid (HK0.out.trans (HK11.out.trans hk12))
    clear hk12
    go_wp2
    go_ret
    exact ⟨rfl, HK12'.out⟩
end Go.Proofs.YtlikokeknfhejaaGreatDoor
