/-
  Layer 5: the contract of the program's Get.
-/
import Derived.Test.YtemijkfgnedlnaaGreatDoorDRead
import Derived.Test.YtemijkfgnedlnaaGreatDoorDPut
import Derived.Test.YtemijkfgnedlnaaGreatDoorDRGet
import Derived.Test.YtemijkfgnedlnaaGreatDoorCWorks
namespace Go.Proofs.YtemijkfgnedlnaaGreatDoor
open Go Go.RowKit Go.Lib

theorem bytes_of_row {w : World} {N n c : Nat} {a : Option Addr} {L : List UInt8} (h : w.ownsRow N 5 1 (.slice a n c) n (byteCells L)) (hn : n = L.length) : BytesAt w a n L ∧ (a = none → n = 0) ∧ ∀ ad, a = some ad → ad.spot = none := by
  refine ⟨⟨hn.symm, fun h0 => ?_⟩, ?_, ?_⟩
  · obtain ⟨r, ha, hj⟩ := bytes_row h hn h0
    exact ⟨r, 0, ha, fun j x hx => by
      obtain ⟨hl, rfl⟩ := List.getElem?_eq_some_iff.1 hx
      rw [Nat.zero_add]; exact hj j hl⟩
  · intro ha
    rcases Nat.eq_zero_or_pos n with h0 | h0
    · exact h0
    · obtain ⟨r, hr, _⟩ := bytes_row h hn h0; rw [ha] at hr; cases hr
  · intro ad had
    rcases h.2 with ⟨hv, _⟩ | ⟨r, cap, cur, hv, _⟩
    · injection hv with h1; rw [had] at h1; cases h1
    · injection hv with h1; rw [had] at h1; cases h1; rfl
theorem conv_any {w : World} {a : Option Addr} {n c : Nat} {L : List UInt8} (h : BytesAt w a n L) (hz : a = none → n = 0) : (convert 25 9 (.slice a n c)).run Tryz.prog w = .ok (.string ⟨L.toArray⟩) w := by
  rcases Nat.eq_zero_or_pos n with h0 | h0
  · subst h0
    have hL : L = [] := List.eq_nil_of_length_eq_zero h.len
    subst hL
    cases a with
    | none => exact conv_str h (fun _ => rfl) (fun ad e => by cases e)
    | some ad =>
      have hl : (loadCells ad 0).run Tryz.prog w = .ok (([] : List Int).map (Value.int .u8)).toArray w := by
        have := run_loadCells_list (P := Tryz.prog) w ad [] (fun j v hj => by simp at hj)
        simpa using this
      rw [run_convert_bytes_string w 25 9 5 (some ad) 0 c Tryz.underlying25 Tryz.underlying5 Tryz.underlying9, run_bytesToString w ad 0 c [] hl]
      rfl
  · obtain ⟨b, off, rfl, _⟩ := h.at_ h0
    exact conv_str h hz (fun ad e => by cases e; rfl)
theorem flat_le {D : List (List Int)} {c : List Int} (h : c ∈ D) : c.length ≤ D.flatten.length := by
  obtain ⟨s, t, rfl⟩ := List.append_of_mem h
  simp; omega
set_option maxRecDepth 100000 in
set_option maxHeartbeats 16000000 in
theorem get_any (a : Option Addr) (n c : Nat) (L : List UInt8) (w : World) (hL : BytesAt w a n L) (hF : Fit a n c) (hn : n ≤ 100000) (hsm : n ≤ 1000 ∨ ∃ V C, rightB V C = true ∧ L = putT V C ∧ C.length ≤ 1000 ∧ ∀ c ∈ C, c.length ≤ 1000) (hT : Tabs w) (hW : Laid w) :
    Calls Tryz.prog 10 #[.slice a n c] w (RGetPost L w) := by
  have HL := Lib.hid hL
  have HF := Lib.hid hF
  have HSM := Lib.hid hsm
  have HK0 := Lib.hid ((Kept.refl w).alloc zG)
  have HR := Lib.hid (MapKept.heap_alloc w zG).1
  obtain ⟨R0, hRe⟩ : ∃ R0 : Nat, R0 = w.heap.size := ⟨_, rfl⟩
  rw [← hRe] at HR
  have HRL := Lib.hid (show w.heap.size ≤ R0 by omega)
  have HT := Lib.hid (hT.kept HK0.out)
  have HW := Lib.hid (hW.kept HK0.out)
  clear hL hF hT hW hsm
  go_enter Tryz.func10, Tryz.ntmps10
  go_upto_region 1 with (fail)
  rw [← hRe]
  obtain ⟨w1, hw1⟩ : ∃ w1 : World, w1 = w.alloc zG := ⟨_, rfl⟩
  change Code.wp _ _ _ _ (w.alloc zG)
  rw [← hw1] at HR HK0 HT HW ⊢
  have HS1 : Hid (R0 < w1.heap.size) := (Array.getElem?_eq_some_iff.1 HR.out).1
  clear hw1 hRe
  have HRD := Lib.hid (read_any a n c L w1 (HL.out.kept HK0.out) HF.out hn HT.out)
  go_wp2_with fail
  refine HRD.out.mono ?_
  rintro e w2 ⟨hk2, V, fa, fk, fc, ok, D, rfl, hvi, hcls, hdl, hdf, hput⟩
  have HK2 := Lib.hid (HK0.out.trans hk2)
  have HR2 := Lib.hid (hk2.row HR.out)
  have HVI := Lib.hid hvi
  have HCL := Lib.hid hcls
  have HPUT := Lib.hid hput
  have HW2 := Lib.hid (HW.out.kept hk2)
  have HS2 : Hid (R0 < w2.heap.size) := Nat.lt_of_lt_of_le HS1.out hk2.size
  have HLN := Lib.hid HL.out.len
  have HDS : Hid (D.length ≤ 1000 ∧ ∀ c ∈ D, c.length ≤ 1000) := by
    rcases HSM.out with h | ⟨V', C', h1, h2, h3, h4⟩
    · have := HLN.out
      exact ⟨by omega, fun c hc => by have := flat_le hc; omega⟩
    · obtain ⟨_, _, rfl⟩ := hput V' C' h1 h2
      exact ⟨h3, h4⟩
  have HFK : Hid (D.length = fk) := (hcls w2 (Turned.refl _ _)).len
  clear hk2 hvi hcls hdl hdf hput HRD
  go_upto_region 2 with (fail)
  have HB3 := Lib.hid (MapKept.heap_alloc w2 (fObj V fa fk fc)).1
  have HK23 := Lib.hid ((Kept.refl w2).alloc (fObj V fa fk fc))
  obtain ⟨B4, hB4⟩ : ∃ B : Nat, B = w2.heap.size := ⟨_, rfl⟩
  obtain ⟨w3, hw3⟩ : ∃ w3 : World, w3 = w2.alloc (fObj V fa fk fc) := ⟨_, rfl⟩
  change Code.wp _ _ _ _ (w2.alloc (fObj V fa fk fc))
  rw [← hB4] at HB3 ⊢
  rw [← hw3] at HB3 HK23 ⊢
  clear hw3 hB4
  have HKW3 := Lib.hid (HK2.out.trans HK23.out)
  have HBAD : Hid (∀ wx : World, Kept w wx → ∀ (h : ¬ IsPut L), RGetPost L w (.returned (.tuple #[.agg #[.int .i64 0, .slice none 0 0], .int .i64 2])) ((wx.setCell ⟨R0, 0, none⟩ (.int .i64 0)).setCell ⟨R0, 1, none⟩ (.slice none 0 0))) := fun wx hk h =>
    ⟨(hk.setCell (p := ⟨R0, 0, none⟩) HRL.out (.int .i64 0)).setCell (p := ⟨R0, 1, none⟩) HRL.out (.slice none 0 0), Or.inr ⟨h, rfl⟩⟩
  cases ok with
  | false =>
    have HNO : Hid (¬ IsPut L) := fun ⟨V', C', hr, e⟩ => by
      have := (HPUT.out V' C' hr e).1
      cases this
    have HR3 := Lib.hid (HK23.out.row HR2.out)
    have f0' := frozen_of_row HR3.out 0
    have f1' := frozen_of_row HR3.out 1
    obtain ⟨r0, r1⟩ := box_facts HR3.out (Kept.refl w3)
    go_wp2
    have HB := Lib.hid (HBAD.out w3 HKW3.out HNO.out)
    have HR4 := Lib.hid (set2r (u := .int .i64 0) (v := .slice none 0 0) HR3.out)
    generalize (w3.setCell ⟨R0, 0, none⟩ (.int .i64 0)).setCell ⟨R0, 1, none⟩ (.slice none 0 0) = wz at *
    clear r0 r1 f0' f1'
    obtain ⟨r0, r1⟩ := box_facts HR4.out (Kept.refl wz)
    exact bodyPost_ret (v := .tuple #[.agg #[.int .i64 0, .slice none 0 0], .int .i64 2]) (by simp [results, Tryz.results10, go_sem, r0, r1]) rfl HB.out
  | true =>
    have HPC := Lib.hid (put_any V fa fk fc D w3 HVI.out (HCL.out w3 (HK23.out.turned _)) (by have h1 := HDS.out.1; have h2 := HFK.out; omega) HDS.out.2 (HW2.out.kept HK23.out))
    obtain ⟨y0, y1⟩ := box_facts HB3.out (Kept.refl w3)
    go_wp2_with fail
    refine HPC.out.mono ?_
    rintro e w4 ⟨hk4, hp⟩
    have HK4 := Lib.hid (HKW3.out.trans hk4)
    have HK24 := Lib.hid (HK23.out.trans hk4)
    have HR4 := Lib.hid (HK24.out.row HR2.out)
    have HB4 := Lib.hid (hk4.row HB3.out)
    clear y0 y1 hk4 HPC
    rcases hp with ⟨hr, rfl⟩ | ⟨hr, tx, cx, TX, hTX, rfl, BX, hrow⟩
    · have HNO : Hid (¬ IsPut L) := fun ⟨V', C', hr', e⟩ => by
        obtain ⟨_, rfl, rfl⟩ := HPUT.out V' C' hr' e
        rw [hr] at hr'; cases hr'
      clear hr
      have f0' := frozen_of_row HR4.out 0
      have f1' := frozen_of_row HR4.out 1
      obtain ⟨r0, r1⟩ := box_facts HR4.out (Kept.refl w4)
      go_wp2
      have HB := Lib.hid (HBAD.out w4 HK4.out HNO.out)
      have HR5 := Lib.hid (set2r (u := .int .i64 0) (v := .slice none 0 0) HR4.out)
      generalize (w4.setCell ⟨R0, 0, none⟩ (.int .i64 0)).setCell ⟨R0, 1, none⟩ (.slice none 0 0) = wz at *
      clear r0 r1 f0' f1'
      obtain ⟨r0, r1⟩ := box_facts HR5.out (Kept.refl wz)
      exact bodyPost_ret (v := .tuple #[.agg #[.int .i64 0, .slice none 0 0], .int .i64 2]) (by simp [results, Tryz.results10, go_sem, r0, r1]) rfl HB.out
    · have HRY := Lib.hid hr
      obtain ⟨hb1, hb2, hb3⟩ := bytes_of_row hrow rfl
      have HEQ := Lib.hid (Tryz.bytes_Equal_strs (.slice tx TX.length cx) (.slice a n c) ⟨TX.toArray⟩ ⟨L.toArray⟩ w4 (conv_any hb1 hb2) (conv_any (HL.out.kept HK4.out) (fun h => (HF.out.1 h).1)))
      have HTX := Lib.hid hTX
      clear hb1 hb2 hb3 hrow hr hTX
      go_wp2_with fail
      refine HEQ.out.mono ?_
      rintro e w5 ⟨rfl, rfl⟩
      rw [ByteArray.toList_mk, ByteArray.toList_mk]
      clear HEQ
      by_cases hTL : TX = L
      · have HTL := Lib.hid hTL
        have b9 : (TX == L) = true := by rw [hTL]; simp
        rw [b9]
        have HLP : Hid (L = putT V D) := by rw [← HTL.out, HTX.out]; rfl
        clear hTL b9
        have f0' := frozen_of_row HR4.out 0
        have f1' := frozen_of_row HR4.out 1
        obtain ⟨r0, r1⟩ := box_facts HR4.out (Kept.refl w5)
        obtain ⟨q0, q1⟩ := box_facts HB4.out (Kept.refl w5)
        go_wp2
        have HR5 := Lib.hid (set2r (u := .int .i64 V) (v := .slice fa fk fc) HR4.out)
        have HT9 := Lib.hid ((Turned.setCell (T := fun q => q = R0) w5 ⟨R0, 0, none⟩ (.int .i64 V) rfl).trans (Turned.setCell (T := fun q => q = R0) _ ⟨R0, 1, none⟩ (.slice fa fk fc) rfl))
        have HKE := Lib.hid ((HK4.out.setCell (p := ⟨R0, 0, none⟩) HRL.out (.int .i64 V)).setCell (p := ⟨R0, 1, none⟩) HRL.out (.slice fa fk fc))
        generalize (w5.setCell ⟨R0, 0, none⟩ (.int .i64 V)).setCell ⟨R0, 1, none⟩ (.slice fa fk fc) = wz at *
        have HCE := Lib.hid (HCL.out wz ((HK24.out.turned _).trans (HT9.out.mono fun q _ e => by have := HS1.out; omega)))
        clear r0 r1 f0' f1' q0 q1
        obtain ⟨r0, r1⟩ := box_facts HR5.out (Kept.refl wz)
        exact bodyPost_ret (v := .tuple #[.agg #[.int .i64 V, .slice fa fk fc], .int .i64 0]) (by simp [results, Tryz.results10, go_sem, r0, r1]) rfl ⟨HKE.out, Or.inl ⟨V, D, fa, fk, fc, HRY.out, HLP.out, rfl, HCE.out⟩⟩
      · have b9 : (TX == L) = false := beq_eq_false_iff_ne.2 hTL
        rw [b9]
        have HNO : Hid (¬ IsPut L) := fun ⟨V', C', hr', e⟩ => by
          obtain ⟨_, rfl, rfl⟩ := HPUT.out V' C' hr' e
          exact hTL (HTX.out.trans e.symm)
        clear hTL b9
        have f0' := frozen_of_row HR4.out 0
        have f1' := frozen_of_row HR4.out 1
        obtain ⟨r0, r1⟩ := box_facts HR4.out (Kept.refl w5)
        go_wp2
        have HB := Lib.hid (HBAD.out w5 HK4.out HNO.out)
        have HR5 := Lib.hid (set2r (u := .int .i64 0) (v := .slice none 0 0) HR4.out)
        generalize (w5.setCell ⟨R0, 0, none⟩ (.int .i64 0)).setCell ⟨R0, 1, none⟩ (.slice none 0 0) = wz at *
        clear r0 r1 f0' f1'
        obtain ⟨r0, r1⟩ := box_facts HR5.out (Kept.refl wz)
        exact bodyPost_ret (v := .tuple #[.agg #[.int .i64 0, .slice none 0 0], .int .i64 2]) (by simp [results, Tryz.results10, go_sem, r0, r1]) rfl HB.out
end Go.Proofs.YtemijkfgnedlnaaGreatDoor
