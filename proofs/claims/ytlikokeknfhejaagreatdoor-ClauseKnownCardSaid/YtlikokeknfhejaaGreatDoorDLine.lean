/-
  Layer 5: the contract of the program's readClause.
-/
import Derived.Test.YtlikokeknfhejaaGreatDoorDCut
import Derived.Test.YtlikokeknfhejaaGreatDoorDFld
import Derived.Test.YtlikokeknfhejaaGreatDoorDFF
import Derived.Test.YtlikokeknfhejaaGreatDoorDRGetM
namespace Go.Proofs.YtlikokeknfhejaaGreatDoor
open Go Go.RowKit Go.Lib

/-- The tables that a text's reading reads. -/
structure Tabs (w : World) : Prop where
  spc : Spc w
  utf : Lib.Utf8Tabs 9 10 w
  white : Lib.WhiteTab 4 w
  errs : Errs w
theorem utf_kept {w w' : World} {g3 g4 : Nat} (h : Lib.Utf8Tabs g3 g4 w) (k : Kept w w') : Lib.Utf8Tabs g3 g4 w' :=
  ⟨fun c hc => k.cell (h.1 c hc), fun i hi => ⟨k.cell (h.2 i hi).1, k.cell (h.2 i hi).2⟩⟩
theorem white_kept {w w' : World} {g : Nat} (h : Lib.WhiteTab g w) (k : Kept w w') : Lib.WhiteTab g w' := by
  obtain ⟨T, oT, R, oR, h1, h2, h3, h4, h5⟩ := h
  exact ⟨T, oT, R, oR, k.cell h1, k.cell h2, k.cell h3, k.cell h4, fun i hi => k.cell (h5 i hi)⟩
theorem Tabs.kept {w w' : World} (h : Tabs w) (k : Kept w w') : Tabs w' := ⟨h.spc.kept k, utf_kept h.utf k, white_kept h.white k, h.errs.kept k⟩
theorem fields_all (a : Option Addr) (n c : Nat) (L : List UInt8) (w : World) (hL : BytesAt w a n L) (hF : Fit a n c) (hn : n ≤ 100000) (hT : Tabs w) : Calls Tryz.prog 117 #[.slice a n c] w (FldPost L w) := by
  exact fields_any a n c L w hL hF.2.1 hF.2.2 hn hT.spc fun hp w' hk => ff_any a n c L w' (hL.kept hk) hF.2.1 hF.2.2 hn hp (utf_kept hT.utf hk) (white_kept hT.white hk) (fun w2 hk2 => utf_kept hT.utf (hk.trans hk2)) fun w2 hk2 => white_kept hT.white (hk.trans hk2)
theorem IntsAt.pre {w : World} {a : Option Addr} {n : Nat} {zs : List Int} (h : IntsAt w a n zs) {m : Nat} (hm : m ≤ n) : IntsAt w a m (zs.take m) := by
  refine ⟨by rw [List.length_take, h.len]; omega, fun x hx => h.inr x (List.mem_of_mem_take hx), fun h0 => ?_⟩
  obtain ⟨b, off, hl, hc⟩ := h.at_ (by omega)
  refine ⟨b, off, hl, fun j x hx => hc j x ?_⟩
  rw [List.getElem?_take] at hx
  split at hx
  · exact hx
  · cases hx
def Few24 (c : List Int) : Prop := ∀ x ∈ c, -16777216 ≤ x ∧ x ≤ 16777216
def LinePost (L : List UInt8) (w : World) (e : Ending) (w' : World) : Prop :=
  Kept w w' ∧ ∃ a k c ok K, e = .returned (.tuple #[.slice a k c, .bool ok]) ∧ IntsAt w' a k K ∧ Fit a k c ∧ k ≤ L.length ∧ (0 < k → ∀ ad, a = some ad → w.heap.size ≤ ad.block) ∧ ∀ C, Few24 C → L = bodyT C → ok = true ∧ K = C
theorem LinePost.no {L : List UInt8} {w w' : World} (hk : Kept w w') (h : ∀ C, Few24 C → L ≠ bodyT C) : LinePost L w (.returned (.tuple #[.slice none 0 0, .bool false])) w' :=
  ⟨hk, none, 0, 0, false, [], rfl, IntsAt.nil _ _, ⟨fun _ => ⟨rfl, rfl⟩, Nat.le_refl _, by omega⟩, Nat.zero_le _, (fun h0 => absurd h0 (Nat.lt_irrefl 0)), fun C hC e => absurd e (h C hC)⟩
set_option maxRecDepth 100000 in
set_option maxHeartbeats 8000000 in
theorem line_any (a : Option Addr) (n c : Nat) (L : List UInt8) (w : World) (hL : BytesAt w a n L) (hF : Fit a n c) (hn : n ≤ 100000) (hT : Tabs w) :
    Calls Tryz.prog 119 #[.slice a n c] w (LinePost L w) := by
  have HFC := Lib.hid (fields_all a n c L w hL hF hn hT)
  have HLN := Lib.hid hL.len
  have HT := Lib.hid hT
  clear hL hF hT
  go_enter Tryz.func119, Tryz.ntmps119
  go_wp2_with fail
  refine HFC.out.mono ?_
  rintro e w2 ⟨hk2, g, k, P, rfl, hF2, hkl, hxl, hpl⟩
  have HK2 := Lib.hid hk2
  have HF2 := Lib.hid hF2
  have HXL := Lib.hid hxl
  have HPL := Lib.hid hpl
  have HT2 := Lib.hid (HT.out.kept hk2)
  have hk1 : k ≤ 100001 := by have := HLN.out; omega
  have HKL := Lib.hid hkl
  have HIS : Hid (∀ C, L = bodyT C → P = (C ++ [0]).map Lib.itoa) := fun C e => by
    rw [HPL.out (by rw [e]; exact plain_body C), e, fields_body]
  clear hk2 hF2 hxl hpl HFC hkl HT
  go_wp2
  go_loopw [4, 12] (fun v4 v12 wr => ∃ (j : Nat) (ra : Option Addr) (rc : Nat) (K : List Int), j ≤ k ∧ v12 = .int .i64 (j : Int) ∧ v4 = .slice ra j rc ∧ K.length = j ∧ Hid (∀ x ∈ K, InR x) ∧ Hid (∀ C, Few24 C → L = bodyT C → K = (C ++ [0]).take j) ∧ Hid (wr.ownsRow w2.heap.size 3 1 (.slice ra j rc) j (K.map (Value.int .i64))) ∧ Hid (Kept w2 wr)) (fun _ v _ => k - (intOf v).toNat)
  case atStart => exact ⟨0, none, 0, [], Nat.zero_le _, rfl, rfl, rfl, (fun x hx => by cases hx), (fun C _ _ => by simp), World.ownsRow_nil _ _ _ _, Kept.refl _⟩
  case round =>
    obtain ⟨j, ra, rc, K, hj, rfl, rfl, hKl, HKI, HKC, HROW, HKW⟩ := hrel
    have j0 : (0 : Int) ≤ (j : Int) := Int.natCast_nonneg _
    by_cases hjk : j < k
    · have j1 : (j : Int) < (k : Int) := by omega
      obtain ⟨x, hx⟩ : ∃ x, P[j]? = some x := ⟨_, List.getElem?_eq_getElem (by rw [HF2.out.len]; exact hjk)⟩
      obtain ⟨b, o, m, y0, hB⟩ := HF2.out.at_ j x hx
      replace y0 := HKW.out.cell y0
      have HB := Lib.hid (hB.kept HKW.out)
      have cv := conv_str (c := m) HB.out (fun h => by cases h) (fun ad h => by cases h; rfl)
      have hxlen : x.length ≤ 100000 := by
        have h1 := HXL.out x (List.mem_of_getElem? hx)
        have := HLN.out
        omega
      have HAT := Lib.hid (atoi_any x wr (by omega) (HT2.out.errs.kept HKW.out))
      have HSTEP : Hid (∀ C, Few24 C → L = bodyT C → ∃ y, (C ++ [0])[j]? = some y ∧ Lib.atoiAll x = .ok y) := fun C hC e => by
        have h1 := HIS.out C e
        rw [h1, List.getElem?_map] at hx
        cases hy : (C ++ [0])[j]? with
        | none => rw [hy] at hx; cases hx
        | some y =>
          rw [hy] at hx
          have hxe : Lib.itoa y = x := by simpa using hx
          refine ⟨y, rfl, ?_⟩
          have hyb : -16777216 ≤ y ∧ y ≤ 16777216 := by
            rcases List.mem_append.1 (List.mem_of_getElem? hy) with h | h
            · exact hC y h
            · rw [List.mem_singleton.1 h]; omega
          rw [← hxe]
          exact atoiAll_itoa (by omega) (by omega)
      clear hx hB hxlen
      go_wp2_with fail
      refine HAT.out.mono ?_
      rintro e w3 ⟨hk3, v, er, rfl, hvi, hcase⟩
      have HK3 := Lib.hid hk3
      have HVI := Lib.hid hvi
      clear hk3 hvi cv y0 HAT
      rcases hcase with ⟨rfl, hok⟩ | ⟨⟨t, p, rfl⟩, hno⟩
      · have HOK := Lib.hid hok
        have HROW3 := Lib.hid (row_keptR HROW.out HK3.out)
        have HKW3 := Lib.hid (HKW.out.trans HK3.out)
        have HKC2 : Hid (∀ C, Few24 C → L = bodyT C → K ++ [v] = (C ++ [0]).take (j + 1)) := fun C hC e => by
          obtain ⟨y, hy, hya⟩ := HSTEP.out C hC e
          rw [HOK.out] at hya
          have hvy : v = y := by injection hya
          rw [HKC.out C hC e, hvy, List.take_succ_eq_append_getElem (List.getElem?_eq_some_iff.1 hy).1, (List.getElem?_eq_some_iff.1 hy).2]
        have HKI2 : Hid (∀ x ∈ K ++ [v], InR x) := fun x hx => by
          rcases List.mem_append.1 hx with hx | hx
          · exact HKI.out x hx
          · rw [List.mem_singleton.1 hx]; exact HVI.out
        clear hok
        go_wp2_with (at_builtin; refine wpList_append_int (w0 := w3) rfl _ _ rfl w2.heap.size ra j rc K rfl HROW3.out v rfl rfl (by omega) HKW3.out.size ?_; intro a4 c4 w4 hown4 hgrow4; have HOW4 := Lib.hid hown4; have HGR4 := Lib.hid hgrow4; clear hown4 hgrow4)
        have HK4 := Lib.hid (grow_kept HROW3.out HKW3.out (Nat.le_refl _) HGR4.out)
        go_wp2
        go_roundw
        case rel => exact ⟨j + 1, a4, c4, K ++ [v], by omega, by go_num, rfl, by rw [List.length_append, hKl]; rfl, HKI2.out, HKC2.out, HOW4.out, HK4.out⟩
        case measure => simp [intOf]; omega
      · have HNO : Hid (∀ C, Few24 C → L ≠ bodyT C) := fun C hC e => by
          obtain ⟨y, _, hya⟩ := HSTEP.out C hC e
          exact hno y hya
        have HKE := Lib.hid (HK2.out.trans (HKW.out.trans HK3.out))
        clear hno
        go_wp2
        go_ret2
        exact LinePost.no HKE.out HNO.out
    · obtain rfl : k = j := by omega
      have HKE := Lib.hid (HK2.out.trans HKW.out)
      by_cases hk0 : k = 0
      · have d0 : ((k : Int) == 0) = true := beq_iff_eq.2 (by omega)
        have HNO : Hid (∀ C, Few24 C → L ≠ bodyT C) := fun C _ e => by
          have h1 := congrArg List.length (HIS.out C e)
          rw [HF2.out.len] at h1
          simp at h1
          omega
        clear hk0
        go_wp2
        go_ret2
        exact LinePost.no HKE.out HNO.out
      · have d0 : ((k : Int) == 0) = false := beq_eq_false_iff_ne.2 (by omega)
        have hfit := row_fit HROW.out
        obtain ⟨m, hm⟩ : ∃ m : Nat, k = m + 1 := ⟨k - 1, by omega⟩
        have e1 : ((m + 1 : Nat) : Int) - 1 = (m : Int) := by omega
        obtain ⟨r, hr, hrN, _, hcap⟩ := row_some HROW.out (by omega)
        subst hr
        have hcm := hfit.2.2
        have m0 : (0 : Int) ≤ (m : Int) := Int.natCast_nonneg _
        have m1 : (m : Int) ≤ (rc : Int) := by omega
        have kk1 : (k : Int) - 1 = (m : Int) := by omega
        have HII := Lib.hid ((ints_of_row HROW.out hKl HKI.out).pre (m := m) (by omega))
        have HNEW : Hid (w.heap.size ≤ r) := Nat.le_trans HK2.out.size hrN
        have HKM : Hid (m ≤ L.length) := by have := HKL.out; show _ ≤ _; omega
        have HFIN : Hid (∀ C, Few24 C → L = bodyT C → K.take m = C) := fun C hC e => by
          have h1 := congrArg List.length (HIS.out C e)
          rw [HF2.out.len] at h1
          simp at h1
          rw [HKC.out C hC e, List.take_take, show min m k = C.length by omega]
          simp
        have HM := Lib.hid hm
        clear hm hfit hk0 e1
        go_wp2
        go_ret2
        exact ⟨HKE.out, some ⟨r, 0, none⟩, m, rc, true, K.take m, rfl, HII.out, ⟨(fun h => by cases h), by omega, hcm⟩, HKM.out, (fun _ ad had => by cases had; exact HNEW.out), fun C hC e => ⟨rfl, HFIN.out C hC e⟩⟩
end Go.Proofs.YtlikokeknfhejaaGreatDoor
