/-
  Layer 5: the contract of the program's read.
-/
import Derived.Test.YtlikokeknfhejaaGreatDoorDLine
import Derived.Test.YtlikokeknfhejaaGreatDoorCFol
import Derived.Lib.SlBytesConst
namespace Go.Proofs.YtlikokeknfhejaaGreatDoor
open Go Go.RowKit Go.Lib

def ReadPost (L : List UInt8) (w : World) (e : Ending) (w' : World) : Prop :=
  Kept w w' ∧ ∃ V a k c ok D, e = .returned (.tuple #[.agg #[.int .i64 V, .slice a k c], .bool ok]) ∧ InR V ∧ (∀ w10, Turned (fun q => q < w.heap.size) w' w10 → ClsAt w10 a k D) ∧ D.length ≤ L.length ∧ D.flatten.length ≤ L.length ∧ ∀ V' C', rightB V' C' = true → L = putT V' C' → ok = true ∧ V = V' ∧ D = C'
theorem ReadPost.no {L : List UInt8} {w w' : World} (hk : Kept w w') (h : ∀ V' C', rightB V' C' = true → L ≠ putT V' C') : ReadPost L w (.returned (.tuple #[.agg #[.int .i64 0, .slice none 0 0], .bool false])) w' :=
  ⟨hk, 0, none, 0, 0, false, [], rfl, by unfold InR; omega, fun _ _ => ClsAt.nil _ _, Nat.zero_le _, Nat.zero_le _, fun V' C' hr e => absurd e (h V' C' hr)⟩
theorem put_cut (V : Int) (C : List (List Int)) : putT V C = headB V C.length ++ 10 :: C.flatMap lineT := by
  unfold putT; rw [head_body]; simp
theorem line_cut (c : List Int) (r : List UInt8) : lineT c ++ r = bodyT c ++ 10 :: r := by rw [line_body]; simp
theorem right_few {V : Int} {C : List (List Int)} (h : rightB V C = true) {c : List Int} (hc : c ∈ C) : Few24 c := by
  obtain ⟨h1, h2, _, h4⟩ := (rightB_iff V C).1 h
  intro x hx
  have := h4 c hc x hx
  omega
theorem right_V {V : Int} {C : List (List Int)} (h : rightB V C = true) : 0 ≤ V ∧ V ≤ 16777216 := by
  obtain ⟨h1, h2, _, _⟩ := (rightB_iff V C).1 h
  exact ⟨h1, h2⟩
def slLenD : Value → Nat
  | .slice _ n _ => n
  | _ => 0
abbrev zG : Obj := .cells #[.int .i64 0, .slice none 0 0] 25
set_option maxRecDepth 100000 in
set_option maxHeartbeats 16000000 in
theorem read_any (a : Option Addr) (n c : Nat) (L : List UInt8) (w : World) (hL : BytesAt w a n L) (hF : Fit a n c) (hn : n ≤ 100000) (hT : Tabs w) :
    Calls Tryz.prog 79 #[.slice a n c] w (ReadPost L w) := by
  have HK0 := Lib.hid ((Kept.refl w).alloc zG)
  have HR := Lib.hid (MapKept.heap_alloc w zG).1
  obtain ⟨R0, hRe⟩ : ∃ R0 : Nat, R0 = w.heap.size := ⟨_, rfl⟩
  rw [← hRe] at HR
  have HRL := Lib.hid (show w.heap.size ≤ R0 by omega)
  have HL := Lib.hid (hL.kept HK0.out)
  have HLN := Lib.hid hL.len
  have HF := Lib.hid hF
  have HT := Lib.hid (hT.kept HK0.out)
  have kc := fun (w : World) (C : Array Value) (n c : Nat) => Lib.run_convert_bytes_const (P := Tryz.prog) w 26 5 C n c Tryz.underlying26 Tryz.underlying5
  clear hL hF hT
  go_enter Tryz.func79, Tryz.ntmps79
  go_upto_region 1 with (fail)
  rw [← hRe]
  obtain ⟨w1, hw1⟩ : ∃ w1 : World, w1 = w.alloc zG := ⟨_, rfl⟩
  change Code.wp _ _ _ _ (w.alloc zG)
  rw [← hw1] at HR HK0 HL HT ⊢
  clear hw1 hRe
  have HKS := Lib.hid ((Kept.refl w1).alloc (.cells #[.int .u8 10] 5 (1, 2)))
  have HSB := Lib.hid (MapKept.heap_alloc w1 (.cells #[.int .u8 10] 5 (1, 2))).1
  go_wp2_with fail
  refine (cut_any a n c w1.heap.size 0 _ L _ (HL.out.kept HKS.out) HF.out (by omega) (by rw [cell_of_row _ _ _ _ _ _ HSB.out]; rfl)).mono ?_
  rintro e w2 ⟨hk2, a1, n1, c1, a2, n2, c2, okc, L1, L2, rfl, hBB, hF1, hF2, hcut⟩
  obtain ⟨hB1, hB2⟩ := hBB w2 (HL.out.kept (HKS.out.trans hk2))
  have HK2 := Lib.hid (HKS.out.trans hk2)
  have HB2 := Lib.hid hB2
  have HF2 := Lib.hid hF2
  have HCUT := Lib.hid hcut
  have hsh := hcut.short
  have hl1 := hB1.len
  have hl2 := hB2.len
  have HLEN : Hid (n1 ≤ n ∧ n2 ≤ n) := by have := HLN.out; exact ⟨by omega, by omega⟩
  have HFC := Lib.hid (fields_all a1 n1 c1 L1 w2 hB1 hF1 (by have := HLEN.out; omega) (HT.out.kept HK2.out))
  have HL1 := Lib.hid hl1
  clear hk2 hB1 hF1 hB2 hF2 hcut hsh hl1 hl2 HKS HSB hBB
  go_wp2_with fail
  refine HFC.out.mono ?_
  rintro e w3 ⟨hk3, g, k, P, rfl, hP, hkl, hxl, hpl⟩
  have HK3 := Lib.hid (HK2.out.trans hk3)
  have HP := Lib.hid hP
  have HPC : Hid (∀ V' C', L = putT V' C' → P = [[112], [99, 110, 102], Lib.itoa V', Lib.itoa (C'.length : Int)] ∧ L2 = C'.flatMap lineT) := fun V' C' e => by
    have h1 := HCUT.out
    rw [e, put_cut] at h1
    obtain ⟨e1, e2⟩ := h1.at_ (noend_head _ _)
    refine ⟨?_, e2⟩
    rw [hpl (by rw [e1]; exact plain_head _ _), e1, fields_head]
  have hkb : k ≤ 100001 := by have h1 := HL1.out; have h2 := HLEN.out.1; omega
  have HXL : Hid (∀ x ∈ P, x.length ≤ 100000) := fun x hx => by
    have h1 := hxl x hx
    have h2 := HL1.out
    have h3 := HLEN.out.1
    omega
  have HB3 := Lib.hid (HB2.out.kept hk3)
  have HT3 := Lib.hid (HT.out.kept HK3.out)
  have HR3 := Lib.hid (HK3.out.row HR.out)
  clear hk3 hP hkl hxl hpl HFC
  by_cases h3 : k < 3
  · have d3 : decide ((k : Int) < 3) = true := decide_eq_true (by omega)
    have HNO : Hid (∀ V' C', rightB V' C' = true → L ≠ putT V' C') := fun V' C' _ e => by
        have h1 := congrArg List.length (HPC.out V' C' e).1
        rw [HP.out.len] at h1
        simp at h1
        omega
    have HRX := Lib.hid (And.intro HR3.out (HK0.out.trans HK3.out))
    have f0' := frozen_of_row HRX.out.1 0
    have f1' := frozen_of_row HRX.out.1 1
    obtain ⟨r0, r1⟩ := box_facts HRX.out.1 (Kept.refl w3)
    go_wp2
    have HB := Lib.hid (ReadPost.no ((HRX.out.2.setCell (p := ⟨R0, 0, none⟩) HRL.out (.int .i64 0)).setCell (p := ⟨R0, 1, none⟩) HRL.out (.slice none 0 0)) HNO.out)
    have HR4 := Lib.hid (set2r (u := .int .i64 0) (v := .slice none 0 0) HRX.out.1)
    generalize (w3.setCell ⟨R0, 0, none⟩ (.int .i64 0)).setCell ⟨R0, 1, none⟩ (.slice none 0 0) = wz at *
    clear r0 r1 f0' f1'
    obtain ⟨r0, r1⟩ := box_facts HR4.out (Kept.refl wz)
    exact bodyPost_ret (v := .tuple #[.agg #[.int .i64 0, .slice none 0 0], .bool false]) (by simp [results, Tryz.results79, go_sem, r0, r1]) rfl HB.out
  · have d3 : decide ((k : Int) < 3) = false := decide_eq_false (by omega)
    have q3 : (3 : Int) ≤ (k : Int) := by omega
    obtain ⟨x, hx⟩ : ∃ x, P[2]? = some x := ⟨_, List.getElem?_eq_getElem (by rw [HP.out.len]; omega)⟩
    obtain ⟨b, o, m, y0, hB⟩ := HP.out.at_ 2 x hx
    have cv := conv_str (c := m) hB (fun h => by cases h) (fun ad h => by cases h; rfl)
    have HX := Lib.hid hx
    have HAT := Lib.hid (atoi_any x w3 (by have := HXL.out x (List.mem_of_getElem? hx); omega) HT3.out.errs)
    have HXV : Hid (∀ V' C', rightB V' C' = true → L = putT V' C' → Lib.atoiAll x = .ok V') := fun V' C' hr e => by
      have h1 := HX.out
      rw [(HPC.out V' C' e).1] at h1
      have h2 : Lib.itoa V' = x := by simpa using h1
      have := right_V hr
      rw [← h2]
      exact atoiAll_itoa (by omega) (by omega)
    clear hx hB h3
    go_wp2_with fail
    refine HAT.out.mono ?_
    rintro e w4 ⟨hk4, V, er, rfl, hvi, hcase⟩
    have HK4 := Lib.hid (HK3.out.trans hk4)
    have HVI := Lib.hid hvi
    have HB4 := Lib.hid (HB3.out.kept hk4)
    have HR4 := Lib.hid (hk4.row HR3.out)
    clear hk4 hvi cv y0 HAT HB3 HR3 HT3
    rcases hcase with ⟨rfl, hok⟩ | ⟨⟨t, p, rfl⟩, hno⟩
    case inr =>
      have HNO : Hid (∀ V' C', rightB V' C' = true → L ≠ putT V' C') := fun V' C' hr e => hno V' (HXV.out V' C' hr e)
      have HRX := Lib.hid (And.intro HR4.out (HK0.out.trans HK4.out))
      have f0' := frozen_of_row HRX.out.1 0
      have f1' := frozen_of_row HRX.out.1 1
      obtain ⟨r0, r1⟩ := box_facts HRX.out.1 (Kept.refl w4)
      go_wp2
      have HB := Lib.hid (ReadPost.no ((HRX.out.2.setCell (p := ⟨R0, 0, none⟩) HRL.out (.int .i64 0)).setCell (p := ⟨R0, 1, none⟩) HRL.out (.slice none 0 0)) HNO.out)
      have HR4 := Lib.hid (set2r (u := .int .i64 0) (v := .slice none 0 0) HRX.out.1)
      generalize (w4.setCell ⟨R0, 0, none⟩ (.int .i64 0)).setCell ⟨R0, 1, none⟩ (.slice none 0 0) = wz at *
      clear r0 r1 f0' f1'
      obtain ⟨r0, r1⟩ := box_facts HR4.out (Kept.refl wz)
      exact bodyPost_ret (v := .tuple #[.agg #[.int .i64 0, .slice none 0 0], .bool false]) (by simp [results, Tryz.results79, go_sem, r0, r1]) rfl HB.out
    have HOK := Lib.hid hok
    clear hok
    have HVE : Hid (∀ V' C', rightB V' C' = true → L = putT V' C' → V = V') := fun V' C' hr e => by
      have h1 := HXV.out V' C' hr e
      rw [HOK.out] at h1
      injection h1
    have HKH := Lib.hid ((Kept.refl w4).alloc (f2Obj V none 0 0 25))
    have HH := Lib.hid (MapKept.heap_alloc w4 (f2Obj V none 0 0 25)).1
    obtain ⟨h, hh⟩ : ∃ h : Nat, h = w4.heap.size := ⟨_, rfl⟩
    rw [← hh] at HH
    go_upto_region 9 with (fail)
    rw [← hh]
    obtain ⟨w7, hw7⟩ : ∃ w7 : World, w7 = w4.alloc (f2Obj V none 0 0 25) := ⟨_, rfl⟩
    change Code.wp _ _ _ _ (w4.alloc (f2Obj V none 0 0 25))
    rw [← hw7] at HH HKH ⊢
    clear hw7
    have HK7 := Lib.hid (HK4.out.trans HKH.out)
    have HR7 := Lib.hid (HKH.out.row HR4.out)
    have HK47 := Lib.hid HKH.out
    have HH4 : Hid (w4.heap.size ≤ h) := Nat.le_of_eq hh.symm
    have HHL : Hid (w1.heap.size ≤ h ∧ R0 < h ∧ h < w7.heap.size) := ⟨by rw [hh]; exact HK4.out.size, by rw [hh]; exact (Array.getElem?_eq_some_iff.1 HR4.out).1, (Array.getElem?_eq_some_iff.1 HH.out).1⟩
    obtain ⟨ii, hi, hz0, hz1, hz2⟩ := info_parts infoInts
    have HI := Lib.hid (And.intro hi (And.intro hz0 (And.intro hz1 hz2))); clear hi hz0 hz1 hz2 hh HKH HR4 d3
    go_wp2
    go_loopw [5] (fun v5 wr => ∃ (ra : Option Addr) (rn rc : Nat) (R : List UInt8) (fa : Option Addr) (fk fc : Nat) (vs : List Value) (D : List (List Int)), v5 = .slice ra rn rc ∧ Hid (BytesAt w4 ra rn R) ∧ Hid (Fit ra rn rc) ∧ Hid (wr.heap[h]? = some (f2Obj V fa fk fc 25)) ∧ Hid (RowsV w7.heap.size wr (TG (fun q => q ≤ h) fa) fa fk fc vs D) ∧ Hid (Turned (fun q => q = h) w7 wr) ∧ D.length + rn ≤ n ∧ D.flatten.length + rn ≤ n ∧ Hid (∀ V' C', rightB V' C' = true → L = putT V' C' → ∃ i, i ≤ C'.length ∧ D = C'.take i ∧ R = (C'.drop i).flatMap lineT)) (fun v5 _ => slLenD v5)
    case atStart =>
      refine ⟨a2, n2, c2, L2, none, 0, 0, [], [], rfl, HB4.out, HF2.out, HH.out, RowsV.nil _ _ _, Turned.refl _ _, by have := HLEN.out.2; simpa using this, by have := HLEN.out.2; simpa using this, fun V' C' hr e => ⟨0, Nat.zero_le _, rfl, ?_⟩⟩
      rw [(HPC.out V' C' e).2, List.drop_zero]
    case round =>
      obtain ⟨ra, rn, rc, R, fa, fk, fc, vs, D, rfl, HBR4, HFR, HBK, HRW, HTU, hDn, hDf, HC⟩ := hrel
      have HK4R : Hid (Kept w4 wr) := HTU.out.from HK47.out fun q hq e => by have := HH4.out; omega
      have HBR := Lib.hid (HBR4.out.kept HK4R.out)
      have HKR : Hid (Kept w1 wr) := HTU.out.from HK7.out fun q hq e => by have := HHL.out; omega
      have HRR : Hid (wr.heap[R0]? = some zG) := (HTU.out.block R0 (Array.getElem?_eq_some_iff.1 HR7.out).1 (by have := HHL.out; omega)).trans HR7.out
      have HRL2 := Lib.hid HBR.out.len
      by_cases h0 : rn = 0
      · have d0 : ¬ ((0 : Int) < (rn : Int)) := by omega
        have HRN : Hid (R = []) := List.eq_nil_of_length_eq_zero (by rw [HBR.out.len]; exact h0)
        have HFIN : Hid (∀ V' C', rightB V' C' = true → L = putT V' C' → true = true ∧ V = V' ∧ D = C') := fun V' C' hr e => by
          obtain ⟨i, hi, hd, hR⟩ := HC.out V' C' hr e
          refine ⟨rfl, HVE.out V' C' hr e, ?_⟩
          rw [HRN.out] at hR
          have hdn : C'.drop i = [] := by
            cases hd2 : C'.drop i with
            | nil => rfl
            | cons c0 r0 =>
              rw [hd2, List.flatMap_cons] at hR
              have h9 := congrArg List.length hR
              rw [List.length_append, line_body, List.length_append] at h9
              simp only [List.length_cons, List.length_nil] at h9
              omega
          rw [hd]
          have := List.take_append_drop i C'
          rw [hdn, List.append_nil] at this
          exact this
        have f0' := frozen_of_row HRR.out 0
        have f1' := frozen_of_row HRR.out 1
        obtain ⟨r0, r1⟩ := box_facts HRR.out (Kept.refl wr)
        obtain ⟨q0, q1⟩ := box_facts HBK.out (Kept.refl wr)
        clear h0
        go_wp2
        have HR5 := Lib.hid (set2r (u := .int .i64 V) (v := .slice fa fk fc) HRR.out)
        have HT9 := Lib.hid ((Turned.setCell (T := fun q => q = R0) wr ⟨R0, 0, none⟩ (.int .i64 V) rfl).trans (Turned.setCell (T := fun q => q = R0) _ ⟨R0, 1, none⟩ (.slice fa fk fc) rfl))
        have HKE := Lib.hid (((HK0.out.trans HKR.out).setCell (p := ⟨R0, 0, none⟩) HRL.out (.int .i64 V)).setCell (p := ⟨R0, 1, none⟩) HRL.out (.slice fa fk fc))
        have HCE : Hid (∀ w10, Turned (fun q => q ≤ R0) wr w10 → ClsAt w10 fa fk D) := fun w10 ht9 =>
          RowsV.cls (HRW.out.turned (row_off HRW.out.row ht9 (fun q hq hX => by have h1 := (HRW.out.row.lt q hq).1; have := HHL.out; omega)) (ht9.mono fun q _ e => Or.inl (by have := HHL.out; omega)))
        generalize (wr.setCell ⟨R0, 0, none⟩ (.int .i64 V)).setCell ⟨R0, 1, none⟩ (.slice fa fk fc) = wz at *
        clear r0 r1 f0' f1' q0 q1
        obtain ⟨r0, r1⟩ := box_facts HR5.out (Kept.refl wz)
        exact bodyPost_ret (v := .tuple #[.agg #[.int .i64 V, .slice fa fk fc], .bool true]) (by simp [results, Tryz.results79, go_sem, r0, r1]) rfl ⟨HKE.out, V, fa, fk, fc, true, D, rfl, HVI.out, fun w10 ht => HCE.out w10 ((HT9.out.mono fun q _ e => Nat.le_of_eq e).trans (ht.mono fun q _ e => by have := HRL.out; omega)), by have := HLN.out; omega, by have := HLN.out; omega, fun V' C' hr e => ⟨rfl, (HFIN.out V' C' hr e).2⟩⟩
      · have d0 : (0 : Int) < (rn : Int) := by omega
        have HKS := Lib.hid ((Kept.refl wr).alloc (.cells #[.int .u8 10] 5 (1, 2)))
        have HSB := Lib.hid (MapKept.heap_alloc wr (.cells #[.int .u8 10] 5 (1, 2))).1
        have HRNE : Hid (R ≠ []) := fun e => h0 (by rw [← HBR.out.len, e]; rfl)
        clear h0
        go_wp2_with fail
        refine (cut_any ra rn rc wr.heap.size 0 _ R _ (HBR.out.kept HKS.out) HFR.out (by omega) (by rw [cell_of_row _ _ _ _ _ _ HSB.out]; rfl)).mono ?_
        rintro e w8 ⟨hk8, b1, m1, e1, b2, m2, e2, okc2, M1, M2, rfl, hBB, hF1, hF2, hcut⟩
        obtain ⟨hB1, hB2⟩ := hBB w8 (HBR.out.kept (HKS.out.trans hk8))
        have HB24 := Lib.hid (hBB w4 HBR4.out).2
        have HK8 := Lib.hid (HKS.out.trans hk8)
        have HCUT2 := Lib.hid hcut
        have hsh := hcut.short
        have hl1 := hB1.len
        have hl2 := hB2.len
        have HLEN2 : Hid (m1 ≤ rn ∧ m2 < rn ∧ m1 + m2 ≤ rn) := by
          have h1 := HRL2.out
          have h2 := hsh.2.2 HRNE.out
          refine ⟨by omega, by omega, ?_⟩
          rcases hcut.2 with h3 | ⟨h3, h4⟩
          · have h5 := congrArg List.length h3
            rw [List.length_append, List.length_cons] at h5
            omega
          · rw [h4] at hl2; rw [← h3] at hl1; simp at hl2; omega
        have HF8 := Lib.hid hF2
        have HLC := Lib.hid (line_any b1 m1 e1 M1 w8 hB1 hF1 (by have := HLEN2.out; omega) (HT.out.kept (HKR.out.trans HK8.out)))
        have HM1 := Lib.hid hl1
        clear hk8 hB1 hF1 hB2 hF2 hcut hsh hl1 hl2 HKS HSB hBB
        go_wp2_with fail
        refine HLC.out.mono ?_
        rintro e w9 ⟨hk9, la, lk, lc, okl, K, rfl, hI, hFl, hlk, hnew, hlc⟩
        have HK9 := Lib.hid (HK8.out.trans hk9)
        have HLCC : Hid (∀ V' C', rightB V' C' = true → L = putT V' C' → ∃ i c0, i + 1 ≤ C'.length ∧ okl = true ∧ D ++ [K] = C'.take (i + 1) ∧ C'[i]? = some c0 ∧ M2 = (C'.drop (i + 1)).flatMap lineT) := fun V' C' hr e => by
          obtain ⟨i, hi, hd, hR⟩ := HC.out V' C' hr e
          have hil : i < C'.length := by
            rcases Nat.lt_or_eq_of_le hi with h | h
            · exact h
            · exfalso
              apply HRNE.out
              rw [hR, h, List.drop_length]; rfl
          have hci : C'[i]? = some C'[i] := List.getElem?_eq_getElem hil
          have h1 := HCUT2.out
          rw [hR, List.drop_eq_getElem_cons hil, List.flatMap_cons, line_cut] at h1
          obtain ⟨e1, e2⟩ := h1.at_ (noend_body _)
          obtain ⟨e3, e4⟩ := hlc C'[i] (right_few hr (List.getElem_mem hil)) e1
          refine ⟨i, C'[i], by omega, e3, ?_, hci, e2⟩
          rw [e4, hd, List.take_succ_eq_append_getElem hil]
        have HI9 := Lib.hid hI
        have HFL := Lib.hid hFl
        have HNEW := Lib.hid hnew
        have hlkb : lk ≤ m1 := by have := HM1.out; omega
        have HKl := Lib.hid hI.len
        clear hk9 hI hFl hlk hnew hlc HLC
        cases okl with
        | false =>
          have HNO : Hid (∀ V' C', rightB V' C' = true → L ≠ putT V' C') := fun V' C' hr e => by
              obtain ⟨_, _, _, h, _⟩ := HLCC.out V' C' hr e
              cases h
          have HRX := Lib.hid (And.intro (HK9.out.row HRR.out) (HK0.out.trans (HKR.out.trans HK9.out)))
          have f0' := frozen_of_row HRX.out.1 0
          have f1' := frozen_of_row HRX.out.1 1
          obtain ⟨r0, r1⟩ := box_facts HRX.out.1 (Kept.refl w9)
          go_wp2
          have HB := Lib.hid (ReadPost.no ((HRX.out.2.setCell (p := ⟨R0, 0, none⟩) HRL.out (.int .i64 0)).setCell (p := ⟨R0, 1, none⟩) HRL.out (.slice none 0 0)) HNO.out)
          have HR4 := Lib.hid (set2r (u := .int .i64 0) (v := .slice none 0 0) HRX.out.1)
          generalize (w9.setCell ⟨R0, 0, none⟩ (.int .i64 0)).setCell ⟨R0, 1, none⟩ (.slice none 0 0) = wz at *
          clear r0 r1 f0' f1'
          obtain ⟨r0, r1⟩ := box_facts HR4.out (Kept.refl wz)
          exact bodyPost_ret (v := .tuple #[.agg #[.int .i64 0, .slice none 0 0], .bool false]) (by simp [results, Tryz.results79, go_sem, r0, r1]) rfl HB.out
        | true =>
          have HBK9 := Lib.hid (HK9.out.row HBK.out)
          have HRW9 := Lib.hid (HRW.out.kept HK9.out)
          have HNH : Hid ((Value.slice fa fk fc).ownBlock ≠ some h) := by
            intro e
            have h1 := (HRW.out.row.lt h e).1
            have := HHL.out
            omega
          have HCV : Hid (ClauseV w9 (TG (fun q => q ≤ h) fa) (.slice la lk lc) K) := by
            refine ⟨la, lk, lc, rfl, HI9.out, HFL.out, fun h0 ad had hTq => ?_⟩
            have h1 := HNEW.out h0 ad had
            have h2 := HK8.out.size
            rcases hTq with h3 | h3
            · have h4 := (Array.getElem?_eq_some_iff.1 HBK.out).1
              omega
            · have h4 := (HRW.out.row.lt ad.block (own_block.2 h3)).2
              omega
          have hkb2 : fk ≤ 100000 := by have h1 := HRW.out.len; omega
          have HSZ := Lib.hid (show w7.heap.size ≤ w9.heap.size from Nat.le_trans HTU.out.size HK9.out.size)
          obtain ⟨q0, q1⟩ := box_facts HBK9.out (Kept.refl w9)
          have q2 := frozen_of_row HBK9.out 1
          have q3' := (Array.getElem?_eq_some_iff.1 HBK9.out).1
          have z1 : (w9.alloc (.cells #[.slice la lk lc] 22)).cell? ⟨h, 1, none⟩ = some (.slice fa fk fc) := ((Kept.refl w9).alloc _).cell q1
          have z2 : (w9.alloc (.cells #[.slice la lk lc] 22)).frozen? ⟨h, 1, none⟩ = false := frozen_of_row (((Kept.refl w9).alloc _).row HBK9.out) 1
          have z3 : h < (w9.alloc (.cells #[.slice la lk lc] 22)).heap.size := by simp; omega
          go_wp2_with (at_builtin; refine wpList_append_lies _ rfl _ _ _ rfl w7.heap.size 22 ii _ 1 24 Tryz.underlying23 HI.out.1 HI.out.2.1 HI.out.2.2.1 HI.out.2.2.2 rfl (by omega) (.slice fa fk fc) fk vs rfl (HRW9.out.row.alloc _) ⟨w9.heap.size, 0, none⟩ 1 1 [.slice la lk lc] rfl rfl (World.news_of_block (cs := #[.slice la lk lc]) (t := 22) (fr := (0, 0)) (heap_alloc_new w9 _)) (by simp [Value.oneCell']) (by omega) (by unfold maxLen; omega) (by omega) (by have := HSZ.out; simp; omega) (w9.heap.size + 1) (by simp) ?_; intro gg cap w10 hown10 hgrow10 hat10 hlt10; have c10 : w10.cell? ⟨h, 1, none⟩ = some (.slice fa fk fc) := (hgrow10.cell_far ⟨h, 1, none⟩ z3 (Ne.symm HNH.out)).trans z1; have z10 : w10.frozen? ⟨h, 1, none⟩ = false := (hgrow10.frozen_far ⟨h, 1, none⟩ z3 (Ne.symm HNH.out)).trans z2; have HGR := Lib.hid hgrow10; have HOW := Lib.hid hown10; have HAT := Lib.hid hat10; clear hgrow10 hown10 hat10 hlt10)
          have hE := own_end (T0 := fun q => q ≤ h) (Nat.le_refl h) HBK9.out HRW9.out (Kept.refl w9) HHL.out.2.2 HOW.out HGR.out HAT.out HCV.out HSZ.out
          have HE := Lib.hid hE
          have HTE : Hid (Turned (fun q => q = h) w7 (w10.setCell ⟨h, 1, none⟩ (.slice (some ⟨gg, 0, none⟩) (fk + 1) cap))) := by
            refine (((HTU.out.trans (HK9.out.turned _)).mono (S := TG (fun q => q = h) fa) fun q _ e => Or.inl e).trans HE.out.2.2).mono fun q hq hTq => ?_
            rcases hTq with h1 | h1
            · exact h1
            · have h2 := (HRW.out.row.lt q (own_block.2 h1)).1
              omega
          clear hE c10 z10 q0 q1 q2 q3' z1 z2 z3
          go_roundw
          case rel => exact ⟨b2, m2, e2, M2, some ⟨gg, 0, none⟩, fk + 1, cap, vs ++ [Value.slice la lk lc], D ++ [K], rfl, HB24.out, HF8.out, HE.out.1, HE.out.2.1, HTE.out, by rw [List.length_append]; have := HLEN2.out; simp; omega, by rw [List.flatten_append, List.length_append]; have h1 := HLEN2.out; have h2 := HKl.out; simp only [List.flatten_cons, List.flatten_nil, List.append_nil]; omega, fun V' C' hr e => by
            obtain ⟨i, c0, h1, _, h3, _, h5⟩ := HLCC.out V' C' hr e
            exact ⟨i + 1, h1, h3, h5⟩⟩
          case measure => have := HLEN2.out; simp [slLenD]; omega
end Go.Proofs.YtlikokeknfhejaaGreatDoor
