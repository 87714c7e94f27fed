/-
  Layer 5: the contract of the reference's number.
  Before it: Layer 5: the contract of the reference's Put.
-/
import Derived.Test.YtlikokeknfhejaaGreatDoorDPure
import Derived.Test.YtlikokeknfhejaaGreatDoorCRRight
import Derived.Deep.RegionHeld3
import Derived.Deep.DeepCutAuto
namespace Go.Proofs.YtlikokeknfhejaaGreatDoor
open Go Go.RowKit Go.Lib

/-- A call that makes a text, and writes nothing that was there. -/
def Makes (f : Nat) (args : Array Value) (w : World) (s : ByteArray) : Prop := ∀ w', Kept w w' → Calls Tryz.prog f args w' fun e w'' => e = .returned (.string s) ∧ Kept w' w''
theorem makes_held {f : Nat} {args : Array Value} {W w : World} {s : ByteArray} (h : Makes f args W s) (hk : Kept W w) :
    Calls Tryz.prog f args w fun e w'' => e = .returned (.string s) ∧ Kept W w'' :=
  (h w hk).mono fun _ _ hh => ⟨hh.1, hk.trans hh.2⟩
/-- The sum of two texts. -/
def Adds (x y s : ByteArray) : Prop := ∀ w, (Op.stringOp .add x y).run Tryz.prog w = .ok (.string s) w
theorem adds_mk (x y : List UInt8) (hx : x.length ≤ 8000000) (hy : y.length ≤ 8000000) : Adds ⟨x.toArray⟩ ⟨y.toArray⟩ ⟨(x ++ y).toArray⟩ := fun w =>
  run_string_add_lists w x y (by omega) (by omega)
theorem itoa_makes (n : Int) (w : World) (hn : InR n) (hL : Laid w) : Makes 78 #[.int .i64 n] w ⟨(Lib.itoa n).toArray⟩ := fun w' hk =>
  (Tryz.strconv_Itoa n hn.1 hn.2 w' (hL.kept hk).pow).mono fun _ _ h => ⟨h.1, by obtain ⟨_, _, _, hw⟩ := h; exact Kept.grow hw⟩
def RPutPost (V : Int) (C : List (List Int)) (w : World) (e : Ending) (w' : World) : Prop :=
  Kept w w' ∧ ((rightB V C = false ∧ e = .returned (.tuple #[.string { data := #[] }, .int .i64 2])) ∨
    (rightB V C = true ∧ e = .returned (.tuple #[.string ⟨(putT V C).toArray⟩, .int .i64 0])))
set_option maxRecDepth 100000 in
set_option maxHeartbeats 8000000 in
theorem rput_any (V : Int) (ca : Option Addr) (cn cc : Nat) (C : List (List Int)) (w : World) (hV : InR V) (hC : ClsAt w ca cn C) (hcn : cn ≤ 1000) (hS : ∀ c ∈ C, c.length ≤ 1000) (hT : C.flatten.length ≤ 10000) (hW : Laid w) :
    Calls Tryz.prog 36 #[.agg #[.int .i64 V, .slice ca cn cc]] w (RPutPost V C w) := by
  have HC := Lib.hid hC; have HS := Lib.hid hS; have HT := Lib.hid hT; clear hC hS hT
  have HLN := Lib.hid HC.out.len
  have HVR := Lib.hid hV; clear hV
  have HB := Lib.hid (MapKept.heap_alloc w (rObj V ca cn cc)).1
  have HK0 := Lib.hid ((Kept.refl w).alloc (rObj V ca cn cc))
  have HW := Lib.hid (hW.kept HK0.out)
  clear hW
  obtain ⟨B, hBe⟩ : ∃ B : Nat, B = w.heap.size := ⟨_, rfl⟩
  go_enter Tryz.func36, Tryz.ntmps36
  go_upto_region 1 with (fail)
  obtain ⟨w1, hw1⟩ : ∃ w1 : World, w1 = w.alloc (rObj V ca cn cc) := ⟨_, rfl⟩
  change Code.wp _ _ _ _ (w.alloc (rObj V ca cn cc))
  rw [← hBe] at HB ⊢
  rw [← hw1] at HB HK0 HW ⊢
  clear hw1 hBe
  obtain ⟨y0, y1⟩ := rbox_facts HB.out (Kept.refl w1)
  have HCR := Lib.hid (rright_any V ca cn cc C w1 HVR.out (HC.out.kept HK0.out) (by omega) (fun c hc => Nat.le_trans (HS.out c hc) (by decide)))
  cases hr : rightB V C with
  | false =>
    rw [hr] at HCR
    have HR := Lib.hid hr; clear hr
    go_wp2_with fail
    refine HCR.out.mono ?_
    rintro e w2 ⟨rfl, hk2⟩
    have HK2 := Lib.hid hk2; clear hk2
    go_wp2
    go_ret2
    exact ⟨HK0.out.trans HK2.out, Or.inl ⟨HR.out, rfl⟩⟩
  | true =>
    rw [hr] at HCR
    have HR := Lib.hid hr; clear hr
    go_wp2_with fail
    refine HCR.out.mono ?_
    rintro e w2 ⟨rfl, hk2⟩
    have HK2 := Lib.hid hk2
    have HW2 := Lib.hid (HW.out.kept hk2)
    clear hk2 y0 y1 HCR
    have HM1 := Lib.hid (itoa_makes V w2 HVR.out HW2.out)
    have HM2 := Lib.hid (itoa_makes (cn : Int) w2 ⟨by omega, by omega⟩ HW2.out)
    have hiv := Lib.itoa_length_le V HVR.out.1 HVR.out.2
    have hin := Lib.itoa_length_le (cn : Int) (by omega) (by omega)
    have a1 := adds_mk [112, 32, 99, 110, 102, 32] (Lib.itoa V) (by simp) (by omega)
    have a2 := adds_mk ([112, 32, 99, 110, 102, 32] ++ Lib.itoa V) [32] (by simp; omega) (by simp)
    have a3 := adds_mk ([112, 32, 99, 110, 102, 32] ++ Lib.itoa V ++ [32]) (Lib.itoa (cn : Int)) (by simp; omega) (by omega)
    have a4 := adds_mk ([112, 32, 99, 110, 102, 32] ++ Lib.itoa V ++ [32] ++ Lib.itoa (cn : Int)) [10] (by simp; omega) (by simp)
    have HHT : Hid ([112, 32, 99, 110, 102, 32] ++ Lib.itoa V ++ [32] ++ Lib.itoa (cn : Int) ++ [10] = headT V C.length) := by show _ = _; rw [HLN.out]; rfl
    rw [HHT.out] at a4
    have hhl : (headT V C.length).length ≤ 50 := by rw [← HHT.out]; simp; omega
    generalize (⟨(Lib.itoa V).toArray⟩ : ByteArray) = I1 at *
    generalize (⟨(Lib.itoa (cn : Int)).toArray⟩ : ByteArray) = I2 at *
    generalize (⟨([112, 32, 99, 110, 102, 32] ++ Lib.itoa V).toArray⟩ : ByteArray) = S1 at *
    generalize (⟨([112, 32, 99, 110, 102, 32] ++ Lib.itoa V ++ [32]).toArray⟩ : ByteArray) = S2 at *
    generalize (⟨([112, 32, 99, 110, 102, 32] ++ Lib.itoa V ++ [32] ++ Lib.itoa (cn : Int)).toArray⟩ : ByteArray) = S3 at *
    obtain ⟨S4, hS4⟩ : ∃ S4 : ByteArray, S4 = ⟨(headT V C.length).toArray⟩ := ⟨_, rfl⟩
    rw [← hS4] at a4
    have HS4 := Lib.hid hS4
    clear hiv hin HHT hS4
    unfold Adds at a1 a2 a3 a4
    have FN : Hid (∀ w', Kept w2 w' → Kept w2 w' ∧ w'.cell? ⟨B, 0, none⟩ = some (.int .i64 V) ∧ w'.cell? ⟨B, 1, none⟩ = some (.slice ca cn cc)) := fun w' hk => ⟨hk, rbox_facts HB.out (HK2.out.trans hk)⟩
    go_upto_region 3 with (fail)
    go_cut [4] (fun s wx => s = .string S4 ∧ Kept w2 wx)
    case first =>
      go_region_held3 (fun w' => Kept w2 w' ∧ w'.cell? ⟨B, 0, none⟩ = some (.int .i64 V) ∧ w'.cell? ⟨B, 1, none⟩ = some (.slice ca cn cc))
        (first | exact FN.out _ (Kept.refl _) | exact FN.out _ (Kept.drew (Kept.refl _)) | assumption | exact FN.out _ (by assumption))
        ((go_at_call 78; (first | refine (makes_held HM1.out (And.left ‹Kept w2 _ ∧ _›)).mono ?_ | refine (makes_held HM2.out (And.left ‹Kept w2 _ ∧ _›)).mono ?_); rintro e w7 ⟨rfl, hk7⟩))
      all_goals
        go_wp2
        go_meet
        case rel => exact ⟨rfl, And.left ‹Kept w2 _ ∧ _›⟩
    case rest =>
      obtain ⟨rfl, hk4⟩ := hcut
      have HK4 := Lib.hid (HK0.out.trans (HK2.out.trans hk4))
      have HB4 := Lib.hid ((HK2.out.trans hk4).row HB.out)
      have HW4 := Lib.hid (HW2.out.kept hk4)
      clear hk4 a1 a2 a3 a4 HM1 HM2 FN
      obtain ⟨w4, rfl⟩ : ∃ w4 : World, w4 = wc := ⟨_, rfl⟩
      go_wp2
      go_loopw [4, 5] (fun v i wr => ∃ (j : Nat) (S : ByteArray), j ≤ cn ∧ i = .int .i64 j ∧ v = .string S ∧ Hid (S = ⟨(headT V C.length ++ (C.take j).flatMap lineT).toArray⟩) ∧ Hid ((headT V C.length ++ (C.take j).flatMap lineT).length ≤ 50 + 22 * (C.take j).flatten.length + 2 * j) ∧ Hid (Kept w4 wr)) (fun _ i _ => cn - (intOf i).toNat)
      case atStart => exact ⟨0, S4, Nat.zero_le _, rfl, rfl, by show _ = _; rw [HS4.out]; simp, by show _ ≤ _; simp; omega, Kept.refl _⟩
      case round =>
        obtain ⟨j, S, hj, rfl, rfl, HSE, HLE, HKJ⟩ := hrel
        have j0 : (0 : Int) ≤ (j : Int) := Int.natCast_nonneg _
        obtain ⟨y0, y1⟩ := rbox_facts HB4.out HKJ.out
        by_cases hjn : j < cn
        · have j1 : (j : Int) < (cn : Int) := by omega
          have HCW := Lib.hid (HC.out.kept (HK4.out.trans HKJ.out))
          obtain ⟨b, off, rfl, hc⟩ := HCW.out.at_ (by omega)
          have hjl : j < C.length := by rw [HLN.out]; exact hjn
          obtain ⟨cl, hcj⟩ : ∃ c, C[j]? = some c := ⟨_, List.getElem?_eq_getElem hjl⟩
          obtain ⟨a2, k2, cap2, x0, hIc, hz2, hkc⟩ := hc j cl hcj
          have HX0 := Lib.hid x0
          have HIC := Lib.hid hIc
          have hk2 : k2 ≤ 1000 := by have := HS.out cl (List.mem_of_getElem? hcj); rw [hIc.len] at this; exact this
          have HTK := Lib.hid (show C.take (j + 1) = C.take j ++ [cl] by rw [List.take_succ_eq_append_getElem hjl, (List.getElem?_eq_some_iff.1 hcj).2])
          have HFL : Hid ((C.take j).flatten.length + cl.length ≤ 10000) := by
            have h1 := HT.out
            have h2 : (C.take (j + 1)).flatten.length ≤ C.flatten.length := by
              conv => rhs; rw [← List.take_append_drop (j + 1) C, List.flatten_append, List.length_append]
              omega
            rw [HTK.out, List.flatten_append, List.length_append] at h2
            simp at h2
            show _ ≤ _
            simp at h1
            simp
            omega
          clear hc hcj hjl hIc hz2 hkc x0
          obtain ⟨wo, rfl⟩ : ∃ wo : World, wo = wr := ⟨_, rfl⟩
          obtain ⟨L, hL⟩ : ∃ L, L = headT V C.length ++ (C.take j).flatMap lineT := ⟨_, rfl⟩
          have HL := Lib.hid hL
          rw [← hL] at HSE HLE
          clear hL
          go_wp2
          clear y0 y1
          go_loopw [4, 6] (fun v i wr => ∃ (t : Nat) (S : ByteArray), t ≤ k2 ∧ i = .int .i64 t ∧ v = .string S ∧ Hid (S = ⟨(L ++ (cl.take t).flatMap litT).toArray⟩) ∧ Hid ((L ++ (cl.take t).flatMap litT).length ≤ L.length + 22 * t) ∧ Hid (Kept wo wr)) (fun _ i _ => k2 - (intOf i).toNat)
          case atStart => exact ⟨0, S, Nat.zero_le _, rfl, rfl, by show _ = _; rw [HSE.out]; simp, by show _ ≤ _; simp, Kept.refl _⟩
          case round =>
            obtain ⟨t, S', ht, rfl, rfl, HSE', HLE', HKT⟩ := hrel
            have t0 : (0 : Int) ≤ (t : Int) := Int.natCast_nonneg _
            obtain ⟨y0, y1⟩ := rbox_facts HB4.out (HKJ.out.trans HKT.out)
            have x0 := HKT.out.cell HX0.out
            have hll : L.length + 22 * t ≤ 50 + 22 * 10000 + 2 * 1000 := by
              have h1 := HLE.out
              have h2 := HFL.out
              have h3 := HIC.out.len
              omega
            by_cases htk : t < k2
            · have t1 : (t : Int) < (k2 : Int) := by omega
              have HIW := Lib.hid (HIC.out.kept HKT.out)
              obtain ⟨b2, o2, rfl, hcc⟩ := HIW.out.at_ (by omega)
              have htl : t < cl.length := by rw [HIC.out.len]; exact htk
              obtain ⟨y, hy⟩ : ∃ y, cl[t]? = some y := ⟨_, List.getElem?_eq_getElem htl⟩
              have x1 := hcc t y hy
              have hyr := HIC.out.inr y (List.mem_of_getElem? hy)
              have HTT := Lib.hid (show cl.take (t + 1) = cl.take t ++ [y] by rw [List.take_succ_eq_append_getElem htl, (List.getElem?_eq_some_iff.1 hy).2])
              have HM := Lib.hid (itoa_makes y wr hyr ((HW4.out.kept HKJ.out).kept HKT.out))
              have hil := Lib.itoa_length_le y hyr.1 hyr.2
              have hlen := HLE'.out
              have a1 := adds_mk (L ++ (cl.take t).flatMap litT) (Lib.itoa y) (by omega) (by omega)
              have a2 := adds_mk (L ++ (cl.take t).flatMap litT ++ Lib.itoa y) [32] (by rw [List.length_append]; omega) (by simp)
              have HEQ : Hid (L ++ (cl.take t).flatMap litT ++ Lib.itoa y ++ [32] = L ++ (cl.take (t + 1)).flatMap litT) := by
                show _ = _
                rw [HTT.out, List.flatMap_append]; simp [litT]
              have HLN2 : Hid ((L ++ (cl.take (t + 1)).flatMap litT).length ≤ L.length + 22 * (t + 1)) := by
                show _ ≤ _
                rw [← HEQ.out, List.length_append, List.length_append]
                simp only [List.length_cons, List.length_nil]
                omega
              rw [← HSE'.out] at a1
              obtain ⟨S1, hS1⟩ : ∃ S1 : ByteArray, S1 = ⟨(L ++ (cl.take t).flatMap litT ++ Lib.itoa y).toArray⟩ := ⟨_, rfl⟩
              obtain ⟨S2, hS2⟩ : ∃ S2 : ByteArray, S2 = ⟨(L ++ (cl.take t).flatMap litT ++ Lib.itoa y ++ [32]).toArray⟩ := ⟨_, rfl⟩
              rw [← hS1] at a1 a2
              rw [← hS2] at a2
              have HS2 : Hid (S2 = ⟨(L ++ (cl.take (t + 1)).flatMap litT).toArray⟩) := by show _ = _; rw [hS2, HEQ.out]
              generalize (⟨(Lib.itoa y).toArray⟩ : ByteArray) = I at *
              unfold Adds at a1 a2
              clear hcc htl hy hyr hil hlen hS1 hS2
              go_wp2_with fail
              refine (makes_held HM.out (Kept.refl wr)).mono ?_
              rintro e w8 ⟨rfl, hk8⟩
              have HK8 := Lib.hid (HKT.out.trans hk8)
              clear hk8 y0 y1 x0 x1
              go_wp2
              go_roundw
              case rel => exact ⟨t + 1, S2, by omega, by go_num, rfl, HS2.out, HLN2.out, HK8.out⟩
              case measure => simp [intOf]; omega
            · obtain rfl : t = k2 := by omega
              have htt : cl.take t = cl := by rw [← HIC.out.len]; exact List.take_length
              rw [htt] at HSE' HLE'
              clear htt
              have hlen := HLE'.out
              have a1 := adds_mk (L ++ cl.flatMap litT) [48, 10] (by omega) (by simp)
              have HEQ : Hid (L ++ cl.flatMap litT ++ [48, 10] = headT V C.length ++ (C.take (j + 1)).flatMap lineT) := by
                show _ = _
                rw [HTK.out, List.flatMap_append, HL.out]; simp [lineT]
              rw [← HSE'.out, HEQ.out] at a1
              have HLN2 : Hid ((headT V C.length ++ (C.take (j + 1)).flatMap lineT).length ≤ 50 + 22 * (C.take (j + 1)).flatten.length + 2 * (j + 1)) := by
                have h1 := HLE.out
                have h3 := HIC.out.len
                have h2 := HLE'.out
                show _ ≤ _
                rw [← HEQ.out, HTK.out, List.flatten_append]
                simp only [List.length_append, List.length_cons, List.length_nil, List.flatten_cons, List.flatten_nil, List.append_nil] at h2 ⊢
                omega
              obtain ⟨S1, hS1⟩ : ∃ S1 : ByteArray, S1 = ⟨(headT V C.length ++ (C.take (j + 1)).flatMap lineT).toArray⟩ := ⟨_, rfl⟩
              rw [← hS1] at a1
              have HS1 := Lib.hid hS1
              unfold Adds at a1
              have HKE := Lib.hid (HKJ.out.trans HKT.out)
              clear hS1 hlen
              go_wp2
              go_roundw
              case rel => exact ⟨j + 1, S1, by omega, by go_num, rfl, HS1.out, HLN2.out, HKE.out⟩
              case measure => simp [intOf]; omega
        · obtain rfl : j = cn := by omega
          have htt : C.take j = C := by rw [← HLN.out]; exact List.take_length
          rw [htt] at HSE
          obtain ⟨T, hT⟩ : ∃ T : ByteArray, T = ⟨(putT V C).toArray⟩ := ⟨_, rfl⟩
          obtain rfl : S = T := HSE.out.trans hT.symm
          have HE := Lib.hid hT
          clear hT
          go_wp2
          go_ret2
          exact ⟨HK4.out.trans HKJ.out, Or.inr ⟨HR.out, by rw [← HE.out]; rfl⟩⟩
end Go.Proofs.YtlikokeknfhejaaGreatDoor

namespace Go.Proofs.YtlikokeknfhejaaGreatDoor
open Go Go.RowKit Go.Lib

theorem isDig_iff (c : UInt8) : isDig c = true ↔ 48 ≤ c.toNat ∧ c.toNat ≤ 57 := by
  unfold isDig; rw [Bool.and_eq_true, decide_eq_true_eq, decide_eq_true_eq]
/-- What is left to read at a place: of what was read the number is m. -/
def NumAt (s : List UInt8) (j m : Nat) : Prop := (j = 0 ∧ m = 0) ∨ (0 < j ∧ numR s = numMag (s.drop j) m)
theorem drop_at {s : List UInt8} {j : Nat} {c : UInt8} (h : s[j]? = some c) : s.drop j = c :: s.drop (j + 1) := by
  obtain ⟨hl, he⟩ := List.getElem?_eq_some_iff.1 h
  rw [List.drop_eq_getElem_cons hl, he]
theorem numAt_minus {s : List UInt8} {c : UInt8} (h : s[0]? = some c) (hc : c.toNat = 45) : NumAt s 1 0 := by
  refine Or.inr ⟨by omega, ?_⟩
  have : c = 45 := UInt8.toNat_inj.1 (by simpa using hc)
  subst this
  cases s with
  | nil => cases h
  | cons x t =>
    have : x = 45 := by simpa using h
    subst this
    rfl
theorem numAt_head {s : List UInt8} {j m : Nat} {c : UInt8} (hn : NumAt s j m) (h : s[j]? = some c) (hc : ¬ (c.toNat = 45 ∧ j = 0)) : numR s = numMag (s.drop j) m := by
  rcases hn with ⟨rfl, rfl⟩ | ⟨_, hn⟩
  · unfold numR
    rw [if_neg, List.drop_zero]
    unfold isNeg
    cases s with
    | nil => simp
    | cons x t =>
      have : x = c := by simpa using h
      subst this
      simp only [List.head?_cons]
      intro hx
      have := of_decide_eq_true (by simpa using hx : decide (x = 45) = true)
      subst this
      exact hc ⟨rfl, rfl⟩
  · exact hn
theorem numAt_bad {s : List UInt8} {j m : Nat} {c : UInt8} (hn : NumAt s j m) (h : s[j]? = some c) (hc : ¬ (c.toNat = 45 ∧ j = 0)) (hb : ¬ (48 ≤ c.toNat ∧ c.toNat ≤ 57 ∧ m ≤ 1073741824)) : numR s = none := by
  rw [numAt_head hn h hc, drop_at h, numMag, if_neg]
  rintro ⟨h1, h2⟩
  have := (isDig_iff c).1 h1
  exact hb ⟨this.1, this.2, h2⟩
theorem numAt_step {s : List UInt8} {j m : Nat} {c : UInt8} (hn : NumAt s j m) (h : s[j]? = some c) (hc : ¬ (c.toNat = 45 ∧ j = 0)) (h1 : 48 ≤ c.toNat) (h2 : c.toNat ≤ 57) (h3 : m ≤ 1073741824) : NumAt s (j + 1) (m * 10 + (c.toNat - 48)) := by
  refine Or.inr ⟨by omega, ?_⟩
  rw [numAt_head hn h hc, drop_at h, numMag, if_pos ⟨(isDig_iff c).2 ⟨h1, h2⟩, h3⟩]
theorem numAt_end {s : List UInt8} {m : Nat} (hn : NumAt s s.length m) : numR s = some m := by
  rcases hn with ⟨h1, rfl⟩ | ⟨_, hn⟩
  · obtain rfl := List.eq_nil_of_length_eq_zero h1
    rfl
  · rw [hn, List.drop_length]; rfl
theorem numV_bad {s : List UInt8} (h : numR s = none) : numV s = 0 ∧ numO s = false := by
  have h1 : numV s = 0 := by unfold numV; rw [h]
  refine ⟨h1, ?_⟩
  unfold numO; rw [h]; rfl
theorem numV_of {s : List UInt8} {m : Nat} (h : numR s = some m) : numV s = if isNeg s = true then -(m : Int) else m := by unfold numV; rw [h]
theorem numO_of {s : List UInt8} {m : Nat} (h : numR s = some m) : numO s = (Lib.itoa (numV s) == s) := by unfold numO; rw [h]; rfl
set_option maxRecDepth 100000 in
set_option maxHeartbeats 4000000 in
theorem number_any (s : List UInt8) (w : World) (hs : s.length ≤ 1000000) (hW : Laid w) :
    Calls Tryz.prog 81 #[.string ⟨s.toArray⟩] w fun e w' => e = .returned (.tuple #[.int .i64 (numV s), .bool (numO s)]) ∧ Kept w w' := by
  obtain ⟨S, hS⟩ : ∃ S : ByteArray, S = ⟨s.toArray⟩ := ⟨_, rfl⟩
  have hsz : S.size = s.length := by rw [hS]; simp [ByteArray.size]
  have HSZ := Lib.hid hsz
  have HS := Lib.hid hS
  rw [← hS]
  clear hS
  go_enter Tryz.func81, Tryz.ntmps81
  go_wp2
  go_loopw [4, 5] (fun v i wr => ∃ (j m : Nat), j ≤ s.length ∧ i = .int .i64 j ∧ v = .int .i64 m ∧ m ≤ 10737418500 ∧ Hid (NumAt s j m) ∧ wr = w) (fun _ i _ => s.length - (intOf i).toNat)
  case atStart => exact ⟨0, 0, Nat.zero_le _, rfl, rfl, by omega, Or.inl ⟨rfl, rfl⟩, rfl⟩
  case round =>
    obtain ⟨j, m, hj, rfl, rfl, hm, HN, rfl⟩ := hrel
    have j0 : (0 : Int) ≤ (j : Int) := Int.natCast_nonneg _
    by_cases hjn : j < s.length
    · have j1 : (j : Int) < (s.length : Int) := by omega
      obtain ⟨c, hc⟩ : ∃ c, s[j]? = some c := ⟨_, List.getElem?_eq_getElem hjn⟩
      have HC := Lib.hid hc
      obtain ⟨k, hk⟩ : ∃ k : Nat, k = c.toNat := ⟨_, rfl⟩
      have HK := Lib.hid hk
      have hkS : ∀ h : j < S.size, (S[j]'h).toNat = k := fun h => by
        rw [hk]
        congr 1
        have h2 : s[j] = c := (List.getElem?_eq_some_iff.1 hc).2
        rw [← h2]
        have h3 := HS.out
        subst h3
        rfl
      have k0 : (0 : Int) ≤ (k : Int) := Int.natCast_nonneg _
      have k1 : (k : Int) < 256 := by have := c.toNat_lt; omega
      have m0 : (0 : Int) ≤ (m : Int) := Int.natCast_nonneg _
      have m1 : (m : Int) ≤ 10737418500 := by omega
      clear hc hk
      by_cases c1 : k = 45
      · have b1 : ((k : Int) == 45) = true := beq_iff_eq.2 (by omega)
        by_cases c2 : j = 0
        · have b2 : ((j : Int) == 0) = true := beq_iff_eq.2 (by omega)
          have HM : Hid (m = 0) := by
            rcases HN.out with h | h
            · exact h.2
            · show m = 0; omega
          have HST : Hid (NumAt s (j + 1) m) := by
            rw [HM.out, c2]
            exact numAt_minus (by rw [← c2]; exact HC.out) (by rw [← HK.out]; exact c1)
          clear c1 c2
          go_wp2
          go_roundw
          case rel => exact ⟨j + 1, m, by omega, by go_num, rfl, by omega, HST.out, trivial⟩
          case measure => simp [intOf]; omega
        · have b2 : ((j : Int) == 0) = false := beq_eq_false_iff_ne.2 (by omega)
          have d1 : decide ((k : Int) < 48) = true := decide_eq_true (by omega)
          have HBAD := Lib.hid (numV_bad (numAt_bad HN.out HC.out (fun h => c2 h.2) (by rw [← HK.out]; omega)))
          clear c1 c2
          go_wp2
          go_ret2
          exact ⟨by rw [HBAD.out.1, HBAD.out.2]; rfl, Kept.refl _⟩
      · have b1 : ((k : Int) == 45) = false := beq_eq_false_iff_ne.2 (by omega)
        have HNM : Hid (¬ (c.toNat = 45 ∧ j = 0)) := fun h => c1 (by rw [HK.out]; exact h.1)
        by_cases c3 : k < 48
        · have d1 : decide ((k : Int) < 48) = true := decide_eq_true (by omega)
          have HBAD := Lib.hid (numV_bad (numAt_bad HN.out HC.out HNM.out (by rw [← HK.out]; omega)))
          clear c1 c3
          go_wp2
          go_ret2
          exact ⟨by rw [HBAD.out.1, HBAD.out.2]; rfl, Kept.refl _⟩
        · have d1 : decide ((k : Int) < 48) = false := decide_eq_false (by omega)
          by_cases c4 : 57 < k
          · have d2 : decide ((57 : Int) < (k : Int)) = true := decide_eq_true (by omega)
            have HBAD := Lib.hid (numV_bad (numAt_bad HN.out HC.out HNM.out (by rw [← HK.out]; omega)))
            clear c1 c3 c4
            go_wp2
            go_ret2
            exact ⟨by rw [HBAD.out.1, HBAD.out.2]; rfl, Kept.refl _⟩
          · have d2 : decide ((57 : Int) < (k : Int)) = false := decide_eq_false (by omega)
            by_cases c5 : 1073741824 < m
            · have d3 : decide ((1073741824 : Int) < (m : Int)) = true := decide_eq_true (by omega)
              have HBAD := Lib.hid (numV_bad (numAt_bad HN.out HC.out HNM.out (by rw [← HK.out]; omega)))
              clear c1 c3 c4 c5
              go_wp2
              go_ret2
              exact ⟨by rw [HBAD.out.1, HBAD.out.2]; rfl, Kept.refl _⟩
            · have d3 : decide ((1073741824 : Int) < (m : Int)) = false := decide_eq_false (by omega)
              have HST := Lib.hid (numAt_step HN.out HC.out HNM.out (by rw [← HK.out]; omega) (by rw [← HK.out]; omega) (by omega))
              rw [← HK.out] at HST
              have k2 : (48 : Int) ≤ (k : Int) := by omega
              have k3 : (k : Int) ≤ 57 := by omega
              have m2 : (m : Int) ≤ 1073741824 := by omega
              have HEQ : Hid ((m : Int) * 10 + ((k : Int) - 48) = ((m * 10 + (k - 48) : Nat) : Int)) := by show _ = _; omega
              clear c1 c3 c4 c5
              go_wp2
              go_roundw
              case rel => exact ⟨j + 1, m * 10 + (k - 48), by omega, by go_num, by rw [← HEQ.out], by omega, HST.out, trivial⟩
              case measure => simp [intOf]; omega
    · obtain rfl : j = s.length := by omega
      have HR := Lib.hid (numAt_end HN.out)
      have HV := Lib.hid (numV_of HR.out)
      have HO := Lib.hid (numO_of HR.out)
      have HIN := numV_in s
      have m0 : (0 : Int) ≤ (m : Int) := Int.natCast_nonneg _
      have m1 : (m : Int) ≤ 10737418500 := by omega
      have HM := Lib.hid (itoa_makes (numV s) wr (by unfold InR; omega) hW)
      obtain ⟨T, hT⟩ : ∃ T : ByteArray, T = ⟨(Lib.itoa (numV s)).toArray⟩ := ⟨_, rfl⟩
      have HTQ : Hid ((T.toList == S.toList) = numO s) := by
        show _ = _
        rw [HO.out, hT, HS.out, ByteArray.toList_mk, ByteArray.toList_mk]
      rw [← hT] at HM
      clear hT HIN HO
      rw [HV.out] at HM
      have HB0 : Hid (∀ h : 0 < S.size, isNeg s = decide ((S[0]'h).toNat = 45)) := fun h => by
        have h3 := HS.out
        subst h3
        cases s with
        | nil => exact absurd h (by decide)
        | cons x t =>
          show (some x == some 45) = decide (x.toNat = 45)
          rw [Bool.eq_iff_iff, beq_iff_eq, decide_eq_true_eq]
          constructor
          · intro h; rw [Option.some.inj h]; rfl
          · intro h; rw [show x = 45 from UInt8.toNat_inj.1 (by simpa using h)]
      have hl0 : s.length = 0 ∨ 0 < s.length := by omega
      rcases hl0 with h0 | h0
      · have d0 : decide ((0 : Int) < (s.length : Int)) = false := decide_eq_false (by omega)
        have z0 : (s.length : Int) = 0 := by omega
        have hnil : s = [] := List.eq_nil_of_length_eq_zero h0
        have hng : isNeg s = false := by rw [hnil]; rfl
        rw [hng, if_neg (by simp)] at HM HV
        clear hng hnil
        go_wp2_with fail
        refine (makes_held HM.out (Kept.refl wr)).mono ?_
        rintro e w8 ⟨rfl, hk8⟩
        have HK8 := Lib.hid hk8
        clear hk8
        go_wp2
        go_ret2
        exact ⟨by rw [← HTQ.out, HV.out]; rfl, HK8.out⟩
      · have d0 : (0 : Int) < (s.length : Int) := by omega
        have d00 : 0 < S.size := by omega
        have hb0 := HB0.out d00
        obtain ⟨k, hk⟩ : ∃ k : Nat, k = (S[0]'d00).toNat := ⟨_, rfl⟩
        have hkS : ∀ h : 0 < S.size, (S[0]'h).toNat = k := fun h => hk.symm
        rw [← hk] at hb0
        clear hk HB0
        by_cases c1 : k = 45
        · have b1 : ((k : Int) == 45) = true := beq_iff_eq.2 (by omega)
          rw [hb0, decide_eq_true c1, if_pos rfl] at HM HV
          clear hb0 c1
          go_wp2_with fail
          refine (makes_held HM.out (Kept.refl wr)).mono ?_
          rintro e w8 ⟨rfl, hk8⟩
          have HK8 := Lib.hid hk8
          clear hk8
          go_wp2
          go_ret2
          exact ⟨by rw [← HTQ.out, HV.out]; rfl, HK8.out⟩
        · have b1 : ((k : Int) == 45) = false := beq_eq_false_iff_ne.2 (by omega)
          rw [hb0, decide_eq_false c1, if_neg (by simp)] at HM HV
          clear hb0 c1
          go_wp2_with fail
          refine (makes_held HM.out (Kept.refl wr)).mono ?_
          rintro e w8 ⟨rfl, hk8⟩
          have HK8 := Lib.hid hk8
          clear hk8
          go_wp2
          go_ret2
          exact ⟨by rw [← HTQ.out, HV.out]; rfl, HK8.out⟩
end Go.Proofs.YtlikokeknfhejaaGreatDoor
