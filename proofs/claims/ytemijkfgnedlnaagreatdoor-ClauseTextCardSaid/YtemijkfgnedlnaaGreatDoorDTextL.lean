/-
  Layer 5, ClauseText: the law's walk.
-/
import Derived.Test.YtemijkfgnedlnaaGreatDoorDGet
import Derived.Test.YtemijkfgnedlnaaGreatDoorCSame
namespace Go.Proofs.YtemijkfgnedlnaaGreatDoor
open Go Go.RowKit Go.Lib

theorem fewt_len {C : List (List Int)} {top : Int} (h : fewF C top = true) : (C.length : Int) ≤ top ∧ ∀ c ∈ C, c.length ≤ 30 := by
  unfold fewF at h
  simpa using h
theorem flatt_len {C : List (List Int)} {b : Nat} (h : ∀ c ∈ C, c.length ≤ b) : C.flatten.length ≤ b * C.length := by
  induction C with
  | nil => simp
  | cons c C ih =>
    have h1 := h c (by simp)
    have h2 := ih fun d hd => h d (List.mem_cons_of_mem _ hd)
    rw [List.flatten_cons, List.length_append, List.length_cons, Nat.mul_add]
    omega
/-- What is said of a formula's text. -/
def PF (V : Int) (C : List (List Int)) (T : List UInt8) (code : Int) : Prop :=
  (rightB V C = true ∧ T = putT V C ∧ code = 0) ∨ (rightB V C = false ∧ T = [] ∧ code = 2)
theorem PF.eq {V : Int} {C : List (List Int)} {T S : List UInt8} {x y : Int} (h : PF V C T x) (k : PF V C S y) : S = T ∧ y = x := by
  rcases h with ⟨h1, rfl, rfl⟩ | ⟨h1, rfl, rfl⟩ <;> rcases k with ⟨k1, rfl, rfl⟩ | ⟨k1, rfl, rfl⟩
  · exact ⟨rfl, rfl⟩
  · rw [h1] at k1; cases k1
  · rw [h1] at k1; cases k1
  · exact ⟨rfl, rfl⟩
theorem PutPost5.told {V : Int} {C : List (List Int)} {w w' : World} {e : Ending} (h : PutPost5 V C w e w') : Kept w w' ∧ ∃ a c T x, e = .returned (.tuple #[.slice a T.length c, .int .i64 x]) ∧ PF V C T x ∧ BytesAt w' a T.length T ∧ Fit a T.length c ∧ ∀ ad, a = some ad → ad.spot = none := by
  obtain ⟨hk, ⟨ho, rfl⟩ | ⟨ho, a, c, L, hL, rfl, B, hrow⟩⟩ := h
  · exact ⟨hk, none, 0, [], 2, rfl, Or.inr ⟨ho, rfl, rfl⟩, BytesAt.nil _ _, ⟨fun _ => ⟨rfl, rfl⟩, Nat.le_refl _, by decide⟩, fun ad h => by cases h⟩
  · obtain ⟨h1, _, h3⟩ := bytes_of_row hrow rfl
    exact ⟨hk, a, c, L, 0, rfl, Or.inl ⟨ho, hL, rfl⟩, h1, row_fit hrow, h3⟩
theorem RPutPost.told {V : Int} {C : List (List Int)} {w w' : World} {e : Ending} (h : RPutPost V C w e w') : Kept w w' ∧ ∃ T x, e = .returned (.tuple #[.string ⟨T.toArray⟩, .int .i64 x]) ∧ PF V C T x := by
  obtain ⟨hk, ⟨ho, rfl⟩ | ⟨ho, rfl⟩⟩ := h
  · exact ⟨hk, [], 2, rfl, Or.inr ⟨ho, rfl, rfl⟩⟩
  · exact ⟨hk, putT V C, 0, rfl, Or.inl ⟨ho, rfl, rfl⟩⟩
def GF (L : List UInt8) (V : Int) (D : List (List Int)) (x : Int) : Prop :=
  (rightB V D = true ∧ L = putT V D ∧ x = 0) ∨ (¬ IsPut L ∧ V = 0 ∧ D = [] ∧ x = 2)
theorem GF.eq {L : List UInt8} {V W : Int} {C D : List (List Int)} {x y : Int} (h : GF L V C x) (k : GF L W D y) : W = V ∧ D = C ∧ y = x := by
  rcases h with ⟨h1, rfl, rfl⟩ | ⟨h1, rfl, rfl, rfl⟩ <;> rcases k with ⟨k1, k2, rfl⟩ | ⟨k1, rfl, rfl, rfl⟩
  · obtain ⟨rfl, rfl⟩ := put_inj (right_nz2 h1) (right_nz2 k1) k2
    exact ⟨rfl, rfl, rfl⟩
  · exact absurd ⟨V, C, h1, rfl⟩ k1
  · exact absurd ⟨W, D, k1, k2⟩ h1
  · exact ⟨rfl, rfl, rfl⟩
theorem RGetPost.told {L : List UInt8} {w w' : World} {e : Ending} (h : RGetPost L w e w') : Kept w w' ∧ ∃ V a k c x D, e = .returned (.tuple #[.agg #[.int .i64 V, .slice a k c], .int .i64 x]) ∧ ClsAt w' a k D ∧ GF L V D x := by
  obtain ⟨hk, ⟨V, C, a, k, c, h1, h2, rfl, h3⟩ | ⟨h1, rfl⟩⟩ := h
  · exact ⟨hk, V, a, k, c, 0, C, rfl, h3, Or.inl ⟨h1, h2, rfl⟩⟩
  · exact ⟨hk, 0, none, 0, 0, 2, [], rfl, ClsAt.nil _ _, Or.inr ⟨h1, rfl, rfl, rfl⟩⟩
theorem flatMap_le {α : Type} {f : α → List UInt8} {m : Nat} : ∀ {C : List α}, (∀ c ∈ C, (f c).length ≤ m) → (C.flatMap f).length ≤ m * C.length
  | [], _ => by simp
  | c :: C, h => by
    have h1 := h c (by simp)
    have h2 := flatMap_le (C := C) fun d hd => h d (by simp [hd])
    rw [List.flatMap_cons, List.length_append, List.length_cons, Nat.mul_succ]
    omega
theorem flatMap_ge {α : Type} {f : α → List UInt8} : ∀ {C : List α}, (∀ c ∈ C, 1 ≤ (f c).length) → C.length ≤ (C.flatMap f).length
  | [], _ => by simp
  | c :: C, h => by
    have h1 := h c (by simp)
    have h2 := flatMap_ge (C := C) fun d hd => h d (by simp [hd])
    rw [List.flatMap_cons, List.length_append, List.length_cons]
    omega
theorem flatMap_in {α : Type} {f : α → List UInt8} {C : List α} {c : α} (h : c ∈ C) : (f c).length ≤ (C.flatMap f).length := by
  obtain ⟨s, t, rfl⟩ := List.append_of_mem h
  simp; omega
theorem put_len {V : Int} {C : List (List Int)} (hr : rightB V C = true) (hC : C.length ≤ 60) (hS : ∀ c ∈ C, c.length ≤ 30) : (putT V C).length ≤ 100000 := by
  obtain ⟨h1, h2, _, h4⟩ := (rightB_iff V C).1 hr
  have hl : (C.flatMap lineT).length ≤ 700 * C.length := flatMap_le fun c hc => by
    have hx : (c.flatMap litT).length ≤ 22 * c.length := flatMap_le fun x hx => by
      have h5 := h4 c hc x hx
      have := Lib.itoa_length_le x (by omega) (by omega)
      unfold litT
      rw [List.length_append]
      simp; omega
    have := hS c hc
    unfold lineT
    rw [List.length_append]
    simp only [List.length_cons, List.length_nil]
    omega
  have h5 := Lib.itoa_length_le V (by omega) (by omega)
  have h6 := Lib.itoa_length_le (C.length : Int) (by omega) (by omega)
  unfold putT headT
  simp only [List.length_append, List.length_cons, List.length_nil]
  omega
theorem put_big (V : Int) (C : List (List Int)) : C.length ≤ (putT V C).length ∧ ∀ c ∈ C, c.length ≤ (putT V C).length := by
  have h1 : (C.flatMap lineT).length ≤ (putT V C).length := by unfold putT; rw [List.length_append]; omega
  refine ⟨Nat.le_trans (flatMap_ge fun c _ => by unfold lineT; rw [List.length_append]; simp) h1, fun c hc => Nat.le_trans ?_ (Nat.le_trans (flatMap_in hc) h1)⟩
  unfold lineT
  rw [List.length_append]
  have : c.length ≤ (c.flatMap litT).length := flatMap_ge fun x _ => by unfold litT; rw [List.length_append]; simp
  omega
theorem GF.small {L : List UInt8} {V : Int} {D : List (List Int)} {x : Int} (h : GF L V D x) : D.length ≤ L.length ∧ ∀ c ∈ D, c.length ≤ L.length := by
  rcases h with ⟨_, rfl, _⟩ | ⟨_, _, rfl, _⟩
  · exact put_big V D
  · exact ⟨Nat.zero_le _, fun c hc => by cases hc⟩
set_option maxRecDepth 100000 in
set_option maxHeartbeats 16000000 in
theorem clausetext_any (V : Int) (ca a : Option Addr) (cn cc n c : Nat) (C : List (List Int)) (L : List UInt8) (w : World) (hV : InR V) (hC : ClsAt w ca cn C) (hFC : Fit ca cn cc) (hL : BytesAt w a n L) (hFL : Fit a n c) (hW : Laid w) (hT : Tabs w) :
    Calls Tryz.prog 3 #[.agg #[.int .i64 V, .slice ca cn cc], .slice a n c] w fun e w' => e = .returned (.bool true) ∧ Kept w w' := by
  have HK0 := Lib.hid ((Kept.refl w).alloc (fObj V ca cn cc))
  have HC := Lib.hid (hC.kept HK0.out)
  have HL := Lib.hid (hL.kept HK0.out)
  have HW := Lib.hid (hW.kept HK0.out)
  have HT := Lib.hid (hT.kept HK0.out)
  have HB := Lib.hid (MapKept.heap_alloc w (fObj V ca cn cc)).1
  have HV := Lib.hid hV
  have HFL := Lib.hid hFL
  have HFC := Lib.hid hFC
  clear hC hL hW hV hFL hFC hT
  go_enter Tryz.func3, Tryz.ntmps3
  go_upto_region 1 with (fail)
  change Code.wp _ _ _ _ (w.alloc (fObj V ca cn cc))
  generalize w.alloc (fObj V ca cn cc) = W at *
  obtain ⟨fb, hfb⟩ : ∃ b : Nat, b = w.heap.size := ⟨_, rfl⟩
  rw [← hfb] at HB ⊢
  clear hfb
  obtain ⟨f0, f1⟩ := box_facts HB.out (Kept.refl W)
  go_wp2_with fail
  refine (few_any V 60 ca cn cc C W HC.out (Nat.le_trans HFC.out.2.1 HFC.out.2.2) (by unfold InR; decide)).mono ?_
  rintro e w1 ⟨rfl, hk1⟩
  have HK1 := Lib.hid hk1
  clear hk1 f0 f1
  cases hfew : fewF C 60 with
  | false =>
    clear hfew
    go_wp2_with fail
    refine (works_any _ (HW.out.kept HK1.out)).mono ?_
    rintro e w2 ⟨rfl, hk2⟩
    have HK2 := Lib.hid (HK0.out.trans (HK1.out.trans hk2))
    clear hk2
    go_wp2
    go_ret
    exact ⟨rfl, HK2.out⟩
  | true =>
  have HFW : Hid (C.length ≤ 60 ∧ ∀ c ∈ C, c.length ≤ 30) := by
    have := fewt_len hfew
    exact ⟨by omega, this.2⟩
  clear hfew
  have hcn : cn ≤ 60 := by rw [← HC.out.len]; exact HFW.out.1
  have HSH : Hid (∀ c ∈ C, c.length ≤ 1000) := fun c hc => Nat.le_trans (HFW.out.2 c hc) (by decide)
  have HFLAT : Hid (C.flatten.length ≤ 10000) := Nat.le_trans (flatt_len HFW.out.2) (by have := HFW.out.1; omega)
  by_cases h30 : n ≤ 1000
  case neg =>
    have d30 : decide ((1000 : Int) < (n : Int)) = true := decide_eq_true (by omega)
    clear h30
    go_wp2_with fail
    refine (works_any _ (HW.out.kept HK1.out)).mono ?_
    rintro e w3 ⟨rfl, hk3⟩
    have HK3 := Lib.hid (HK0.out.trans (HK1.out.trans hk3))
    clear hk3
    go_wp2
    go_ret
    exact ⟨rfl, HK3.out⟩
  have d30 : decide ((1000 : Int) < (n : Int)) = false := decide_eq_false (by omega)
  have H30 := Lib.hid h30
  clear h30
  obtain ⟨f0, f1⟩ := box_facts HB.out HK1.out
  go_wp2_with fail
  refine (put_any V ca cn cc C w1 HV.out (HC.out.kept HK1.out) (by omega) HSH.out (HW.out.kept HK1.out)).mono ?_
  rintro e w2 hpost
  obtain ⟨hk2, pa, pc, T, x, rfl, hPF, hPB, hPT, hPS⟩ := hpost.told
  have HK12 := Lib.hid hk2
  have HK2 := Lib.hid (HK1.out.trans hk2)
  have HPF := Lib.hid hPF
  have HPB := Lib.hid hPB
  have HPT := Lib.hid hPT
  have HPS := Lib.hid hPS
  clear hpost hk2 hPF hPB hPT hPS f0 f1 d30
  obtain ⟨f0, f1⟩ := box_facts HB.out HK2.out
  go_wp2_with fail
  refine (fplain_any V ca cn cc w2).mono ?_
  rintro e w3 ⟨rfl, hk3⟩
  have HK3 := Lib.hid (HK2.out.trans hk3)
  have HPB3 := Lib.hid (HPB.out.kept hk3)
  clear hk3 f0 f1
  go_wp2_with fail
  refine (rput_any V ca cn cc C w3 HV.out (HC.out.kept HK3.out) (by omega) HSH.out HFLAT.out (HW.out.kept HK3.out)).mono ?_
  rintro e w4 hpost
  obtain ⟨hk4, T2, x2, rfl, hP2⟩ := hpost.told
  obtain ⟨rfl, rfl⟩ := HPF.out.eq hP2
  have HK4 := Lib.hid (HK3.out.trans hk4)
  have HPB4 := Lib.hid (HPB3.out.kept hk4)
  clear hpost hk4 hP2 HPB3
  have cv := conv_str (c := pc) HPB4.out (fun h => (HPT.out.1 h).1) HPS.out
  have b0 : (x2 != x2) = false := by simp
  obtain ⟨TS, hTS⟩ : ∃ TS : ByteArray, TS = ⟨T2.toArray⟩ := ⟨_, rfl⟩
  rw [← hTS] at cv ⊢
  rcases HPF.out with ⟨hr, hTp, rfl⟩ | ⟨hr, hTp, rfl⟩
  case inr =>
    clear hr hTp HPF
    have HKQ := Lib.hid HK4.out
    clear hTS
    go_wp2_with fail
    refine (get_any a n c L _ (HL.out.kept HKQ.out) HFL.out (by have := H30.out; omega) (Or.inl H30.out) (HT.out.kept HKQ.out) (HW.out.kept HKQ.out)).mono ?_
    rintro e w7 hpost
    obtain ⟨hk7, V1, a1, k1, c1, x1, D1, rfl, hD1, hG1⟩ := hpost.told
    have HK7 := Lib.hid (HKQ.out.trans hk7)
    have HD1 := Lib.hid hD1
    have HG1 := Lib.hid hG1
    clear hpost hk7 hD1 hG1
    go_upto_region 12 with (fail)
    have HBA := Lib.hid (MapKept.heap_alloc w7 (fObj V1 a1 k1 c1)).1
    have HKA := Lib.hid ((Kept.refl w7).alloc (fObj V1 a1 k1 c1))
    change Code.wp _ _ _ _ (w7.alloc (fObj V1 a1 k1 c1))
    generalize w7.alloc (fObj V1 a1 k1 c1) = W8 at *
    obtain ⟨ab, hab⟩ : ∃ b : Nat, b = w7.heap.size := ⟨_, rfl⟩
    rw [← hab] at HBA ⊢
    clear hab
    have HK8 := Lib.hid (HK7.out.trans HKA.out)
    have HD8 := Lib.hid (HD1.out.kept HKA.out)
    clear HD1 HKA HKQ
    go_wp2_with fail
    refine (rget_any a n c L W8 (HL.out.kept HK8.out) HFL.out H30.out (HW.out.kept HK8.out)).mono ?_
    rintro e w9 hpost
    obtain ⟨hk9, V3, a3, k3, c3, x3, D3, rfl, hD3, hG3⟩ := hpost.told
    obtain ⟨rfl, rfl, rfl⟩ : V1 = V3 ∧ D1 = D3 ∧ x1 = x3 := ⟨(HG1.out.eq hG3).1.symm, (HG1.out.eq hG3).2.1.symm, (HG1.out.eq hG3).2.2.symm⟩
    have HK89 := Lib.hid hk9
    have HD3 := Lib.hid hD3
    clear hpost hk9 hD3 hG3
    go_upto_region 13 with (fail)
    have HBR := Lib.hid (MapKept.heap_alloc w9 (mObj V1 a3 k3 c3)).1
    have HKR := Lib.hid ((Kept.refl w9).alloc (mObj V1 a3 k3 c3))
    change Code.wp _ _ _ _ (w9.alloc (mObj V1 a3 k3 c3))
    generalize w9.alloc (mObj V1 a3 k3 c3) = W10 at *
    obtain ⟨rb, hrb⟩ : ∃ b : Nat, b = w9.heap.size := ⟨_, rfl⟩
    rw [← hrb] at HBR ⊢
    clear hrb
    have HK10 := Lib.hid (HK89.out.trans HKR.out)
    have HKW := Lib.hid (HK8.out.trans HK10.out)
    obtain ⟨p0, p1⟩ := box_facts HBA.out HK10.out
    obtain ⟨g0, g1⟩ := rbox_facts HBR.out (Kept.refl W10)
    have bx : (x1 == x1) = true := by simp
    have hk1 : k1 ≤ 1000000 := by
      have h1 := HD8.out.len
      have h2 := HG1.out.small.1
      have h3 := HL.out.len
      have h4 := H30.out
      omega
    go_wp2_with fail
    refine (fsame_any V1 a1 a3 k1 c1 k3 c3 D1 W10 (HD8.out.kept HK10.out) (HD3.out.kept HKR.out) hk1 (fun d hd => by have h2 := HG1.out.small.2 d hd; have h3 := HL.out.len; have h4 := H30.out; omega)).mono ?_
    rintro e w11 ⟨rfl, hk11⟩
    have HK11 := Lib.hid (HKW.out.trans hk11)
    clear hk11 p0 p1 g0 g1
    go_wp2_with fail
    refine (works_any _ (HW.out.kept HK11.out)).mono ?_
    rintro e w12 ⟨rfl, hk12⟩
    have HK12' := Lib.hid (HK0.out.trans (HK11.out.trans hk12))
    clear hk12
    go_wp2
    go_ret
    exact ⟨rfl, HK12'.out⟩
  case inl =>
    have HR := Lib.hid hr
    have HTP := Lib.hid hTp
    have HTL : Hid (T2.length ≤ 100000) := by show _ ≤ _; rw [hTp]; exact put_len hr HFW.out.1 HFW.out.2
    clear hr hTp HPF hTS
    go_wp2_with fail
    refine (get_any pa T2.length pc T2 w4 HPB4.out HPT.out HTL.out (Or.inr ⟨V, C, HR.out, HTP.out, by have := HFW.out.1; omega, HSH.out⟩) (HT.out.kept HK4.out) (HW.out.kept HK4.out)).mono ?_
    rintro e w5 hpost
    obtain ⟨hk5, V5, a5, k5, c5, x5, D5, rfl, hD5, hG5⟩ := hpost.told
    have he := GF.eq (Or.inl ⟨HR.out, HTP.out, rfl⟩) hG5
    obtain ⟨rfl, rfl, rfl⟩ : V = V5 ∧ C = D5 ∧ 0 = x5 := ⟨he.1.symm, he.2.1.symm, he.2.2.symm⟩
    have HK5 := Lib.hid (HK4.out.trans hk5)
    have HD5 := Lib.hid hD5
    clear hpost hk5 hD5 hG5 he cv
    go_upto_region 9 with (fail)
    have HBG := Lib.hid (MapKept.heap_alloc w5 (fObj V a5 k5 c5)).1
    have HKG := Lib.hid ((Kept.refl w5).alloc (fObj V a5 k5 c5))
    change Code.wp _ _ _ _ (w5.alloc (fObj V a5 k5 c5))
    generalize w5.alloc (fObj V a5 k5 c5) = W6 at *
    obtain ⟨gb, hgb⟩ : ∃ b : Nat, b = w5.heap.size := ⟨_, rfl⟩
    rw [← hgb] at HBG ⊢
    clear hgb
    have HK6 := Lib.hid (HK5.out.trans HKG.out)
    have FN : Hid (∀ w', Kept W6 w' → Kept W6 w' ∧ (w'.cell? ⟨fb, 0, none⟩ = some (.int .i64 V) ∧ w'.cell? ⟨fb, 1, none⟩ = some (.slice ca cn cc)) ∧ w'.cell? ⟨gb, 0, none⟩ = some (.int .i64 V) ∧ w'.cell? ⟨gb, 1, none⟩ = some (.slice a5 k5 c5)) := fun w' hk =>
      ⟨hk, box_facts HB.out (HK6.out.trans hk), box_facts HBG.out hk⟩
    have HPL := Lib.hid (fun w' => fplain_any V ca cn cc w')
    have HSM : Hid (∀ w', Kept W6 w' → Calls Tryz.prog 11 #[.agg #[.int .i64 V, .slice a5 k5 c5], .agg #[.int .i64 V, .slice ca cn cc]] w' fun e w'' => e = .returned (.bool true) ∧ Kept w' w'') := fun w' hk =>
      fsame_any V a5 ca k5 c5 cn cc C w' (HD5.out.kept (HKG.out.trans hk)) (HC.out.kept (HK6.out.trans hk)) (by have h1 := HD5.out.len; have h2 := HFW.out.1; omega) (fun d hd => Nat.le_trans (HSH.out d hd) (by decide))
    go_region_held3 (fun w' => Kept W6 w' ∧ (w'.cell? ⟨fb, 0, none⟩ = some (.int .i64 V) ∧ w'.cell? ⟨fb, 1, none⟩ = some (.slice ca cn cc)) ∧ w'.cell? ⟨gb, 0, none⟩ = some (.int .i64 V) ∧ w'.cell? ⟨gb, 1, none⟩ = some (.slice a5 k5 c5))
      (first | exact FN.out _ (Kept.refl _) | exact FN.out _ (Kept.drew (Kept.refl _)) | assumption | exact FN.out _ (Kept.trans (And.left ‹Kept W6 _ ∧ _›) (by assumption)))
      ((first
        | (go_at_call 9; refine (HPL.out _).mono ?_; rintro e w10 ⟨rfl, hk10⟩)
        | (go_at_call 11; refine (HSM.out _ (And.left ‹Kept W6 _ ∧ _›)).mono ?_; rintro e w10 ⟨rfl, hk10⟩)))
    have HKQ := Lib.hid (HK6.out.trans (And.left ‹Kept W6 _ ∧ _›))
    go_wp2_with fail
    refine (get_any a n c L _ (HL.out.kept HKQ.out) HFL.out (by have := H30.out; omega) (Or.inl H30.out) (HT.out.kept HKQ.out) (HW.out.kept HKQ.out)).mono ?_
    rintro e w7 hpost
    obtain ⟨hk7, V1, a1, k1, c1, x1, D1, rfl, hD1, hG1⟩ := hpost.told
    have HK7 := Lib.hid (HKQ.out.trans hk7)
    have HD1 := Lib.hid hD1
    have HG1 := Lib.hid hG1
    clear hpost hk7 hD1 hG1
    go_upto_region 12 with (fail)
    have HBA := Lib.hid (MapKept.heap_alloc w7 (fObj V1 a1 k1 c1)).1
    have HKA := Lib.hid ((Kept.refl w7).alloc (fObj V1 a1 k1 c1))
    change Code.wp _ _ _ _ (w7.alloc (fObj V1 a1 k1 c1))
    generalize w7.alloc (fObj V1 a1 k1 c1) = W8 at *
    obtain ⟨ab, hab⟩ : ∃ b : Nat, b = w7.heap.size := ⟨_, rfl⟩
    rw [← hab] at HBA ⊢
    clear hab
    have HK8 := Lib.hid (HK7.out.trans HKA.out)
    have HD8 := Lib.hid (HD1.out.kept HKA.out)
    clear HD1 HKA HKQ
    go_wp2_with fail
    refine (rget_any a n c L W8 (HL.out.kept HK8.out) HFL.out H30.out (HW.out.kept HK8.out)).mono ?_
    rintro e w9 hpost
    obtain ⟨hk9, V3, a3, k3, c3, x3, D3, rfl, hD3, hG3⟩ := hpost.told
    obtain ⟨rfl, rfl, rfl⟩ : V1 = V3 ∧ D1 = D3 ∧ x1 = x3 := ⟨(HG1.out.eq hG3).1.symm, (HG1.out.eq hG3).2.1.symm, (HG1.out.eq hG3).2.2.symm⟩
    have HK89 := Lib.hid hk9
    have HD3 := Lib.hid hD3
    clear hpost hk9 hD3 hG3
    go_upto_region 13 with (fail)
    have HBR := Lib.hid (MapKept.heap_alloc w9 (mObj V1 a3 k3 c3)).1
    have HKR := Lib.hid ((Kept.refl w9).alloc (mObj V1 a3 k3 c3))
    change Code.wp _ _ _ _ (w9.alloc (mObj V1 a3 k3 c3))
    generalize w9.alloc (mObj V1 a3 k3 c3) = W10 at *
    obtain ⟨rb, hrb⟩ : ∃ b : Nat, b = w9.heap.size := ⟨_, rfl⟩
    rw [← hrb] at HBR ⊢
    clear hrb
    have HK10 := Lib.hid (HK89.out.trans HKR.out)
    have HKW := Lib.hid (HK8.out.trans HK10.out)
    obtain ⟨p0, p1⟩ := box_facts HBA.out HK10.out
    obtain ⟨g0, g1⟩ := rbox_facts HBR.out (Kept.refl W10)
    have bx : (x1 == x1) = true := by simp
    have hk1 : k1 ≤ 1000000 := by
      have h1 := HD8.out.len
      have h2 := HG1.out.small.1
      have h3 := HL.out.len
      have h4 := H30.out
      omega
    go_wp2_with fail
    refine (fsame_any V1 a1 a3 k1 c1 k3 c3 D1 W10 (HD8.out.kept HK10.out) (HD3.out.kept HKR.out) hk1 (fun d hd => by have h2 := HG1.out.small.2 d hd; have h3 := HL.out.len; have h4 := H30.out; omega)).mono ?_
    rintro e w11 ⟨rfl, hk11⟩
    have HK11 := Lib.hid (HKW.out.trans hk11)
    clear hk11 p0 p1 g0 g1
    go_wp2_with fail
    refine (works_any _ (HW.out.kept HK11.out)).mono ?_
    rintro e w12 ⟨rfl, hk12⟩
    have HK12' := Lib.hid (HK0.out.trans (HK11.out.trans hk12))
    clear hk12
    go_wp2
    go_ret
    exact ⟨rfl, HK12'.out⟩
end Go.Proofs.YtemijkfgnedlnaaGreatDoor
