/-
  Layer 4: the contract of a rule of norm (the rulesOfTruths$5).
-/
import Derived.Test.YtgkjdmojbndicaaGreatDoorMI
import Derived.Test.YtgkjdmojbndicaaGreatDoorMKA
import Derived.Test.YtgkjdmojbndicaaGreatDoorMKB
import Derived.Test.YtgkjdmojbndicaaGreatDoorMKC
namespace Go.Proofs.YtgkjdmojbndicaaGreatDoor
open Go Go.RowKit
theorem tn_any {Bx : List Nd → Int → List Nd → Int → Int → Prop} {B g m c : Nat} {sa : Option Addr} {L : List Nd} {w : World} (h : GraphAt B w g m sa c L) (o x y : Int) (l r : Nd) (hl : Lk L l) (hr : r.Ok) (hlo : l.Ok) (hL : LaidN B w) (hlen : L.length ≤ 1000000000) :
    Calls Tryz.prog 116 #[askV o x y g l r] w (RuleQ Bx B g m sa L (tnF L o x r.n l) (tnB L o r.n l) w) := by
  by_cases h10 : o = 10
  · subst h10
    cases hp : oppB L l with
    | true => exact tnp1_any h x y l r hl hr hlo hL hlen hp
    | false =>
      cases h1 : (r.n == 1) with
      | true => exact tnp2_any h x y l r hl hr hlo hL hlen hp h1
      | false => exact tnp3_any h x y l r hl hr hlo hL hlen hp h1
  · by_cases h16 : o = 16
    · subst h16
      cases h0 : (r.n == 0) with
      | true =>
        cases hp : oppB L l with
        | true => exact tnp4_any h x y l r hl hr hlo hL hlen hp h0
        | false => exact tnp5_any h x y l r hl hr hlo hL hlen hp h0
      | false =>
        cases h1 : (r.n == 1) with
        | true => exact tnp6_any h x y l r hl hr hlo hL hlen h0 h1
        | false => exact tnp7_any h x y l r hl hr hlo hL hlen h0 h1
    · have e10 : (o == 10) = false := beq_eq_false_iff_ne.2 h10
      have e16 : (o == 16) = false := beq_eq_false_iff_ne.2 h16
      cases h8 : (o == 8) with
      | false => exact tnp8_any h o x y l r hl hr hlo hL hlen e10 e16 h8
      | true =>
        cases hd : (opI 8 r.n 1 == 1) with
        | true => exact tnp9_any h o x y l r hl hr hlo hL hlen e10 e16 h8 hd
        | false => exact tnp10_any h o x y l r hl hr hlo hL hlen e10 e16 h8 hd
set_option maxRecDepth 100000 in
set_option maxHeartbeats 8000000 in
theorem rule15_any {Bx : List Nd → Int → List Nd → Int → Int → Prop} {B g m c : Nat} {sa : Option Addr} {L : List Nd} {w : World} (h : GraphAt B w g m sa c L) (o x y : Int) (l r : Nd) (hl : Lk L l) (hr : r.Ok) (hlo : l.Ok) (hL : LaidN B w) (hlen : L.length ≤ 1000000000) :
    Calls Tryz.prog 115 #[askV o x y g l r] w (RuleQ Bx B g m sa L (oF L o x y l r 15) (cB L o x y l r 15) w) := by
  have HO := Lib.hid (own_start h hL o x y l r)
  have HL := Lib.hid hl
  have HRK := Lib.hid hr
  have HLK := Lib.hid hlo
  have HLEN := Lib.hid hlen
  clear h hL hl hr hlo
  simp only [askV]
  go_enter Tryz.func115, Tryz.ntmps115
  go_upto_region 1 with (fail)
  change Code.wp _ _ _ _ ((w.alloc (askO o x y g l r)).alloc (formO 0 0 0))
  generalize (w.alloc (askO o x y g l r)).alloc (formO 0 0 0) = W at *
  obtain ⟨b, hb⟩ : ∃ b : Nat, b = w.heap.size := ⟨_, rfl⟩
  rw [← hb] at HO ⊢
  clear hb
  obtain ⟨f0, f1, f2, f3, f4, f5, f6, f7, f8, f9, f10, f11, f12, f13, f14, f15⟩ := ask_facts HO.out.ask
  go_wp2_with fail
  change Calls _ _ #[l.val] _ _
  refine (istruth_any l _).mono ?_
  rintro e w2 ⟨rfl, hk2⟩
  have HO2 := Lib.hid (HO.out.then (hk2))
  clear f0 f1 f2 f3 f4 f5 f6 f7 f8 f9 f10 f11 f12 f13 f14 f15
  clear HO
  have HO := HO2
  clear HO2
  clear hk2
  cases ht : (truthN l) with
  | false =>
    have HC : Hid (cB L o x y l r 15 = false) := by
      show _ = _
      show (truthN l && _ && _ && _) = false
      rw [ht]; rfl
    clear ht
    obtain ⟨f0, f1, f2, f3, f4, f5, f6, f7, f8, f9, f10, f11, f12, f13, f14, f15⟩ := ask_facts HO.out.ask
    obtain ⟨k0, k1, k2, z0, z1, z2, ks⟩ := form_facts HO.out.frm
    go_wp2
    have HR := Lib.hid (put3_row HO.out.frm ⟨0, 0, 0⟩)
    have HE := Lib.hid (HO.out.end1 ⟨0, 0, 0⟩).1
    clear k0 k1 k2 z0 z1 z2 ks
    change bodyPost _ _ _ _ _ (put3 w2 (b + 1) ⟨0, 0, 0⟩)
    generalize put3 w2 (b + 1) ⟨0, 0, 0⟩ = w99 at *
    obtain ⟨k0, k1, k2, _, _, _, ks⟩ := form_facts HR.out
    exact bodyPost_ret (v := .tuple #[formV ⟨0, 0, 0⟩, .bool false]) (by simp [results, Tryz.results115, go_sem, formV, k0, k1, k2]) rfl (rule_no (HC.out) ⟨0, 0, 0⟩ rfl HE.out)
  | true =>
    have HTR := Lib.hid ht
    clear ht
    obtain ⟨f0, f1, f2, f3, f4, f5, f6, f7, f8, f9, f10, f11, f12, f13, f14, f15⟩ := ask_facts HO.out.ask
    go_wp2_with fail
    refine (ofnum_any o x y g l r _ _ _ [16, 8, 10] _ (ops_at rfl rfl rfl (Nat.le_of_ble_eq_true rfl))).mono ?_
    rintro e w3 ⟨rfl, hk2⟩
    have HO2 := Lib.hid (HO.out.then (((Kept.refl w2).alloc (.cells #[.int .u8 16, .int .u8 8, .int .u8 10] 27)).trans hk2))
    clear f0 f1 f2 f3 f4 f5 f6 f7 f8 f9 f10 f11 f12 f13 f14 f15
    clear HO
    have HO := HO2
    clear HO2
    clear hk2
    cases hq : (isC r && memO [16, 8, 10] o) with
    | false =>
      have HC : Hid (cB L o x y l r 15 = false) := by
        show _ = _
        show (_ && isC r && (o == 16 || o == 8 || o == 10) && _) = false
        have a1 := hq
        simp only [memO, List.any_cons, List.any_nil, Bool.or_false, ← Bool.or_assoc] at a1
        rw [Bool.and_assoc (truthN l), a1]; simp
      clear hq
      obtain ⟨f0, f1, f2, f3, f4, f5, f6, f7, f8, f9, f10, f11, f12, f13, f14, f15⟩ := ask_facts HO.out.ask
      obtain ⟨k0, k1, k2, z0, z1, z2, ks⟩ := form_facts HO.out.frm
      go_wp2
      have HR := Lib.hid (put3_row HO.out.frm ⟨0, 0, 0⟩)
      have HE := Lib.hid (HO.out.end1 ⟨0, 0, 0⟩).1
      clear k0 k1 k2 z0 z1 z2 ks
      change bodyPost _ _ _ _ _ (put3 w3 (b + 1) ⟨0, 0, 0⟩)
      generalize put3 w3 (b + 1) ⟨0, 0, 0⟩ = w99 at *
      obtain ⟨k0, k1, k2, _, _, _, ks⟩ := form_facts HR.out
      exact bodyPost_ret (v := .tuple #[formV ⟨0, 0, 0⟩, .bool false]) (by simp [results, Tryz.results115, go_sem, formV, k0, k1, k2]) rfl (rule_no (HC.out) ⟨0, 0, 0⟩ rfl HE.out)
    | true =>
      have HC : Hid (cB L o x y l r 15 = tnB L o r.n l) := by
        show _ = _
        show (truthN l && isC r && (o == 16 || o == 8 || o == 10) && tnB L o r.n l) = _
        have a1 := hq
        simp only [memO, List.any_cons, List.any_nil, Bool.or_false, ← Bool.or_assoc] at a1
        rw [Bool.and_assoc (truthN l), a1, HTR.out]; rfl
      clear hq
      obtain ⟨f0, f1, f2, f3, f4, f5, f6, f7, f8, f9, f10, f11, f12, f13, f14, f15⟩ := ask_facts HO.out.ask
      go_wp2_with fail
      refine (tn_any (Bx := Bx) HO.out.gr o x y l r HL.out HRK.out HLK.out HO.out.laid HLEN.out).mono ?_
      rintro e w50 ⟨f, rfl, hno, hyes⟩
      obtain ⟨fo, fx, fy⟩ := f
      simp only [formV]
      cases hb : tnB L o r.n l with
      | false =>
        have HB : Hid (cB L o x y l r 15 = false) := HC.out.trans hb
        have HO2 := Lib.hid (HO.out.then (hno hb))
        clear hno hyes hb
        clear f0 f1 f2 f3 f4 f5 f6 f7 f8 f9 f10 f11 f12 f13 f14 f15
        clear HO
        have HO := HO2
        clear HO2
        obtain ⟨f0, f1, f2, f3, f4, f5, f6, f7, f8, f9, f10, f11, f12, f13, f14, f15⟩ := ask_facts HO.out.ask
        obtain ⟨k0, k1, k2, z0, z1, z2, ks⟩ := form_facts HO.out.frm
        go_wp2
        have HR := Lib.hid (put3_row HO.out.frm ⟨fo, fx, fy⟩)
        have HE := Lib.hid (HO.out.end1 ⟨fo, fx, fy⟩).1
        clear k0 k1 k2 z0 z1 z2 ks
        change bodyPost _ _ _ _ _ (put3 w50 (b + 1) ⟨fo, fx, fy⟩)
        generalize put3 w50 (b + 1) ⟨fo, fx, fy⟩ = w99 at *
        obtain ⟨k0, k1, k2, _, _, _, ks⟩ := form_facts HR.out
        exact bodyPost_ret (v := .tuple #[formV ⟨fo, fx, fy⟩, .bool false]) (by simp [results, Tryz.results115, go_sem, formV, k0, k1, k2]) rfl (rule_no (HB.out) ⟨fo, fx, fy⟩ rfl HE.out)
      | true =>
        have HB : Hid (cB L o x y l r 15 = true) := HC.out.trans hb
        obtain ⟨L1, ⟨a1, c1, hT⟩, hZ⟩ := hyes hb
        have HT2 := Lib.hid hT
        have HZ := Lib.hid hZ
        have HF2 := Lib.hid (HT2.out.row HO.out.frm HO.out.off.2)
        clear hno hyes hb hT hZ
        clear f0 f1 f2 f3 f4 f5 f6 f7 f8 f9 f10 f11 f12 f13 f14 f15
        obtain ⟨k0, k1, k2, z0, z1, z2, ks⟩ := form_facts HF2.out
        go_wp2
        have HR := Lib.hid (put3_row HF2.out ⟨fo, fx, fy⟩)
        have HE := Lib.hid (HO.out.end2 HT2.out ⟨fo, fx, fy⟩)
        clear k0 k1 k2 z0 z1 z2 ks
        change bodyPost _ _ _ _ _ (put3 w50 (b + 1) ⟨fo, fx, fy⟩)
        generalize put3 w50 (b + 1) ⟨fo, fx, fy⟩ = w99 at *
        obtain ⟨k0, k1, k2, _, _, _, ks⟩ := form_facts HR.out
        exact bodyPost_ret (v := .tuple #[formV ⟨fo, fx, fy⟩, .bool true]) (by simp [results, Tryz.results115, go_sem, formV, k0, k1, k2]) rfl (rule_yes HB.out ⟨fo, fx, fy⟩ rfl HE.out HZ.out)
end Go.Proofs.YtgkjdmojbndicaaGreatDoor
