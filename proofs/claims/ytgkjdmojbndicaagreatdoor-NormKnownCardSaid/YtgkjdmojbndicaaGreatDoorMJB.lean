/-
  Several texts in one: NR6: Layer 4: the contract of a rule of norm (the rulesOfNumbers$1).; NR7: Layer 4: the contract of a rule of norm (the rulesOfNumbers$2).; NR8: Layer 4: the contract of a rule of norm (the rulesOfNumbers$3).; NR9: Layer 4: the contract of a rule of norm (the rulesOfNumbers$4).; NR10: Layer 4: the contract of a rule of norm (the rulesOfNumbers$5).; NR11: Layer 4: the contract of a rule of norm (the rulesOfTruths$1)..
-/
import Derived.Test.YtgkjdmojbndicaaGreatDoorMI
namespace Go.Proofs.YtgkjdmojbndicaaGreatDoor
open Go Go.RowKit
set_option maxRecDepth 100000 in
set_option maxHeartbeats 8000000 in
theorem rule6_any {Bx : List Nd → Int → List Nd → Int → Int → Prop} {B g m c : Nat} {sa : Option Addr} {L : List Nd} {w : World} (h : GraphAt B w g m sa c L) (o x y : Int) (l r : Nd) (hl : Lk L l) (hr : r.Ok) (hlo : l.Ok) (hL : LaidN B w) (hlen : L.length ≤ 1000000000) :
    Calls Tryz.prog 104 #[askV o x y g l r] w (RuleQ Bx B g m sa L (oF L o x y l r 6) (cB L o x y l r 6) w) := by
  have HO := Lib.hid (own_start h hL o x y l r)
  have HL := Lib.hid hl
  have HRK := Lib.hid hr
  have HLK := Lib.hid hlo
  have HLEN := Lib.hid hlen
  clear h hL hl hr hlo
  simp only [askV]
  go_enter Tryz.func104, Tryz.ntmps104
  go_upto_region 1 with (fail)
  change Code.wp _ _ _ _ ((w.alloc (askO o x y g l r)).alloc (formO 0 0 0))
  generalize (w.alloc (askO o x y g l r)).alloc (formO 0 0 0) = W at *
  obtain ⟨b, hb⟩ : ∃ b : Nat, b = w.heap.size := ⟨_, rfl⟩
  rw [← hb] at HO ⊢
  clear hb
  obtain ⟨f0, f1, f2, f3, f4, f5, f6, f7, f8, f9, f10, f11, f12, f13, f14, f15⟩ := ask_facts HO.out.ask
  go_wp2_with fail
  refine (ofnum_any o x y g l r _ _ _ [2] _ (ops_at rfl rfl rfl (Nat.le_of_ble_eq_true rfl))).mono ?_
  rintro e w2 ⟨rfl, hk2⟩
  have HO2 := Lib.hid (HO.out.then (((Kept.refl W).alloc (.cells #[.int .u8 2] 27)).trans hk2))
  clear f0 f1 f2 f3 f4 f5 f6 f7 f8 f9 f10 f11 f12 f13 f14 f15
  clear HO
  have HO := HO2
  clear HO2
  clear hk2
  cases hc : (isC r && memO [2] o) with
  | false =>
    have HC : Hid (cB L o x y l r 6 = false) := by
      show _ = _
      simp only [memO, List.any_cons, List.any_nil, Bool.or_false] at hc
      exact hc
    clear hc
    obtain ⟨f0, f1, f2, f3, f4, f5, f6, f7, f8, f9, f10, f11, f12, f13, f14, f15⟩ := ask_facts HO.out.ask
    obtain ⟨k0, k1, k2, z0, z1, z2, ks⟩ := form_facts HO.out.frm
    go_wp2
    have HR := Lib.hid (put3_row HO.out.frm ⟨0, 0, 0⟩)
    have HE := Lib.hid (HO.out.end1 ⟨0, 0, 0⟩).1
    clear k0 k1 k2 z0 z1 z2 ks
    change bodyPost _ _ _ _ _ (put3 w2 (b + 1) ⟨0, 0, 0⟩)
    generalize put3 w2 (b + 1) ⟨0, 0, 0⟩ = w99 at *
    obtain ⟨k0, k1, k2, _, _, _, ks⟩ := form_facts HR.out
    exact bodyPost_ret (v := .tuple #[formV ⟨0, 0, 0⟩, .bool false]) (by simp [results, Tryz.results104, go_sem, formV, k0, k1, k2]) rfl (rule_no (HC.out) ⟨0, 0, 0⟩ rfl HE.out)
  | true =>
    have HC : Hid (cB L o x y l r 6 = true) := by
      show _ = _
      simp only [memO, List.any_cons, List.any_nil, Bool.or_false] at hc
      exact hc
    clear hc
    have hneg := neg_op0 r.n
    obtain ⟨f0, f1, f2, f3, f4, f5, f6, f7, f8, f9, f10, f11, f12, f13, f14, f15⟩ := ask_facts HO.out.ask
    go_wp2_with fail
    clear hneg
    refine (to_any HO.out.gr o x y l r (1) (x) (opI 2 0 r.n) (opI_in _ _ _) HO.out.laid hlen).mono ?_
    rintro e w3 ⟨rfl, a2, c2, hT2⟩
    have HT2 := Lib.hid hT2
    have HF2 := Lib.hid (HT2.out.row HO.out.frm HO.out.off.2)
    clear hT2
    simp only [formV]
    clear f0 f1 f2 f3 f4 f5 f6 f7 f8 f9 f10 f11 f12 f13 f14 f15
    obtain ⟨k0, k1, k2, z0, z1, z2, ks⟩ := form_facts HF2.out
    go_wp2
    have HR := Lib.hid (put3_row HF2.out ⟨1, x, addR L (kN (opI 2 0 r.n))⟩)
    have HE := Lib.hid (HO.out.end2 HT2.out ⟨1, x, addR L (kN (opI 2 0 r.n))⟩)
    clear k0 k1 k2 z0 z1 z2 ks
    change bodyPost _ _ _ _ _ (put3 w3 (b + 1) ⟨1, x, addR L (kN (opI 2 0 r.n))⟩)
    generalize put3 w3 (b + 1) ⟨1, x, addR L (kN (opI 2 0 r.n))⟩ = w99 at *
    obtain ⟨k0, k1, k2, _, _, _, ks⟩ := form_facts HR.out
    exact bodyPost_ret (v := .tuple #[formV ⟨1, x, addR L (kN (opI 2 0 r.n))⟩, .bool true]) (by simp [results, Tryz.results104, go_sem, formV, k0, k1, k2]) rfl (rule_yes (HC.out) ⟨1, x, addR L (kN (opI 2 0 r.n))⟩ rfl HE.out ⟨rfl, rfl⟩)
end Go.Proofs.YtgkjdmojbndicaaGreatDoor

namespace Go.Proofs.YtgkjdmojbndicaaGreatDoor
open Go Go.RowKit
set_option maxRecDepth 100000 in
set_option maxHeartbeats 8000000 in
theorem rule7_any {Bx : List Nd → Int → List Nd → Int → Int → Prop} {B g m c : Nat} {sa : Option Addr} {L : List Nd} {w : World} (h : GraphAt B w g m sa c L) (o x y : Int) (l r : Nd) (hl : Lk L l) (hr : r.Ok) (hlo : l.Ok) (hL : LaidN B w) (hlen : L.length ≤ 1000000000) :
    Calls Tryz.prog 105 #[askV o x y g l r] w (RuleQ Bx B g m sa L (oF L o x y l r 7) (cB L o x y l r 7) w) := by
  have HO := Lib.hid (own_start h hL o x y l r)
  have HL := Lib.hid hl
  have HRK := Lib.hid hr
  have HLK := Lib.hid hlo
  have HLEN := Lib.hid hlen
  clear h hL hl hr hlo
  simp only [askV]
  go_enter Tryz.func105, Tryz.ntmps105
  go_upto_region 1 with (fail)
  change Code.wp _ _ _ _ ((w.alloc (askO o x y g l r)).alloc (formO 0 0 0))
  generalize (w.alloc (askO o x y g l r)).alloc (formO 0 0 0) = W at *
  obtain ⟨b, hb⟩ : ∃ b : Nat, b = w.heap.size := ⟨_, rfl⟩
  rw [← hb] at HO ⊢
  clear hb
  obtain ⟨f0, f1, f2, f3, f4, f5, f6, f7, f8, f9, f10, f11, f12, f13, f14, f15⟩ := ask_facts HO.out.ask
  go_wp2_with fail
  refine (ofnum_any o x y g l r _ _ _ [11] _ (ops_at rfl rfl rfl (Nat.le_of_ble_eq_true rfl))).mono ?_
  rintro e w2 ⟨rfl, hk2⟩
  have HO2 := Lib.hid (HO.out.then (((Kept.refl W).alloc (.cells #[.int .u8 11] 27)).trans hk2))
  clear f0 f1 f2 f3 f4 f5 f6 f7 f8 f9 f10 f11 f12 f13 f14 f15
  clear HO
  have HO := HO2
  clear HO2
  clear hk2
  cases hc : (isC r && memO [11] o) with
  | false =>
    have HC : Hid (cB L o x y l r 7 = false) := by
      show _ = _
      simp only [memO, List.any_cons, List.any_nil, Bool.or_false] at hc
      exact hc
    clear hc
    obtain ⟨f0, f1, f2, f3, f4, f5, f6, f7, f8, f9, f10, f11, f12, f13, f14, f15⟩ := ask_facts HO.out.ask
    obtain ⟨k0, k1, k2, z0, z1, z2, ks⟩ := form_facts HO.out.frm
    go_wp2
    have HR := Lib.hid (put3_row HO.out.frm ⟨0, 0, 0⟩)
    have HE := Lib.hid (HO.out.end1 ⟨0, 0, 0⟩).1
    clear k0 k1 k2 z0 z1 z2 ks
    change bodyPost _ _ _ _ _ (put3 w2 (b + 1) ⟨0, 0, 0⟩)
    generalize put3 w2 (b + 1) ⟨0, 0, 0⟩ = w99 at *
    obtain ⟨k0, k1, k2, _, _, _, ks⟩ := form_facts HR.out
    exact bodyPost_ret (v := .tuple #[formV ⟨0, 0, 0⟩, .bool false]) (by simp [results, Tryz.results105, go_sem, formV, k0, k1, k2]) rfl (rule_no (HC.out) ⟨0, 0, 0⟩ rfl HE.out)
  | true =>
    have HC : Hid (cB L o x y l r 7 = true) := by
      show _ = _
      simp only [memO, List.any_cons, List.any_nil, Bool.or_false] at hc
      exact hc
    clear hc
    go_wp2
    have SK : Hid (∀ w', Kept w2 w' → w'.cell? ⟨b, 0, none⟩ = some (.int .u8 o) ∧ w'.cell? ⟨b, 1, none⟩ = some (.int .i64 x) ∧ w'.cell? ⟨b, 2, none⟩ = some (.int .i64 y) ∧ w'.cell? ⟨b, 3, none⟩ = some (.pointer (some ⟨g, 0, none⟩)) ∧ w'.cell? ⟨b, 4, none⟩ = some (.int .u8 l.k) ∧ w'.cell? ⟨b, 5, none⟩ = some (.int .i64 l.n) ∧ w'.cell? ⟨b, 6, none⟩ = some (.int .i64 l.a) ∧ w'.cell? ⟨b, 7, none⟩ = some (.int .u8 l.o) ∧ w'.cell? ⟨b, 8, none⟩ = some (.int .i64 l.x) ∧ w'.cell? ⟨b, 9, none⟩ = some (.int .i64 l.y) ∧ w'.cell? ⟨b, 10, none⟩ = some (.int .u8 r.k) ∧ w'.cell? ⟨b, 11, none⟩ = some (.int .i64 r.n) ∧ w'.cell? ⟨b, 12, none⟩ = some (.int .i64 r.a) ∧ w'.cell? ⟨b, 13, none⟩ = some (.int .u8 r.o) ∧ w'.cell? ⟨b, 14, none⟩ = some (.int .i64 r.x) ∧ w'.cell? ⟨b, 15, none⟩ = some (.int .i64 r.y)) := fun w' hk => ask_facts (hk.row HO.out.ask)
    go_region_held3 (fun w' => w'.cell? ⟨b, 0, none⟩ = some (.int .u8 o) ∧ w'.cell? ⟨b, 1, none⟩ = some (.int .i64 x) ∧ w'.cell? ⟨b, 2, none⟩ = some (.int .i64 y) ∧ w'.cell? ⟨b, 3, none⟩ = some (.pointer (some ⟨g, 0, none⟩)) ∧ w'.cell? ⟨b, 4, none⟩ = some (.int .u8 l.k) ∧ w'.cell? ⟨b, 5, none⟩ = some (.int .i64 l.n) ∧ w'.cell? ⟨b, 6, none⟩ = some (.int .i64 l.a) ∧ w'.cell? ⟨b, 7, none⟩ = some (.int .u8 l.o) ∧ w'.cell? ⟨b, 8, none⟩ = some (.int .i64 l.x) ∧ w'.cell? ⟨b, 9, none⟩ = some (.int .i64 l.y) ∧ w'.cell? ⟨b, 10, none⟩ = some (.int .u8 r.k) ∧ w'.cell? ⟨b, 11, none⟩ = some (.int .i64 r.n) ∧ w'.cell? ⟨b, 12, none⟩ = some (.int .i64 r.a) ∧ w'.cell? ⟨b, 13, none⟩ = some (.int .u8 r.o) ∧ w'.cell? ⟨b, 14, none⟩ = some (.int .i64 r.x) ∧ w'.cell? ⟨b, 15, none⟩ = some (.int .i64 r.y))
      (first | exact SK.out _ (Kept.refl _) | exact SK.out _ (Kept.drew (Kept.refl _)) | exact SK.out _ HK1.out | exact ask_facts HA2.out | exact ask_facts (put3_ask HA2.out _ _ _))
      (first
        | (go_at_call 27; refine (do_any 11 1 r.n _ in1 HRK.out.2.1).mono ?_; rintro e w50 ⟨rfl, hk1⟩; have HK1 : Hid (Kept w2 w50) := (Kept.drew (Kept.refl w2)).trans hk1; clear hk1)
        | (go_at_call 98; refine (to_any (HO.out.then HK1.out).gr o x y l r (3) (x) (opI 11 1 r.n) (opI_in _ _ _) (HO.out.then HK1.out).laid HLEN.out).mono ?_; rintro e w51 ⟨rfl, a2, c2, hT2⟩; have HO1 := Lib.hid (HO.out.then HK1.out); have HT2 := Lib.hid hT2; have HF2 := Lib.hid (HT2.out.row HO1.out.frm HO1.out.off.2); have HA2 := Lib.hid (HT2.out.row HO1.out.ask HO1.out.off.1); clear hT2; simp only [formV]; obtain ⟨k0, k1, k2, z0, z1, z2, ks⟩ := form_facts HF2.out))
    clear SK
    go_wp2
    have HR := Lib.hid (put3_row HF2.out ⟨3, x, addR L (kN (opI 11 1 r.n))⟩)
    have HE := Lib.hid (HO1.out.end2 HT2.out ⟨3, x, addR L (kN (opI 11 1 r.n))⟩)
    clear k0 k1 k2 z0 z1 z2 ks
    change bodyPost _ _ _ _ _ (put3 w51 (b + 1) ⟨3, x, addR L (kN (opI 11 1 r.n))⟩)
    generalize put3 w51 (b + 1) ⟨3, x, addR L (kN (opI 11 1 r.n))⟩ = w99 at *
    obtain ⟨k0, k1, k2, _, _, _, ks⟩ := form_facts HR.out
    exact bodyPost_ret (v := .tuple #[formV ⟨3, x, addR L (kN (opI 11 1 r.n))⟩, .bool true]) (by simp [results, Tryz.results105, go_sem, formV, k0, k1, k2]) rfl (rule_yes (HC.out) ⟨3, x, addR L (kN (opI 11 1 r.n))⟩ rfl HE.out ⟨rfl, rfl⟩)
end Go.Proofs.YtgkjdmojbndicaaGreatDoor

namespace Go.Proofs.YtgkjdmojbndicaaGreatDoor
open Go Go.RowKit
set_option maxRecDepth 100000 in
set_option maxHeartbeats 8000000 in
theorem rule8_any {Bx : List Nd → Int → List Nd → Int → Int → Prop} {B g m c : Nat} {sa : Option Addr} {L : List Nd} {w : World} (h : GraphAt B w g m sa c L) (o x y : Int) (l r : Nd) (hl : Lk L l) (hr : r.Ok) (hlo : l.Ok) (hL : LaidN B w) (hlen : L.length ≤ 1000000000) :
    Calls Tryz.prog 106 #[askV o x y g l r] w (RuleQ Bx B g m sa L (oF L o x y l r 8) (cB L o x y l r 8) w) := by
  have HO := Lib.hid (own_start h hL o x y l r)
  have HL := Lib.hid hl
  have HRK := Lib.hid hr
  have HLK := Lib.hid hlo
  have HLEN := Lib.hid hlen
  clear h hL hl hr hlo
  simp only [askV]
  go_enter Tryz.func106, Tryz.ntmps106
  go_upto_region 1 with (fail)
  change Code.wp _ _ _ _ ((w.alloc (askO o x y g l r)).alloc (formO 0 0 0))
  generalize (w.alloc (askO o x y g l r)).alloc (formO 0 0 0) = W at *
  obtain ⟨b, hb⟩ : ∃ b : Nat, b = w.heap.size := ⟨_, rfl⟩
  rw [← hb] at HO ⊢
  clear hb
  have HAND : Hid (bits .and .i64 r.n 63 = opI 8 r.n 63) := and_i64 _ _
  obtain ⟨f0, f1, f2, f3, f4, f5, f6, f7, f8, f9, f10, f11, f12, f13, f14, f15⟩ := ask_facts HO.out.ask
  go_wp2_with fail
  refine (ofnum_any o x y g l r _ _ _ [12, 13] _ (ops_at rfl rfl rfl (Nat.le_of_ble_eq_true rfl))).mono ?_
  rintro e w2 ⟨rfl, hk2⟩
  have HO2 := Lib.hid (HO.out.then (((Kept.refl W).alloc (.cells #[.int .u8 12, .int .u8 13] 27)).trans hk2))
  clear f0 f1 f2 f3 f4 f5 f6 f7 f8 f9 f10 f11 f12 f13 f14 f15
  clear HO
  have HO := HO2
  clear HO2
  clear hk2
  cases hq : (isC r && memO [12, 13] o) with
  | false =>
    have HC : Hid (cB L o x y l r 8 = false) := by
      show _ = _
      show (isC r && (o == 12 || o == 13) && _) = false
      have a1 := hq
      simp only [memO, List.any_cons, List.any_nil, Bool.or_false] at a1
      rw [a1]; rfl
    clear hq
    obtain ⟨f0, f1, f2, f3, f4, f5, f6, f7, f8, f9, f10, f11, f12, f13, f14, f15⟩ := ask_facts HO.out.ask
    obtain ⟨k0, k1, k2, z0, z1, z2, ks⟩ := form_facts HO.out.frm
    go_wp2
    have HR := Lib.hid (put3_row HO.out.frm ⟨0, 0, 0⟩)
    have HE := Lib.hid (HO.out.end1 ⟨0, 0, 0⟩).1
    clear k0 k1 k2 z0 z1 z2 ks
    change bodyPost _ _ _ _ _ (put3 w2 (b + 1) ⟨0, 0, 0⟩)
    generalize put3 w2 (b + 1) ⟨0, 0, 0⟩ = w99 at *
    obtain ⟨k0, k1, k2, _, _, _, ks⟩ := form_facts HR.out
    exact bodyPost_ret (v := .tuple #[formV ⟨0, 0, 0⟩, .bool false]) (by simp [results, Tryz.results106, go_sem, formV, k0, k1, k2]) rfl (rule_no (HC.out) ⟨0, 0, 0⟩ rfl HE.out)
  | true =>
    have a1 := hq
    simp only [memO, List.any_cons, List.any_nil, Bool.or_false] at a1
    have HA1 := Lib.hid a1
    clear hq a1
    have hand := HAND.out
    by_cases h63 : opI 8 r.n 63 = r.n
    · have m63 : (opI 8 r.n 63 == r.n) = true := beq_iff_eq.2 h63
      have HC : Hid (cB L o x y l r 8 = false) := by
        show _ = _
        show (_ && !(opI 8 r.n 63 == r.n)) = false
        rw [m63]; simp
      clear h63
      obtain ⟨f0, f1, f2, f3, f4, f5, f6, f7, f8, f9, f10, f11, f12, f13, f14, f15⟩ := ask_facts HO.out.ask
      obtain ⟨k0, k1, k2, z0, z1, z2, ks⟩ := form_facts HO.out.frm
      go_wp2
      have HR := Lib.hid (put3_row HO.out.frm ⟨0, 0, 0⟩)
      have HE := Lib.hid (HO.out.end1 ⟨0, 0, 0⟩).1
      clear k0 k1 k2 z0 z1 z2 ks
      change bodyPost _ _ _ _ _ (put3 w2 (b + 1) ⟨0, 0, 0⟩)
      generalize put3 w2 (b + 1) ⟨0, 0, 0⟩ = w99 at *
      obtain ⟨k0, k1, k2, _, _, _, ks⟩ := form_facts HR.out
      exact bodyPost_ret (v := .tuple #[formV ⟨0, 0, 0⟩, .bool false]) (by simp [results, Tryz.results106, go_sem, formV, k0, k1, k2]) rfl (rule_no (HC.out) ⟨0, 0, 0⟩ rfl HE.out)
    · have m63 : (opI 8 r.n 63 == r.n) = false := beq_eq_false_iff_ne.2 h63
      have HC : Hid (cB L o x y l r 8 = true) := by
        show _ = _
        show (isC r && (o == 12 || o == 13) && !(opI 8 r.n 63 == r.n)) = true
        rw [HA1.out, m63]; rfl
      clear h63
      obtain ⟨f0, f1, f2, f3, f4, f5, f6, f7, f8, f9, f10, f11, f12, f13, f14, f15⟩ := ask_facts HO.out.ask
      go_wp2_with fail
      clear hand m63
      refine (to_any HO.out.gr o x y l r (o) (x) (opI 8 r.n 63) (opI_in _ _ _) HO.out.laid hlen).mono ?_
      rintro e w3 ⟨rfl, a2, c2, hT2⟩
      have HT2 := Lib.hid hT2
      have HF2 := Lib.hid (HT2.out.row HO.out.frm HO.out.off.2)
      clear hT2
      simp only [formV]
      clear f0 f1 f2 f3 f4 f5 f6 f7 f8 f9 f10 f11 f12 f13 f14 f15
      obtain ⟨k0, k1, k2, z0, z1, z2, ks⟩ := form_facts HF2.out
      go_wp2
      have HR := Lib.hid (put3_row HF2.out ⟨o, x, addR L (kN (opI 8 r.n 63))⟩)
      have HE := Lib.hid (HO.out.end2 HT2.out ⟨o, x, addR L (kN (opI 8 r.n 63))⟩)
      clear k0 k1 k2 z0 z1 z2 ks
      change bodyPost _ _ _ _ _ (put3 w3 (b + 1) ⟨o, x, addR L (kN (opI 8 r.n 63))⟩)
      generalize put3 w3 (b + 1) ⟨o, x, addR L (kN (opI 8 r.n 63))⟩ = w99 at *
      obtain ⟨k0, k1, k2, _, _, _, ks⟩ := form_facts HR.out
      exact bodyPost_ret (v := .tuple #[formV ⟨o, x, addR L (kN (opI 8 r.n 63))⟩, .bool true]) (by simp [results, Tryz.results106, go_sem, formV, k0, k1, k2]) rfl (rule_yes (HC.out) ⟨o, x, addR L (kN (opI 8 r.n 63))⟩ rfl HE.out ⟨rfl, rfl⟩)
end Go.Proofs.YtgkjdmojbndicaaGreatDoor

namespace Go.Proofs.YtgkjdmojbndicaaGreatDoor
open Go Go.RowKit
set_option maxRecDepth 100000 in
set_option maxHeartbeats 8000000 in
theorem rule9_any {Bx : List Nd → Int → List Nd → Int → Int → Prop} {B g m c : Nat} {sa : Option Addr} {L : List Nd} {w : World} (h : GraphAt B w g m sa c L) (o x y : Int) (l r : Nd) (hl : Lk L l) (hr : r.Ok) (hlo : l.Ok) (hL : LaidN B w) (hlen : L.length ≤ 1000000000) :
    Calls Tryz.prog 107 #[askV o x y g l r] w (RuleQ Bx B g m sa L (oF L o x y l r 9) (cB L o x y l r 9) w) := by
  have HO := Lib.hid (own_start h hL o x y l r)
  have HL := Lib.hid hl
  have HRK := Lib.hid hr
  have HLK := Lib.hid hlo
  have HLEN := Lib.hid hlen
  clear h hL hl hr hlo
  simp only [askV]
  go_enter Tryz.func107, Tryz.ntmps107
  go_upto_region 1 with (fail)
  change Code.wp _ _ _ _ ((w.alloc (askO o x y g l r)).alloc (formO 0 0 0))
  generalize (w.alloc (askO o x y g l r)).alloc (formO 0 0 0) = W at *
  obtain ⟨b, hb⟩ : ∃ b : Nat, b = w.heap.size := ⟨_, rfl⟩
  rw [← hb] at HO ⊢
  clear hb
  obtain ⟨f0, f1, f2, f3, f4, f5, f6, f7, f8, f9, f10, f11, f12, f13, f14, f15⟩ := ask_facts HO.out.ask
  go_wp2_with fail
  refine (power_any r.n _ HO.out.laid.tab).mono ?_
  rintro e w' ⟨rfl, rfl⟩
  cases hp : (powB r.n) with
  | false =>
    have HC : Hid (cB L o x y l r 9 = false) := by
      show _ = _
      show (_ && powB r.n && _) = false
      rw [hp]; simp
    clear hp
    obtain ⟨k0, k1, k2, z0, z1, z2, ks⟩ := form_facts HO.out.frm
    go_wp2
    have HR := Lib.hid (put3_row HO.out.frm ⟨0, 0, 0⟩)
    have HE := Lib.hid (HO.out.end1 ⟨0, 0, 0⟩).1
    clear k0 k1 k2 z0 z1 z2 ks
    change bodyPost _ _ _ _ _ (put3 W (b + 1) ⟨0, 0, 0⟩)
    generalize put3 W (b + 1) ⟨0, 0, 0⟩ = w99 at *
    obtain ⟨k0, k1, k2, _, _, _, ks⟩ := form_facts HR.out
    exact bodyPost_ret (v := .tuple #[formV ⟨0, 0, 0⟩, .bool false]) (by simp [results, Tryz.results107, go_sem, formV, k0, k1, k2]) rfl (rule_no (HC.out) ⟨0, 0, 0⟩ rfl HE.out)
  | true =>
    have HP := Lib.hid hp
    clear hp
    go_wp2_with fail
    refine (ofnum_any o x y g l r _ _ _ [6] _ (ops_at rfl rfl rfl (Nat.le_of_ble_eq_true rfl))).mono ?_
    rintro e w2 ⟨rfl, hk2⟩
    have HO2 := Lib.hid (HO.out.then (((Kept.refl W).alloc (.cells #[.int .u8 6] 27)).trans hk2))
    clear f0 f1 f2 f3 f4 f5 f6 f7 f8 f9 f10 f11 f12 f13 f14 f15
    clear HO
    have HO := HO2
    clear HO2
    clear hk2
    cases hq : (isC r && memO [6] o) with
    | false =>
      have HC : Hid (cB L o x y l r 9 = false) := by
        show _ = _
        show (isC r && powB r.n && o == 6) = false
        have a1 := hq
        simp only [memO, List.any_cons, List.any_nil, Bool.or_false] at a1
        rw [HP.out, Bool.and_true, a1]
      clear hq
      obtain ⟨f0, f1, f2, f3, f4, f5, f6, f7, f8, f9, f10, f11, f12, f13, f14, f15⟩ := ask_facts HO.out.ask
      obtain ⟨k0, k1, k2, z0, z1, z2, ks⟩ := form_facts HO.out.frm
      go_wp2
      have HR := Lib.hid (put3_row HO.out.frm ⟨0, 0, 0⟩)
      have HE := Lib.hid (HO.out.end1 ⟨0, 0, 0⟩).1
      clear k0 k1 k2 z0 z1 z2 ks
      change bodyPost _ _ _ _ _ (put3 w2 (b + 1) ⟨0, 0, 0⟩)
      generalize put3 w2 (b + 1) ⟨0, 0, 0⟩ = w99 at *
      obtain ⟨k0, k1, k2, _, _, _, ks⟩ := form_facts HR.out
      exact bodyPost_ret (v := .tuple #[formV ⟨0, 0, 0⟩, .bool false]) (by simp [results, Tryz.results107, go_sem, formV, k0, k1, k2]) rfl (rule_no (HC.out) ⟨0, 0, 0⟩ rfl HE.out)
    | true =>
      have HC : Hid (cB L o x y l r 9 = true) := by
        show _ = _
        show (isC r && powB r.n && o == 6) = true
        have a1 := hq
        simp only [memO, List.any_cons, List.any_nil, Bool.or_false] at a1
        rw [HP.out, Bool.and_true, a1]
      clear hq
      obtain ⟨f0, f1, f2, f3, f4, f5, f6, f7, f8, f9, f10, f11, f12, f13, f14, f15⟩ := ask_facts HO.out.ask
      go_wp2_with fail
      refine (to_any HO.out.gr o x y l r (12) (x) (powN r.n) (Lw.pow_in _) HO.out.laid hlen).mono ?_
      rintro e w3 ⟨rfl, a2, c2, hT2⟩
      have HT2 := Lib.hid hT2
      have HF2 := Lib.hid (HT2.out.row HO.out.frm HO.out.off.2)
      clear hT2
      simp only [formV]
      clear f0 f1 f2 f3 f4 f5 f6 f7 f8 f9 f10 f11 f12 f13 f14 f15
      obtain ⟨k0, k1, k2, z0, z1, z2, ks⟩ := form_facts HF2.out
      go_wp2
      have HR := Lib.hid (put3_row HF2.out ⟨12, x, addR L (kN (powN r.n))⟩)
      have HE := Lib.hid (HO.out.end2 HT2.out ⟨12, x, addR L (kN (powN r.n))⟩)
      clear k0 k1 k2 z0 z1 z2 ks
      change bodyPost _ _ _ _ _ (put3 w3 (b + 1) ⟨12, x, addR L (kN (powN r.n))⟩)
      generalize put3 w3 (b + 1) ⟨12, x, addR L (kN (powN r.n))⟩ = w99 at *
      obtain ⟨k0, k1, k2, _, _, _, ks⟩ := form_facts HR.out
      exact bodyPost_ret (v := .tuple #[formV ⟨12, x, addR L (kN (powN r.n))⟩, .bool true]) (by simp [results, Tryz.results107, go_sem, formV, k0, k1, k2]) rfl (rule_yes (HC.out) ⟨12, x, addR L (kN (powN r.n))⟩ rfl HE.out ⟨rfl, rfl⟩)
end Go.Proofs.YtgkjdmojbndicaaGreatDoor

namespace Go.Proofs.YtgkjdmojbndicaaGreatDoor
open Go Go.RowKit
set_option maxRecDepth 100000 in
set_option maxHeartbeats 8000000 in
theorem rule10_any {Bx : List Nd → Int → List Nd → Int → Int → Prop} {B g m c : Nat} {sa : Option Addr} {L : List Nd} {w : World} (h : GraphAt B w g m sa c L) (o x y : Int) (l r : Nd) (hl : Lk L l) (hr : r.Ok) (hlo : l.Ok) (hL : LaidN B w) (hlen : L.length ≤ 1000000000) :
    Calls Tryz.prog 109 #[askV o x y g l r] w (RuleQ Bx B g m sa L (oF L o x y l r 10) (cB L o x y l r 10) w) := by
  have HO := Lib.hid (own_start h hL o x y l r)
  have HL := Lib.hid hl
  have HRK := Lib.hid hr
  have HLK := Lib.hid hlo
  have HLEN := Lib.hid hlen
  clear h hL hl hr hlo
  simp only [askV]
  go_enter Tryz.func109, Tryz.ntmps109
  go_upto_region 1 with (fail)
  change Code.wp _ _ _ _ ((w.alloc (askO o x y g l r)).alloc (formO 0 0 0))
  generalize (w.alloc (askO o x y g l r)).alloc (formO 0 0 0) = W at *
  obtain ⟨b, hb⟩ : ∃ b : Nat, b = w.heap.size := ⟨_, rfl⟩
  rw [← hb] at HO ⊢
  clear hb
  obtain ⟨f0, f1, f2, f3, f4, f5, f6, f7, f8, f9, f10, f11, f12, f13, f14, f15⟩ := ask_facts HO.out.ask
  go_wp2_with fail
  refine (power_any r.n _ HO.out.laid.tab).mono ?_
  rintro e w' ⟨rfl, rfl⟩
  cases hp : (powB r.n) with
  | false =>
    have HC : Hid (cB L o x y l r 10 = false) := by
      show _ = _
      show (_ && powB r.n && _) = false
      rw [hp]; simp
    clear hp
    obtain ⟨k0, k1, k2, z0, z1, z2, ks⟩ := form_facts HO.out.frm
    go_wp2
    have HR := Lib.hid (put3_row HO.out.frm ⟨0, 0, 0⟩)
    have HE := Lib.hid (HO.out.end1 ⟨0, 0, 0⟩).1
    clear k0 k1 k2 z0 z1 z2 ks
    change bodyPost _ _ _ _ _ (put3 W (b + 1) ⟨0, 0, 0⟩)
    generalize put3 W (b + 1) ⟨0, 0, 0⟩ = w99 at *
    obtain ⟨k0, k1, k2, _, _, _, ks⟩ := form_facts HR.out
    exact bodyPost_ret (v := .tuple #[formV ⟨0, 0, 0⟩, .bool false]) (by simp [results, Tryz.results109, go_sem, formV, k0, k1, k2]) rfl (rule_no (HC.out) ⟨0, 0, 0⟩ rfl HE.out)
  | true =>
    have HP := Lib.hid hp
    clear hp
    go_wp2_with fail
    refine (ofnum_any o x y g l r _ _ _ [7] _ (ops_at rfl rfl rfl (Nat.le_of_ble_eq_true rfl))).mono ?_
    rintro e w2 ⟨rfl, hk2⟩
    have HO2 := Lib.hid (HO.out.then (((Kept.refl W).alloc (.cells #[.int .u8 7] 27)).trans hk2))
    clear f0 f1 f2 f3 f4 f5 f6 f7 f8 f9 f10 f11 f12 f13 f14 f15
    clear HO
    have HO := HO2
    clear HO2
    clear hk2
    cases hq : (isC r && memO [7] o) with
    | false =>
      have HC : Hid (cB L o x y l r 10 = false) := by
        show _ = _
        show (isC r && powB r.n && o == 7) = false
        have a1 := hq
        simp only [memO, List.any_cons, List.any_nil, Bool.or_false] at a1
        rw [HP.out, Bool.and_true, a1]
      clear hq
      obtain ⟨f0, f1, f2, f3, f4, f5, f6, f7, f8, f9, f10, f11, f12, f13, f14, f15⟩ := ask_facts HO.out.ask
      obtain ⟨k0, k1, k2, z0, z1, z2, ks⟩ := form_facts HO.out.frm
      go_wp2
      have HR := Lib.hid (put3_row HO.out.frm ⟨0, 0, 0⟩)
      have HE := Lib.hid (HO.out.end1 ⟨0, 0, 0⟩).1
      clear k0 k1 k2 z0 z1 z2 ks
      change bodyPost _ _ _ _ _ (put3 w2 (b + 1) ⟨0, 0, 0⟩)
      generalize put3 w2 (b + 1) ⟨0, 0, 0⟩ = w99 at *
      obtain ⟨k0, k1, k2, _, _, _, ks⟩ := form_facts HR.out
      exact bodyPost_ret (v := .tuple #[formV ⟨0, 0, 0⟩, .bool false]) (by simp [results, Tryz.results109, go_sem, formV, k0, k1, k2]) rfl (rule_no (HC.out) ⟨0, 0, 0⟩ rfl HE.out)
    | true =>
      have HC : Hid (cB L o x y l r 10 = true) := by
        show _ = _
        show (isC r && powB r.n && o == 7) = true
        have a1 := hq
        simp only [memO, List.any_cons, List.any_nil, Bool.or_false] at a1
        rw [HP.out, Bool.and_true, a1]
      clear hq
      have hsub := sub_op1 r.n 1
      obtain ⟨f0, f1, f2, f3, f4, f5, f6, f7, f8, f9, f10, f11, f12, f13, f14, f15⟩ := ask_facts HO.out.ask
      go_wp2_with fail
      clear hsub
      refine (to_any HO.out.gr o x y l r (8) (x) (opI 2 r.n 1) (opI_in _ _ _) HO.out.laid hlen).mono ?_
      rintro e w3 ⟨rfl, a2, c2, hT2⟩
      have HT2 := Lib.hid hT2
      have HF2 := Lib.hid (HT2.out.row HO.out.frm HO.out.off.2)
      clear hT2
      simp only [formV]
      clear f0 f1 f2 f3 f4 f5 f6 f7 f8 f9 f10 f11 f12 f13 f14 f15
      obtain ⟨k0, k1, k2, z0, z1, z2, ks⟩ := form_facts HF2.out
      go_wp2
      have HR := Lib.hid (put3_row HF2.out ⟨8, x, addR L (kN (opI 2 r.n 1))⟩)
      have HE := Lib.hid (HO.out.end2 HT2.out ⟨8, x, addR L (kN (opI 2 r.n 1))⟩)
      clear k0 k1 k2 z0 z1 z2 ks
      change bodyPost _ _ _ _ _ (put3 w3 (b + 1) ⟨8, x, addR L (kN (opI 2 r.n 1))⟩)
      generalize put3 w3 (b + 1) ⟨8, x, addR L (kN (opI 2 r.n 1))⟩ = w99 at *
      obtain ⟨k0, k1, k2, _, _, _, ks⟩ := form_facts HR.out
      exact bodyPost_ret (v := .tuple #[formV ⟨8, x, addR L (kN (opI 2 r.n 1))⟩, .bool true]) (by simp [results, Tryz.results109, go_sem, formV, k0, k1, k2]) rfl (rule_yes (HC.out) ⟨8, x, addR L (kN (opI 2 r.n 1))⟩ rfl HE.out ⟨rfl, rfl⟩)
end Go.Proofs.YtgkjdmojbndicaaGreatDoor

namespace Go.Proofs.YtgkjdmojbndicaaGreatDoor
open Go Go.RowKit
set_option maxRecDepth 100000 in
set_option maxHeartbeats 8000000 in
theorem rule11_any {Bx : List Nd → Int → List Nd → Int → Int → Prop} {B g m c : Nat} {sa : Option Addr} {L : List Nd} {w : World} (h : GraphAt B w g m sa c L) (o x y : Int) (l r : Nd) (hl : Lk L l) (hr : r.Ok) (hlo : l.Ok) (hL : LaidN B w) (hlen : L.length ≤ 1000000000) :
    Calls Tryz.prog 110 #[askV o x y g l r] w (RuleQ Bx B g m sa L (oF L o x y l r 11) (cB L o x y l r 11) w) := by
  have HO := Lib.hid (own_start h hL o x y l r)
  have HL := Lib.hid hl
  have HRK := Lib.hid hr
  have HLK := Lib.hid hlo
  have HLEN := Lib.hid hlen
  clear h hL hl hr hlo
  simp only [askV]
  go_enter Tryz.func110, Tryz.ntmps110
  go_upto_region 1 with (fail)
  change Code.wp _ _ _ _ ((w.alloc (askO o x y g l r)).alloc (formO 0 0 0))
  generalize (w.alloc (askO o x y g l r)).alloc (formO 0 0 0) = W at *
  obtain ⟨b, hb⟩ : ∃ b : Nat, b = w.heap.size := ⟨_, rfl⟩
  rw [← hb] at HO ⊢
  clear hb
  obtain ⟨f0, f1, f2, f3, f4, f5, f6, f7, f8, f9, f10, f11, f12, f13, f14, f15⟩ := ask_facts HO.out.ask
  go_wp2_with fail
  refine (ofjust_any o x y g l r (1) _ _ _ [15] _ (ops_at rfl rfl rfl (Nat.le_of_ble_eq_true rfl))).mono ?_
  rintro e w2 ⟨rfl, hk2⟩
  have HO2 := Lib.hid (HO.out.then (((Kept.refl W).alloc (.cells #[.int .u8 15] 27)).trans hk2))
  clear f0 f1 f2 f3 f4 f5 f6 f7 f8 f9 f10 f11 f12 f13 f14 f15
  clear HO
  have HO := HO2
  clear HO2
  clear hk2
  cases hq : (isC r && memO [15] o && r.n == 1) with
  | false =>
    have HC : Hid (cB L o x y l r 11 = false) := by
      show _ = _
      show (isC r && r.n == 1 && o == 15) = false
      have a1 := hq
      simp only [memO, List.any_cons, List.any_nil, Bool.or_false] at a1
      rw [Bool.and_assoc, Bool.and_comm (r.n == 1), ← Bool.and_assoc, a1]
    clear hq
    obtain ⟨f0, f1, f2, f3, f4, f5, f6, f7, f8, f9, f10, f11, f12, f13, f14, f15⟩ := ask_facts HO.out.ask
    obtain ⟨k0, k1, k2, z0, z1, z2, ks⟩ := form_facts HO.out.frm
    go_wp2
    have HR := Lib.hid (put3_row HO.out.frm ⟨0, 0, 0⟩)
    have HE := Lib.hid (HO.out.end1 ⟨0, 0, 0⟩).1
    clear k0 k1 k2 z0 z1 z2 ks
    change bodyPost _ _ _ _ _ (put3 w2 (b + 1) ⟨0, 0, 0⟩)
    generalize put3 w2 (b + 1) ⟨0, 0, 0⟩ = w99 at *
    obtain ⟨k0, k1, k2, _, _, _, ks⟩ := form_facts HR.out
    exact bodyPost_ret (v := .tuple #[formV ⟨0, 0, 0⟩, .bool false]) (by simp [results, Tryz.results110, go_sem, formV, k0, k1, k2]) rfl (rule_no (HC.out) ⟨0, 0, 0⟩ rfl HE.out)
  | true =>
    have HC : Hid (cB L o x y l r 11 = true) := by
      show _ = _
      show (isC r && r.n == 1 && o == 15) = true
      have a1 := hq
      simp only [memO, List.any_cons, List.any_nil, Bool.or_false] at a1
      rw [Bool.and_assoc, Bool.and_comm (r.n == 1), ← Bool.and_assoc, a1]
    clear hq
    obtain ⟨f0, f1, f2, f3, f4, f5, f6, f7, f8, f9, f10, f11, f12, f13, f14, f15⟩ := ask_facts HO.out.ask
    go_wp2_with fail
    refine (to_any HO.out.gr o x y l r (16) (x) (0) (in0) HO.out.laid hlen).mono ?_
    rintro e w3 ⟨rfl, a2, c2, hT2⟩
    have HT2 := Lib.hid hT2
    have HF2 := Lib.hid (HT2.out.row HO.out.frm HO.out.off.2)
    clear hT2
    simp only [formV]
    clear f0 f1 f2 f3 f4 f5 f6 f7 f8 f9 f10 f11 f12 f13 f14 f15
    obtain ⟨k0, k1, k2, z0, z1, z2, ks⟩ := form_facts HF2.out
    go_wp2
    have HR := Lib.hid (put3_row HF2.out ⟨16, x, addR L (kN (0))⟩)
    have HE := Lib.hid (HO.out.end2 HT2.out ⟨16, x, addR L (kN (0))⟩)
    clear k0 k1 k2 z0 z1 z2 ks
    change bodyPost _ _ _ _ _ (put3 w3 (b + 1) ⟨16, x, addR L (kN (0))⟩)
    generalize put3 w3 (b + 1) ⟨16, x, addR L (kN (0))⟩ = w99 at *
    obtain ⟨k0, k1, k2, _, _, _, ks⟩ := form_facts HR.out
    exact bodyPost_ret (v := .tuple #[formV ⟨16, x, addR L (kN (0))⟩, .bool true]) (by simp [results, Tryz.results110, go_sem, formV, k0, k1, k2]) rfl (rule_yes (HC.out) ⟨16, x, addR L (kN (0))⟩ rfl HE.out ⟨rfl, rfl⟩)
end Go.Proofs.YtgkjdmojbndicaaGreatDoor
