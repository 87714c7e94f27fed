/-
  Several texts in one: NR0: Layer 4: the contract of a rule of norm (the rulesOfAll$1).; NR1: Layer 4: the contract of a rule of norm (the rulesOfAll$2).; NR2: Layer 4: the contract of a rule of norm (the rulesOfAll$3).; NR3: Layer 4: the contract of a rule of norm (the rulesOfAll$4)..
-/
import Derived.Test.YtgkjdmojbndicaaGreatDoorMI
namespace Go.Proofs.YtgkjdmojbndicaaGreatDoor
open Go Go.RowKit
set_option maxRecDepth 100000 in
set_option maxHeartbeats 8000000 in
theorem rule0_any {Bx : List Nd → Int → List Nd → Int → Int → Prop} {B g m c : Nat} {sa : Option Addr} {L : List Nd} {w : World} (h : GraphAt B w g m sa c L) (o x y : Int) (l r : Nd) (hl : Lk L l) (hr : r.Ok) (hlo : l.Ok) (hL : LaidN B w) (hlen : L.length ≤ 1000000000) :
    Calls Tryz.prog 92 #[askV o x y g l r] w (RuleQ Bx B g m sa L (oF L o x y l r 0) (cB L o x y l r 0) w) := by
  have HO := Lib.hid (own_start h hL o x y l r)
  have HL := Lib.hid hl
  have HRK := Lib.hid hr
  have HLK := Lib.hid hlo
  have HLEN := Lib.hid hlen
  clear h hL hl hr hlo
  simp only [askV]
  go_enter Tryz.func92, Tryz.ntmps92
  go_upto_region 1 with (fail)
  change Code.wp _ _ _ _ ((w.alloc (askO o x y g l r)).alloc (formO 0 0 0))
  generalize (w.alloc (askO o x y g l r)).alloc (formO 0 0 0) = W at *
  obtain ⟨b, hb⟩ : ∃ b : Nat, b = w.heap.size := ⟨_, rfl⟩
  rw [← hb] at HO ⊢
  clear hb
  by_cases h1 : l.k = 1
  · have m1 : (l.k != 1) = false := by rw [h1]; rfl
    by_cases h2 : r.k = 1
    · have m2 : (r.k != 1) = false := by rw [h2]; rfl
      have HC : Hid (cB L o x y l r 0 = true) := by
        show _ = _
        show (isC l && isC r) = true
        rw [(isC_iff l).2 h1, (isC_iff r).2 h2]; rfl
      clear h1 h2
      obtain ⟨f0, f1, f2, f3, f4, f5, f6, f7, f8, f9, f10, f11, f12, f13, f14, f15⟩ := ask_facts HO.out.ask
      go_wp2
      clear m1 m2
      clear f0 f1 f2 f3 f4 f5 f6 f7 f8 f9 f10 f11 f12 f13 f14 f15
      have SK : Hid (∀ w', Kept W w' → w'.cell? ⟨b, 0, none⟩ = some (.int .u8 o) ∧ w'.cell? ⟨b, 1, none⟩ = some (.int .i64 x) ∧ w'.cell? ⟨b, 2, none⟩ = some (.int .i64 y) ∧ w'.cell? ⟨b, 3, none⟩ = some (.pointer (some ⟨g, 0, none⟩)) ∧ w'.cell? ⟨b, 4, none⟩ = some (.int .u8 l.k) ∧ w'.cell? ⟨b, 5, none⟩ = some (.int .i64 l.n) ∧ w'.cell? ⟨b, 6, none⟩ = some (.int .i64 l.a) ∧ w'.cell? ⟨b, 7, none⟩ = some (.int .u8 l.o) ∧ w'.cell? ⟨b, 8, none⟩ = some (.int .i64 l.x) ∧ w'.cell? ⟨b, 9, none⟩ = some (.int .i64 l.y) ∧ w'.cell? ⟨b, 10, none⟩ = some (.int .u8 r.k) ∧ w'.cell? ⟨b, 11, none⟩ = some (.int .i64 r.n) ∧ w'.cell? ⟨b, 12, none⟩ = some (.int .i64 r.a) ∧ w'.cell? ⟨b, 13, none⟩ = some (.int .u8 r.o) ∧ w'.cell? ⟨b, 14, none⟩ = some (.int .i64 r.x) ∧ w'.cell? ⟨b, 15, none⟩ = some (.int .i64 r.y)) := fun w' hk => ask_facts (hk.row HO.out.ask)
      go_region_held3 (fun w' => w'.cell? ⟨b, 0, none⟩ = some (.int .u8 o) ∧ w'.cell? ⟨b, 1, none⟩ = some (.int .i64 x) ∧ w'.cell? ⟨b, 2, none⟩ = some (.int .i64 y) ∧ w'.cell? ⟨b, 3, none⟩ = some (.pointer (some ⟨g, 0, none⟩)) ∧ w'.cell? ⟨b, 4, none⟩ = some (.int .u8 l.k) ∧ w'.cell? ⟨b, 5, none⟩ = some (.int .i64 l.n) ∧ w'.cell? ⟨b, 6, none⟩ = some (.int .i64 l.a) ∧ w'.cell? ⟨b, 7, none⟩ = some (.int .u8 l.o) ∧ w'.cell? ⟨b, 8, none⟩ = some (.int .i64 l.x) ∧ w'.cell? ⟨b, 9, none⟩ = some (.int .i64 l.y) ∧ w'.cell? ⟨b, 10, none⟩ = some (.int .u8 r.k) ∧ w'.cell? ⟨b, 11, none⟩ = some (.int .i64 r.n) ∧ w'.cell? ⟨b, 12, none⟩ = some (.int .i64 r.a) ∧ w'.cell? ⟨b, 13, none⟩ = some (.int .u8 r.o) ∧ w'.cell? ⟨b, 14, none⟩ = some (.int .i64 r.x) ∧ w'.cell? ⟨b, 15, none⟩ = some (.int .i64 r.y))
        (first | exact SK.out _ (Kept.refl _) | exact SK.out _ (Kept.drew (Kept.refl _)) | exact SK.out _ HK1.out | exact ask_facts HA2.out | exact ask_facts (put3_ask HA2.out _ _ _))
        (first
          | (go_at_call 27; refine (do_any o l.n r.n _ HLK.out.2.1 HRK.out.2.1).mono ?_; rintro e w50 ⟨rfl, hk1⟩; have HK1 : Hid (Kept W w50) := (Kept.drew (Kept.refl W)).trans hk1; clear hk1)
          | (go_at_call 93; refine (num_any (HO.out.then HK1.out).gr o x y l r (opI o l.n r.n) (opI_in _ _ _) (HO.out.then HK1.out).laid HLEN.out).mono ?_; rintro e w51 ⟨rfl, a2, c2, hT2⟩; have HO1 := Lib.hid (HO.out.then HK1.out); have HT2 := Lib.hid hT2; have HF2 := Lib.hid (HT2.out.row HO1.out.frm HO1.out.off.2); have HA2 := Lib.hid (HT2.out.row HO1.out.ask HO1.out.off.1); clear hT2; simp only [formV]; obtain ⟨k0, k1, k2, z0, z1, z2, ks⟩ := form_facts HF2.out))
      clear SK
      go_wp2
      have HR := Lib.hid (put3_row HF2.out ⟨0, addR L (kN (opI o l.n r.n)), 0⟩)
      have HE := Lib.hid (HO1.out.end2 HT2.out ⟨0, addR L (kN (opI o l.n r.n)), 0⟩)
      clear k0 k1 k2 z0 z1 z2 ks
      change bodyPost _ _ _ _ _ (put3 w51 (b + 1) ⟨0, addR L (kN (opI o l.n r.n)), 0⟩)
      generalize put3 w51 (b + 1) ⟨0, addR L (kN (opI o l.n r.n)), 0⟩ = w99 at *
      obtain ⟨k0, k1, k2, _, _, _, ks⟩ := form_facts HR.out
      exact bodyPost_ret (v := .tuple #[formV ⟨0, addR L (kN (opI o l.n r.n)), 0⟩, .bool true]) (by simp [results, Tryz.results92, go_sem, formV, k0, k1, k2]) rfl (rule_yes (HC.out) ⟨0, addR L (kN (opI o l.n r.n)), 0⟩ rfl HE.out ⟨rfl, rfl⟩)
    · have m2 : (r.k != 1) = true := bne_iff_ne.2 h2
      have HC : Hid (cB L o x y l r 0 = false) := by
        show _ = _
        show (isC l && isC r) = false
        rw [show isC r = false from beq_eq_false_iff_ne.2 h2, Bool.and_false]
      clear h1 h2
      obtain ⟨f0, f1, f2, f3, f4, f5, f6, f7, f8, f9, f10, f11, f12, f13, f14, f15⟩ := ask_facts HO.out.ask
      obtain ⟨k0, k1, k2, z0, z1, z2, ks⟩ := form_facts HO.out.frm
      go_wp2
      have HR := Lib.hid (put3_row HO.out.frm ⟨0, 0, 0⟩)
      have HE := Lib.hid (HO.out.end1 ⟨0, 0, 0⟩).1
      clear k0 k1 k2 z0 z1 z2 ks
      change bodyPost _ _ _ _ _ (put3 W (b + 1) ⟨0, 0, 0⟩)
      generalize put3 W (b + 1) ⟨0, 0, 0⟩ = w99 at *
      obtain ⟨k0, k1, k2, _, _, _, ks⟩ := form_facts HR.out
      exact bodyPost_ret (v := .tuple #[formV ⟨0, 0, 0⟩, .bool false]) (by simp [results, Tryz.results92, go_sem, formV, k0, k1, k2]) rfl (rule_no (HC.out) ⟨0, 0, 0⟩ rfl HE.out)
  · have m1 : (l.k != 1) = true := bne_iff_ne.2 h1
    have HC : Hid (cB L o x y l r 0 = false) := by
      show _ = _
      show (isC l && isC r) = false
      rw [show isC l = false from beq_eq_false_iff_ne.2 h1, Bool.false_and]
    clear h1
    obtain ⟨f0, f1, f2, f3, f4, f5, f6, f7, f8, f9, f10, f11, f12, f13, f14, f15⟩ := ask_facts HO.out.ask
    obtain ⟨k0, k1, k2, z0, z1, z2, ks⟩ := form_facts HO.out.frm
    go_wp2
    have HR := Lib.hid (put3_row HO.out.frm ⟨0, 0, 0⟩)
    have HE := Lib.hid (HO.out.end1 ⟨0, 0, 0⟩).1
    clear k0 k1 k2 z0 z1 z2 ks
    change bodyPost _ _ _ _ _ (put3 W (b + 1) ⟨0, 0, 0⟩)
    generalize put3 W (b + 1) ⟨0, 0, 0⟩ = w99 at *
    obtain ⟨k0, k1, k2, _, _, _, ks⟩ := form_facts HR.out
    exact bodyPost_ret (v := .tuple #[formV ⟨0, 0, 0⟩, .bool false]) (by simp [results, Tryz.results92, go_sem, formV, k0, k1, k2]) rfl (rule_no (HC.out) ⟨0, 0, 0⟩ rfl HE.out)
end Go.Proofs.YtgkjdmojbndicaaGreatDoor

namespace Go.Proofs.YtgkjdmojbndicaaGreatDoor
open Go Go.RowKit
set_option maxRecDepth 100000 in
set_option maxHeartbeats 8000000 in
theorem rule1_any {Bx : List Nd → Int → List Nd → Int → Int → Prop} {B g m c : Nat} {sa : Option Addr} {L : List Nd} {w : World} (h : GraphAt B w g m sa c L) (o x y : Int) (l r : Nd) (hl : Lk L l) (hr : r.Ok) (hlo : l.Ok) (hL : LaidN B w) (hlen : L.length ≤ 1000000000) :
    Calls Tryz.prog 94 #[askV o x y g l r] w (RuleQ Bx B g m sa L (oF L o x y l r 1) (cB L o x y l r 1) w) := by
  have HO := Lib.hid (own_start h hL o x y l r)
  have HL := Lib.hid hl
  have HRK := Lib.hid hr
  have HLK := Lib.hid hlo
  have HLEN := Lib.hid hlen
  clear h hL hl hr hlo
  simp only [askV]
  go_enter Tryz.func94, Tryz.ntmps94
  go_upto_region 1 with (fail)
  change Code.wp _ _ _ _ ((w.alloc (askO o x y g l r)).alloc (formO 0 0 0))
  generalize (w.alloc (askO o x y g l r)).alloc (formO 0 0 0) = W at *
  obtain ⟨b, hb⟩ : ∃ b : Nat, b = w.heap.size := ⟨_, rfl⟩
  rw [← hb] at HO ⊢
  clear hb
  obtain ⟨f0, f1, f2, f3, f4, f5, f6, f7, f8, f9, f10, f11, f12, f13, f14, f15⟩ := ask_facts HO.out.ask
  go_wp2_with fail
  refine (swaps_any o _).mono ?_
  rintro e w' ⟨rfl, rfl⟩
  cases hs : (swapsB o) with
  | false =>
    have HC : Hid (cB L o x y l r 1 = false) := by
      show _ = _
      show (swapsB o && _ && _) = false
      rw [hs]; rfl
    clear hs
    obtain ⟨k0, k1, k2, z0, z1, z2, ks⟩ := form_facts HO.out.frm
    go_wp2
    have HR := Lib.hid (put3_row HO.out.frm ⟨0, 0, 0⟩)
    have HE := Lib.hid (HO.out.end1 ⟨0, 0, 0⟩).1
    clear k0 k1 k2 z0 z1 z2 ks
    change bodyPost _ _ _ _ _ (put3 W (b + 1) ⟨0, 0, 0⟩)
    generalize put3 W (b + 1) ⟨0, 0, 0⟩ = w99 at *
    obtain ⟨k0, k1, k2, _, _, _, ks⟩ := form_facts HR.out
    exact bodyPost_ret (v := .tuple #[formV ⟨0, 0, 0⟩, .bool false]) (by simp [results, Tryz.results94, go_sem, formV, k0, k1, k2]) rfl (rule_no (HC.out) ⟨0, 0, 0⟩ rfl HE.out)
  | true =>
    by_cases h2 : r.k = 1
    · have m2 : (r.k == 1) = true := beq_iff_eq.2 h2
      have HC : Hid (cB L o x y l r 1 = false) := by
        show _ = _
        show (_ && !isC r && _) = false
        rw [(isC_iff r).2 h2]; simp
      clear h2 hs
      obtain ⟨k0, k1, k2, z0, z1, z2, ks⟩ := form_facts HO.out.frm
      go_wp2
      have HR := Lib.hid (put3_row HO.out.frm ⟨0, 0, 0⟩)
      have HE := Lib.hid (HO.out.end1 ⟨0, 0, 0⟩).1
      clear k0 k1 k2 z0 z1 z2 ks
      change bodyPost _ _ _ _ _ (put3 W (b + 1) ⟨0, 0, 0⟩)
      generalize put3 W (b + 1) ⟨0, 0, 0⟩ = w99 at *
      obtain ⟨k0, k1, k2, _, _, _, ks⟩ := form_facts HR.out
      exact bodyPost_ret (v := .tuple #[formV ⟨0, 0, 0⟩, .bool false]) (by simp [results, Tryz.results94, go_sem, formV, k0, k1, k2]) rfl (rule_no (HC.out) ⟨0, 0, 0⟩ rfl HE.out)
    · have m2 : (r.k == 1) = false := beq_eq_false_iff_ne.2 h2
      have hr0 : isC r = false := m2
      clear h2
      by_cases h1 : l.k = 1
      · have m1 : (l.k != 1) = false := by rw [h1]; rfl
        have HC : Hid (cB L o x y l r 1 = true) := by
          show _ = _
          show (swapsB o && !isC r && (isC l || _)) = true
          rw [hs, hr0, (isC_iff l).2 h1]; rfl
        clear h1 hs hr0
        obtain ⟨k0, k1, k2, z0, z1, z2, ks⟩ := form_facts HO.out.frm
        go_wp2
        have HR := Lib.hid (put3_row HO.out.frm ⟨o, y, x⟩)
        have HE := Lib.hid (HO.out.end1 ⟨o, y, x⟩).2
        clear k0 k1 k2 z0 z1 z2 ks
        change bodyPost _ _ _ _ _ (put3 W (b + 1) ⟨o, y, x⟩)
        generalize put3 W (b + 1) ⟨o, y, x⟩ = w99 at *
        obtain ⟨k0, k1, k2, _, _, _, ks⟩ := form_facts HR.out
        exact bodyPost_ret (v := .tuple #[formV ⟨o, y, x⟩, .bool true]) (by simp [results, Tryz.results94, go_sem, formV, k0, k1, k2]) rfl (rule_yes (HC.out) ⟨o, y, x⟩ rfl ⟨_, _, HE.out⟩ ⟨rfl, rfl⟩)
      · have m1 : (l.k != 1) = true := bne_iff_ne.2 h1
        have hl0 : isC l = false := beq_eq_false_iff_ne.2 h1
        clear h1
        by_cases h3 : x ≤ y
        · have m3 : decide (x ≤ y) = true := decide_eq_true h3
          have HC : Hid (cB L o x y l r 1 = false) := by
            show _ = _
            show (_ && _ && (isC l || decide (y < x))) = false
            rw [hl0, decide_eq_false (by omega : ¬ y < x)]; simp
          clear hs hr0 hl0
          obtain ⟨k0, k1, k2, z0, z1, z2, ks⟩ := form_facts HO.out.frm
          go_wp2
          have HR := Lib.hid (put3_row HO.out.frm ⟨0, 0, 0⟩)
          have HE := Lib.hid (HO.out.end1 ⟨0, 0, 0⟩).1
          clear k0 k1 k2 z0 z1 z2 ks
          change bodyPost _ _ _ _ _ (put3 W (b + 1) ⟨0, 0, 0⟩)
          generalize put3 W (b + 1) ⟨0, 0, 0⟩ = w99 at *
          obtain ⟨k0, k1, k2, _, _, _, ks⟩ := form_facts HR.out
          exact bodyPost_ret (v := .tuple #[formV ⟨0, 0, 0⟩, .bool false]) (by simp [results, Tryz.results94, go_sem, formV, k0, k1, k2]) rfl (rule_no (HC.out) ⟨0, 0, 0⟩ rfl HE.out)
        · have m3 : decide (x ≤ y) = false := decide_eq_false h3
          have HC : Hid (cB L o x y l r 1 = true) := by
            show _ = _
            show (swapsB o && !isC r && (isC l || decide (y < x))) = true
            rw [hs, hr0, hl0, decide_eq_true (by omega : y < x)]; rfl
          clear h3 hs hr0 hl0
          obtain ⟨k0, k1, k2, z0, z1, z2, ks⟩ := form_facts HO.out.frm
          go_wp2
          have HR := Lib.hid (put3_row HO.out.frm ⟨o, y, x⟩)
          have HE := Lib.hid (HO.out.end1 ⟨o, y, x⟩).2
          clear k0 k1 k2 z0 z1 z2 ks
          change bodyPost _ _ _ _ _ (put3 W (b + 1) ⟨o, y, x⟩)
          generalize put3 W (b + 1) ⟨o, y, x⟩ = w99 at *
          obtain ⟨k0, k1, k2, _, _, _, ks⟩ := form_facts HR.out
          exact bodyPost_ret (v := .tuple #[formV ⟨o, y, x⟩, .bool true]) (by simp [results, Tryz.results94, go_sem, formV, k0, k1, k2]) rfl (rule_yes (HC.out) ⟨o, y, x⟩ rfl ⟨_, _, HE.out⟩ ⟨rfl, rfl⟩)
end Go.Proofs.YtgkjdmojbndicaaGreatDoor

namespace Go.Proofs.YtgkjdmojbndicaaGreatDoor
open Go Go.RowKit
set_option maxRecDepth 100000 in
set_option maxHeartbeats 8000000 in
theorem rule2_any {Bx : List Nd → Int → List Nd → Int → Int → Prop} {B g m c : Nat} {sa : Option Addr} {L : List Nd} {w : World} (h : GraphAt B w g m sa c L) (o x y : Int) (l r : Nd) (hl : Lk L l) (hr : r.Ok) (hlo : l.Ok) (hL : LaidN B w) (hlen : L.length ≤ 1000000000) :
    Calls Tryz.prog 95 #[askV o x y g l r] w (RuleQ Bx B g m sa L (oF L o x y l r 2) (cB L o x y l r 2) w) := by
  have HO := Lib.hid (own_start h hL o x y l r)
  have HL := Lib.hid hl
  have HRK := Lib.hid hr
  have HLK := Lib.hid hlo
  have HLEN := Lib.hid hlen
  clear h hL hl hr hlo
  simp only [askV]
  go_enter Tryz.func95, Tryz.ntmps95
  go_upto_region 1 with (fail)
  change Code.wp _ _ _ _ ((w.alloc (askO o x y g l r)).alloc (formO 0 0 0))
  generalize (w.alloc (askO o x y g l r)).alloc (formO 0 0 0) = W at *
  obtain ⟨b, hb⟩ : ∃ b : Nat, b = w.heap.size := ⟨_, rfl⟩
  rw [← hb] at HO ⊢
  clear hb
  obtain ⟨f0, f1, f2, f3, f4, f5, f6, f7, f8, f9, f10, f11, f12, f13, f14, f15⟩ := ask_facts HO.out.ask
  go_wp2_with fail
  refine (behind_any (HO.out.gr.kept ((Kept.refl W).alloc (.cells #[.int .u8 o] 27))) o x y l r HL.out _ _ _ [o] (ops_at rfl rfl rfl (Nat.le_of_ble_eq_true rfl))).mono ?_
  rintro e w2 ⟨rfl, hk2⟩
  have HO2 := Lib.hid (HO.out.then (((Kept.refl W).alloc (.cells #[.int .u8 o] 27)).trans hk2))
  clear f0 f1 f2 f3 f4 f5 f6 f7 f8 f9 f10 f11 f12 f13 f14 f15
  clear HO
  have HO := HO2
  clear HO2
  clear hk2
  cases hb : (behO L l [o]) with
  | false =>
    have HC : Hid (cB L o x y l r 2 = false) := by
      show _ = _
      show (_ && _ && behB L l o) = false
      rw [behO_one] at hb
      rw [hb]; simp
    clear hb
    obtain ⟨f0, f1, f2, f3, f4, f5, f6, f7, f8, f9, f10, f11, f12, f13, f14, f15⟩ := ask_facts HO.out.ask
    obtain ⟨k0, k1, k2, z0, z1, z2, ks⟩ := form_facts HO.out.frm
    go_wp2
    have HR := Lib.hid (put3_row HO.out.frm ⟨0, 0, 0⟩)
    have HE := Lib.hid (HO.out.end1 ⟨0, 0, 0⟩).1
    clear k0 k1 k2 z0 z1 z2 ks
    change bodyPost _ _ _ _ _ (put3 w2 (b + 1) ⟨0, 0, 0⟩)
    generalize put3 w2 (b + 1) ⟨0, 0, 0⟩ = w99 at *
    obtain ⟨k0, k1, k2, _, _, _, ks⟩ := form_facts HR.out
    exact bodyPost_ret (v := .tuple #[formV ⟨0, 0, 0⟩, .bool false]) (by simp [results, Tryz.results95, go_sem, formV, k0, k1, k2]) rfl (rule_no (HC.out) ⟨0, 0, 0⟩ rfl HE.out)
  | true =>
    have hv : behV L l [o] = behN L l := by unfold behV; rw [hb]; rfl
    rw [hv]
    rw [behO_one] at hb
    clear hv
    have HBN : Hid (InR (behN L l)) := (nd_ok HO.out.gr.good (HL.out ((behB_iff _ _ _).1 hb).1.1).2).2.1
    have HBB := Lib.hid hb
    clear hb
    obtain ⟨f0, f1, f2, f3, f4, f5, f6, f7, f8, f9, f10, f11, f12, f13, f14, f15⟩ := ask_facts HO.out.ask
    go_wp2_with fail
    refine (ofnum_any o x y g l r _ _ _ [o] _ (ops_at rfl rfl rfl (Nat.le_of_ble_eq_true rfl))).mono ?_
    rintro e w3 ⟨rfl, hk2⟩
    have HO2 := Lib.hid (HO.out.then (((Kept.refl w2).alloc (.cells #[.int .u8 o] 27)).trans hk2))
    clear f0 f1 f2 f3 f4 f5 f6 f7 f8 f9 f10 f11 f12 f13 f14 f15
    clear HO
    have HO := HO2
    clear HO2
    clear hk2
    cases hq : (isC r && memO [o] o) with
    | false =>
      have HC : Hid (cB L o x y l r 2 = false) := by
        show _ = _
        show (isC r && _ && _) = false
        have hq2 : isC r = false := by simpa [memO] using hq
        rw [hq2]; rfl
      clear hq
      obtain ⟨f0, f1, f2, f3, f4, f5, f6, f7, f8, f9, f10, f11, f12, f13, f14, f15⟩ := ask_facts HO.out.ask
      obtain ⟨k0, k1, k2, z0, z1, z2, ks⟩ := form_facts HO.out.frm
      go_wp2
      have HR := Lib.hid (put3_row HO.out.frm ⟨0, 0, 0⟩)
      have HE := Lib.hid (HO.out.end1 ⟨0, 0, 0⟩).1
      clear k0 k1 k2 z0 z1 z2 ks
      change bodyPost _ _ _ _ _ (put3 w3 (b + 1) ⟨0, 0, 0⟩)
      generalize put3 w3 (b + 1) ⟨0, 0, 0⟩ = w99 at *
      obtain ⟨k0, k1, k2, _, _, _, ks⟩ := form_facts HR.out
      exact bodyPost_ret (v := .tuple #[formV ⟨0, 0, 0⟩, .bool false]) (by simp [results, Tryz.results95, go_sem, formV, k0, k1, k2]) rfl (rule_no (HC.out) ⟨0, 0, 0⟩ rfl HE.out)
    | true =>
      have HR1 : Hid (isC r = true) := by
        show _ = _
        simpa [memO] using hq
      clear hq
      obtain ⟨f0, f1, f2, f3, f4, f5, f6, f7, f8, f9, f10, f11, f12, f13, f14, f15⟩ := ask_facts HO.out.ask
      go_wp2_with fail
      refine (groups_any o _).mono ?_
      rintro e w' ⟨rfl, rfl⟩
      cases hg : (groupsB o) with
      | false =>
        have HC : Hid (cB L o x y l r 2 = false) := by
          show _ = _
          show (_ && groupsB o && _) = false
          rw [hg]; simp
        clear hg
        obtain ⟨k0, k1, k2, z0, z1, z2, ks⟩ := form_facts HO.out.frm
        go_wp2
        have HR := Lib.hid (put3_row HO.out.frm ⟨0, 0, 0⟩)
        have HE := Lib.hid (HO.out.end1 ⟨0, 0, 0⟩).1
        clear k0 k1 k2 z0 z1 z2 ks
        change bodyPost _ _ _ _ _ (put3 w3 (b + 1) ⟨0, 0, 0⟩)
        generalize put3 w3 (b + 1) ⟨0, 0, 0⟩ = w99 at *
        obtain ⟨k0, k1, k2, _, _, _, ks⟩ := form_facts HR.out
        exact bodyPost_ret (v := .tuple #[formV ⟨0, 0, 0⟩, .bool false]) (by simp [results, Tryz.results95, go_sem, formV, k0, k1, k2]) rfl (rule_no (HC.out) ⟨0, 0, 0⟩ rfl HE.out)
      | true =>
        have HC : Hid (cB L o x y l r 2 = true) := by
          show _ = _
          show (isC r && groupsB o && behB L l o) = true
          rw [hg, HR1.out, HBB.out]; rfl
        clear hg
        go_wp2
        clear f0 f1 f2 f3 f4 f5 f6 f7 f8 f9 f10 f11 f12 f13 f14 f15
        have SK : Hid (∀ w', Kept w3 w' → w'.cell? ⟨b, 0, none⟩ = some (.int .u8 o) ∧ w'.cell? ⟨b, 1, none⟩ = some (.int .i64 x) ∧ w'.cell? ⟨b, 2, none⟩ = some (.int .i64 y) ∧ w'.cell? ⟨b, 3, none⟩ = some (.pointer (some ⟨g, 0, none⟩)) ∧ w'.cell? ⟨b, 4, none⟩ = some (.int .u8 l.k) ∧ w'.cell? ⟨b, 5, none⟩ = some (.int .i64 l.n) ∧ w'.cell? ⟨b, 6, none⟩ = some (.int .i64 l.a) ∧ w'.cell? ⟨b, 7, none⟩ = some (.int .u8 l.o) ∧ w'.cell? ⟨b, 8, none⟩ = some (.int .i64 l.x) ∧ w'.cell? ⟨b, 9, none⟩ = some (.int .i64 l.y) ∧ w'.cell? ⟨b, 10, none⟩ = some (.int .u8 r.k) ∧ w'.cell? ⟨b, 11, none⟩ = some (.int .i64 r.n) ∧ w'.cell? ⟨b, 12, none⟩ = some (.int .i64 r.a) ∧ w'.cell? ⟨b, 13, none⟩ = some (.int .u8 r.o) ∧ w'.cell? ⟨b, 14, none⟩ = some (.int .i64 r.x) ∧ w'.cell? ⟨b, 15, none⟩ = some (.int .i64 r.y)) := fun w' hk => ask_facts (hk.row HO.out.ask)
        go_region_held3 (fun w' => w'.cell? ⟨b, 0, none⟩ = some (.int .u8 o) ∧ w'.cell? ⟨b, 1, none⟩ = some (.int .i64 x) ∧ w'.cell? ⟨b, 2, none⟩ = some (.int .i64 y) ∧ w'.cell? ⟨b, 3, none⟩ = some (.pointer (some ⟨g, 0, none⟩)) ∧ w'.cell? ⟨b, 4, none⟩ = some (.int .u8 l.k) ∧ w'.cell? ⟨b, 5, none⟩ = some (.int .i64 l.n) ∧ w'.cell? ⟨b, 6, none⟩ = some (.int .i64 l.a) ∧ w'.cell? ⟨b, 7, none⟩ = some (.int .u8 l.o) ∧ w'.cell? ⟨b, 8, none⟩ = some (.int .i64 l.x) ∧ w'.cell? ⟨b, 9, none⟩ = some (.int .i64 l.y) ∧ w'.cell? ⟨b, 10, none⟩ = some (.int .u8 r.k) ∧ w'.cell? ⟨b, 11, none⟩ = some (.int .i64 r.n) ∧ w'.cell? ⟨b, 12, none⟩ = some (.int .i64 r.a) ∧ w'.cell? ⟨b, 13, none⟩ = some (.int .u8 r.o) ∧ w'.cell? ⟨b, 14, none⟩ = some (.int .i64 r.x) ∧ w'.cell? ⟨b, 15, none⟩ = some (.int .i64 r.y))
          (first | exact SK.out _ (Kept.refl _) | exact SK.out _ (Kept.drew (Kept.refl _)) | exact SK.out _ HK1.out | exact ask_facts HA2.out | exact ask_facts (put3_ask HA2.out _ _ _))
          (first
            | (go_at_call 27; refine (do_any o (behN L l) r.n _ HBN.out HRK.out.2.1).mono ?_; rintro e w50 ⟨rfl, hk1⟩; have HK1 : Hid (Kept w3 w50) := (Kept.drew (Kept.refl w3)).trans hk1; clear hk1)
            | (go_at_call 98; refine (to_any (HO.out.then HK1.out).gr o x y l r (o) (l.x) (opI o (behN L l) r.n) (opI_in _ _ _) (HO.out.then HK1.out).laid HLEN.out).mono ?_; rintro e w51 ⟨rfl, a2, c2, hT2⟩; have HO1 := Lib.hid (HO.out.then HK1.out); have HT2 := Lib.hid hT2; have HF2 := Lib.hid (HT2.out.row HO1.out.frm HO1.out.off.2); have HA2 := Lib.hid (HT2.out.row HO1.out.ask HO1.out.off.1); clear hT2; simp only [formV]; obtain ⟨k0, k1, k2, z0, z1, z2, ks⟩ := form_facts HF2.out))
        clear SK
        go_wp2
        have HR := Lib.hid (put3_row HF2.out ⟨o, l.x, addR L (kN (opI o (behN L l) r.n))⟩)
        have HE := Lib.hid (HO1.out.end2 HT2.out ⟨o, l.x, addR L (kN (opI o (behN L l) r.n))⟩)
        clear k0 k1 k2 z0 z1 z2 ks
        change bodyPost _ _ _ _ _ (put3 w51 (b + 1) ⟨o, l.x, addR L (kN (opI o (behN L l) r.n))⟩)
        generalize put3 w51 (b + 1) ⟨o, l.x, addR L (kN (opI o (behN L l) r.n))⟩ = w99 at *
        obtain ⟨k0, k1, k2, _, _, _, ks⟩ := form_facts HR.out
        exact bodyPost_ret (v := .tuple #[formV ⟨o, l.x, addR L (kN (opI o (behN L l) r.n))⟩, .bool true]) (by simp [results, Tryz.results95, go_sem, formV, k0, k1, k2]) rfl (rule_yes (HC.out) ⟨o, l.x, addR L (kN (opI o (behN L l) r.n))⟩ rfl HE.out ⟨rfl, rfl⟩)
end Go.Proofs.YtgkjdmojbndicaaGreatDoor

namespace Go.Proofs.YtgkjdmojbndicaaGreatDoor
open Go Go.RowKit
set_option maxRecDepth 100000 in
set_option maxHeartbeats 8000000 in
theorem rule3_any {Bx : List Nd → Int → List Nd → Int → Int → Prop} {B g m c : Nat} {sa : Option Addr} {L : List Nd} {w : World} (h : GraphAt B w g m sa c L) (o x y : Int) (l r : Nd) (hl : Lk L l) (hr : r.Ok) (hlo : l.Ok) (hL : LaidN B w) (hlen : L.length ≤ 1000000000) :
    Calls Tryz.prog 99 #[askV o x y g l r] w (RuleQ Bx B g m sa L (oF L o x y l r 3) (cB L o x y l r 3) w) := by
  have HO := Lib.hid (own_start h hL o x y l r)
  have HL := Lib.hid hl
  have HRK := Lib.hid hr
  have HLK := Lib.hid hlo
  have HLEN := Lib.hid hlen
  clear h hL hl hr hlo
  simp only [askV]
  go_enter Tryz.func99, Tryz.ntmps99
  go_upto_region 1 with (fail)
  change Code.wp _ _ _ _ ((w.alloc (askO o x y g l r)).alloc (formO 0 0 0))
  generalize (w.alloc (askO o x y g l r)).alloc (formO 0 0 0) = W at *
  obtain ⟨b, hb⟩ : ∃ b : Nat, b = w.heap.size := ⟨_, rfl⟩
  rw [← hb] at HO ⊢
  clear hb
  obtain ⟨f0, f1, f2, f3, f4, f5, f6, f7, f8, f9, f10, f11, f12, f13, f14, f15⟩ := ask_facts HO.out.ask
  go_wp2_with fail
  refine (keeps_any o _).mono ?_
  rintro e w' ⟨rfl, rfl⟩
  cases hk : (keepsB o) with
  | false =>
    have HC : Hid (cB L o x y l r 3 = false) := by
      show _ = _
      show (keepsB o && _ && _) = false
      rw [hk]; rfl
    clear hk
    go_wp2_with fail
    refine (is_any x _).mono ?_
    rintro e w2 ⟨rfl, hk2⟩
    have HO2 := Lib.hid (HO.out.then (hk2))
    clear f0 f1 f2 f3 f4 f5 f6 f7 f8 f9 f10 f11 f12 f13 f14 f15
    clear HO
    have HO := HO2
    clear HO2
    clear hk2
    simp only [formV]
    obtain ⟨f0, f1, f2, f3, f4, f5, f6, f7, f8, f9, f10, f11, f12, f13, f14, f15⟩ := ask_facts HO.out.ask
    obtain ⟨k0, k1, k2, z0, z1, z2, ks⟩ := form_facts HO.out.frm
    go_wp2
    have HR := Lib.hid (put3_row HO.out.frm ⟨0, x, 0⟩)
    have HE := Lib.hid (HO.out.end1 ⟨0, x, 0⟩).1
    clear k0 k1 k2 z0 z1 z2 ks
    change bodyPost _ _ _ _ _ (put3 w2 (b + 1) ⟨0, x, 0⟩)
    generalize put3 w2 (b + 1) ⟨0, x, 0⟩ = w99 at *
    obtain ⟨k0, k1, k2, _, _, _, ks⟩ := form_facts HR.out
    exact bodyPost_ret (v := .tuple #[formV ⟨0, x, 0⟩, .bool false]) (by simp [results, Tryz.results99, go_sem, formV, k0, k1, k2]) rfl (rule_no (HC.out) ⟨0, x, 0⟩ rfl HE.out)
  | true =>
    have HKB := Lib.hid hk
    clear hk
    go_wp2_with fail
    refine (is_any x _).mono ?_
    rintro e w2 ⟨rfl, hk2⟩
    have HO2 := Lib.hid (HO.out.then (hk2))
    clear f0 f1 f2 f3 f4 f5 f6 f7 f8 f9 f10 f11 f12 f13 f14 f15
    clear HO
    have HO := HO2
    clear HO2
    clear hk2
    simp only [formV]
    obtain ⟨f0, f1, f2, f3, f4, f5, f6, f7, f8, f9, f10, f11, f12, f13, f14, f15⟩ := ask_facts HO.out.ask
    go_wp2_with fail
    refine (ofjust_any o x y g l r (keepsN o) _ _ _ [o] _ (ops_at rfl rfl rfl (Nat.le_of_ble_eq_true rfl))).mono ?_
    rintro e w3 ⟨rfl, hk2⟩
    have HO2 := Lib.hid (HO.out.then (((Kept.refl w2).alloc (.cells #[.int .u8 o] 27)).trans hk2))
    clear f0 f1 f2 f3 f4 f5 f6 f7 f8 f9 f10 f11 f12 f13 f14 f15
    clear HO
    have HO := HO2
    clear HO2
    clear hk2
    cases hq : (isC r && memO [o] o && r.n == keepsN o) with
    | false =>
      have HC : Hid (cB L o x y l r 3 = false) := by
        show _ = _
        show (keepsB o && isC r && r.n == keepsN o) = false
        rw [HKB.out]
        simpa [memO] using hq
      clear hq
      obtain ⟨f0, f1, f2, f3, f4, f5, f6, f7, f8, f9, f10, f11, f12, f13, f14, f15⟩ := ask_facts HO.out.ask
      obtain ⟨k0, k1, k2, z0, z1, z2, ks⟩ := form_facts HO.out.frm
      go_wp2
      have HR := Lib.hid (put3_row HO.out.frm ⟨0, x, 0⟩)
      have HE := Lib.hid (HO.out.end1 ⟨0, x, 0⟩).1
      clear k0 k1 k2 z0 z1 z2 ks
      change bodyPost _ _ _ _ _ (put3 w3 (b + 1) ⟨0, x, 0⟩)
      generalize put3 w3 (b + 1) ⟨0, x, 0⟩ = w99 at *
      obtain ⟨k0, k1, k2, _, _, _, ks⟩ := form_facts HR.out
      exact bodyPost_ret (v := .tuple #[formV ⟨0, x, 0⟩, .bool false]) (by simp [results, Tryz.results99, go_sem, formV, k0, k1, k2]) rfl (rule_no (HC.out) ⟨0, x, 0⟩ rfl HE.out)
    | true =>
      have HC : Hid (cB L o x y l r 3 = true) := by
        show _ = _
        show (keepsB o && isC r && r.n == keepsN o) = true
        rw [HKB.out]
        simpa [memO] using hq
      clear hq
      obtain ⟨f0, f1, f2, f3, f4, f5, f6, f7, f8, f9, f10, f11, f12, f13, f14, f15⟩ := ask_facts HO.out.ask
      obtain ⟨k0, k1, k2, z0, z1, z2, ks⟩ := form_facts HO.out.frm
      go_wp2
      have HR := Lib.hid (put3_row HO.out.frm ⟨0, x, 0⟩)
      have HE := Lib.hid (HO.out.end1 ⟨0, x, 0⟩).2
      clear k0 k1 k2 z0 z1 z2 ks
      change bodyPost _ _ _ _ _ (put3 w3 (b + 1) ⟨0, x, 0⟩)
      generalize put3 w3 (b + 1) ⟨0, x, 0⟩ = w99 at *
      obtain ⟨k0, k1, k2, _, _, _, ks⟩ := form_facts HR.out
      exact bodyPost_ret (v := .tuple #[formV ⟨0, x, 0⟩, .bool true]) (by simp [results, Tryz.results99, go_sem, formV, k0, k1, k2]) rfl (rule_yes (HC.out) ⟨0, x, 0⟩ rfl ⟨_, _, HE.out⟩ ⟨rfl, rfl⟩)
end Go.Proofs.YtgkjdmojbndicaaGreatDoor
