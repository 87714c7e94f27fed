/-
  Several texts in one: NR5: Layer 4: the contract of a rule of norm (the rulesOfAll$6).; NR12: Layer 4: the contract of a rule of norm (the rulesOfTruths$2).; NR12y: Layer 4: the contract of a rule of norm (the rulesOfTruths$2, where it applies).; NR13: Layer 4: the contract of a rule of norm (the rulesOfTruths$3)..
-/
import Derived.Test.YtgkjdmojbndicaaGreatDoorMI
namespace Go.Proofs.YtgkjdmojbndicaaGreatDoor
open Go Go.RowKit
set_option maxRecDepth 100000 in
set_option maxHeartbeats 8000000 in
theorem rule5_any {Bx : List Nd → Int → List Nd → Int → Int → Prop} {B g m c : Nat} {sa : Option Addr} {L : List Nd} {w : World} (h : GraphAt B w g m sa c L) (o x y : Int) (l r : Nd) (hl : Lk L l) (hr : r.Ok) (hlo : l.Ok) (hL : LaidN B w) (hlen : L.length ≤ 1000000000) :
    Calls Tryz.prog 103 #[askV o x y g l r] w (RuleQ Bx B g m sa L (oF L o x y l r 5) (cB L o x y l r 5) w) := by
  have HO := Lib.hid (own_start h hL o x y l r)
  have HL := Lib.hid hl
  have HRK := Lib.hid hr
  have HLK := Lib.hid hlo
  have HLEN := Lib.hid hlen
  clear h hL hl hr hlo
  simp only [askV]
  go_enter Tryz.func103, Tryz.ntmps103
  go_upto_region 1 with (fail)
  change Code.wp _ _ _ _ ((w.alloc (askO o x y g l r)).alloc (formO 0 0 0))
  generalize (w.alloc (askO o x y g l r)).alloc (formO 0 0 0) = W at *
  obtain ⟨b, hb⟩ : ∃ b : Nat, b = w.heap.size := ⟨_, rfl⟩
  rw [← hb] at HO ⊢
  clear hb
  obtain ⟨f0, f1, f2, f3, f4, f5, f6, f7, f8, f9, f10, f11, f12, f13, f14, f15⟩ := ask_facts HO.out.ask
  go_wp2_with fail
  refine (ofjust_any o x y g l r (0) _ _ _ [3, 8, 15] _ (ops_at rfl rfl rfl (Nat.le_of_ble_eq_true rfl))).mono ?_
  rintro e w2 ⟨rfl, hk2⟩
  have HO2 := Lib.hid (HO.out.then (((Kept.refl W).alloc (.cells #[.int .u8 3, .int .u8 8, .int .u8 15] 27)).trans hk2))
  clear f0 f1 f2 f3 f4 f5 f6 f7 f8 f9 f10 f11 f12 f13 f14 f15
  clear HO
  have HO := HO2
  clear HO2
  clear hk2
  cases hq : (isC r && memO [3, 8, 15] o && r.n == 0) with
  | false =>
    have HQ1 := Lib.hid hq
    clear hq
    obtain ⟨f0, f1, f2, f3, f4, f5, f6, f7, f8, f9, f10, f11, f12, f13, f14, f15⟩ := ask_facts HO.out.ask
    go_wp2_with fail
    refine (ofjust_any o x y g l r (-1) _ _ _ [9] _ (ops_at rfl rfl rfl (Nat.le_of_ble_eq_true rfl))).mono ?_
    rintro e w3 ⟨rfl, hk2⟩
    have HO2 := Lib.hid (HO.out.then (((Kept.refl w2).alloc (.cells #[.int .u8 9] 27)).trans hk2))
    clear f0 f1 f2 f3 f4 f5 f6 f7 f8 f9 f10 f11 f12 f13 f14 f15
    clear HO
    have HO := HO2
    clear HO2
    clear hk2
    cases hq : (isC r && memO [9] o && r.n == -1) with
    | false =>
      have HQ2 := Lib.hid hq
      clear hq
      obtain ⟨f0, f1, f2, f3, f4, f5, f6, f7, f8, f9, f10, f11, f12, f13, f14, f15⟩ := ask_facts HO.out.ask
      go_wp2_with fail
      refine (ofjust_any o x y g l r (1) _ _ _ [5, 7] _ (ops_at rfl rfl rfl (Nat.le_of_ble_eq_true rfl))).mono ?_
      rintro e w4 ⟨rfl, hk2⟩
      have HO2 := Lib.hid (HO.out.then (((Kept.refl w3).alloc (.cells #[.int .u8 5, .int .u8 7] 27)).trans hk2))
      clear f0 f1 f2 f3 f4 f5 f6 f7 f8 f9 f10 f11 f12 f13 f14 f15
      clear HO
      have HO := HO2
      clear HO2
      clear hk2
      cases hq : (isC r && memO [5, 7] o && r.n == 1) with
      | false =>
        have HC : Hid (cB L o x y l r 5 = false) := by
          show _ = _
          have a1 := HQ1.out
          have a2 := HQ2.out
          have a3 := hq
          simp only [memO, List.any_cons, List.any_nil, Bool.or_false] at a1 a2 a3
          show (isC r && (r.n == 0 && (o == 3 || o == 8 || o == 15) || r.n == -1 && o == 9 || r.n == 1 && (o == 5 || o == 7))) = false
          cases hc : isC r with
          | false => rfl
          | true =>
            rw [hc] at a1 a2 a3
            simp only [Bool.true_and] at a1 a2 a3 ⊢
            rw [Bool.and_comm, ← Bool.or_assoc] at a1
            rw [Bool.and_comm] at a2 a3
            rw [a1, a2, a3]; rfl
        clear hq
        obtain ⟨f0, f1, f2, f3, f4, f5, f6, f7, f8, f9, f10, f11, f12, f13, f14, f15⟩ := ask_facts HO.out.ask
        obtain ⟨k0, k1, k2, z0, z1, z2, ks⟩ := form_facts HO.out.frm
        go_wp2
        have HR := Lib.hid (put3_row HO.out.frm ⟨0, 0, 0⟩)
        have HE := Lib.hid (HO.out.end1 ⟨0, 0, 0⟩).1
        clear k0 k1 k2 z0 z1 z2 ks
        change bodyPost _ _ _ _ _ (put3 w4 (b + 1) ⟨0, 0, 0⟩)
        generalize put3 w4 (b + 1) ⟨0, 0, 0⟩ = w99 at *
        obtain ⟨k0, k1, k2, _, _, _, ks⟩ := form_facts HR.out
        exact bodyPost_ret (v := .tuple #[formV ⟨0, 0, 0⟩, .bool false]) (by simp [results, Tryz.results103, go_sem, formV, k0, k1, k2]) rfl (rule_no (HC.out) ⟨0, 0, 0⟩ rfl HE.out)
      | true =>
        have q1 := hq
        simp only [memO, List.any_cons, List.any_nil, Bool.or_false, Bool.and_eq_true, Bool.or_eq_true, beq_iff_eq] at q1
        have HC : Hid (cB L o x y l r 5 = true) := by
          show _ = _
          show (isC r && (_ || _ || r.n == 1 && (o == 5 || o == 7))) = true
          rw [q1.1.1, q1.2]
          rcases q1.1.2 with e | e <;> rw [e] <;> simp
        have HZ : Hid (oF L o x y l r 5 = .con 0) := by
          show (if _ then _ else _) = _
          rcases q1.1.2 with e | e <;> rw [e] <;> simp
        clear hq q1
        obtain ⟨f0, f1, f2, f3, f4, f5, f6, f7, f8, f9, f10, f11, f12, f13, f14, f15⟩ := ask_facts HO.out.ask
        go_wp2_with fail
        refine (num_any HO.out.gr o x y l r (0) (in0) HO.out.laid hlen).mono ?_
        rintro e w5 ⟨rfl, a2, c2, hT2⟩
        have HT2 := Lib.hid hT2
        have HF2 := Lib.hid (HT2.out.row HO.out.frm HO.out.off.2)
        clear hT2
        simp only [formV]
        clear f0 f1 f2 f3 f4 f5 f6 f7 f8 f9 f10 f11 f12 f13 f14 f15
        obtain ⟨k0, k1, k2, z0, z1, z2, ks⟩ := form_facts HF2.out
        go_wp2
        have HR := Lib.hid (put3_row HF2.out ⟨0, addR L (kN (0)), 0⟩)
        have HE := Lib.hid (HO.out.end2 HT2.out ⟨0, addR L (kN (0)), 0⟩)
        clear k0 k1 k2 z0 z1 z2 ks
        change bodyPost _ _ _ _ _ (put3 w5 (b + 1) ⟨0, addR L (kN (0)), 0⟩)
        generalize put3 w5 (b + 1) ⟨0, addR L (kN (0)), 0⟩ = w99 at *
        obtain ⟨k0, k1, k2, _, _, _, ks⟩ := form_facts HR.out
        exact bodyPost_ret (v := .tuple #[formV ⟨0, addR L (kN (0)), 0⟩, .bool true]) (by simp [results, Tryz.results103, go_sem, formV, k0, k1, k2]) rfl (rule_yes (HC.out) ⟨0, addR L (kN (0)), 0⟩ rfl HE.out (by rw [HZ.out]; exact ⟨rfl, rfl⟩))
    | true =>
      have q1 := hq
      simp only [memO, List.any_cons, List.any_nil, Bool.or_false, Bool.and_eq_true, beq_iff_eq] at q1
      have HC : Hid (cB L o x y l r 5 = true) := by
        show _ = _
        show (isC r && (_ || r.n == -1 && o == 9 || _)) = true
        rw [q1.1.1, q1.2, q1.1.2]
        simp
      have HZ : Hid (oF L o x y l r 5 = .is y) := by
        show (if _ then _ else _) = _
        rw [q1.1.2]; simp
      clear hq q1
      obtain ⟨f0, f1, f2, f3, f4, f5, f6, f7, f8, f9, f10, f11, f12, f13, f14, f15⟩ := ask_facts HO.out.ask
      go_wp2_with fail
      refine (is_any y _).mono ?_
      rintro e w4 ⟨rfl, hk2⟩
      have HO2 := Lib.hid (HO.out.then (hk2))
      clear f0 f1 f2 f3 f4 f5 f6 f7 f8 f9 f10 f11 f12 f13 f14 f15
      clear HO
      have HO := HO2
      clear HO2
      clear hk2
      simp only [formV]
      obtain ⟨f0, f1, f2, f3, f4, f5, f6, f7, f8, f9, f10, f11, f12, f13, f14, f15⟩ := ask_facts HO.out.ask
      obtain ⟨k0, k1, k2, z0, z1, z2, ks⟩ := form_facts HO.out.frm
      go_wp2
      have HR := Lib.hid (put3_row HO.out.frm ⟨0, y, 0⟩)
      have HE := Lib.hid (HO.out.end1 ⟨0, y, 0⟩).2
      clear k0 k1 k2 z0 z1 z2 ks
      change bodyPost _ _ _ _ _ (put3 w4 (b + 1) ⟨0, y, 0⟩)
      generalize put3 w4 (b + 1) ⟨0, y, 0⟩ = w99 at *
      obtain ⟨k0, k1, k2, _, _, _, ks⟩ := form_facts HR.out
      exact bodyPost_ret (v := .tuple #[formV ⟨0, y, 0⟩, .bool true]) (by simp [results, Tryz.results103, go_sem, formV, k0, k1, k2]) rfl (rule_yes (HC.out) ⟨0, y, 0⟩ rfl ⟨_, _, HE.out⟩ (by rw [HZ.out]; exact ⟨rfl, rfl⟩))
  | true =>
    have q1 := hq
    simp only [memO, List.any_cons, List.any_nil, Bool.or_false, Bool.and_eq_true, Bool.or_eq_true, beq_iff_eq] at q1
    have HC : Hid (cB L o x y l r 5 = true) := by
      show _ = _
      show (isC r && (r.n == 0 && (o == 3 || o == 8 || o == 15) || _ || _)) = true
      rw [q1.1.1, q1.2]
      rcases q1.1.2 with e | e | e <;> rw [e] <;> simp
    have HZ : Hid (oF L o x y l r 5 = .is y) := by
      show (if _ then _ else _) = _
      rcases q1.1.2 with e | e | e <;> rw [e] <;> simp
    clear hq q1
    obtain ⟨f0, f1, f2, f3, f4, f5, f6, f7, f8, f9, f10, f11, f12, f13, f14, f15⟩ := ask_facts HO.out.ask
    go_wp2_with fail
    refine (is_any y _).mono ?_
    rintro e w3 ⟨rfl, hk2⟩
    have HO2 := Lib.hid (HO.out.then (hk2))
    clear f0 f1 f2 f3 f4 f5 f6 f7 f8 f9 f10 f11 f12 f13 f14 f15
    clear HO
    have HO := HO2
    clear HO2
    clear hk2
    simp only [formV]
    obtain ⟨f0, f1, f2, f3, f4, f5, f6, f7, f8, f9, f10, f11, f12, f13, f14, f15⟩ := ask_facts HO.out.ask
    obtain ⟨k0, k1, k2, z0, z1, z2, ks⟩ := form_facts HO.out.frm
    go_wp2
    have HR := Lib.hid (put3_row HO.out.frm ⟨0, y, 0⟩)
    have HE := Lib.hid (HO.out.end1 ⟨0, y, 0⟩).2
    clear k0 k1 k2 z0 z1 z2 ks
    change bodyPost _ _ _ _ _ (put3 w3 (b + 1) ⟨0, y, 0⟩)
    generalize put3 w3 (b + 1) ⟨0, y, 0⟩ = w99 at *
    obtain ⟨k0, k1, k2, _, _, _, ks⟩ := form_facts HR.out
    exact bodyPost_ret (v := .tuple #[formV ⟨0, y, 0⟩, .bool true]) (by simp [results, Tryz.results103, go_sem, formV, k0, k1, k2]) rfl (rule_yes (HC.out) ⟨0, y, 0⟩ rfl ⟨_, _, HE.out⟩ (by rw [HZ.out]; exact ⟨rfl, rfl⟩))
end Go.Proofs.YtgkjdmojbndicaaGreatDoor

namespace Go.Proofs.YtgkjdmojbndicaaGreatDoor
open Go Go.RowKit
set_option maxRecDepth 100000 in
set_option maxHeartbeats 8000000 in
theorem rule12_no {Bx : List Nd → Int → List Nd → Int → Int → Prop} {B g m c : Nat} {sa : Option Addr} {L : List Nd} {w : World} (h : GraphAt B w g m sa c L) (o x y : Int) (l r : Nd) (hl : Lk L l) (hr : r.Ok) (hlo : l.Ok) (hL : LaidN B w) (hlen : L.length ≤ 1000000000) (h15 : (o == 15) = false) :
    Calls Tryz.prog 111 #[askV o x y g l r] w (RuleQ Bx B g m sa L (oF L o x y l r 12) (cB L o x y l r 12) w) := by
  have HO := Lib.hid (own_start h hL o x y l r)
  have HL := Lib.hid hl
  have HRK := Lib.hid hr
  have HLK := Lib.hid hlo
  have HLEN := Lib.hid hlen
  have H15 := Lib.hid h15
  clear h hL hl hr hlo
  simp only [askV]
  go_enter Tryz.func111, Tryz.ntmps111
  go_upto_region 1 with (fail)
  change Code.wp _ _ _ _ ((w.alloc (askO o x y g l r)).alloc (formO 0 0 0))
  generalize (w.alloc (askO o x y g l r)).alloc (formO 0 0 0) = W at *
  obtain ⟨b, hb⟩ : ∃ b : Nat, b = w.heap.size := ⟨_, rfl⟩
  rw [← hb] at HO ⊢
  clear hb
  obtain ⟨f0, f1, f2, f3, f4, f5, f6, f7, f8, f9, f10, f11, f12, f13, f14, f15⟩ := ask_facts HO.out.ask
  go_wp2_with fail
  clear h15
  refine (of_any' o x y g l r _ _ _ [15] _ (ops_at rfl rfl rfl (Nat.le_of_ble_eq_true rfl))).mono ?_
  rintro e w2 ⟨rfl, hk2⟩
  have HO2 := Lib.hid (HO.out.then (((Kept.refl W).alloc (.cells #[.int .u8 15] 27)).trans hk2))
  clear f0 f1 f2 f3 f4 f5 f6 f7 f8 f9 f10 f11 f12 f13 f14 f15
  clear HO
  have HO := HO2
  clear HO2
  clear hk2
  have HM : Hid (memO [15] o = false) := by
    show _ = _
    simp only [memO, List.any_cons, List.any_nil, Bool.or_false]
    exact H15.out
  rw [HM.out]
  have HC : Hid (cB L o x y l r 12 = false) := by
    show _ = _
    show (o == 15 && _ && _) = false
    rw [H15.out]; rfl
  obtain ⟨f0, f1, f2, f3, f4, f5, f6, f7, f8, f9, f10, f11, f12, f13, f14, f15⟩ := ask_facts HO.out.ask
  obtain ⟨k0, k1, k2, z0, z1, z2, ks⟩ := form_facts HO.out.frm
  go_wp2
  have HR := Lib.hid (put3_row HO.out.frm ⟨0, 0, 0⟩)
  have HE := Lib.hid (HO.out.end1 ⟨0, 0, 0⟩).1
  clear k0 k1 k2 z0 z1 z2 ks
  change bodyPost _ _ _ _ _ (put3 w2 (b + 1) ⟨0, 0, 0⟩)
  generalize put3 w2 (b + 1) ⟨0, 0, 0⟩ = w99 at *
  obtain ⟨k0, k1, k2, _, _, _, ks⟩ := form_facts HR.out
  exact bodyPost_ret (v := .tuple #[formV ⟨0, 0, 0⟩, .bool false]) (by simp [results, Tryz.results111, go_sem, formV, k0, k1, k2]) rfl (rule_no (HC.out) ⟨0, 0, 0⟩ rfl HE.out)
end Go.Proofs.YtgkjdmojbndicaaGreatDoor

namespace Go.Proofs.YtgkjdmojbndicaaGreatDoor
open Go Go.RowKit
/-- What Not comes to. -/
def NotC (Bn : List Nd → Int → List Nd → Int → Prop) (B g m : Nat) (sa : Option Addr) (L : List Nd) (y : Int) : Prop := ∀ (c : Nat) (w : World), GraphAt B w g m sa c L → LaidN B w →
  Calls Tryz.prog 14 #[.pointer (some ⟨g, 0, none⟩), .int .i64 y] w fun e w' => ∃ t L1 a1 c1, e = .returned (.int .i64 t) ∧ GTo B g m sa w w' a1 c1 L1 ∧ Bn L y L1 t ∧ L1.length ≤ 1000000000
def BxN (Bn : List Nd → Int → List Nd → Int → Prop) (L : List Nd) (y : Int) (L' : List Nd) (t z : Int) : Prop := ∃ L1, Bn L y L1 t ∧ L' = addL L1 (kN 0) ∧ z = addR L1 (kN 0)
set_option maxRecDepth 100000 in
set_option maxHeartbeats 8000000 in
theorem rule12_yes {B g m c : Nat} {sa : Option Addr} {L : List Nd} {w : World} (h : GraphAt B w g m sa c L) (x y : Int) (l r : Nd) (hl : Lk L l) (hr : r.Ok) (hlo : l.Ok) (hL : LaidN B w) (hlen : L.length ≤ 1000000000) {Bn : List Nd → Int → List Nd → Int → Prop} (hnot : NotC Bn B g m sa L y) :
    Calls Tryz.prog 111 #[askV 15 x y g l r] w (RuleQ (BxN Bn) B g m sa L (oF L 15 x y l r 12) (cB L 15 x y l r 12) w) := by
  have HO := Lib.hid (own_start h hL 15 x y l r)
  have HL := Lib.hid hl
  have HRK := Lib.hid hr
  have HLK := Lib.hid hlo
  have HLEN := Lib.hid hlen
  have HNOT := Lib.hid hnot
  clear h hL hl hr hlo hnot
  simp only [askV]
  go_enter Tryz.func111, Tryz.ntmps111
  go_upto_region 1 with (fail)
  change Code.wp _ _ _ _ ((w.alloc (askO 15 x y g l r)).alloc (formO 0 0 0))
  generalize (w.alloc (askO 15 x y g l r)).alloc (formO 0 0 0) = W at *
  obtain ⟨b, hb⟩ : ∃ b : Nat, b = w.heap.size := ⟨_, rfl⟩
  rw [← hb] at HO ⊢
  clear hb
  obtain ⟨f0, f1, f2, f3, f4, f5, f6, f7, f8, f9, f10, f11, f12, f13, f14, f15⟩ := ask_facts HO.out.ask
  go_wp2_with fail
  refine (of_any' 15 x y g l r _ _ _ [15] _ (ops_at rfl rfl rfl (Nat.le_of_ble_eq_true rfl))).mono ?_
  rintro e w2 ⟨rfl, hk2⟩
  have HO2 := Lib.hid (HO.out.then (((Kept.refl W).alloc (.cells #[.int .u8 15] 27)).trans hk2))
  clear f0 f1 f2 f3 f4 f5 f6 f7 f8 f9 f10 f11 f12 f13 f14 f15
  clear HO
  have HO := HO2
  clear HO2
  clear hk2
  have HM : Hid (memO [15] 15 = true) := rfl
  rw [HM.out]
  by_cases h1 : l.k = 1
  · have m1 : (l.k != 1) = false := by rw [h1]; rfl
    by_cases h2 : l.n = 0
    · have m2 : (l.n != 0) = false := by rw [h2]; rfl
      have HC : Hid (cB L 15 x y l r 12 = true) := by
        show ((15 : Int) == 15 && isC l && l.n == 0) = true
        rw [(isC_iff l).2 h1, h2]; rfl
      clear h1 h2
      obtain ⟨f0, f1, f2, f3, f4, f5, f6, f7, f8, f9, f10, f11, f12, f13, f14, f15⟩ := ask_facts HO.out.ask
      go_wp2
      clear m1 m2
      clear f0 f1 f2 f3 f4 f5 f6 f7 f8 f9 f10 f11 f12 f13 f14 f15
      have SK : Hid (∀ w', Kept w2 w' → w'.cell? ⟨b, 0, none⟩ = some (.int .u8 15) ∧ w'.cell? ⟨b, 1, none⟩ = some (.int .i64 x) ∧ w'.cell? ⟨b, 2, none⟩ = some (.int .i64 y) ∧ w'.cell? ⟨b, 3, none⟩ = some (.pointer (some ⟨g, 0, none⟩)) ∧ w'.cell? ⟨b, 4, none⟩ = some (.int .u8 l.k) ∧ w'.cell? ⟨b, 5, none⟩ = some (.int .i64 l.n) ∧ w'.cell? ⟨b, 6, none⟩ = some (.int .i64 l.a) ∧ w'.cell? ⟨b, 7, none⟩ = some (.int .u8 l.o) ∧ w'.cell? ⟨b, 8, none⟩ = some (.int .i64 l.x) ∧ w'.cell? ⟨b, 9, none⟩ = some (.int .i64 l.y) ∧ w'.cell? ⟨b, 10, none⟩ = some (.int .u8 r.k) ∧ w'.cell? ⟨b, 11, none⟩ = some (.int .i64 r.n) ∧ w'.cell? ⟨b, 12, none⟩ = some (.int .i64 r.a) ∧ w'.cell? ⟨b, 13, none⟩ = some (.int .u8 r.o) ∧ w'.cell? ⟨b, 14, none⟩ = some (.int .i64 r.x) ∧ w'.cell? ⟨b, 15, none⟩ = some (.int .i64 r.y)) := fun w' hk => ask_facts (hk.row HO.out.ask)
      go_region_held3 (fun w' => w'.cell? ⟨b, 0, none⟩ = some (.int .u8 15) ∧ w'.cell? ⟨b, 1, none⟩ = some (.int .i64 x) ∧ w'.cell? ⟨b, 2, none⟩ = some (.int .i64 y) ∧ w'.cell? ⟨b, 3, none⟩ = some (.pointer (some ⟨g, 0, none⟩)) ∧ w'.cell? ⟨b, 4, none⟩ = some (.int .u8 l.k) ∧ w'.cell? ⟨b, 5, none⟩ = some (.int .i64 l.n) ∧ w'.cell? ⟨b, 6, none⟩ = some (.int .i64 l.a) ∧ w'.cell? ⟨b, 7, none⟩ = some (.int .u8 l.o) ∧ w'.cell? ⟨b, 8, none⟩ = some (.int .i64 l.x) ∧ w'.cell? ⟨b, 9, none⟩ = some (.int .i64 l.y) ∧ w'.cell? ⟨b, 10, none⟩ = some (.int .u8 r.k) ∧ w'.cell? ⟨b, 11, none⟩ = some (.int .i64 r.n) ∧ w'.cell? ⟨b, 12, none⟩ = some (.int .i64 r.a) ∧ w'.cell? ⟨b, 13, none⟩ = some (.int .u8 r.o) ∧ w'.cell? ⟨b, 14, none⟩ = some (.int .i64 r.x) ∧ w'.cell? ⟨b, 15, none⟩ = some (.int .i64 r.y))
        (first | exact SK.out _ (Kept.refl _) | exact SK.out _ (Kept.drew (Kept.refl _)) | exact ask_facts HA1.out | exact ask_facts HA2.out | exact ask_facts (put3_ask HA2.out _ _ _))
        (first
          | (go_at_call 14; refine (HNOT.out c _ (HO.out.then (Kept.drew (Kept.refl _))).gr (HO.out.then (Kept.drew (Kept.refl _))).laid).mono ?_; rintro e w50 ⟨t, L1, a1, c1, rfl, hT1, hB1, hl1⟩; have HT1 := Lib.hid (hT1.pre (Kept.drew (Kept.refl w2))); have HB1 := Lib.hid hB1; have HL1 := Lib.hid hl1; have HA1 := Lib.hid (HT1.out.row HO.out.ask HO.out.off.1); have HF1 := Lib.hid (HT1.out.row HO.out.frm HO.out.off.2); have HLN1 : Hid (LaidN B w50) := HO.out.laid.gto HO.out.gr HT1.out; clear hT1 hB1 hl1)
          | (go_at_call 98; refine (to_any HT1.out.gr 15 x y l r 16 t 0 in0 HLN1.out HL1.out).mono ?_; rintro e w51 ⟨rfl, a2, c2, hT2⟩; have HT2 := Lib.hid (HT1.out.trans hT2); have HF2 := Lib.hid (HT2.out.row HO.out.frm HO.out.off.2); have HA2 := Lib.hid (HT2.out.row HO.out.ask HO.out.off.1); clear hT2; simp only [formV]; obtain ⟨k0, k1, k2, z0, z1, z2, ks⟩ := form_facts HF2.out))
      clear SK
      go_wp2
      have HR := Lib.hid (put3_row HF2.out ⟨16, t, addR L1 (kN 0)⟩)
      have HE := Lib.hid (HO.out.end2 HT2.out ⟨16, t, addR L1 (kN 0)⟩)
      clear k0 k1 k2 z0 z1 z2 ks
      change bodyPost _ _ _ _ _ (put3 w51 (b + 1) ⟨16, t, addR L1 (kN 0)⟩)
      generalize put3 w51 (b + 1) ⟨16, t, addR L1 (kN 0)⟩ = w99 at *
      obtain ⟨k0, k1, k2, _, _, _, ks⟩ := form_facts HR.out
      exact bodyPost_ret (v := .tuple #[formV ⟨16, t, addR L1 (kN 0)⟩, .bool true]) (by simp [results, Tryz.results111, go_sem, formV, k0, k1, k2]) rfl (rule_yes HC.out ⟨16, t, addR L1 (kN 0)⟩ rfl HE.out ⟨t, _, ⟨L1, HB1.out, rfl, rfl⟩, rfl⟩)
    · have m2 : (l.n != 0) = true := bne_iff_ne.2 h2
      have HC : Hid (cB L 15 x y l r 12 = false) := by
        show ((15 : Int) == 15 && isC l && l.n == 0) = false
        rw [beq_eq_false_iff_ne.2 h2]; simp
      clear h1 h2
      obtain ⟨f0, f1, f2, f3, f4, f5, f6, f7, f8, f9, f10, f11, f12, f13, f14, f15⟩ := ask_facts HO.out.ask
      obtain ⟨k0, k1, k2, z0, z1, z2, ks⟩ := form_facts HO.out.frm
      go_wp2
      have HR := Lib.hid (put3_row HO.out.frm ⟨0, 0, 0⟩)
      have HE := Lib.hid (HO.out.end1 ⟨0, 0, 0⟩).1
      clear k0 k1 k2 z0 z1 z2 ks
      change bodyPost _ _ _ _ _ (put3 w2 (b + 1) ⟨0, 0, 0⟩)
      generalize put3 w2 (b + 1) ⟨0, 0, 0⟩ = w99 at *
      obtain ⟨k0, k1, k2, _, _, _, ks⟩ := form_facts HR.out
      exact bodyPost_ret (v := .tuple #[formV ⟨0, 0, 0⟩, .bool false]) (by simp [results, Tryz.results111, go_sem, formV, k0, k1, k2]) rfl (rule_no (HC.out) ⟨0, 0, 0⟩ rfl HE.out)
  · have m1 : (l.k != 1) = true := bne_iff_ne.2 h1
    have HC : Hid (cB L 15 x y l r 12 = false) := by
      show ((15 : Int) == 15 && isC l && l.n == 0) = false
      rw [show isC l = false from beq_eq_false_iff_ne.2 h1]; simp
    clear h1
    obtain ⟨f0, f1, f2, f3, f4, f5, f6, f7, f8, f9, f10, f11, f12, f13, f14, f15⟩ := ask_facts HO.out.ask
    obtain ⟨k0, k1, k2, z0, z1, z2, ks⟩ := form_facts HO.out.frm
    go_wp2
    have HR := Lib.hid (put3_row HO.out.frm ⟨0, 0, 0⟩)
    have HE := Lib.hid (HO.out.end1 ⟨0, 0, 0⟩).1
    clear k0 k1 k2 z0 z1 z2 ks
    change bodyPost _ _ _ _ _ (put3 w2 (b + 1) ⟨0, 0, 0⟩)
    generalize put3 w2 (b + 1) ⟨0, 0, 0⟩ = w99 at *
    obtain ⟨k0, k1, k2, _, _, _, ks⟩ := form_facts HR.out
    exact bodyPost_ret (v := .tuple #[formV ⟨0, 0, 0⟩, .bool false]) (by simp [results, Tryz.results111, go_sem, formV, k0, k1, k2]) rfl (rule_no (HC.out) ⟨0, 0, 0⟩ rfl HE.out)
end Go.Proofs.YtgkjdmojbndicaaGreatDoor

namespace Go.Proofs.YtgkjdmojbndicaaGreatDoor
open Go Go.RowKit
set_option maxRecDepth 100000 in
set_option maxHeartbeats 8000000 in
theorem rule13_any {Bx : List Nd → Int → List Nd → Int → Int → Prop} {B g m c : Nat} {sa : Option Addr} {L : List Nd} {w : World} (h : GraphAt B w g m sa c L) (o x y : Int) (l r : Nd) (hl : Lk L l) (hr : r.Ok) (hlo : l.Ok) (hL : LaidN B w) (hlen : L.length ≤ 1000000000) :
    Calls Tryz.prog 112 #[askV o x y g l r] w (RuleQ Bx B g m sa L (oF L o x y l r 13) (cB L o x y l r 13) w) := by
  have HO := Lib.hid (own_start h hL o x y l r)
  have HL := Lib.hid hl
  have HRK := Lib.hid hr
  have HLK := Lib.hid hlo
  have HLEN := Lib.hid hlen
  clear h hL hl hr hlo
  simp only [askV]
  go_enter Tryz.func112, Tryz.ntmps112
  go_upto_region 1 with (fail)
  change Code.wp _ _ _ _ ((w.alloc (askO o x y g l r)).alloc (formO 0 0 0))
  generalize (w.alloc (askO o x y g l r)).alloc (formO 0 0 0) = W at *
  obtain ⟨b, hb⟩ : ∃ b : Nat, b = w.heap.size := ⟨_, rfl⟩
  rw [← hb] at HO ⊢
  clear hb
  obtain ⟨f0, f1, f2, f3, f4, f5, f6, f7, f8, f9, f10, f11, f12, f13, f14, f15⟩ := ask_facts HO.out.ask
  go_wp2_with fail
  refine (behind_any (HO.out.gr.kept ((Kept.refl W).alloc (.cells #[.int .u8 1, .int .u8 10] 27))) o x y l r HL.out _ _ _ [1, 10] (ops_at rfl rfl rfl (Nat.le_of_ble_eq_true rfl))).mono ?_
  rintro e w2 ⟨rfl, hk2⟩
  have HO2 := Lib.hid (HO.out.then (((Kept.refl W).alloc (.cells #[.int .u8 1, .int .u8 10] 27)).trans hk2))
  clear f0 f1 f2 f3 f4 f5 f6 f7 f8 f9 f10 f11 f12 f13 f14 f15
  clear HO
  have HO := HO2
  clear HO2
  clear hk2
  cases hb : (behO L l [1, 10]) with
  | false =>
    have HC : Hid (cB L o x y l r 13 = false) := by
      show _ = _
      show (_ && _ && (behB L l 1 || behB L l 10)) = false
      rw [behO_two] at hb
      rw [hb]; simp
    clear hb
    obtain ⟨f0, f1, f2, f3, f4, f5, f6, f7, f8, f9, f10, f11, f12, f13, f14, f15⟩ := ask_facts HO.out.ask
    obtain ⟨k0, k1, k2, z0, z1, z2, ks⟩ := form_facts HO.out.frm
    go_wp2
    have HR := Lib.hid (put3_row HO.out.frm ⟨0, 0, 0⟩)
    have HE := Lib.hid (HO.out.end1 ⟨0, 0, 0⟩).1
    clear k0 k1 k2 z0 z1 z2 ks
    change bodyPost _ _ _ _ _ (put3 w2 (b + 1) ⟨0, 0, 0⟩)
    generalize put3 w2 (b + 1) ⟨0, 0, 0⟩ = w99 at *
    obtain ⟨k0, k1, k2, _, _, _, ks⟩ := form_facts HR.out
    exact bodyPost_ret (v := .tuple #[formV ⟨0, 0, 0⟩, .bool false]) (by simp [results, Tryz.results112, go_sem, formV, k0, k1, k2]) rfl (rule_no (HC.out) ⟨0, 0, 0⟩ rfl HE.out)
  | true =>
    have hv : behV L l [1, 10] = behN L l := by unfold behV; rw [hb]; rfl
    rw [hv]
    rw [behO_two] at hb
    clear hv
    have H4 : Hid (l.k = 4) := by
      show _ = _
      rw [Bool.or_eq_true, behB_iff, behB_iff] at hb
      rcases hb with h | h <;> exact h.1.1
    have HBB := Lib.hid hb
    clear hb
    obtain ⟨f0, f1, f2, f3, f4, f5, f6, f7, f8, f9, f10, f11, f12, f13, f14, f15⟩ := ask_facts HO.out.ask
    go_wp2_with fail
    refine (ofnum_any o x y g l r _ _ _ [16] _ (ops_at rfl rfl rfl (Nat.le_of_ble_eq_true rfl))).mono ?_
    rintro e w3 ⟨rfl, hk2⟩
    have HO2 := Lib.hid (HO.out.then (((Kept.refl w2).alloc (.cells #[.int .u8 16] 27)).trans hk2))
    clear f0 f1 f2 f3 f4 f5 f6 f7 f8 f9 f10 f11 f12 f13 f14 f15
    clear HO
    have HO := HO2
    clear HO2
    clear hk2
    cases hq : (isC r && memO [16] o) with
    | false =>
      have HC : Hid (cB L o x y l r 13 = false) := by
        show _ = _
        show (o == 16 && isC r && _) = false
        have a1 := hq
        simp only [memO, List.any_cons, List.any_nil, Bool.or_false] at a1
        rw [Bool.and_comm (o == 16), a1]; rfl
      clear hq
      obtain ⟨f0, f1, f2, f3, f4, f5, f6, f7, f8, f9, f10, f11, f12, f13, f14, f15⟩ := ask_facts HO.out.ask
      obtain ⟨k0, k1, k2, z0, z1, z2, ks⟩ := form_facts HO.out.frm
      go_wp2
      have HR := Lib.hid (put3_row HO.out.frm ⟨0, 0, 0⟩)
      have HE := Lib.hid (HO.out.end1 ⟨0, 0, 0⟩).1
      clear k0 k1 k2 z0 z1 z2 ks
      change bodyPost _ _ _ _ _ (put3 w3 (b + 1) ⟨0, 0, 0⟩)
      generalize put3 w3 (b + 1) ⟨0, 0, 0⟩ = w99 at *
      obtain ⟨k0, k1, k2, _, _, _, ks⟩ := form_facts HR.out
      exact bodyPost_ret (v := .tuple #[formV ⟨0, 0, 0⟩, .bool false]) (by simp [results, Tryz.results112, go_sem, formV, k0, k1, k2]) rfl (rule_no (HC.out) ⟨0, 0, 0⟩ rfl HE.out)
    | true =>
      have HC : Hid (cB L o x y l r 13 = true) := by
        show _ = _
        show (o == 16 && isC r && (behB L l 1 || behB L l 10)) = true
        have a1 := hq
        simp only [memO, List.any_cons, List.any_nil, Bool.or_false] at a1
        rw [Bool.and_comm (o == 16), a1, HBB.out]; rfl
      clear hq
      obtain ⟨f0, f1, f2, f3, f4, f5, f6, f7, f8, f9, f10, f11, f12, f13, f14, f15⟩ := ask_facts HO.out.ask
      go_wp2_with fail
      refine (leftof_any o x y g l r _ _ _ [1] _ (ops_at rfl rfl rfl (Nat.le_of_ble_eq_true rfl))).mono ?_
      rintro e w4 ⟨rfl, hk2⟩
      have HO2 := Lib.hid (HO.out.then (((Kept.refl w3).alloc (.cells #[.int .u8 1] 27)).trans hk2))
      clear f0 f1 f2 f3 f4 f5 f6 f7 f8 f9 f10 f11 f12 f13 f14 f15
      clear HO
      have HO := HO2
      clear HO2
      clear hk2
      cases hg : (l.k == 4 && memO [1] l.o) with
      | false =>
        have HZ : Hid (oF L o x y l r 13 = .num 16 l.x (opI 10 r.n (behN L l))) := by
          show Out.num _ _ (if _ then _ else _) = _
          have a1 := hg
          simp only [memO, List.any_cons, List.any_nil, Bool.or_false] at a1
          rw [show (l.k == 4) = true from beq_iff_eq.2 H4.out, Bool.true_and] at a1
          rw [a1]; rfl
        clear hg
        have hx : bits .xor .i64 r.n (behN L l) = opI 10 r.n (behN L l) := xor_i64 _ _
        obtain ⟨f0, f1, f2, f3, f4, f5, f6, f7, f8, f9, f10, f11, f12, f13, f14, f15⟩ := ask_facts HO.out.ask
        go_wp2_with fail
        clear hx
        refine (to_any HO.out.gr o x y l r (16) (l.x) (opI 10 r.n (behN L l)) (opI_in _ _ _) HO.out.laid hlen).mono ?_
        rintro e w5 ⟨rfl, a2, c2, hT2⟩
        have HT2 := Lib.hid hT2
        have HF2 := Lib.hid (HT2.out.row HO.out.frm HO.out.off.2)
        clear hT2
        simp only [formV]
        clear f0 f1 f2 f3 f4 f5 f6 f7 f8 f9 f10 f11 f12 f13 f14 f15
        obtain ⟨k0, k1, k2, z0, z1, z2, ks⟩ := form_facts HF2.out
        go_wp2
        have HR := Lib.hid (put3_row HF2.out ⟨16, l.x, addR L (kN (opI 10 r.n (behN L l)))⟩)
        have HE := Lib.hid (HO.out.end2 HT2.out ⟨16, l.x, addR L (kN (opI 10 r.n (behN L l)))⟩)
        clear k0 k1 k2 z0 z1 z2 ks
        change bodyPost _ _ _ _ _ (put3 w5 (b + 1) ⟨16, l.x, addR L (kN (opI 10 r.n (behN L l)))⟩)
        generalize put3 w5 (b + 1) ⟨16, l.x, addR L (kN (opI 10 r.n (behN L l)))⟩ = w99 at *
        obtain ⟨k0, k1, k2, _, _, _, ks⟩ := form_facts HR.out
        exact bodyPost_ret (v := .tuple #[formV ⟨16, l.x, addR L (kN (opI 10 r.n (behN L l)))⟩, .bool true]) (by simp [results, Tryz.results112, go_sem, formV, k0, k1, k2]) rfl (rule_yes (HC.out) ⟨16, l.x, addR L (kN (opI 10 r.n (behN L l)))⟩ rfl HE.out (by rw [HZ.out]; exact ⟨rfl, rfl⟩))
      | true =>
        have HZ : Hid (oF L o x y l r 13 = .num 16 l.x (opI 2 r.n (behN L l))) := by
          show Out.num _ _ (if _ then _ else _) = _
          have a1 := hg
          simp only [memO, List.any_cons, List.any_nil, Bool.or_false] at a1
          rw [show (l.k == 4) = true from beq_iff_eq.2 H4.out, Bool.true_and] at a1
          rw [a1]; rfl
        clear hg
        have hsub := sub_op1 r.n (behN L l)
        obtain ⟨f0, f1, f2, f3, f4, f5, f6, f7, f8, f9, f10, f11, f12, f13, f14, f15⟩ := ask_facts HO.out.ask
        go_wp2_with fail
        clear hsub
        refine (to_any HO.out.gr o x y l r (16) (l.x) (opI 2 r.n (behN L l)) (opI_in _ _ _) HO.out.laid hlen).mono ?_
        rintro e w5 ⟨rfl, a2, c2, hT2⟩
        have HT2 := Lib.hid hT2
        have HF2 := Lib.hid (HT2.out.row HO.out.frm HO.out.off.2)
        clear hT2
        simp only [formV]
        clear f0 f1 f2 f3 f4 f5 f6 f7 f8 f9 f10 f11 f12 f13 f14 f15
        obtain ⟨k0, k1, k2, z0, z1, z2, ks⟩ := form_facts HF2.out
        go_wp2
        have HR := Lib.hid (put3_row HF2.out ⟨16, l.x, addR L (kN (opI 2 r.n (behN L l)))⟩)
        have HE := Lib.hid (HO.out.end2 HT2.out ⟨16, l.x, addR L (kN (opI 2 r.n (behN L l)))⟩)
        clear k0 k1 k2 z0 z1 z2 ks
        change bodyPost _ _ _ _ _ (put3 w5 (b + 1) ⟨16, l.x, addR L (kN (opI 2 r.n (behN L l)))⟩)
        generalize put3 w5 (b + 1) ⟨16, l.x, addR L (kN (opI 2 r.n (behN L l)))⟩ = w99 at *
        obtain ⟨k0, k1, k2, _, _, _, ks⟩ := form_facts HR.out
        exact bodyPost_ret (v := .tuple #[formV ⟨16, l.x, addR L (kN (opI 2 r.n (behN L l)))⟩, .bool true]) (by simp [results, Tryz.results112, go_sem, formV, k0, k1, k2]) rfl (rule_yes (HC.out) ⟨16, l.x, addR L (kN (opI 2 r.n (behN L l)))⟩ rfl HE.out (by rw [HZ.out]; exact ⟨rfl, rfl⟩))
end Go.Proofs.YtgkjdmojbndicaaGreatDoor
