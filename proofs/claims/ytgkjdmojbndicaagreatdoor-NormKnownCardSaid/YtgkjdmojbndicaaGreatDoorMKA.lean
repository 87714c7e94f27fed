/-
  Several texts in one: NTp1: Layer 4: the contract of a rule of norm (the truthAndNumber: Xor of what is turned).; NTp2: Layer 4: the contract of a rule of norm (the truthAndNumber: Xor and 1).; NTp3: Layer 4: the contract of a rule of norm (the truthAndNumber: Xor, none).; NTp4: Layer 4: the contract of a rule of norm (the truthAndNumber: Eq and 0 of what is turned)..
-/
import Derived.Test.YtgkjdmojbndicaaGreatDoorMI
namespace Go.Proofs.YtgkjdmojbndicaaGreatDoor
open Go Go.RowKit
set_option maxRecDepth 100000 in
set_option maxHeartbeats 8000000 in
theorem tnp1_any {Bx : List Nd → Int → List Nd → Int → Int → Prop} {B g m c : Nat} {sa : Option Addr} {L : List Nd} {w : World} (h : GraphAt B w g m sa c L) (x y : Int) (l r : Nd) (hl : Lk L l) (hr : r.Ok) (hlo : l.Ok) (hL : LaidN B w) (hlen : L.length ≤ 1000000000) (hp : oppB L l = true) :
    Calls Tryz.prog 116 #[askV 10 x y g l r] w (RuleQ Bx B g m sa L (tnF L 10 x r.n l) (tnB L 10 r.n l) w) := by
  have HO := Lib.hid (own_start h hL 10 x y l r)
  have HL := Lib.hid hl
  have HRK := Lib.hid hr
  have HLK := Lib.hid hlo
  have HLEN := Lib.hid hlen
  have Hp := Lib.hid hp
  clear h hL hl hr hlo hp
  simp only [askV]
  go_enter Tryz.func116, Tryz.ntmps116
  go_upto_region 1 with (fail)
  change Code.wp _ _ _ _ ((w.alloc (askO 10 x y g l r)).alloc (formO 0 0 0))
  generalize (w.alloc (askO 10 x y g l r)).alloc (formO 0 0 0) = W at *
  obtain ⟨b, hb⟩ : ∃ b : Nat, b = w.heap.size := ⟨_, rfl⟩
  rw [← hb] at HO ⊢
  clear hb
  have M10 : Hid (memO [10] 10 = true) := rfl
  have HC : Hid (tnB L 10 r.n l = true) := by
    show _ = _
    unfold tnB
    rw [Hp.out]; simp
  have HZ : Hid (tnF L 10 x r.n l = .num 10 l.x (opI 10 r.n 1)) := by
    show _ = _
    unfold tnF
    rw [Hp.out]; rfl
  obtain ⟨f0, f1, f2, f3, f4, f5, f6, f7, f8, f9, f10, f11, f12, f13, f14, f15⟩ := ask_facts HO.out.ask
  go_wp2_with fail
  refine (opposite_any HO.out.gr 10 x y l r HL.out).mono ?_
  rintro e w2 ⟨rfl, hk2⟩
  have HO2 := Lib.hid (HO.out.then (hk2))
  clear f0 f1 f2 f3 f4 f5 f6 f7 f8 f9 f10 f11 f12 f13 f14 f15
  clear HO
  have HO := HO2
  clear HO2
  clear hk2
  rw [Hp.out]
  have hx : oppX L l = l.x := by unfold oppX; rw [Hp.out]; rfl
  rw [hx]
  clear hx
  generalize Value.agg #[Value.int .u8 10, Value.int .i64 x, Value.int .i64 y, Value.pointer (some ⟨g, 0, none⟩), Value.int .u8 l.k, Value.int .i64 l.n, Value.int .i64 l.a, Value.int .u8 l.o, Value.int .i64 l.x, Value.int .i64 l.y, Value.int .u8 r.k, Value.int .i64 r.n, Value.int .i64 r.a, Value.int .u8 r.o, Value.int .i64 r.x, Value.int .i64 r.y] = A1
  obtain ⟨f0, f1, f2, f3, f4, f5, f6, f7, f8, f9, f10, f11, f12, f13, f14, f15⟩ := ask_facts HO.out.ask
  go_wp2_with fail
  refine (of_any' 10 x y g l r _ _ _ [10] _ (ops_at rfl rfl rfl (Nat.le_of_ble_eq_true rfl))).mono ?_
  rintro e w3 ⟨rfl, hk2⟩
  have HO2 := Lib.hid (HO.out.then (((Kept.refl w2).alloc (.cells #[.int .u8 10] 27)).trans hk2))
  clear f0 f1 f2 f3 f4 f5 f6 f7 f8 f9 f10 f11 f12 f13 f14 f15
  clear HO
  have HO := HO2
  clear HO2
  clear hk2
  rw [M10.out]
  generalize Value.agg #[Value.int .u8 10, Value.int .i64 x, Value.int .i64 y, Value.pointer (some ⟨g, 0, none⟩), Value.int .u8 l.k, Value.int .i64 l.n, Value.int .i64 l.a, Value.int .u8 l.o, Value.int .i64 l.x, Value.int .i64 l.y, Value.int .u8 r.k, Value.int .i64 r.n, Value.int .i64 r.a, Value.int .u8 r.o, Value.int .i64 r.x, Value.int .i64 r.y] = A2
  have hxo : bits .xor .i64 r.n 1 = opI 10 r.n 1 := xor_i64 _ _
  obtain ⟨f0, f1, f2, f3, f4, f5, f6, f7, f8, f9, f10, f11, f12, f13, f14, f15⟩ := ask_facts HO.out.ask
  go_wp2_with fail
  clear hxo
  refine (to_any HO.out.gr 10 x y l r (10) (l.x) (opI 10 r.n 1) (opI_in _ _ _) HO.out.laid hlen).mono ?_
  rintro e w4 ⟨rfl, a2, c2, hT2⟩
  have HT2 := Lib.hid hT2
  have HF2 := Lib.hid (HT2.out.row HO.out.frm HO.out.off.2)
  clear hT2
  simp only [formV]
  clear f0 f1 f2 f3 f4 f5 f6 f7 f8 f9 f10 f11 f12 f13 f14 f15
  obtain ⟨k0, k1, k2, z0, z1, z2, ks⟩ := form_facts HF2.out
  go_wp2
  have HR := Lib.hid (put3_row HF2.out ⟨10, l.x, addR L (kN (opI 10 r.n 1))⟩)
  have HE := Lib.hid (HO.out.end2 HT2.out ⟨10, l.x, addR L (kN (opI 10 r.n 1))⟩)
  clear k0 k1 k2 z0 z1 z2 ks
  change bodyPost _ _ _ _ _ (put3 w4 (b + 1) ⟨10, l.x, addR L (kN (opI 10 r.n 1))⟩)
  generalize put3 w4 (b + 1) ⟨10, l.x, addR L (kN (opI 10 r.n 1))⟩ = w99 at *
  obtain ⟨k0, k1, k2, _, _, _, ks⟩ := form_facts HR.out
  exact bodyPost_ret (v := .tuple #[formV ⟨10, l.x, addR L (kN (opI 10 r.n 1))⟩, .bool true]) (by simp [results, Tryz.results116, go_sem, formV, k0, k1, k2]) rfl (rule_yes (HC.out) ⟨10, l.x, addR L (kN (opI 10 r.n 1))⟩ rfl HE.out (by rw [HZ.out]; exact ⟨rfl, rfl⟩))
end Go.Proofs.YtgkjdmojbndicaaGreatDoor

namespace Go.Proofs.YtgkjdmojbndicaaGreatDoor
open Go Go.RowKit
set_option maxRecDepth 100000 in
set_option maxHeartbeats 8000000 in
theorem tnp2_any {Bx : List Nd → Int → List Nd → Int → Int → Prop} {B g m c : Nat} {sa : Option Addr} {L : List Nd} {w : World} (h : GraphAt B w g m sa c L) (x y : Int) (l r : Nd) (hl : Lk L l) (hr : r.Ok) (hlo : l.Ok) (hL : LaidN B w) (hlen : L.length ≤ 1000000000) (hp : oppB L l = false) (hu : (r.n == 1) = true) :
    Calls Tryz.prog 116 #[askV 10 x y g l r] w (RuleQ Bx B g m sa L (tnF L 10 x r.n l) (tnB L 10 r.n l) w) := by
  have HO := Lib.hid (own_start h hL 10 x y l r)
  have HL := Lib.hid hl
  have HRK := Lib.hid hr
  have HLK := Lib.hid hlo
  have HLEN := Lib.hid hlen
  have Hp := Lib.hid hp
  have Hu := Lib.hid hu
  clear h hL hl hr hlo hp hu
  simp only [askV]
  go_enter Tryz.func116, Tryz.ntmps116
  go_upto_region 1 with (fail)
  change Code.wp _ _ _ _ ((w.alloc (askO 10 x y g l r)).alloc (formO 0 0 0))
  generalize (w.alloc (askO 10 x y g l r)).alloc (formO 0 0 0) = W at *
  obtain ⟨b, hb⟩ : ∃ b : Nat, b = w.heap.size := ⟨_, rfl⟩
  rw [← hb] at HO ⊢
  clear hb
  have M10 : Hid (memO [10] 10 = true) := rfl
  have HC : Hid (tnB L 10 r.n l = true) := by
    show _ = _
    unfold tnB
    rw [Hp.out, Hu.out]; rfl
  have HZ : Hid (tnF L 10 x r.n l = .num 16 x 0) := by
    show _ = _
    unfold tnF
    rw [Hp.out]; rfl
  obtain ⟨f0, f1, f2, f3, f4, f5, f6, f7, f8, f9, f10, f11, f12, f13, f14, f15⟩ := ask_facts HO.out.ask
  go_wp2_with fail
  refine (opposite_any HO.out.gr 10 x y l r HL.out).mono ?_
  rintro e w2 ⟨rfl, hk2⟩
  have HO2 := Lib.hid (HO.out.then (hk2))
  clear f0 f1 f2 f3 f4 f5 f6 f7 f8 f9 f10 f11 f12 f13 f14 f15
  clear HO
  have HO := HO2
  clear HO2
  clear hk2
  rw [Hp.out]
  generalize oppX L l = ox
  generalize Value.agg #[Value.int .u8 10, Value.int .i64 x, Value.int .i64 y, Value.pointer (some ⟨g, 0, none⟩), Value.int .u8 l.k, Value.int .i64 l.n, Value.int .i64 l.a, Value.int .u8 l.o, Value.int .i64 l.x, Value.int .i64 l.y, Value.int .u8 r.k, Value.int .i64 r.n, Value.int .i64 r.a, Value.int .u8 r.o, Value.int .i64 r.x, Value.int .i64 r.y] = A1
  obtain ⟨f0, f1, f2, f3, f4, f5, f6, f7, f8, f9, f10, f11, f12, f13, f14, f15⟩ := ask_facts HO.out.ask
  go_wp2_with fail
  refine (of_any' 10 x y g l r _ _ _ [10] _ (ops_at rfl rfl rfl (Nat.le_of_ble_eq_true rfl))).mono ?_
  rintro e w3 ⟨rfl, hk2⟩
  have HO2 := Lib.hid (HO.out.then (((Kept.refl w2).alloc (.cells #[.int .u8 10] 27)).trans hk2))
  clear f0 f1 f2 f3 f4 f5 f6 f7 f8 f9 f10 f11 f12 f13 f14 f15
  clear HO
  have HO := HO2
  clear HO2
  clear hk2
  rw [M10.out]
  generalize Value.agg #[Value.int .u8 10, Value.int .i64 x, Value.int .i64 y, Value.pointer (some ⟨g, 0, none⟩), Value.int .u8 l.k, Value.int .i64 l.n, Value.int .i64 l.a, Value.int .u8 l.o, Value.int .i64 l.x, Value.int .i64 l.y, Value.int .u8 r.k, Value.int .i64 r.n, Value.int .i64 r.a, Value.int .u8 r.o, Value.int .i64 r.x, Value.int .i64 r.y] = A2
  obtain ⟨f0, f1, f2, f3, f4, f5, f6, f7, f8, f9, f10, f11, f12, f13, f14, f15⟩ := ask_facts HO.out.ask
  go_wp2_with fail
  refine (of_any' 10 x y g l r _ _ _ [10] _ (ops_at rfl rfl rfl (Nat.le_of_ble_eq_true rfl))).mono ?_
  rintro e w4 ⟨rfl, hk2⟩
  have HO2 := Lib.hid (HO.out.then (((Kept.refl w3).alloc (.cells #[.int .u8 10] 27)).trans hk2))
  clear f0 f1 f2 f3 f4 f5 f6 f7 f8 f9 f10 f11 f12 f13 f14 f15
  clear HO
  have HO := HO2
  clear HO2
  clear hk2
  rw [M10.out]
  generalize Value.agg #[Value.int .u8 10, Value.int .i64 x, Value.int .i64 y, Value.pointer (some ⟨g, 0, none⟩), Value.int .u8 l.k, Value.int .i64 l.n, Value.int .i64 l.a, Value.int .u8 l.o, Value.int .i64 l.x, Value.int .i64 l.y, Value.int .u8 r.k, Value.int .i64 r.n, Value.int .i64 r.a, Value.int .u8 r.o, Value.int .i64 r.x, Value.int .i64 r.y] = A3
  have mu := Hu.out
  obtain ⟨f0, f1, f2, f3, f4, f5, f6, f7, f8, f9, f10, f11, f12, f13, f14, f15⟩ := ask_facts HO.out.ask
  go_wp2_with fail
  clear mu
  refine (to_any HO.out.gr 10 x y l r (16) (x) (0) (in0) HO.out.laid hlen).mono ?_
  rintro e w5 ⟨rfl, a2, c2, hT2⟩
  have HT2 := Lib.hid hT2
  have HF2 := Lib.hid (HT2.out.row HO.out.frm HO.out.off.2)
  clear hT2
  simp only [formV]
  clear f0 f1 f2 f3 f4 f5 f6 f7 f8 f9 f10 f11 f12 f13 f14 f15
  obtain ⟨k0, k1, k2, z0, z1, z2, ks⟩ := form_facts HF2.out
  go_wp2
  have HR := Lib.hid (put3_row HF2.out ⟨16, x, addR L (kN (0))⟩)
  have HE := Lib.hid (HO.out.end2 HT2.out ⟨16, x, addR L (kN (0))⟩)
  clear k0 k1 k2 z0 z1 z2 ks
  change bodyPost _ _ _ _ _ (put3 w5 (b + 1) ⟨16, x, addR L (kN (0))⟩)
  generalize put3 w5 (b + 1) ⟨16, x, addR L (kN (0))⟩ = w99 at *
  obtain ⟨k0, k1, k2, _, _, _, ks⟩ := form_facts HR.out
  exact bodyPost_ret (v := .tuple #[formV ⟨16, x, addR L (kN (0))⟩, .bool true]) (by simp [results, Tryz.results116, go_sem, formV, k0, k1, k2]) rfl (rule_yes (HC.out) ⟨16, x, addR L (kN (0))⟩ rfl HE.out (by rw [HZ.out]; exact ⟨rfl, rfl⟩))
end Go.Proofs.YtgkjdmojbndicaaGreatDoor

namespace Go.Proofs.YtgkjdmojbndicaaGreatDoor
open Go Go.RowKit
set_option maxRecDepth 100000 in
set_option maxHeartbeats 8000000 in
theorem tnp3_any {Bx : List Nd → Int → List Nd → Int → Int → Prop} {B g m c : Nat} {sa : Option Addr} {L : List Nd} {w : World} (h : GraphAt B w g m sa c L) (x y : Int) (l r : Nd) (hl : Lk L l) (hr : r.Ok) (hlo : l.Ok) (hL : LaidN B w) (hlen : L.length ≤ 1000000000) (hp : oppB L l = false) (hu : (r.n == 1) = false) :
    Calls Tryz.prog 116 #[askV 10 x y g l r] w (RuleQ Bx B g m sa L (tnF L 10 x r.n l) (tnB L 10 r.n l) w) := by
  have HO := Lib.hid (own_start h hL 10 x y l r)
  have HL := Lib.hid hl
  have HRK := Lib.hid hr
  have HLK := Lib.hid hlo
  have HLEN := Lib.hid hlen
  have Hp := Lib.hid hp
  have Hu := Lib.hid hu
  clear h hL hl hr hlo hp hu
  simp only [askV]
  go_enter Tryz.func116, Tryz.ntmps116
  go_upto_region 1 with (fail)
  change Code.wp _ _ _ _ ((w.alloc (askO 10 x y g l r)).alloc (formO 0 0 0))
  generalize (w.alloc (askO 10 x y g l r)).alloc (formO 0 0 0) = W at *
  obtain ⟨b, hb⟩ : ∃ b : Nat, b = w.heap.size := ⟨_, rfl⟩
  rw [← hb] at HO ⊢
  clear hb
  have M10 : Hid (memO [10] 10 = true) := rfl
  have M16 : Hid (memO [16] 10 = false) := rfl
  have HC : Hid (tnB L 10 r.n l = false) := by
    show _ = _
    unfold tnB
    rw [Hp.out, Hu.out]; rfl
  obtain ⟨f0, f1, f2, f3, f4, f5, f6, f7, f8, f9, f10, f11, f12, f13, f14, f15⟩ := ask_facts HO.out.ask
  go_wp2_with fail
  refine (opposite_any HO.out.gr 10 x y l r HL.out).mono ?_
  rintro e w2 ⟨rfl, hk2⟩
  have HO2 := Lib.hid (HO.out.then (hk2))
  clear f0 f1 f2 f3 f4 f5 f6 f7 f8 f9 f10 f11 f12 f13 f14 f15
  clear HO
  have HO := HO2
  clear HO2
  clear hk2
  rw [Hp.out]
  generalize oppX L l = ox
  have mu := Hu.out
  generalize Value.agg #[Value.int .u8 10, Value.int .i64 x, Value.int .i64 y, Value.pointer (some ⟨g, 0, none⟩), Value.int .u8 l.k, Value.int .i64 l.n, Value.int .i64 l.a, Value.int .u8 l.o, Value.int .i64 l.x, Value.int .i64 l.y, Value.int .u8 r.k, Value.int .i64 r.n, Value.int .i64 r.a, Value.int .u8 r.o, Value.int .i64 r.x, Value.int .i64 r.y] = A1
  obtain ⟨f0, f1, f2, f3, f4, f5, f6, f7, f8, f9, f10, f11, f12, f13, f14, f15⟩ := ask_facts HO.out.ask
  go_wp2_with fail
  refine (of_any' 10 x y g l r _ _ _ [10] _ (ops_at rfl rfl rfl (Nat.le_of_ble_eq_true rfl))).mono ?_
  rintro e w3 ⟨rfl, hk2⟩
  have HO2 := Lib.hid (HO.out.then (((Kept.refl w2).alloc (.cells #[.int .u8 10] 27)).trans hk2))
  clear f0 f1 f2 f3 f4 f5 f6 f7 f8 f9 f10 f11 f12 f13 f14 f15
  clear HO
  have HO := HO2
  clear HO2
  clear hk2
  rw [M10.out]
  generalize Value.agg #[Value.int .u8 10, Value.int .i64 x, Value.int .i64 y, Value.pointer (some ⟨g, 0, none⟩), Value.int .u8 l.k, Value.int .i64 l.n, Value.int .i64 l.a, Value.int .u8 l.o, Value.int .i64 l.x, Value.int .i64 l.y, Value.int .u8 r.k, Value.int .i64 r.n, Value.int .i64 r.a, Value.int .u8 r.o, Value.int .i64 r.x, Value.int .i64 r.y] = A2
  as_aux_lemma =>
    obtain ⟨f0, f1, f2, f3, f4, f5, f6, f7, f8, f9, f10, f11, f12, f13, f14, f15⟩ := ask_facts HO.out.ask
    go_wp2_with fail
    refine (of_any' 10 x y g l r _ _ _ [10] _ (ops_at rfl rfl rfl (Nat.le_of_ble_eq_true rfl))).mono ?_
    rintro e w4 ⟨rfl, hk2⟩
    have HO2 := Lib.hid (HO.out.then (((Kept.refl w3).alloc (.cells #[.int .u8 10] 27)).trans hk2))
    clear f0 f1 f2 f3 f4 f5 f6 f7 f8 f9 f10 f11 f12 f13 f14 f15
    clear HO
    have HO := HO2
    clear HO2
    clear hk2
    rw [M10.out]
    generalize Value.agg #[Value.int .u8 10, Value.int .i64 x, Value.int .i64 y, Value.pointer (some ⟨g, 0, none⟩), Value.int .u8 l.k, Value.int .i64 l.n, Value.int .i64 l.a, Value.int .u8 l.o, Value.int .i64 l.x, Value.int .i64 l.y, Value.int .u8 r.k, Value.int .i64 r.n, Value.int .i64 r.a, Value.int .u8 r.o, Value.int .i64 r.x, Value.int .i64 r.y] = A3
    obtain ⟨f0, f1, f2, f3, f4, f5, f6, f7, f8, f9, f10, f11, f12, f13, f14, f15⟩ := ask_facts HO.out.ask
    go_wp2_with fail
    refine (of_any' 10 x y g l r _ _ _ [16] _ (ops_at rfl rfl rfl (Nat.le_of_ble_eq_true rfl))).mono ?_
    rintro e w5 ⟨rfl, hk2⟩
    have HO2 := Lib.hid (HO.out.then (((Kept.refl w4).alloc (.cells #[.int .u8 16] 27)).trans hk2))
    clear f0 f1 f2 f3 f4 f5 f6 f7 f8 f9 f10 f11 f12 f13 f14 f15
    clear HO
    have HO := HO2
    clear HO2
    clear hk2
    rw [M16.out]
    generalize Value.agg #[Value.int .u8 10, Value.int .i64 x, Value.int .i64 y, Value.pointer (some ⟨g, 0, none⟩), Value.int .u8 l.k, Value.int .i64 l.n, Value.int .i64 l.a, Value.int .u8 l.o, Value.int .i64 l.x, Value.int .i64 l.y, Value.int .u8 r.k, Value.int .i64 r.n, Value.int .i64 r.a, Value.int .u8 r.o, Value.int .i64 r.x, Value.int .i64 r.y] = A4
    as_aux_lemma =>
      obtain ⟨f0, f1, f2, f3, f4, f5, f6, f7, f8, f9, f10, f11, f12, f13, f14, f15⟩ := ask_facts HO.out.ask
      go_wp2_with fail
      refine (of_any' 10 x y g l r _ _ _ [10] _ (ops_at rfl rfl rfl (Nat.le_of_ble_eq_true rfl))).mono ?_
      rintro e w6 ⟨rfl, hk2⟩
      have HO2 := Lib.hid (HO.out.then (((Kept.refl w5).alloc (.cells #[.int .u8 10] 27)).trans hk2))
      clear f0 f1 f2 f3 f4 f5 f6 f7 f8 f9 f10 f11 f12 f13 f14 f15
      clear HO
      have HO := HO2
      clear HO2
      clear hk2
      rw [M10.out]
      generalize Value.agg #[Value.int .u8 10, Value.int .i64 x, Value.int .i64 y, Value.pointer (some ⟨g, 0, none⟩), Value.int .u8 l.k, Value.int .i64 l.n, Value.int .i64 l.a, Value.int .u8 l.o, Value.int .i64 l.x, Value.int .i64 l.y, Value.int .u8 r.k, Value.int .i64 r.n, Value.int .i64 r.a, Value.int .u8 r.o, Value.int .i64 r.x, Value.int .i64 r.y] = A5
      obtain ⟨f0, f1, f2, f3, f4, f5, f6, f7, f8, f9, f10, f11, f12, f13, f14, f15⟩ := ask_facts HO.out.ask
      obtain ⟨k0, k1, k2, z0, z1, z2, ks⟩ := form_facts HO.out.frm
      go_wp2
      have HR := Lib.hid (put3_row HO.out.frm ⟨0, 0, 0⟩)
      have HE := Lib.hid (HO.out.end1 ⟨0, 0, 0⟩).1
      clear k0 k1 k2 z0 z1 z2 ks
      change bodyPost _ _ _ _ _ (put3 w6 (b + 1) ⟨0, 0, 0⟩)
      generalize put3 w6 (b + 1) ⟨0, 0, 0⟩ = w99 at *
      obtain ⟨k0, k1, k2, _, _, _, ks⟩ := form_facts HR.out
      exact bodyPost_ret (v := .tuple #[formV ⟨0, 0, 0⟩, .bool false]) (by simp [results, Tryz.results116, go_sem, formV, k0, k1, k2]) rfl (rule_no (HC.out) ⟨0, 0, 0⟩ rfl HE.out)
end Go.Proofs.YtgkjdmojbndicaaGreatDoor

namespace Go.Proofs.YtgkjdmojbndicaaGreatDoor
open Go Go.RowKit
set_option maxRecDepth 100000 in
set_option maxHeartbeats 8000000 in
theorem tnp4_any {Bx : List Nd → Int → List Nd → Int → Int → Prop} {B g m c : Nat} {sa : Option Addr} {L : List Nd} {w : World} (h : GraphAt B w g m sa c L) (x y : Int) (l r : Nd) (hl : Lk L l) (hr : r.Ok) (hlo : l.Ok) (hL : LaidN B w) (hlen : L.length ≤ 1000000000) (hp : oppB L l = true) (hv : (r.n == 0) = true) :
    Calls Tryz.prog 116 #[askV 16 x y g l r] w (RuleQ Bx B g m sa L (tnF L 16 x r.n l) (tnB L 16 r.n l) w) := by
  have HO := Lib.hid (own_start h hL 16 x y l r)
  have HL := Lib.hid hl
  have HRK := Lib.hid hr
  have HLK := Lib.hid hlo
  have HLEN := Lib.hid hlen
  have Hp := Lib.hid hp
  have Hv := Lib.hid hv
  clear h hL hl hr hlo hp hv
  simp only [askV]
  go_enter Tryz.func116, Tryz.ntmps116
  go_upto_region 1 with (fail)
  change Code.wp _ _ _ _ ((w.alloc (askO 16 x y g l r)).alloc (formO 0 0 0))
  generalize (w.alloc (askO 16 x y g l r)).alloc (formO 0 0 0) = W at *
  obtain ⟨b, hb⟩ : ∃ b : Nat, b = w.heap.size := ⟨_, rfl⟩
  rw [← hb] at HO ⊢
  clear hb
  have M10 : Hid (memO [10] 16 = false) := rfl
  have M16 : Hid (memO [16] 16 = true) := rfl
  have HC : Hid (tnB L 16 r.n l = true) := by
    show _ = _
    unfold tnB
    rw [Hp.out, Hv.out]; rfl
  have HZ : Hid (tnF L 16 x r.n l = .is l.x) := by
    show _ = _
    unfold tnF
    rw [Hv.out]; rfl
  obtain ⟨f0, f1, f2, f3, f4, f5, f6, f7, f8, f9, f10, f11, f12, f13, f14, f15⟩ := ask_facts HO.out.ask
  go_wp2_with fail
  refine (opposite_any HO.out.gr 16 x y l r HL.out).mono ?_
  rintro e w2 ⟨rfl, hk2⟩
  have HO2 := Lib.hid (HO.out.then (hk2))
  clear f0 f1 f2 f3 f4 f5 f6 f7 f8 f9 f10 f11 f12 f13 f14 f15
  clear HO
  have HO := HO2
  clear HO2
  clear hk2
  rw [Hp.out]
  have hx : oppX L l = l.x := by unfold oppX; rw [Hp.out]; rfl
  rw [hx]
  clear hx
  have mv := Hv.out
  generalize Value.agg #[Value.int .u8 16, Value.int .i64 x, Value.int .i64 y, Value.pointer (some ⟨g, 0, none⟩), Value.int .u8 l.k, Value.int .i64 l.n, Value.int .i64 l.a, Value.int .u8 l.o, Value.int .i64 l.x, Value.int .i64 l.y, Value.int .u8 r.k, Value.int .i64 r.n, Value.int .i64 r.a, Value.int .u8 r.o, Value.int .i64 r.x, Value.int .i64 r.y] = A1
  obtain ⟨f0, f1, f2, f3, f4, f5, f6, f7, f8, f9, f10, f11, f12, f13, f14, f15⟩ := ask_facts HO.out.ask
  go_wp2_with fail
  refine (of_any' 16 x y g l r _ _ _ [10] _ (ops_at rfl rfl rfl (Nat.le_of_ble_eq_true rfl))).mono ?_
  rintro e w3 ⟨rfl, hk2⟩
  have HO2 := Lib.hid (HO.out.then (((Kept.refl w2).alloc (.cells #[.int .u8 10] 27)).trans hk2))
  clear f0 f1 f2 f3 f4 f5 f6 f7 f8 f9 f10 f11 f12 f13 f14 f15
  clear HO
  have HO := HO2
  clear HO2
  clear hk2
  rw [M10.out]
  generalize Value.agg #[Value.int .u8 16, Value.int .i64 x, Value.int .i64 y, Value.pointer (some ⟨g, 0, none⟩), Value.int .u8 l.k, Value.int .i64 l.n, Value.int .i64 l.a, Value.int .u8 l.o, Value.int .i64 l.x, Value.int .i64 l.y, Value.int .u8 r.k, Value.int .i64 r.n, Value.int .i64 r.a, Value.int .u8 r.o, Value.int .i64 r.x, Value.int .i64 r.y] = A2
  obtain ⟨f0, f1, f2, f3, f4, f5, f6, f7, f8, f9, f10, f11, f12, f13, f14, f15⟩ := ask_facts HO.out.ask
  go_wp2_with fail
  refine (of_any' 16 x y g l r _ _ _ [10] _ (ops_at rfl rfl rfl (Nat.le_of_ble_eq_true rfl))).mono ?_
  rintro e w4 ⟨rfl, hk2⟩
  have HO2 := Lib.hid (HO.out.then (((Kept.refl w3).alloc (.cells #[.int .u8 10] 27)).trans hk2))
  clear f0 f1 f2 f3 f4 f5 f6 f7 f8 f9 f10 f11 f12 f13 f14 f15
  clear HO
  have HO := HO2
  clear HO2
  clear hk2
  rw [M10.out]
  generalize Value.agg #[Value.int .u8 16, Value.int .i64 x, Value.int .i64 y, Value.pointer (some ⟨g, 0, none⟩), Value.int .u8 l.k, Value.int .i64 l.n, Value.int .i64 l.a, Value.int .u8 l.o, Value.int .i64 l.x, Value.int .i64 l.y, Value.int .u8 r.k, Value.int .i64 r.n, Value.int .i64 r.a, Value.int .u8 r.o, Value.int .i64 r.x, Value.int .i64 r.y] = A3
  obtain ⟨f0, f1, f2, f3, f4, f5, f6, f7, f8, f9, f10, f11, f12, f13, f14, f15⟩ := ask_facts HO.out.ask
  go_wp2_with fail
  refine (of_any' 16 x y g l r _ _ _ [16] _ (ops_at rfl rfl rfl (Nat.le_of_ble_eq_true rfl))).mono ?_
  rintro e w5 ⟨rfl, hk2⟩
  have HO2 := Lib.hid (HO.out.then (((Kept.refl w4).alloc (.cells #[.int .u8 16] 27)).trans hk2))
  clear f0 f1 f2 f3 f4 f5 f6 f7 f8 f9 f10 f11 f12 f13 f14 f15
  clear HO
  have HO := HO2
  clear HO2
  clear hk2
  rw [M16.out]
  generalize Value.agg #[Value.int .u8 16, Value.int .i64 x, Value.int .i64 y, Value.pointer (some ⟨g, 0, none⟩), Value.int .u8 l.k, Value.int .i64 l.n, Value.int .i64 l.a, Value.int .u8 l.o, Value.int .i64 l.x, Value.int .i64 l.y, Value.int .u8 r.k, Value.int .i64 r.n, Value.int .i64 r.a, Value.int .u8 r.o, Value.int .i64 r.x, Value.int .i64 r.y] = A4
  obtain ⟨f0, f1, f2, f3, f4, f5, f6, f7, f8, f9, f10, f11, f12, f13, f14, f15⟩ := ask_facts HO.out.ask
  go_wp2_with fail
  refine (is_any l.x _).mono ?_
  rintro e w6 ⟨rfl, hk2⟩
  have HO2 := Lib.hid (HO.out.then (hk2))
  clear f0 f1 f2 f3 f4 f5 f6 f7 f8 f9 f10 f11 f12 f13 f14 f15
  clear HO
  have HO := HO2
  clear HO2
  clear hk2
  simp only [formV]
  obtain ⟨f0, f1, f2, f3, f4, f5, f6, f7, f8, f9, f10, f11, f12, f13, f14, f15⟩ := ask_facts HO.out.ask
  obtain ⟨k0, k1, k2, z0, z1, z2, ks⟩ := form_facts HO.out.frm
  go_wp2
  have HR := Lib.hid (put3_row HO.out.frm ⟨0, l.x, 0⟩)
  have HE := Lib.hid (HO.out.end1 ⟨0, l.x, 0⟩).2
  clear k0 k1 k2 z0 z1 z2 ks
  change bodyPost _ _ _ _ _ (put3 w6 (b + 1) ⟨0, l.x, 0⟩)
  generalize put3 w6 (b + 1) ⟨0, l.x, 0⟩ = w99 at *
  obtain ⟨k0, k1, k2, _, _, _, ks⟩ := form_facts HR.out
  exact bodyPost_ret (v := .tuple #[formV ⟨0, l.x, 0⟩, .bool true]) (by simp [results, Tryz.results116, go_sem, formV, k0, k1, k2]) rfl (rule_yes (HC.out) ⟨0, l.x, 0⟩ rfl ⟨_, _, HE.out⟩ (by rw [HZ.out]; exact ⟨rfl, rfl⟩))
end Go.Proofs.YtgkjdmojbndicaaGreatDoor
