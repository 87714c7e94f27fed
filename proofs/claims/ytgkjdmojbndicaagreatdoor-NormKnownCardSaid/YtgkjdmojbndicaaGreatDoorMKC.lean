/-
  Several texts in one: NTp8: Layer 4: the contract of a rule of norm (the truthAndNumber: others).; NTp9: Layer 4: the contract of a rule of norm (the truthAndNumber: And and what is odd).; NTp10: Layer 4: the contract of a rule of norm (the truthAndNumber: And and what is even)..
-/
import Derived.Test.YtgkjdmojbndicaaGreatDoorMI
namespace Go.Proofs.YtgkjdmojbndicaaGreatDoor
open Go Go.RowKit
set_option maxRecDepth 100000 in
set_option maxHeartbeats 8000000 in
theorem tnp8_any {Bx : List Nd → Int → List Nd → Int → Int → Prop} {B g m c : Nat} {sa : Option Addr} {L : List Nd} {w : World} (h : GraphAt B w g m sa c L) (o x y : Int) (l r : Nd) (hl : Lk L l) (hr : r.Ok) (hlo : l.Ok) (hL : LaidN B w) (hlen : L.length ≤ 1000000000) (h10 : (o == 10) = false) (h16 : (o == 16) = false) (h8 : (o == 8) = false) :
    Calls Tryz.prog 116 #[askV o x y g l r] w (RuleQ Bx B g m sa L (tnF L o x r.n l) (tnB L o r.n l) w) := by
  have HO := Lib.hid (own_start h hL o x y l r)
  have HL := Lib.hid hl
  have HRK := Lib.hid hr
  have HLK := Lib.hid hlo
  have HLEN := Lib.hid hlen
  have H10 := Lib.hid h10
  have H16 := Lib.hid h16
  have H8 := Lib.hid h8
  clear h hL hl hr hlo h10 h16 h8
  simp only [askV]
  go_enter Tryz.func116, Tryz.ntmps116
  go_upto_region 1 with (fail)
  change Code.wp _ _ _ _ ((w.alloc (askO o x y g l r)).alloc (formO 0 0 0))
  generalize (w.alloc (askO o x y g l r)).alloc (formO 0 0 0) = W at *
  obtain ⟨b, hb⟩ : ∃ b : Nat, b = w.heap.size := ⟨_, rfl⟩
  rw [← hb] at HO ⊢
  clear hb
  have M8 : Hid (memO [8] o = false) := by
    show _ = _
    simp only [memO, List.any_cons, List.any_nil, Bool.or_false]
    exact H8.out
  have M10 : Hid (memO [10] o = false) := by
    show _ = _
    simp only [memO, List.any_cons, List.any_nil, Bool.or_false]
    exact H10.out
  have M16 : Hid (memO [16] o = false) := by
    show _ = _
    simp only [memO, List.any_cons, List.any_nil, Bool.or_false]
    exact H16.out
  have HC : Hid (tnB L o r.n l = true) := by
    show _ = _
    unfold tnB
    rw [H10.out, H16.out]; rfl
  have HZ : Hid (tnF L o x r.n l = .con 0) := by
    show _ = _
    unfold tnF
    rw [H10.out, H16.out, H8.out]; rfl
  obtain ⟨f0, f1, f2, f3, f4, f5, f6, f7, f8, f9, f10, f11, f12, f13, f14, f15⟩ := ask_facts HO.out.ask
  go_wp2_with fail
  refine (opposite_any HO.out.gr o x y l r HL.out).mono ?_
  rintro e w2 ⟨rfl, hk2⟩
  have HO2 := Lib.hid (HO.out.then (hk2))
  clear f0 f1 f2 f3 f4 f5 f6 f7 f8 f9 f10 f11 f12 f13 f14 f15
  clear HO
  have HO := HO2
  clear HO2
  clear hk2
  generalize oppB L l = ob
  generalize oppX L l = ox
  generalize Value.agg #[Value.int .u8 o, Value.int .i64 x, Value.int .i64 y, Value.pointer (some ⟨g, 0, none⟩), Value.int .u8 l.k, Value.int .i64 l.n, Value.int .i64 l.a, Value.int .u8 l.o, Value.int .i64 l.x, Value.int .i64 l.y, Value.int .u8 r.k, Value.int .i64 r.n, Value.int .i64 r.a, Value.int .u8 r.o, Value.int .i64 r.x, Value.int .i64 r.y] = A1
  obtain ⟨f0, f1, f2, f3, f4, f5, f6, f7, f8, f9, f10, f11, f12, f13, f14, f15⟩ := ask_facts HO.out.ask
  go_wp2_with fail
  refine (of_any' o x y g l r _ _ _ [10] _ (ops_at rfl rfl rfl (Nat.le_of_ble_eq_true rfl))).mono ?_
  rintro e w3 ⟨rfl, hk2⟩
  have HO2 := Lib.hid (HO.out.then (((Kept.refl w2).alloc (.cells #[.int .u8 10] 27)).trans hk2))
  clear f0 f1 f2 f3 f4 f5 f6 f7 f8 f9 f10 f11 f12 f13 f14 f15
  clear HO
  have HO := HO2
  clear HO2
  clear hk2
  rw [M10.out]
  generalize Value.agg #[Value.int .u8 o, Value.int .i64 x, Value.int .i64 y, Value.pointer (some ⟨g, 0, none⟩), Value.int .u8 l.k, Value.int .i64 l.n, Value.int .i64 l.a, Value.int .u8 l.o, Value.int .i64 l.x, Value.int .i64 l.y, Value.int .u8 r.k, Value.int .i64 r.n, Value.int .i64 r.a, Value.int .u8 r.o, Value.int .i64 r.x, Value.int .i64 r.y] = A2
  as_aux_lemma =>
    obtain ⟨f0, f1, f2, f3, f4, f5, f6, f7, f8, f9, f10, f11, f12, f13, f14, f15⟩ := ask_facts HO.out.ask
    go_wp2_with fail
    refine (of_any' o x y g l r _ _ _ [10] _ (ops_at rfl rfl rfl (Nat.le_of_ble_eq_true rfl))).mono ?_
    rintro e w4 ⟨rfl, hk2⟩
    have HO2 := Lib.hid (HO.out.then (((Kept.refl w3).alloc (.cells #[.int .u8 10] 27)).trans hk2))
    clear f0 f1 f2 f3 f4 f5 f6 f7 f8 f9 f10 f11 f12 f13 f14 f15
    clear HO
    have HO := HO2
    clear HO2
    clear hk2
    rw [M10.out]
    generalize Value.agg #[Value.int .u8 o, Value.int .i64 x, Value.int .i64 y, Value.pointer (some ⟨g, 0, none⟩), Value.int .u8 l.k, Value.int .i64 l.n, Value.int .i64 l.a, Value.int .u8 l.o, Value.int .i64 l.x, Value.int .i64 l.y, Value.int .u8 r.k, Value.int .i64 r.n, Value.int .i64 r.a, Value.int .u8 r.o, Value.int .i64 r.x, Value.int .i64 r.y] = A3
    obtain ⟨f0, f1, f2, f3, f4, f5, f6, f7, f8, f9, f10, f11, f12, f13, f14, f15⟩ := ask_facts HO.out.ask
    go_wp2_with fail
    refine (of_any' o x y g l r _ _ _ [16] _ (ops_at rfl rfl rfl (Nat.le_of_ble_eq_true rfl))).mono ?_
    rintro e w5 ⟨rfl, hk2⟩
    have HO2 := Lib.hid (HO.out.then (((Kept.refl w4).alloc (.cells #[.int .u8 16] 27)).trans hk2))
    clear f0 f1 f2 f3 f4 f5 f6 f7 f8 f9 f10 f11 f12 f13 f14 f15
    clear HO
    have HO := HO2
    clear HO2
    clear hk2
    rw [M16.out]
    generalize Value.agg #[Value.int .u8 o, Value.int .i64 x, Value.int .i64 y, Value.pointer (some ⟨g, 0, none⟩), Value.int .u8 l.k, Value.int .i64 l.n, Value.int .i64 l.a, Value.int .u8 l.o, Value.int .i64 l.x, Value.int .i64 l.y, Value.int .u8 r.k, Value.int .i64 r.n, Value.int .i64 r.a, Value.int .u8 r.o, Value.int .i64 r.x, Value.int .i64 r.y] = A4
    as_aux_lemma =>
      obtain ⟨f0, f1, f2, f3, f4, f5, f6, f7, f8, f9, f10, f11, f12, f13, f14, f15⟩ := ask_facts HO.out.ask
      go_wp2_with fail
      refine (of_any' o x y g l r _ _ _ [10] _ (ops_at rfl rfl rfl (Nat.le_of_ble_eq_true rfl))).mono ?_
      rintro e w6 ⟨rfl, hk2⟩
      have HO2 := Lib.hid (HO.out.then (((Kept.refl w5).alloc (.cells #[.int .u8 10] 27)).trans hk2))
      clear f0 f1 f2 f3 f4 f5 f6 f7 f8 f9 f10 f11 f12 f13 f14 f15
      clear HO
      have HO := HO2
      clear HO2
      clear hk2
      rw [M10.out]
      generalize Value.agg #[Value.int .u8 o, Value.int .i64 x, Value.int .i64 y, Value.pointer (some ⟨g, 0, none⟩), Value.int .u8 l.k, Value.int .i64 l.n, Value.int .i64 l.a, Value.int .u8 l.o, Value.int .i64 l.x, Value.int .i64 l.y, Value.int .u8 r.k, Value.int .i64 r.n, Value.int .i64 r.a, Value.int .u8 r.o, Value.int .i64 r.x, Value.int .i64 r.y] = A5
      obtain ⟨f0, f1, f2, f3, f4, f5, f6, f7, f8, f9, f10, f11, f12, f13, f14, f15⟩ := ask_facts HO.out.ask
      go_wp2_with fail
      refine (of_any' o x y g l r _ _ _ [16] _ (ops_at rfl rfl rfl (Nat.le_of_ble_eq_true rfl))).mono ?_
      rintro e w7 ⟨rfl, hk2⟩
      have HO2 := Lib.hid (HO.out.then (((Kept.refl w6).alloc (.cells #[.int .u8 16] 27)).trans hk2))
      clear f0 f1 f2 f3 f4 f5 f6 f7 f8 f9 f10 f11 f12 f13 f14 f15
      clear HO
      have HO := HO2
      clear HO2
      clear hk2
      rw [M16.out]
      generalize Value.agg #[Value.int .u8 o, Value.int .i64 x, Value.int .i64 y, Value.pointer (some ⟨g, 0, none⟩), Value.int .u8 l.k, Value.int .i64 l.n, Value.int .i64 l.a, Value.int .u8 l.o, Value.int .i64 l.x, Value.int .i64 l.y, Value.int .u8 r.k, Value.int .i64 r.n, Value.int .i64 r.a, Value.int .u8 r.o, Value.int .i64 r.x, Value.int .i64 r.y] = A6
      as_aux_lemma =>
        obtain ⟨f0, f1, f2, f3, f4, f5, f6, f7, f8, f9, f10, f11, f12, f13, f14, f15⟩ := ask_facts HO.out.ask
        go_wp2_with fail
        refine (of_any' o x y g l r _ _ _ [16] _ (ops_at rfl rfl rfl (Nat.le_of_ble_eq_true rfl))).mono ?_
        rintro e w8 ⟨rfl, hk2⟩
        have HO2 := Lib.hid (HO.out.then (((Kept.refl w7).alloc (.cells #[.int .u8 16] 27)).trans hk2))
        clear f0 f1 f2 f3 f4 f5 f6 f7 f8 f9 f10 f11 f12 f13 f14 f15
        clear HO
        have HO := HO2
        clear HO2
        clear hk2
        rw [M16.out]
        generalize Value.agg #[Value.int .u8 o, Value.int .i64 x, Value.int .i64 y, Value.pointer (some ⟨g, 0, none⟩), Value.int .u8 l.k, Value.int .i64 l.n, Value.int .i64 l.a, Value.int .u8 l.o, Value.int .i64 l.x, Value.int .i64 l.y, Value.int .u8 r.k, Value.int .i64 r.n, Value.int .i64 r.a, Value.int .u8 r.o, Value.int .i64 r.x, Value.int .i64 r.y] = A7
        obtain ⟨f0, f1, f2, f3, f4, f5, f6, f7, f8, f9, f10, f11, f12, f13, f14, f15⟩ := ask_facts HO.out.ask
        go_wp2_with fail
        refine (of_any' o x y g l r _ _ _ [8] _ (ops_at rfl rfl rfl (Nat.le_of_ble_eq_true rfl))).mono ?_
        rintro e w9 ⟨rfl, hk2⟩
        have HO2 := Lib.hid (HO.out.then (((Kept.refl w8).alloc (.cells #[.int .u8 8] 27)).trans hk2))
        clear f0 f1 f2 f3 f4 f5 f6 f7 f8 f9 f10 f11 f12 f13 f14 f15
        clear HO
        have HO := HO2
        clear HO2
        clear hk2
        rw [M8.out]
        generalize Value.agg #[Value.int .u8 o, Value.int .i64 x, Value.int .i64 y, Value.pointer (some ⟨g, 0, none⟩), Value.int .u8 l.k, Value.int .i64 l.n, Value.int .i64 l.a, Value.int .u8 l.o, Value.int .i64 l.x, Value.int .i64 l.y, Value.int .u8 r.k, Value.int .i64 r.n, Value.int .i64 r.a, Value.int .u8 r.o, Value.int .i64 r.x, Value.int .i64 r.y] = A8
        obtain ⟨f0, f1, f2, f3, f4, f5, f6, f7, f8, f9, f10, f11, f12, f13, f14, f15⟩ := ask_facts HO.out.ask
        go_wp2_with fail
        refine (num_any HO.out.gr o x y l r (0) (in0) HO.out.laid hlen).mono ?_
        rintro e w10 ⟨rfl, a2, c2, hT2⟩
        have HT2 := Lib.hid hT2
        have HF2 := Lib.hid (HT2.out.row HO.out.frm HO.out.off.2)
        clear hT2
        simp only [formV]
        clear f0 f1 f2 f3 f4 f5 f6 f7 f8 f9 f10 f11 f12 f13 f14 f15
        obtain ⟨k0, k1, k2, z0, z1, z2, ks⟩ := form_facts HF2.out
        go_wp2
        have HR := Lib.hid (put3_row HF2.out ⟨0, addR L (kN (0)), 0⟩)
        have HE := Lib.hid (HO.out.end2 HT2.out ⟨0, addR L (kN (0)), 0⟩)
        clear k0 k1 k2 z0 z1 z2 ks
        change bodyPost _ _ _ _ _ (put3 w10 (b + 1) ⟨0, addR L (kN (0)), 0⟩)
        generalize put3 w10 (b + 1) ⟨0, addR L (kN (0)), 0⟩ = w99 at *
        obtain ⟨k0, k1, k2, _, _, _, ks⟩ := form_facts HR.out
        exact bodyPost_ret (v := .tuple #[formV ⟨0, addR L (kN (0)), 0⟩, .bool true]) (by simp [results, Tryz.results116, go_sem, formV, k0, k1, k2]) rfl (rule_yes (HC.out) ⟨0, addR L (kN (0)), 0⟩ rfl HE.out (by rw [HZ.out]; exact ⟨rfl, rfl⟩))
end Go.Proofs.YtgkjdmojbndicaaGreatDoor

namespace Go.Proofs.YtgkjdmojbndicaaGreatDoor
open Go Go.RowKit
set_option maxRecDepth 100000 in
set_option maxHeartbeats 8000000 in
theorem tnp9_any {Bx : List Nd → Int → List Nd → Int → Int → Prop} {B g m c : Nat} {sa : Option Addr} {L : List Nd} {w : World} (h : GraphAt B w g m sa c L) (o x y : Int) (l r : Nd) (hl : Lk L l) (hr : r.Ok) (hlo : l.Ok) (hL : LaidN B w) (hlen : L.length ≤ 1000000000) (h10 : (o == 10) = false) (h16 : (o == 16) = false) (h8 : (o == 8) = true) (hd : (opI 8 r.n 1 == 1) = true) :
    Calls Tryz.prog 116 #[askV o x y g l r] w (RuleQ Bx B g m sa L (tnF L o x r.n l) (tnB L o r.n l) w) := by
  have HO := Lib.hid (own_start h hL o x y l r)
  have HL := Lib.hid hl
  have HRK := Lib.hid hr
  have HLK := Lib.hid hlo
  have HLEN := Lib.hid hlen
  have H10 := Lib.hid h10
  have H16 := Lib.hid h16
  have H8 := Lib.hid h8
  have Hd := Lib.hid hd
  clear h hL hl hr hlo h10 h16 h8 hd
  simp only [askV]
  go_enter Tryz.func116, Tryz.ntmps116
  go_upto_region 1 with (fail)
  change Code.wp _ _ _ _ ((w.alloc (askO o x y g l r)).alloc (formO 0 0 0))
  generalize (w.alloc (askO o x y g l r)).alloc (formO 0 0 0) = W at *
  obtain ⟨b, hb⟩ : ∃ b : Nat, b = w.heap.size := ⟨_, rfl⟩
  rw [← hb] at HO ⊢
  clear hb
  have M8 : Hid (memO [8] o = true) := by
    show _ = _
    simp only [memO, List.any_cons, List.any_nil, Bool.or_false]
    exact H8.out
  have M10 : Hid (memO [10] o = false) := by
    show _ = _
    simp only [memO, List.any_cons, List.any_nil, Bool.or_false]
    exact H10.out
  have M16 : Hid (memO [16] o = false) := by
    show _ = _
    simp only [memO, List.any_cons, List.any_nil, Bool.or_false]
    exact H16.out
  have HC : Hid (tnB L o r.n l = true) := by
    show _ = _
    unfold tnB
    rw [H10.out, H16.out]; rfl
  have HZ : Hid (tnF L o x r.n l = .is x) := by
    show _ = _
    unfold tnF
    rw [H10.out, H16.out, H8.out, Hd.out]; rfl
  obtain ⟨f0, f1, f2, f3, f4, f5, f6, f7, f8, f9, f10, f11, f12, f13, f14, f15⟩ := ask_facts HO.out.ask
  go_wp2_with fail
  refine (opposite_any HO.out.gr o x y l r HL.out).mono ?_
  rintro e w2 ⟨rfl, hk2⟩
  have HO2 := Lib.hid (HO.out.then (hk2))
  clear f0 f1 f2 f3 f4 f5 f6 f7 f8 f9 f10 f11 f12 f13 f14 f15
  clear HO
  have HO := HO2
  clear HO2
  clear hk2
  generalize oppB L l = ob
  generalize oppX L l = ox
  generalize Value.agg #[Value.int .u8 o, Value.int .i64 x, Value.int .i64 y, Value.pointer (some ⟨g, 0, none⟩), Value.int .u8 l.k, Value.int .i64 l.n, Value.int .i64 l.a, Value.int .u8 l.o, Value.int .i64 l.x, Value.int .i64 l.y, Value.int .u8 r.k, Value.int .i64 r.n, Value.int .i64 r.a, Value.int .u8 r.o, Value.int .i64 r.x, Value.int .i64 r.y] = A1
  obtain ⟨f0, f1, f2, f3, f4, f5, f6, f7, f8, f9, f10, f11, f12, f13, f14, f15⟩ := ask_facts HO.out.ask
  go_wp2_with fail
  refine (of_any' o x y g l r _ _ _ [10] _ (ops_at rfl rfl rfl (Nat.le_of_ble_eq_true rfl))).mono ?_
  rintro e w3 ⟨rfl, hk2⟩
  have HO2 := Lib.hid (HO.out.then (((Kept.refl w2).alloc (.cells #[.int .u8 10] 27)).trans hk2))
  clear f0 f1 f2 f3 f4 f5 f6 f7 f8 f9 f10 f11 f12 f13 f14 f15
  clear HO
  have HO := HO2
  clear HO2
  clear hk2
  rw [M10.out]
  generalize Value.agg #[Value.int .u8 o, Value.int .i64 x, Value.int .i64 y, Value.pointer (some ⟨g, 0, none⟩), Value.int .u8 l.k, Value.int .i64 l.n, Value.int .i64 l.a, Value.int .u8 l.o, Value.int .i64 l.x, Value.int .i64 l.y, Value.int .u8 r.k, Value.int .i64 r.n, Value.int .i64 r.a, Value.int .u8 r.o, Value.int .i64 r.x, Value.int .i64 r.y] = A2
  as_aux_lemma =>
    obtain ⟨f0, f1, f2, f3, f4, f5, f6, f7, f8, f9, f10, f11, f12, f13, f14, f15⟩ := ask_facts HO.out.ask
    go_wp2_with fail
    refine (of_any' o x y g l r _ _ _ [10] _ (ops_at rfl rfl rfl (Nat.le_of_ble_eq_true rfl))).mono ?_
    rintro e w4 ⟨rfl, hk2⟩
    have HO2 := Lib.hid (HO.out.then (((Kept.refl w3).alloc (.cells #[.int .u8 10] 27)).trans hk2))
    clear f0 f1 f2 f3 f4 f5 f6 f7 f8 f9 f10 f11 f12 f13 f14 f15
    clear HO
    have HO := HO2
    clear HO2
    clear hk2
    rw [M10.out]
    generalize Value.agg #[Value.int .u8 o, Value.int .i64 x, Value.int .i64 y, Value.pointer (some ⟨g, 0, none⟩), Value.int .u8 l.k, Value.int .i64 l.n, Value.int .i64 l.a, Value.int .u8 l.o, Value.int .i64 l.x, Value.int .i64 l.y, Value.int .u8 r.k, Value.int .i64 r.n, Value.int .i64 r.a, Value.int .u8 r.o, Value.int .i64 r.x, Value.int .i64 r.y] = A3
    obtain ⟨f0, f1, f2, f3, f4, f5, f6, f7, f8, f9, f10, f11, f12, f13, f14, f15⟩ := ask_facts HO.out.ask
    go_wp2_with fail
    refine (of_any' o x y g l r _ _ _ [16] _ (ops_at rfl rfl rfl (Nat.le_of_ble_eq_true rfl))).mono ?_
    rintro e w5 ⟨rfl, hk2⟩
    have HO2 := Lib.hid (HO.out.then (((Kept.refl w4).alloc (.cells #[.int .u8 16] 27)).trans hk2))
    clear f0 f1 f2 f3 f4 f5 f6 f7 f8 f9 f10 f11 f12 f13 f14 f15
    clear HO
    have HO := HO2
    clear HO2
    clear hk2
    rw [M16.out]
    generalize Value.agg #[Value.int .u8 o, Value.int .i64 x, Value.int .i64 y, Value.pointer (some ⟨g, 0, none⟩), Value.int .u8 l.k, Value.int .i64 l.n, Value.int .i64 l.a, Value.int .u8 l.o, Value.int .i64 l.x, Value.int .i64 l.y, Value.int .u8 r.k, Value.int .i64 r.n, Value.int .i64 r.a, Value.int .u8 r.o, Value.int .i64 r.x, Value.int .i64 r.y] = A4
    as_aux_lemma =>
      obtain ⟨f0, f1, f2, f3, f4, f5, f6, f7, f8, f9, f10, f11, f12, f13, f14, f15⟩ := ask_facts HO.out.ask
      go_wp2_with fail
      refine (of_any' o x y g l r _ _ _ [10] _ (ops_at rfl rfl rfl (Nat.le_of_ble_eq_true rfl))).mono ?_
      rintro e w6 ⟨rfl, hk2⟩
      have HO2 := Lib.hid (HO.out.then (((Kept.refl w5).alloc (.cells #[.int .u8 10] 27)).trans hk2))
      clear f0 f1 f2 f3 f4 f5 f6 f7 f8 f9 f10 f11 f12 f13 f14 f15
      clear HO
      have HO := HO2
      clear HO2
      clear hk2
      rw [M10.out]
      generalize Value.agg #[Value.int .u8 o, Value.int .i64 x, Value.int .i64 y, Value.pointer (some ⟨g, 0, none⟩), Value.int .u8 l.k, Value.int .i64 l.n, Value.int .i64 l.a, Value.int .u8 l.o, Value.int .i64 l.x, Value.int .i64 l.y, Value.int .u8 r.k, Value.int .i64 r.n, Value.int .i64 r.a, Value.int .u8 r.o, Value.int .i64 r.x, Value.int .i64 r.y] = A5
      obtain ⟨f0, f1, f2, f3, f4, f5, f6, f7, f8, f9, f10, f11, f12, f13, f14, f15⟩ := ask_facts HO.out.ask
      go_wp2_with fail
      refine (of_any' o x y g l r _ _ _ [16] _ (ops_at rfl rfl rfl (Nat.le_of_ble_eq_true rfl))).mono ?_
      rintro e w7 ⟨rfl, hk2⟩
      have HO2 := Lib.hid (HO.out.then (((Kept.refl w6).alloc (.cells #[.int .u8 16] 27)).trans hk2))
      clear f0 f1 f2 f3 f4 f5 f6 f7 f8 f9 f10 f11 f12 f13 f14 f15
      clear HO
      have HO := HO2
      clear HO2
      clear hk2
      rw [M16.out]
      generalize Value.agg #[Value.int .u8 o, Value.int .i64 x, Value.int .i64 y, Value.pointer (some ⟨g, 0, none⟩), Value.int .u8 l.k, Value.int .i64 l.n, Value.int .i64 l.a, Value.int .u8 l.o, Value.int .i64 l.x, Value.int .i64 l.y, Value.int .u8 r.k, Value.int .i64 r.n, Value.int .i64 r.a, Value.int .u8 r.o, Value.int .i64 r.x, Value.int .i64 r.y] = A6
      as_aux_lemma =>
        obtain ⟨f0, f1, f2, f3, f4, f5, f6, f7, f8, f9, f10, f11, f12, f13, f14, f15⟩ := ask_facts HO.out.ask
        go_wp2_with fail
        refine (of_any' o x y g l r _ _ _ [16] _ (ops_at rfl rfl rfl (Nat.le_of_ble_eq_true rfl))).mono ?_
        rintro e w8 ⟨rfl, hk2⟩
        have HO2 := Lib.hid (HO.out.then (((Kept.refl w7).alloc (.cells #[.int .u8 16] 27)).trans hk2))
        clear f0 f1 f2 f3 f4 f5 f6 f7 f8 f9 f10 f11 f12 f13 f14 f15
        clear HO
        have HO := HO2
        clear HO2
        clear hk2
        rw [M16.out]
        generalize Value.agg #[Value.int .u8 o, Value.int .i64 x, Value.int .i64 y, Value.pointer (some ⟨g, 0, none⟩), Value.int .u8 l.k, Value.int .i64 l.n, Value.int .i64 l.a, Value.int .u8 l.o, Value.int .i64 l.x, Value.int .i64 l.y, Value.int .u8 r.k, Value.int .i64 r.n, Value.int .i64 r.a, Value.int .u8 r.o, Value.int .i64 r.x, Value.int .i64 r.y] = A7
        obtain ⟨f0, f1, f2, f3, f4, f5, f6, f7, f8, f9, f10, f11, f12, f13, f14, f15⟩ := ask_facts HO.out.ask
        go_wp2_with fail
        refine (of_any' o x y g l r _ _ _ [8] _ (ops_at rfl rfl rfl (Nat.le_of_ble_eq_true rfl))).mono ?_
        rintro e w9 ⟨rfl, hk2⟩
        have HO2 := Lib.hid (HO.out.then (((Kept.refl w8).alloc (.cells #[.int .u8 8] 27)).trans hk2))
        clear f0 f1 f2 f3 f4 f5 f6 f7 f8 f9 f10 f11 f12 f13 f14 f15
        clear HO
        have HO := HO2
        clear HO2
        clear hk2
        rw [M8.out]
        generalize Value.agg #[Value.int .u8 o, Value.int .i64 x, Value.int .i64 y, Value.pointer (some ⟨g, 0, none⟩), Value.int .u8 l.k, Value.int .i64 l.n, Value.int .i64 l.a, Value.int .u8 l.o, Value.int .i64 l.x, Value.int .i64 l.y, Value.int .u8 r.k, Value.int .i64 r.n, Value.int .i64 r.a, Value.int .u8 r.o, Value.int .i64 r.x, Value.int .i64 r.y] = A8
        have hand : bits .and .i64 r.n 1 = opI 8 r.n 1 := and_i64 _ _
        have md := Hd.out
        obtain ⟨f0, f1, f2, f3, f4, f5, f6, f7, f8, f9, f10, f11, f12, f13, f14, f15⟩ := ask_facts HO.out.ask
        go_wp2_with fail
        clear hand md
        refine (is_any x _).mono ?_
        rintro e w10 ⟨rfl, hk2⟩
        have HO2 := Lib.hid (HO.out.then (hk2))
        clear f0 f1 f2 f3 f4 f5 f6 f7 f8 f9 f10 f11 f12 f13 f14 f15
        clear HO
        have HO := HO2
        clear HO2
        clear hk2
        simp only [formV]
        obtain ⟨f0, f1, f2, f3, f4, f5, f6, f7, f8, f9, f10, f11, f12, f13, f14, f15⟩ := ask_facts HO.out.ask
        obtain ⟨k0, k1, k2, z0, z1, z2, ks⟩ := form_facts HO.out.frm
        go_wp2
        have HR := Lib.hid (put3_row HO.out.frm ⟨0, x, 0⟩)
        have HE := Lib.hid (HO.out.end1 ⟨0, x, 0⟩).2
        clear k0 k1 k2 z0 z1 z2 ks
        change bodyPost _ _ _ _ _ (put3 w10 (b + 1) ⟨0, x, 0⟩)
        generalize put3 w10 (b + 1) ⟨0, x, 0⟩ = w99 at *
        obtain ⟨k0, k1, k2, _, _, _, ks⟩ := form_facts HR.out
        exact bodyPost_ret (v := .tuple #[formV ⟨0, x, 0⟩, .bool true]) (by simp [results, Tryz.results116, go_sem, formV, k0, k1, k2]) rfl (rule_yes (HC.out) ⟨0, x, 0⟩ rfl ⟨_, _, HE.out⟩ (by rw [HZ.out]; exact ⟨rfl, rfl⟩))
end Go.Proofs.YtgkjdmojbndicaaGreatDoor

namespace Go.Proofs.YtgkjdmojbndicaaGreatDoor
open Go Go.RowKit
set_option maxRecDepth 100000 in
set_option maxHeartbeats 8000000 in
theorem tnp10_any {Bx : List Nd → Int → List Nd → Int → Int → Prop} {B g m c : Nat} {sa : Option Addr} {L : List Nd} {w : World} (h : GraphAt B w g m sa c L) (o x y : Int) (l r : Nd) (hl : Lk L l) (hr : r.Ok) (hlo : l.Ok) (hL : LaidN B w) (hlen : L.length ≤ 1000000000) (h10 : (o == 10) = false) (h16 : (o == 16) = false) (h8 : (o == 8) = true) (hd : (opI 8 r.n 1 == 1) = false) :
    Calls Tryz.prog 116 #[askV o x y g l r] w (RuleQ Bx B g m sa L (tnF L o x r.n l) (tnB L o r.n l) w) := by
  have HO := Lib.hid (own_start h hL o x y l r)
  have HL := Lib.hid hl
  have HRK := Lib.hid hr
  have HLK := Lib.hid hlo
  have HLEN := Lib.hid hlen
  have H10 := Lib.hid h10
  have H16 := Lib.hid h16
  have H8 := Lib.hid h8
  have Hd := Lib.hid hd
  clear h hL hl hr hlo h10 h16 h8 hd
  simp only [askV]
  go_enter Tryz.func116, Tryz.ntmps116
  go_upto_region 1 with (fail)
  change Code.wp _ _ _ _ ((w.alloc (askO o x y g l r)).alloc (formO 0 0 0))
  generalize (w.alloc (askO o x y g l r)).alloc (formO 0 0 0) = W at *
  obtain ⟨b, hb⟩ : ∃ b : Nat, b = w.heap.size := ⟨_, rfl⟩
  rw [← hb] at HO ⊢
  clear hb
  have M8 : Hid (memO [8] o = true) := by
    show _ = _
    simp only [memO, List.any_cons, List.any_nil, Bool.or_false]
    exact H8.out
  have M10 : Hid (memO [10] o = false) := by
    show _ = _
    simp only [memO, List.any_cons, List.any_nil, Bool.or_false]
    exact H10.out
  have M16 : Hid (memO [16] o = false) := by
    show _ = _
    simp only [memO, List.any_cons, List.any_nil, Bool.or_false]
    exact H16.out
  have HC : Hid (tnB L o r.n l = true) := by
    show _ = _
    unfold tnB
    rw [H10.out, H16.out]; rfl
  have HZ : Hid (tnF L o x r.n l = .con 0) := by
    show _ = _
    unfold tnF
    rw [H10.out, H16.out, H8.out, Hd.out]; rfl
  obtain ⟨f0, f1, f2, f3, f4, f5, f6, f7, f8, f9, f10, f11, f12, f13, f14, f15⟩ := ask_facts HO.out.ask
  go_wp2_with fail
  refine (opposite_any HO.out.gr o x y l r HL.out).mono ?_
  rintro e w2 ⟨rfl, hk2⟩
  have HO2 := Lib.hid (HO.out.then (hk2))
  clear f0 f1 f2 f3 f4 f5 f6 f7 f8 f9 f10 f11 f12 f13 f14 f15
  clear HO
  have HO := HO2
  clear HO2
  clear hk2
  generalize oppB L l = ob
  generalize oppX L l = ox
  generalize Value.agg #[Value.int .u8 o, Value.int .i64 x, Value.int .i64 y, Value.pointer (some ⟨g, 0, none⟩), Value.int .u8 l.k, Value.int .i64 l.n, Value.int .i64 l.a, Value.int .u8 l.o, Value.int .i64 l.x, Value.int .i64 l.y, Value.int .u8 r.k, Value.int .i64 r.n, Value.int .i64 r.a, Value.int .u8 r.o, Value.int .i64 r.x, Value.int .i64 r.y] = A1
  obtain ⟨f0, f1, f2, f3, f4, f5, f6, f7, f8, f9, f10, f11, f12, f13, f14, f15⟩ := ask_facts HO.out.ask
  go_wp2_with fail
  refine (of_any' o x y g l r _ _ _ [10] _ (ops_at rfl rfl rfl (Nat.le_of_ble_eq_true rfl))).mono ?_
  rintro e w3 ⟨rfl, hk2⟩
  have HO2 := Lib.hid (HO.out.then (((Kept.refl w2).alloc (.cells #[.int .u8 10] 27)).trans hk2))
  clear f0 f1 f2 f3 f4 f5 f6 f7 f8 f9 f10 f11 f12 f13 f14 f15
  clear HO
  have HO := HO2
  clear HO2
  clear hk2
  rw [M10.out]
  generalize Value.agg #[Value.int .u8 o, Value.int .i64 x, Value.int .i64 y, Value.pointer (some ⟨g, 0, none⟩), Value.int .u8 l.k, Value.int .i64 l.n, Value.int .i64 l.a, Value.int .u8 l.o, Value.int .i64 l.x, Value.int .i64 l.y, Value.int .u8 r.k, Value.int .i64 r.n, Value.int .i64 r.a, Value.int .u8 r.o, Value.int .i64 r.x, Value.int .i64 r.y] = A2
  as_aux_lemma =>
    obtain ⟨f0, f1, f2, f3, f4, f5, f6, f7, f8, f9, f10, f11, f12, f13, f14, f15⟩ := ask_facts HO.out.ask
    go_wp2_with fail
    refine (of_any' o x y g l r _ _ _ [10] _ (ops_at rfl rfl rfl (Nat.le_of_ble_eq_true rfl))).mono ?_
    rintro e w4 ⟨rfl, hk2⟩
    have HO2 := Lib.hid (HO.out.then (((Kept.refl w3).alloc (.cells #[.int .u8 10] 27)).trans hk2))
    clear f0 f1 f2 f3 f4 f5 f6 f7 f8 f9 f10 f11 f12 f13 f14 f15
    clear HO
    have HO := HO2
    clear HO2
    clear hk2
    rw [M10.out]
    generalize Value.agg #[Value.int .u8 o, Value.int .i64 x, Value.int .i64 y, Value.pointer (some ⟨g, 0, none⟩), Value.int .u8 l.k, Value.int .i64 l.n, Value.int .i64 l.a, Value.int .u8 l.o, Value.int .i64 l.x, Value.int .i64 l.y, Value.int .u8 r.k, Value.int .i64 r.n, Value.int .i64 r.a, Value.int .u8 r.o, Value.int .i64 r.x, Value.int .i64 r.y] = A3
    obtain ⟨f0, f1, f2, f3, f4, f5, f6, f7, f8, f9, f10, f11, f12, f13, f14, f15⟩ := ask_facts HO.out.ask
    go_wp2_with fail
    refine (of_any' o x y g l r _ _ _ [16] _ (ops_at rfl rfl rfl (Nat.le_of_ble_eq_true rfl))).mono ?_
    rintro e w5 ⟨rfl, hk2⟩
    have HO2 := Lib.hid (HO.out.then (((Kept.refl w4).alloc (.cells #[.int .u8 16] 27)).trans hk2))
    clear f0 f1 f2 f3 f4 f5 f6 f7 f8 f9 f10 f11 f12 f13 f14 f15
    clear HO
    have HO := HO2
    clear HO2
    clear hk2
    rw [M16.out]
    generalize Value.agg #[Value.int .u8 o, Value.int .i64 x, Value.int .i64 y, Value.pointer (some ⟨g, 0, none⟩), Value.int .u8 l.k, Value.int .i64 l.n, Value.int .i64 l.a, Value.int .u8 l.o, Value.int .i64 l.x, Value.int .i64 l.y, Value.int .u8 r.k, Value.int .i64 r.n, Value.int .i64 r.a, Value.int .u8 r.o, Value.int .i64 r.x, Value.int .i64 r.y] = A4
    as_aux_lemma =>
      obtain ⟨f0, f1, f2, f3, f4, f5, f6, f7, f8, f9, f10, f11, f12, f13, f14, f15⟩ := ask_facts HO.out.ask
      go_wp2_with fail
      refine (of_any' o x y g l r _ _ _ [10] _ (ops_at rfl rfl rfl (Nat.le_of_ble_eq_true rfl))).mono ?_
      rintro e w6 ⟨rfl, hk2⟩
      have HO2 := Lib.hid (HO.out.then (((Kept.refl w5).alloc (.cells #[.int .u8 10] 27)).trans hk2))
      clear f0 f1 f2 f3 f4 f5 f6 f7 f8 f9 f10 f11 f12 f13 f14 f15
      clear HO
      have HO := HO2
      clear HO2
      clear hk2
      rw [M10.out]
      generalize Value.agg #[Value.int .u8 o, Value.int .i64 x, Value.int .i64 y, Value.pointer (some ⟨g, 0, none⟩), Value.int .u8 l.k, Value.int .i64 l.n, Value.int .i64 l.a, Value.int .u8 l.o, Value.int .i64 l.x, Value.int .i64 l.y, Value.int .u8 r.k, Value.int .i64 r.n, Value.int .i64 r.a, Value.int .u8 r.o, Value.int .i64 r.x, Value.int .i64 r.y] = A5
      obtain ⟨f0, f1, f2, f3, f4, f5, f6, f7, f8, f9, f10, f11, f12, f13, f14, f15⟩ := ask_facts HO.out.ask
      go_wp2_with fail
      refine (of_any' o x y g l r _ _ _ [16] _ (ops_at rfl rfl rfl (Nat.le_of_ble_eq_true rfl))).mono ?_
      rintro e w7 ⟨rfl, hk2⟩
      have HO2 := Lib.hid (HO.out.then (((Kept.refl w6).alloc (.cells #[.int .u8 16] 27)).trans hk2))
      clear f0 f1 f2 f3 f4 f5 f6 f7 f8 f9 f10 f11 f12 f13 f14 f15
      clear HO
      have HO := HO2
      clear HO2
      clear hk2
      rw [M16.out]
      generalize Value.agg #[Value.int .u8 o, Value.int .i64 x, Value.int .i64 y, Value.pointer (some ⟨g, 0, none⟩), Value.int .u8 l.k, Value.int .i64 l.n, Value.int .i64 l.a, Value.int .u8 l.o, Value.int .i64 l.x, Value.int .i64 l.y, Value.int .u8 r.k, Value.int .i64 r.n, Value.int .i64 r.a, Value.int .u8 r.o, Value.int .i64 r.x, Value.int .i64 r.y] = A6
      as_aux_lemma =>
        obtain ⟨f0, f1, f2, f3, f4, f5, f6, f7, f8, f9, f10, f11, f12, f13, f14, f15⟩ := ask_facts HO.out.ask
        go_wp2_with fail
        refine (of_any' o x y g l r _ _ _ [16] _ (ops_at rfl rfl rfl (Nat.le_of_ble_eq_true rfl))).mono ?_
        rintro e w8 ⟨rfl, hk2⟩
        have HO2 := Lib.hid (HO.out.then (((Kept.refl w7).alloc (.cells #[.int .u8 16] 27)).trans hk2))
        clear f0 f1 f2 f3 f4 f5 f6 f7 f8 f9 f10 f11 f12 f13 f14 f15
        clear HO
        have HO := HO2
        clear HO2
        clear hk2
        rw [M16.out]
        generalize Value.agg #[Value.int .u8 o, Value.int .i64 x, Value.int .i64 y, Value.pointer (some ⟨g, 0, none⟩), Value.int .u8 l.k, Value.int .i64 l.n, Value.int .i64 l.a, Value.int .u8 l.o, Value.int .i64 l.x, Value.int .i64 l.y, Value.int .u8 r.k, Value.int .i64 r.n, Value.int .i64 r.a, Value.int .u8 r.o, Value.int .i64 r.x, Value.int .i64 r.y] = A7
        obtain ⟨f0, f1, f2, f3, f4, f5, f6, f7, f8, f9, f10, f11, f12, f13, f14, f15⟩ := ask_facts HO.out.ask
        go_wp2_with fail
        refine (of_any' o x y g l r _ _ _ [8] _ (ops_at rfl rfl rfl (Nat.le_of_ble_eq_true rfl))).mono ?_
        rintro e w9 ⟨rfl, hk2⟩
        have HO2 := Lib.hid (HO.out.then (((Kept.refl w8).alloc (.cells #[.int .u8 8] 27)).trans hk2))
        clear f0 f1 f2 f3 f4 f5 f6 f7 f8 f9 f10 f11 f12 f13 f14 f15
        clear HO
        have HO := HO2
        clear HO2
        clear hk2
        rw [M8.out]
        generalize Value.agg #[Value.int .u8 o, Value.int .i64 x, Value.int .i64 y, Value.pointer (some ⟨g, 0, none⟩), Value.int .u8 l.k, Value.int .i64 l.n, Value.int .i64 l.a, Value.int .u8 l.o, Value.int .i64 l.x, Value.int .i64 l.y, Value.int .u8 r.k, Value.int .i64 r.n, Value.int .i64 r.a, Value.int .u8 r.o, Value.int .i64 r.x, Value.int .i64 r.y] = A8
        have hand : bits .and .i64 r.n 1 = opI 8 r.n 1 := and_i64 _ _
        have md := Hd.out
        obtain ⟨f0, f1, f2, f3, f4, f5, f6, f7, f8, f9, f10, f11, f12, f13, f14, f15⟩ := ask_facts HO.out.ask
        go_wp2_with fail
        clear hand md
        refine (num_any HO.out.gr o x y l r (0) (in0) HO.out.laid hlen).mono ?_
        rintro e w10 ⟨rfl, a2, c2, hT2⟩
        have HT2 := Lib.hid hT2
        have HF2 := Lib.hid (HT2.out.row HO.out.frm HO.out.off.2)
        clear hT2
        simp only [formV]
        clear f0 f1 f2 f3 f4 f5 f6 f7 f8 f9 f10 f11 f12 f13 f14 f15
        obtain ⟨k0, k1, k2, z0, z1, z2, ks⟩ := form_facts HF2.out
        go_wp2
        have HR := Lib.hid (put3_row HF2.out ⟨0, addR L (kN (0)), 0⟩)
        have HE := Lib.hid (HO.out.end2 HT2.out ⟨0, addR L (kN (0)), 0⟩)
        clear k0 k1 k2 z0 z1 z2 ks
        change bodyPost _ _ _ _ _ (put3 w10 (b + 1) ⟨0, addR L (kN (0)), 0⟩)
        generalize put3 w10 (b + 1) ⟨0, addR L (kN (0)), 0⟩ = w99 at *
        obtain ⟨k0, k1, k2, _, _, _, ks⟩ := form_facts HR.out
        exact bodyPost_ret (v := .tuple #[formV ⟨0, addR L (kN (0)), 0⟩, .bool true]) (by simp [results, Tryz.results116, go_sem, formV, k0, k1, k2]) rfl (rule_yes (HC.out) ⟨0, addR L (kN (0)), 0⟩ rfl HE.out (by rw [HZ.out]; exact ⟨rfl, rfl⟩))
end Go.Proofs.YtgkjdmojbndicaaGreatDoor
