/-
  Several texts in one: NR4: Layer 4: the contract of a rule of norm (the rulesOfAll$5).; NR14: Layer 4: the contract of a rule of norm (the rulesOfTruths$4)..
-/
import Derived.Test.YtgkjdmojbndicaaGreatDoorMI
namespace Go.Proofs.YtgkjdmojbndicaaGreatDoor
open Go Go.RowKit
set_option maxRecDepth 100000 in
set_option maxHeartbeats 8000000 in
theorem rule4_any {Bx : List Nd → Int → List Nd → Int → Int → Prop} {B g m c : Nat} {sa : Option Addr} {L : List Nd} {w : World} (h : GraphAt B w g m sa c L) (o x y : Int) (l r : Nd) (hl : Lk L l) (hr : r.Ok) (hlo : l.Ok) (hL : LaidN B w) (hlen : L.length ≤ 1000000000) :
    Calls Tryz.prog 101 #[askV o x y g l r] w (RuleQ Bx B g m sa L (oF L o x y l r 4) (cB L o x y l r 4) w) := by
  have HO := Lib.hid (own_start h hL o x y l r)
  have HL := Lib.hid hl
  have HRK := Lib.hid hr
  have HLK := Lib.hid hlo
  have HLEN := Lib.hid hlen
  clear h hL hl hr hlo
  simp only [askV]
  go_enter Tryz.func101, Tryz.ntmps101
  go_upto_region 1 with (fail)
  change Code.wp _ _ _ _ ((w.alloc (askO o x y g l r)).alloc (formO 0 0 0))
  generalize (w.alloc (askO o x y g l r)).alloc (formO 0 0 0) = W at *
  obtain ⟨b, hb⟩ : ∃ b : Nat, b = w.heap.size := ⟨_, rfl⟩
  rw [← hb] at HO ⊢
  clear hb
  by_cases hxy : x = y
  · have m1 : (x != y) = false := by rw [hxy]; simp
    have HXY : Hid ((x == y) = true) := beq_iff_eq.2 hxy
    clear hxy
    obtain ⟨f0, f1, f2, f3, f4, f5, f6, f7, f8, f9, f10, f11, f12, f13, f14, f15⟩ := ask_facts HO.out.ask
    go_wp2_with fail
    clear m1
    refine (of_any' o x y g l r _ _ _ [2, 10, 14, 15] _ (ops_at rfl rfl rfl (Nat.le_of_ble_eq_true rfl))).mono ?_
    rintro e w2 ⟨rfl, hk2⟩
    have HO2 := Lib.hid (HO.out.then (((Kept.refl W).alloc (.cells #[.int .u8 2, .int .u8 10, .int .u8 14, .int .u8 15] 27)).trans hk2))
    clear f0 f1 f2 f3 f4 f5 f6 f7 f8 f9 f10 f11 f12 f13 f14 f15
    clear HO
    have HO := HO2
    clear HO2
    clear hk2
    cases hq : (memO [2, 10, 14, 15] o) with
    | false =>
      have HQ1 := Lib.hid hq
      clear hq
      obtain ⟨f0, f1, f2, f3, f4, f5, f6, f7, f8, f9, f10, f11, f12, f13, f14, f15⟩ := ask_facts HO.out.ask
      go_wp2_with fail
      refine (of_any' o x y g l r _ _ _ [16] _ (ops_at rfl rfl rfl (Nat.le_of_ble_eq_true rfl))).mono ?_
      rintro e w3 ⟨rfl, hk2⟩
      have HO2 := Lib.hid (HO.out.then (((Kept.refl w2).alloc (.cells #[.int .u8 16] 27)).trans hk2))
      clear f0 f1 f2 f3 f4 f5 f6 f7 f8 f9 f10 f11 f12 f13 f14 f15
      clear HO
      have HO := HO2
      clear HO2
      clear hk2
      cases hq : (memO [16] o) with
      | false =>
        have HQ2 := Lib.hid hq
        clear hq
        obtain ⟨f0, f1, f2, f3, f4, f5, f6, f7, f8, f9, f10, f11, f12, f13, f14, f15⟩ := ask_facts HO.out.ask
        obtain ⟨k0, k1, k2, z0, z1, z2, ks⟩ := form_facts HO.out.frm
        go_wp2_with fail
        clear f0 f1 f2 f3 f4 f5 f6 f7 f8 f9 f10 f11 f12 f13 f14 f15
        clear k0 k1 k2 z0 z1 z2 ks
        have SK : Hid (∀ w', Kept w3 w' → w'.cell? ⟨b, 0, none⟩ = some (.int .u8 o) ∧ w'.cell? ⟨b, 1, none⟩ = some (.int .i64 x) ∧ w'.cell? ⟨b, 2, none⟩ = some (.int .i64 y) ∧ w'.cell? ⟨b, 3, none⟩ = some (.pointer (some ⟨g, 0, none⟩)) ∧ w'.cell? ⟨b, 4, none⟩ = some (.int .u8 l.k) ∧ w'.cell? ⟨b, 5, none⟩ = some (.int .i64 l.n) ∧ w'.cell? ⟨b, 6, none⟩ = some (.int .i64 l.a) ∧ w'.cell? ⟨b, 7, none⟩ = some (.int .u8 l.o) ∧ w'.cell? ⟨b, 8, none⟩ = some (.int .i64 l.x) ∧ w'.cell? ⟨b, 9, none⟩ = some (.int .i64 l.y) ∧ w'.cell? ⟨b, 10, none⟩ = some (.int .u8 r.k) ∧ w'.cell? ⟨b, 11, none⟩ = some (.int .i64 r.n) ∧ w'.cell? ⟨b, 12, none⟩ = some (.int .i64 r.a) ∧ w'.cell? ⟨b, 13, none⟩ = some (.int .u8 r.o) ∧ w'.cell? ⟨b, 14, none⟩ = some (.int .i64 r.x) ∧ w'.cell? ⟨b, 15, none⟩ = some (.int .i64 r.y)) := fun w' hk => ask_facts (hk.row HO.out.ask)
        cases hp : memO [8, 9] o with
        | false =>
          have HC : Hid (cB L o x y l r 4 = false) := by
            show _ = _
            show (x == y && (o == 2 || o == 10 || o == 14 || o == 15 || o == 16 || o == 8 || o == 9)) = false
            have a1 := HQ1.out
            have a2 := HQ2.out
            have a3 := hp
            simp only [memO, List.any_cons, List.any_nil, Bool.or_false] at a1 a2 a3
            rw [HXY.out]
            simp only [Bool.or_eq_false_iff] at a1
            rw [a1.1, a1.2.1, a1.2.2.1, a1.2.2.2, a2]
            simpa using a3
          have HP := Lib.hid hp
          clear hp
          refine wp_region_held_drew (S := (fun w' => w'.cell? ⟨b, 0, none⟩ = some (.int .u8 o) ∧ w'.cell? ⟨b, 1, none⟩ = some (.int .i64 x) ∧ w'.cell? ⟨b, 2, none⟩ = some (.int .i64 y) ∧ w'.cell? ⟨b, 3, none⟩ = some (.pointer (some ⟨g, 0, none⟩)) ∧ w'.cell? ⟨b, 4, none⟩ = some (.int .u8 l.k) ∧ w'.cell? ⟨b, 5, none⟩ = some (.int .i64 l.n) ∧ w'.cell? ⟨b, 6, none⟩ = some (.int .i64 l.a) ∧ w'.cell? ⟨b, 7, none⟩ = some (.int .u8 l.o) ∧ w'.cell? ⟨b, 8, none⟩ = some (.int .i64 l.x) ∧ w'.cell? ⟨b, 9, none⟩ = some (.int .i64 l.y) ∧ w'.cell? ⟨b, 10, none⟩ = some (.int .u8 r.k) ∧ w'.cell? ⟨b, 11, none⟩ = some (.int .i64 r.n) ∧ w'.cell? ⟨b, 12, none⟩ = some (.int .i64 r.a) ∧ w'.cell? ⟨b, 13, none⟩ = some (.int .u8 r.o) ∧ w'.cell? ⟨b, 14, none⟩ = some (.int .i64 r.x) ∧ w'.cell? ⟨b, 15, none⟩ = some (.int .i64 r.y))) (by kernel_rfl) (SK.out _ (Kept.drew (Kept.refl _))) (fun hHeld => ?_)
          have HK0 : Hid (Kept w3 w3.drew) := Kept.drew (Kept.refl w3)
          generalize w3.drew = w40 at *
          refine wpAnyH_take (i := 0) (v := ?vv1) rfl (by kernel_rfl) (by kernel_rfl) (by kernel_rfl) (fun _ _ _ h => h) (Or.inl ⟨by rfl, ?hy1⟩) hHeld ?hr1
          case hy1 =>
            intro w hSw
            try dsimp only at hSw
            simp only [List.getElem_toArray, List.getElem_cons_zero]
            go_simp
            try with_reducible rfl
          simp only [List.getElem_toArray, List.getElem_cons_zero, Act.put, List.setIfInBounds_toArray, List.set_cons_zero, List.set_cons_succ]
          refine wpAnyH_take (i := 1) (v := ?vv2) rfl (by kernel_rfl) (by kernel_rfl) (by kernel_rfl) (fun _ _ _ h => h) (Or.inl ⟨by rfl, ?hy2⟩) hHeld ?hr2
          case hy2 =>
            intro w hSw
            try dsimp only at hSw
            simp only [List.getElem_toArray, List.getElem_cons_zero, List.getElem_cons_succ]
            go_simp
            try with_reducible rfl
          simp only [List.getElem_toArray, List.getElem_cons_zero, List.getElem_cons_succ, Act.put, List.setIfInBounds_toArray, List.set_cons_zero, List.set_cons_succ]
          refine wpAnyH_take (i := 2) (v := ?vv3) rfl (by kernel_rfl) (by kernel_rfl) (by kernel_rfl) (fun _ _ _ h => h) (Or.inl ⟨by rfl, ?hy3⟩) hHeld ?hr3
          case hy3 =>
            intro w hSw
            try dsimp only at hSw
            simp only [List.getElem_toArray, List.getElem_cons_zero, List.getElem_cons_succ]
            go_simp
            try with_reducible rfl
          simp only [List.getElem_toArray, List.getElem_cons_zero, List.getElem_cons_succ, Act.put, List.setIfInBounds_toArray, List.set_cons_zero, List.set_cons_succ]
          refine wpAnyH_take (i := 4) (v := ?vv4) rfl (by kernel_rfl) (by kernel_rfl) (by kernel_rfl) (fun _ _ _ h => h) (Or.inl ⟨by rfl, ?hy4⟩) hHeld ?hr4
          case hy4 =>
            intro w hSw
            try dsimp only at hSw
            simp only [List.getElem_toArray, List.getElem_cons_zero, List.getElem_cons_succ]
            go_simp
            try with_reducible rfl
          simp only [List.getElem_toArray, List.getElem_cons_zero, List.getElem_cons_succ, Act.put, List.setIfInBounds_toArray, List.set_cons_zero, List.set_cons_succ]
          refine wpAnyH_ready (rs := [3, 5]) (by kernel_rfl) (by simp) ?_
          refine AllReadyH.cons rfl (fun K hK => ?_) (AllReadyH.cons rfl (fun K hK => ?_) AllReadyH.nil)
          · skip
            try simp only [List.getElem_toArray, List.getElem_cons_zero, List.getElem_cons_succ]
            go_simp
            refine (is_any x _).mono ?_
            rintro e w50 ⟨rfl, hk5⟩
            simp only [formV]
            have HKI : Hid (Kept w3 w50) := (HK0.out).trans hk5
            have HLA := Lib.hid hk5
            clear hk5
            go_wp2_with fail
            refine hK.out _ _ (SK.out _ HKI.out) (fun hHeld => ?_)
            clear hK K
            try simp only [List.getElem_toArray, List.getElem_cons_zero, List.getElem_cons_succ, Act.put, List.setIfInBounds_toArray, List.set_cons_zero, List.set_cons_succ]
            refine wpAnyH_ready (rs := [5]) (by kernel_rfl) (by simp) ?_
            refine AllReadyH.cons rfl (fun K hK => ?_) AllReadyH.nil
            try simp only [List.getElem_toArray, List.getElem_cons_zero, List.getElem_cons_succ]
            go_simp
            refine hK.out _ _ (SK.out _ (HKI.out.alloc _)) (fun hHeld => ?_)
            clear hK K
            try simp only [List.getElem_toArray, List.getElem_cons_zero, List.getElem_cons_succ, Act.put, List.setIfInBounds_toArray, List.set_cons_zero, List.set_cons_succ]
            refine wpAnyH_ready (rs := [6]) (by kernel_rfl) (by simp) ?_
            refine AllReadyH.cons rfl (fun K hK => ?_) AllReadyH.nil
            try simp only [List.getElem_toArray, List.getElem_cons_zero, List.getElem_cons_succ]
            go_simp
            refine (of_any' o x y g l r _ _ _ [8, 9] _ (ops_at rfl rfl rfl (Nat.le_of_ble_eq_true rfl))).mono ?_
            rintro e w51 ⟨rfl, hk6⟩
            rw [HP.out]
            have HKF : Hid (Kept w3 w51) := (HKI.out.alloc _).trans hk6
            clear hk6
            go_wp2_with fail
            refine hK.out _ _ (SK.out _ HKF.out) (fun hHeld => ?_)
            clear hK K
            try simp only [List.getElem_toArray, List.getElem_cons_zero, List.getElem_cons_succ, Act.put, List.setIfInBounds_toArray, List.set_cons_zero, List.set_cons_succ]
            obtain ⟨k0, k1, k2, z0, z1, z2, ks⟩ := form_facts (HKF.out.row HO.out.frm)
            refine wpAnyH_ready (rs := [7]) (by kernel_rfl) (by simp) ?_
            refine AllReadyH.cons rfl (fun K hK => ?_) AllReadyH.nil
            try simp only [List.getElem_toArray, List.getElem_cons_zero, List.getElem_cons_succ]
            go_simp
            refine hK.out _ _ (ask_facts (put3_ask (HKF.out.row HO.out.ask) _ _ _)) (fun hHeld => ?_)
            clear hK K
            try simp only [List.getElem_toArray, List.getElem_cons_zero, List.getElem_cons_succ, Act.put, List.setIfInBounds_toArray, List.set_cons_zero, List.set_cons_succ]
            refine wpAnyH_take (i := 8) (v := ?vv5) rfl (by kernel_rfl) (by kernel_rfl) (by kernel_rfl) (fun _ _ _ h => h) (Or.inl ⟨by rfl, ?hy5⟩) hHeld ?hr5
            case hy5 =>
              intro w hSw
              try dsimp only at hSw
              simp only [List.getElem_toArray, List.getElem_cons_zero, List.getElem_cons_succ]
              go_simp
              try with_reducible rfl
            simp only [List.getElem_toArray, List.getElem_cons_zero, List.getElem_cons_succ, Act.put, List.setIfInBounds_toArray, List.set_cons_zero, List.set_cons_succ]
            refine wpAnyH_done (by kernel_rfl) ?_ _
            clear SK hHeld
            go_wp2
            have HO9 := Lib.hid (HO.out.then HKF.out)
            clear HO
            have HO := HO9
            have HR := Lib.hid (put3_row HO.out.frm ⟨0, x, 0⟩)
            have HE := Lib.hid (HO.out.end1 ⟨0, x, 0⟩).1
            clear k0 k1 k2 z0 z1 z2 ks
            change bodyPost _ _ _ _ _ (put3 w51 (b + 1) ⟨0, x, 0⟩)
            generalize put3 w51 (b + 1) ⟨0, x, 0⟩ = w99 at *
            obtain ⟨k0, k1, k2, _, _, _, ks⟩ := form_facts HR.out
            exact bodyPost_ret (v := .tuple #[formV ⟨0, x, 0⟩, .bool false]) (by simp [results, Tryz.results101, go_sem, formV, k0, k1, k2]) rfl (rule_no (HC.out) ⟨0, x, 0⟩ rfl HE.out)
          · skip
            try simp only [List.getElem_toArray, List.getElem_cons_zero, List.getElem_cons_succ]
            go_simp
            refine hK.out _ _ (SK.out _ (HK0.out.alloc _)) (fun hHeld => ?_)
            clear hK K
            try simp only [List.getElem_toArray, List.getElem_cons_zero, List.getElem_cons_succ, Act.put, List.setIfInBounds_toArray, List.set_cons_zero, List.set_cons_succ]
            refine wpAnyH_ready (rs := [3]) (by kernel_rfl) (by simp) ?_
            refine AllReadyH.cons rfl (fun K hK => ?_) AllReadyH.nil
            try simp only [List.getElem_toArray, List.getElem_cons_zero, List.getElem_cons_succ]
            go_simp
            refine (is_any x _).mono ?_
            rintro e w50 ⟨rfl, hk5⟩
            simp only [formV]
            have HKI : Hid (Kept w3 w50) := (HK0.out.alloc _).trans hk5
            have HLA := Lib.hid hk5
            clear hk5
            go_wp2_with fail
            refine hK.out _ _ (SK.out _ HKI.out) (fun hHeld => ?_)
            clear hK K
            try simp only [List.getElem_toArray, List.getElem_cons_zero, List.getElem_cons_succ, Act.put, List.setIfInBounds_toArray, List.set_cons_zero, List.set_cons_succ]
            refine wpAnyH_ready (rs := [6]) (by kernel_rfl) (by simp) ?_
            refine AllReadyH.cons rfl (fun K hK => ?_) AllReadyH.nil
            try simp only [List.getElem_toArray, List.getElem_cons_zero, List.getElem_cons_succ]
            go_simp
            refine (of_any' o x y g l r _ _ _ [8, 9] _ (OpsAt.kept (ops_at rfl rfl rfl (Nat.le_of_ble_eq_true rfl)) HLA.out)).mono ?_
            rintro e w51 ⟨rfl, hk6⟩
            rw [HP.out]
            have HKF : Hid (Kept w3 w51) := (HKI.out).trans hk6
            clear hk6
            go_wp2_with fail
            refine hK.out _ _ (SK.out _ HKF.out) (fun hHeld => ?_)
            clear hK K
            try simp only [List.getElem_toArray, List.getElem_cons_zero, List.getElem_cons_succ, Act.put, List.setIfInBounds_toArray, List.set_cons_zero, List.set_cons_succ]
            obtain ⟨k0, k1, k2, z0, z1, z2, ks⟩ := form_facts (HKF.out.row HO.out.frm)
            refine wpAnyH_ready (rs := [7]) (by kernel_rfl) (by simp) ?_
            refine AllReadyH.cons rfl (fun K hK => ?_) AllReadyH.nil
            try simp only [List.getElem_toArray, List.getElem_cons_zero, List.getElem_cons_succ]
            go_simp
            refine hK.out _ _ (ask_facts (put3_ask (HKF.out.row HO.out.ask) _ _ _)) (fun hHeld => ?_)
            clear hK K
            try simp only [List.getElem_toArray, List.getElem_cons_zero, List.getElem_cons_succ, Act.put, List.setIfInBounds_toArray, List.set_cons_zero, List.set_cons_succ]
            refine wpAnyH_take (i := 8) (v := ?vv6) rfl (by kernel_rfl) (by kernel_rfl) (by kernel_rfl) (fun _ _ _ h => h) (Or.inl ⟨by rfl, ?hy6⟩) hHeld ?hr6
            case hy6 =>
              intro w hSw
              try dsimp only at hSw
              simp only [List.getElem_toArray, List.getElem_cons_zero, List.getElem_cons_succ]
              go_simp
              try with_reducible rfl
            simp only [List.getElem_toArray, List.getElem_cons_zero, List.getElem_cons_succ, Act.put, List.setIfInBounds_toArray, List.set_cons_zero, List.set_cons_succ]
            refine wpAnyH_done (by kernel_rfl) ?_ _
            clear SK hHeld
            go_wp2
            have HO9 := Lib.hid (HO.out.then HKF.out)
            clear HO
            have HO := HO9
            have HR := Lib.hid (put3_row HO.out.frm ⟨0, x, 0⟩)
            have HE := Lib.hid (HO.out.end1 ⟨0, x, 0⟩).1
            clear k0 k1 k2 z0 z1 z2 ks
            change bodyPost _ _ _ _ _ (put3 w51 (b + 1) ⟨0, x, 0⟩)
            generalize put3 w51 (b + 1) ⟨0, x, 0⟩ = w99 at *
            obtain ⟨k0, k1, k2, _, _, _, ks⟩ := form_facts HR.out
            exact bodyPost_ret (v := .tuple #[formV ⟨0, x, 0⟩, .bool false]) (by simp [results, Tryz.results101, go_sem, formV, k0, k1, k2]) rfl (rule_no (HC.out) ⟨0, x, 0⟩ rfl HE.out)
        | true =>
          have HC : Hid (cB L o x y l r 4 = true) := by
            show _ = _
            show (x == y && (o == 2 || o == 10 || o == 14 || o == 15 || o == 16 || o == 8 || o == 9)) = true
            have a1 := HQ1.out
            have a2 := HQ2.out
            have a3 := hp
            simp only [memO, List.any_cons, List.any_nil, Bool.or_false] at a1 a2 a3
            rw [HXY.out]
            simp only [Bool.or_eq_false_iff] at a1
            rw [a1.1, a1.2.1, a1.2.2.1, a1.2.2.2, a2]
            simpa using a3
          have HZ : Hid (oF L o x y l r 4 = .is x) := by
            show (if _ then _ else if _ then _ else _) = _
            have a1 := HQ1.out
            have a2 := HQ2.out
            simp only [memO, List.any_cons, List.any_nil, Bool.or_false] at a1 a2
            simp only [Bool.or_eq_false_iff] at a1
            rw [a1.1, a1.2.1, a1.2.2.1, a1.2.2.2, a2]
            simp
          have HP := Lib.hid hp
          clear hp
          refine wp_region_held_drew (S := (fun w' => w'.cell? ⟨b, 0, none⟩ = some (.int .u8 o) ∧ w'.cell? ⟨b, 1, none⟩ = some (.int .i64 x) ∧ w'.cell? ⟨b, 2, none⟩ = some (.int .i64 y) ∧ w'.cell? ⟨b, 3, none⟩ = some (.pointer (some ⟨g, 0, none⟩)) ∧ w'.cell? ⟨b, 4, none⟩ = some (.int .u8 l.k) ∧ w'.cell? ⟨b, 5, none⟩ = some (.int .i64 l.n) ∧ w'.cell? ⟨b, 6, none⟩ = some (.int .i64 l.a) ∧ w'.cell? ⟨b, 7, none⟩ = some (.int .u8 l.o) ∧ w'.cell? ⟨b, 8, none⟩ = some (.int .i64 l.x) ∧ w'.cell? ⟨b, 9, none⟩ = some (.int .i64 l.y) ∧ w'.cell? ⟨b, 10, none⟩ = some (.int .u8 r.k) ∧ w'.cell? ⟨b, 11, none⟩ = some (.int .i64 r.n) ∧ w'.cell? ⟨b, 12, none⟩ = some (.int .i64 r.a) ∧ w'.cell? ⟨b, 13, none⟩ = some (.int .u8 r.o) ∧ w'.cell? ⟨b, 14, none⟩ = some (.int .i64 r.x) ∧ w'.cell? ⟨b, 15, none⟩ = some (.int .i64 r.y))) (by kernel_rfl) (SK.out _ (Kept.drew (Kept.refl _))) (fun hHeld => ?_)
          have HK0 : Hid (Kept w3 w3.drew) := Kept.drew (Kept.refl w3)
          generalize w3.drew = w40 at *
          refine wpAnyH_take (i := 0) (v := ?vv7) rfl (by kernel_rfl) (by kernel_rfl) (by kernel_rfl) (fun _ _ _ h => h) (Or.inl ⟨by rfl, ?hy7⟩) hHeld ?hr7
          case hy7 =>
            intro w hSw
            try dsimp only at hSw
            simp only [List.getElem_toArray, List.getElem_cons_zero]
            go_simp
            try with_reducible rfl
          simp only [List.getElem_toArray, List.getElem_cons_zero, Act.put, List.setIfInBounds_toArray, List.set_cons_zero, List.set_cons_succ]
          refine wpAnyH_take (i := 1) (v := ?vv8) rfl (by kernel_rfl) (by kernel_rfl) (by kernel_rfl) (fun _ _ _ h => h) (Or.inl ⟨by rfl, ?hy8⟩) hHeld ?hr8
          case hy8 =>
            intro w hSw
            try dsimp only at hSw
            simp only [List.getElem_toArray, List.getElem_cons_zero, List.getElem_cons_succ]
            go_simp
            try with_reducible rfl
          simp only [List.getElem_toArray, List.getElem_cons_zero, List.getElem_cons_succ, Act.put, List.setIfInBounds_toArray, List.set_cons_zero, List.set_cons_succ]
          refine wpAnyH_take (i := 2) (v := ?vv9) rfl (by kernel_rfl) (by kernel_rfl) (by kernel_rfl) (fun _ _ _ h => h) (Or.inl ⟨by rfl, ?hy9⟩) hHeld ?hr9
          case hy9 =>
            intro w hSw
            try dsimp only at hSw
            simp only [List.getElem_toArray, List.getElem_cons_zero, List.getElem_cons_succ]
            go_simp
            try with_reducible rfl
          simp only [List.getElem_toArray, List.getElem_cons_zero, List.getElem_cons_succ, Act.put, List.setIfInBounds_toArray, List.set_cons_zero, List.set_cons_succ]
          refine wpAnyH_take (i := 4) (v := ?vv10) rfl (by kernel_rfl) (by kernel_rfl) (by kernel_rfl) (fun _ _ _ h => h) (Or.inl ⟨by rfl, ?hy10⟩) hHeld ?hr10
          case hy10 =>
            intro w hSw
            try dsimp only at hSw
            simp only [List.getElem_toArray, List.getElem_cons_zero, List.getElem_cons_succ]
            go_simp
            try with_reducible rfl
          simp only [List.getElem_toArray, List.getElem_cons_zero, List.getElem_cons_succ, Act.put, List.setIfInBounds_toArray, List.set_cons_zero, List.set_cons_succ]
          refine wpAnyH_ready (rs := [3, 5]) (by kernel_rfl) (by simp) ?_
          refine AllReadyH.cons rfl (fun K hK => ?_) (AllReadyH.cons rfl (fun K hK => ?_) AllReadyH.nil)
          · skip
            try simp only [List.getElem_toArray, List.getElem_cons_zero, List.getElem_cons_succ]
            go_simp
            refine (is_any x _).mono ?_
            rintro e w50 ⟨rfl, hk5⟩
            simp only [formV]
            have HKI : Hid (Kept w3 w50) := (HK0.out).trans hk5
            have HLA := Lib.hid hk5
            clear hk5
            go_wp2_with fail
            refine hK.out _ _ (SK.out _ HKI.out) (fun hHeld => ?_)
            clear hK K
            try simp only [List.getElem_toArray, List.getElem_cons_zero, List.getElem_cons_succ, Act.put, List.setIfInBounds_toArray, List.set_cons_zero, List.set_cons_succ]
            refine wpAnyH_ready (rs := [5]) (by kernel_rfl) (by simp) ?_
            refine AllReadyH.cons rfl (fun K hK => ?_) AllReadyH.nil
            try simp only [List.getElem_toArray, List.getElem_cons_zero, List.getElem_cons_succ]
            go_simp
            refine hK.out _ _ (SK.out _ (HKI.out.alloc _)) (fun hHeld => ?_)
            clear hK K
            try simp only [List.getElem_toArray, List.getElem_cons_zero, List.getElem_cons_succ, Act.put, List.setIfInBounds_toArray, List.set_cons_zero, List.set_cons_succ]
            refine wpAnyH_ready (rs := [6]) (by kernel_rfl) (by simp) ?_
            refine AllReadyH.cons rfl (fun K hK => ?_) AllReadyH.nil
            try simp only [List.getElem_toArray, List.getElem_cons_zero, List.getElem_cons_succ]
            go_simp
            refine (of_any' o x y g l r _ _ _ [8, 9] _ (ops_at rfl rfl rfl (Nat.le_of_ble_eq_true rfl))).mono ?_
            rintro e w51 ⟨rfl, hk6⟩
            rw [HP.out]
            have HKF : Hid (Kept w3 w51) := (HKI.out.alloc _).trans hk6
            clear hk6
            go_wp2_with fail
            refine hK.out _ _ (SK.out _ HKF.out) (fun hHeld => ?_)
            clear hK K
            try simp only [List.getElem_toArray, List.getElem_cons_zero, List.getElem_cons_succ, Act.put, List.setIfInBounds_toArray, List.set_cons_zero, List.set_cons_succ]
            obtain ⟨k0, k1, k2, z0, z1, z2, ks⟩ := form_facts (HKF.out.row HO.out.frm)
            refine wpAnyH_ready (rs := [7]) (by kernel_rfl) (by simp) ?_
            refine AllReadyH.cons rfl (fun K hK => ?_) AllReadyH.nil
            try simp only [List.getElem_toArray, List.getElem_cons_zero, List.getElem_cons_succ]
            go_simp
            refine hK.out _ _ (ask_facts (put3_ask (HKF.out.row HO.out.ask) _ _ _)) (fun hHeld => ?_)
            clear hK K
            try simp only [List.getElem_toArray, List.getElem_cons_zero, List.getElem_cons_succ, Act.put, List.setIfInBounds_toArray, List.set_cons_zero, List.set_cons_succ]
            refine wpAnyH_take (i := 8) (v := ?vv11) rfl (by kernel_rfl) (by kernel_rfl) (by kernel_rfl) (fun _ _ _ h => h) (Or.inl ⟨by rfl, ?hy11⟩) hHeld ?hr11
            case hy11 =>
              intro w hSw
              try dsimp only at hSw
              simp only [List.getElem_toArray, List.getElem_cons_zero, List.getElem_cons_succ]
              go_simp
              try with_reducible rfl
            simp only [List.getElem_toArray, List.getElem_cons_zero, List.getElem_cons_succ, Act.put, List.setIfInBounds_toArray, List.set_cons_zero, List.set_cons_succ]
            refine wpAnyH_done (by kernel_rfl) ?_ _
            clear SK hHeld
            go_wp2
            have HO9 := Lib.hid (HO.out.then HKF.out)
            clear HO
            have HO := HO9
            have HR := Lib.hid (put3_row HO.out.frm ⟨0, x, 0⟩)
            have HE := Lib.hid (HO.out.end1 ⟨0, x, 0⟩).2
            clear k0 k1 k2 z0 z1 z2 ks
            change bodyPost _ _ _ _ _ (put3 w51 (b + 1) ⟨0, x, 0⟩)
            generalize put3 w51 (b + 1) ⟨0, x, 0⟩ = w99 at *
            obtain ⟨k0, k1, k2, _, _, _, ks⟩ := form_facts HR.out
            exact bodyPost_ret (v := .tuple #[formV ⟨0, x, 0⟩, .bool true]) (by simp [results, Tryz.results101, go_sem, formV, k0, k1, k2]) rfl (rule_yes (HC.out) ⟨0, x, 0⟩ rfl ⟨_, _, HE.out⟩ (by rw [HZ.out]; exact ⟨rfl, rfl⟩))
          · skip
            try simp only [List.getElem_toArray, List.getElem_cons_zero, List.getElem_cons_succ]
            go_simp
            refine hK.out _ _ (SK.out _ (HK0.out.alloc _)) (fun hHeld => ?_)
            clear hK K
            try simp only [List.getElem_toArray, List.getElem_cons_zero, List.getElem_cons_succ, Act.put, List.setIfInBounds_toArray, List.set_cons_zero, List.set_cons_succ]
            refine wpAnyH_ready (rs := [3]) (by kernel_rfl) (by simp) ?_
            refine AllReadyH.cons rfl (fun K hK => ?_) AllReadyH.nil
            try simp only [List.getElem_toArray, List.getElem_cons_zero, List.getElem_cons_succ]
            go_simp
            refine (is_any x _).mono ?_
            rintro e w50 ⟨rfl, hk5⟩
            simp only [formV]
            have HKI : Hid (Kept w3 w50) := (HK0.out.alloc _).trans hk5
            have HLA := Lib.hid hk5
            clear hk5
            go_wp2_with fail
            refine hK.out _ _ (SK.out _ HKI.out) (fun hHeld => ?_)
            clear hK K
            try simp only [List.getElem_toArray, List.getElem_cons_zero, List.getElem_cons_succ, Act.put, List.setIfInBounds_toArray, List.set_cons_zero, List.set_cons_succ]
            refine wpAnyH_ready (rs := [6]) (by kernel_rfl) (by simp) ?_
            refine AllReadyH.cons rfl (fun K hK => ?_) AllReadyH.nil
            try simp only [List.getElem_toArray, List.getElem_cons_zero, List.getElem_cons_succ]
            go_simp
            refine (of_any' o x y g l r _ _ _ [8, 9] _ (OpsAt.kept (ops_at rfl rfl rfl (Nat.le_of_ble_eq_true rfl)) HLA.out)).mono ?_
            rintro e w51 ⟨rfl, hk6⟩
            rw [HP.out]
            have HKF : Hid (Kept w3 w51) := (HKI.out).trans hk6
            clear hk6
            go_wp2_with fail
            refine hK.out _ _ (SK.out _ HKF.out) (fun hHeld => ?_)
            clear hK K
            try simp only [List.getElem_toArray, List.getElem_cons_zero, List.getElem_cons_succ, Act.put, List.setIfInBounds_toArray, List.set_cons_zero, List.set_cons_succ]
            obtain ⟨k0, k1, k2, z0, z1, z2, ks⟩ := form_facts (HKF.out.row HO.out.frm)
            refine wpAnyH_ready (rs := [7]) (by kernel_rfl) (by simp) ?_
            refine AllReadyH.cons rfl (fun K hK => ?_) AllReadyH.nil
            try simp only [List.getElem_toArray, List.getElem_cons_zero, List.getElem_cons_succ]
            go_simp
            refine hK.out _ _ (ask_facts (put3_ask (HKF.out.row HO.out.ask) _ _ _)) (fun hHeld => ?_)
            clear hK K
            try simp only [List.getElem_toArray, List.getElem_cons_zero, List.getElem_cons_succ, Act.put, List.setIfInBounds_toArray, List.set_cons_zero, List.set_cons_succ]
            refine wpAnyH_take (i := 8) (v := ?vv12) rfl (by kernel_rfl) (by kernel_rfl) (by kernel_rfl) (fun _ _ _ h => h) (Or.inl ⟨by rfl, ?hy12⟩) hHeld ?hr12
            case hy12 =>
              intro w hSw
              try dsimp only at hSw
              simp only [List.getElem_toArray, List.getElem_cons_zero, List.getElem_cons_succ]
              go_simp
              try with_reducible rfl
            simp only [List.getElem_toArray, List.getElem_cons_zero, List.getElem_cons_succ, Act.put, List.setIfInBounds_toArray, List.set_cons_zero, List.set_cons_succ]
            refine wpAnyH_done (by kernel_rfl) ?_ _
            clear SK hHeld
            go_wp2
            have HO9 := Lib.hid (HO.out.then HKF.out)
            clear HO
            have HO := HO9
            have HR := Lib.hid (put3_row HO.out.frm ⟨0, x, 0⟩)
            have HE := Lib.hid (HO.out.end1 ⟨0, x, 0⟩).2
            clear k0 k1 k2 z0 z1 z2 ks
            change bodyPost _ _ _ _ _ (put3 w51 (b + 1) ⟨0, x, 0⟩)
            generalize put3 w51 (b + 1) ⟨0, x, 0⟩ = w99 at *
            obtain ⟨k0, k1, k2, _, _, _, ks⟩ := form_facts HR.out
            exact bodyPost_ret (v := .tuple #[formV ⟨0, x, 0⟩, .bool true]) (by simp [results, Tryz.results101, go_sem, formV, k0, k1, k2]) rfl (rule_yes (HC.out) ⟨0, x, 0⟩ rfl ⟨_, _, HE.out⟩ (by rw [HZ.out]; exact ⟨rfl, rfl⟩))
      | true =>
        have HC : Hid (cB L o x y l r 4 = true) := by
          show _ = _
          show (x == y && (o == 2 || o == 10 || o == 14 || o == 15 || o == 16 || o == 8 || o == 9)) = true
          have a1 := hq
          simp only [memO, List.any_cons, List.any_nil, Bool.or_false] at a1
          rw [HXY.out, a1]; simp
        have HZ : Hid (oF L o x y l r 4 = .con 1) := by
          show (if _ then _ else if _ then _ else _) = _
          have a1 := hq
          simp only [memO, List.any_cons, List.any_nil, Bool.or_false] at a1
          rw [beq_iff_eq] at a1
          rw [a1]; simp
        clear hq
        obtain ⟨f0, f1, f2, f3, f4, f5, f6, f7, f8, f9, f10, f11, f12, f13, f14, f15⟩ := ask_facts HO.out.ask
        go_wp2_with fail
        refine (num_any HO.out.gr o x y l r (1) (in1) HO.out.laid hlen).mono ?_
        rintro e w4 ⟨rfl, a2, c2, hT2⟩
        have HT2 := Lib.hid hT2
        have HF2 := Lib.hid (HT2.out.row HO.out.frm HO.out.off.2)
        clear hT2
        simp only [formV]
        clear f0 f1 f2 f3 f4 f5 f6 f7 f8 f9 f10 f11 f12 f13 f14 f15
        obtain ⟨k0, k1, k2, z0, z1, z2, ks⟩ := form_facts HF2.out
        go_wp2
        have HR := Lib.hid (put3_row HF2.out ⟨0, addR L (kN (1)), 0⟩)
        have HE := Lib.hid (HO.out.end2 HT2.out ⟨0, addR L (kN (1)), 0⟩)
        clear k0 k1 k2 z0 z1 z2 ks
        change bodyPost _ _ _ _ _ (put3 w4 (b + 1) ⟨0, addR L (kN (1)), 0⟩)
        generalize put3 w4 (b + 1) ⟨0, addR L (kN (1)), 0⟩ = w99 at *
        obtain ⟨k0, k1, k2, _, _, _, ks⟩ := form_facts HR.out
        exact bodyPost_ret (v := .tuple #[formV ⟨0, addR L (kN (1)), 0⟩, .bool true]) (by simp [results, Tryz.results101, go_sem, formV, k0, k1, k2]) rfl (rule_yes (HC.out) ⟨0, addR L (kN (1)), 0⟩ rfl HE.out (by rw [HZ.out]; exact ⟨rfl, rfl⟩))
    | true =>
      have HC : Hid (cB L o x y l r 4 = true) := by
        show _ = _
        show (x == y && (o == 2 || o == 10 || o == 14 || o == 15 || o == 16 || o == 8 || o == 9)) = true
        have a1 := hq
        simp only [memO, List.any_cons, List.any_nil, Bool.or_false] at a1
        simp only [Bool.or_eq_true, beq_iff_eq] at a1
        rw [HXY.out]
        rcases a1 with e | e | e | e <;> rw [e] <;> simp
      have HZ : Hid (oF L o x y l r 4 = .con 0) := by
        show (if _ then _ else _) = _
        have a1 := hq
        simp only [memO, List.any_cons, List.any_nil, Bool.or_false] at a1
        simp only [Bool.or_eq_true, beq_iff_eq] at a1
        rcases a1 with e | e | e | e <;> rw [e] <;> simp
      clear hq
      obtain ⟨f0, f1, f2, f3, f4, f5, f6, f7, f8, f9, f10, f11, f12, f13, f14, f15⟩ := ask_facts HO.out.ask
      go_wp2_with fail
      refine (num_any HO.out.gr o x y l r (0) (in0) HO.out.laid hlen).mono ?_
      rintro e w3 ⟨rfl, a2, c2, hT2⟩
      have HT2 := Lib.hid hT2
      have HF2 := Lib.hid (HT2.out.row HO.out.frm HO.out.off.2)
      clear hT2
      simp only [formV]
      clear f0 f1 f2 f3 f4 f5 f6 f7 f8 f9 f10 f11 f12 f13 f14 f15
      obtain ⟨k0, k1, k2, z0, z1, z2, ks⟩ := form_facts HF2.out
      go_wp2
      have HR := Lib.hid (put3_row HF2.out ⟨0, addR L (kN (0)), 0⟩)
      have HE := Lib.hid (HO.out.end2 HT2.out ⟨0, addR L (kN (0)), 0⟩)
      clear k0 k1 k2 z0 z1 z2 ks
      change bodyPost _ _ _ _ _ (put3 w3 (b + 1) ⟨0, addR L (kN (0)), 0⟩)
      generalize put3 w3 (b + 1) ⟨0, addR L (kN (0)), 0⟩ = w99 at *
      obtain ⟨k0, k1, k2, _, _, _, ks⟩ := form_facts HR.out
      exact bodyPost_ret (v := .tuple #[formV ⟨0, addR L (kN (0)), 0⟩, .bool true]) (by simp [results, Tryz.results101, go_sem, formV, k0, k1, k2]) rfl (rule_yes (HC.out) ⟨0, addR L (kN (0)), 0⟩ rfl HE.out (by rw [HZ.out]; exact ⟨rfl, rfl⟩))
  · have m1 : (x != y) = true := bne_iff_ne.2 hxy
    have HC : Hid (cB L o x y l r 4 = false) := by
      show _ = _
      show (x == y && _) = false
      rw [beq_eq_false_iff_ne.2 hxy]; rfl
    clear hxy
    obtain ⟨f0, f1, f2, f3, f4, f5, f6, f7, f8, f9, f10, f11, f12, f13, f14, f15⟩ := ask_facts HO.out.ask
    obtain ⟨k0, k1, k2, z0, z1, z2, ks⟩ := form_facts HO.out.frm
    go_wp2
    have HR := Lib.hid (put3_row HO.out.frm ⟨0, 0, 0⟩)
    have HE := Lib.hid (HO.out.end1 ⟨0, 0, 0⟩).1
    clear k0 k1 k2 z0 z1 z2 ks
    change bodyPost _ _ _ _ _ (put3 W (b + 1) ⟨0, 0, 0⟩)
    generalize put3 W (b + 1) ⟨0, 0, 0⟩ = w99 at *
    obtain ⟨k0, k1, k2, _, _, _, ks⟩ := form_facts HR.out
    exact bodyPost_ret (v := .tuple #[formV ⟨0, 0, 0⟩, .bool false]) (by simp [results, Tryz.results101, go_sem, formV, k0, k1, k2]) rfl (rule_no (HC.out) ⟨0, 0, 0⟩ rfl HE.out)
end Go.Proofs.YtgkjdmojbndicaaGreatDoor

namespace Go.Proofs.YtgkjdmojbndicaaGreatDoor
open Go Go.RowKit
set_option maxRecDepth 100000 in
set_option maxHeartbeats 8000000 in
theorem rule14_any {Bx : List Nd → Int → List Nd → Int → Int → Prop} {B g m c : Nat} {sa : Option Addr} {L : List Nd} {w : World} (h : GraphAt B w g m sa c L) (o x y : Int) (l r : Nd) (hl : Lk L l) (hr : r.Ok) (hlo : l.Ok) (hL : LaidN B w) (hlen : L.length ≤ 1000000000) :
    Calls Tryz.prog 114 #[askV o x y g l r] w (RuleQ Bx B g m sa L (oF L o x y l r 14) (cB L o x y l r 14) w) := by
  have HO := Lib.hid (own_start h hL o x y l r)
  have HL := Lib.hid hl
  have HRK := Lib.hid hr
  have HLK := Lib.hid hlo
  have HLEN := Lib.hid hlen
  clear h hL hl hr hlo
  simp only [askV]
  go_enter Tryz.func114, Tryz.ntmps114
  go_upto_region 1 with (fail)
  change Code.wp _ _ _ _ ((w.alloc (askO o x y g l r)).alloc (formO 0 0 0))
  generalize (w.alloc (askO o x y g l r)).alloc (formO 0 0 0) = W at *
  obtain ⟨b, hb⟩ : ∃ b : Nat, b = w.heap.size := ⟨_, rfl⟩
  rw [← hb] at HO ⊢
  clear hb
  have SK : Hid (∀ w', Kept W w' → w'.cell? ⟨b, 0, none⟩ = some (.int .u8 o) ∧ w'.cell? ⟨b, 1, none⟩ = some (.int .i64 x) ∧ w'.cell? ⟨b, 2, none⟩ = some (.int .i64 y) ∧ w'.cell? ⟨b, 3, none⟩ = some (.pointer (some ⟨g, 0, none⟩)) ∧ w'.cell? ⟨b, 4, none⟩ = some (.int .u8 l.k) ∧ w'.cell? ⟨b, 5, none⟩ = some (.int .i64 l.n) ∧ w'.cell? ⟨b, 6, none⟩ = some (.int .i64 l.a) ∧ w'.cell? ⟨b, 7, none⟩ = some (.int .u8 l.o) ∧ w'.cell? ⟨b, 8, none⟩ = some (.int .i64 l.x) ∧ w'.cell? ⟨b, 9, none⟩ = some (.int .i64 l.y) ∧ w'.cell? ⟨b, 10, none⟩ = some (.int .u8 r.k) ∧ w'.cell? ⟨b, 11, none⟩ = some (.int .i64 r.n) ∧ w'.cell? ⟨b, 12, none⟩ = some (.int .i64 r.a) ∧ w'.cell? ⟨b, 13, none⟩ = some (.int .u8 r.o) ∧ w'.cell? ⟨b, 14, none⟩ = some (.int .i64 r.x) ∧ w'.cell? ⟨b, 15, none⟩ = some (.int .i64 r.y)) := fun w' hk => ask_facts (hk.row HO.out.ask)
  cases hq : (isC r && memO [16] o && r.n == 0) with
  | false =>
    have HC : Hid (cB L o x y l r 14 = false) := by
      show _ = _
      show (o == 16 && isC r && r.n == 0 && _) = false
      have a1 := hq
      simp only [memO, List.any_cons, List.any_nil, Bool.or_false] at a1
      rw [Bool.and_comm (o == 16), a1]; rfl
    have HQ := Lib.hid hq
    clear hq
    refine wp_region_held_drew (S := (fun w' => w'.cell? ⟨b, 0, none⟩ = some (.int .u8 o) ∧ w'.cell? ⟨b, 1, none⟩ = some (.int .i64 x) ∧ w'.cell? ⟨b, 2, none⟩ = some (.int .i64 y) ∧ w'.cell? ⟨b, 3, none⟩ = some (.pointer (some ⟨g, 0, none⟩)) ∧ w'.cell? ⟨b, 4, none⟩ = some (.int .u8 l.k) ∧ w'.cell? ⟨b, 5, none⟩ = some (.int .i64 l.n) ∧ w'.cell? ⟨b, 6, none⟩ = some (.int .i64 l.a) ∧ w'.cell? ⟨b, 7, none⟩ = some (.int .u8 l.o) ∧ w'.cell? ⟨b, 8, none⟩ = some (.int .i64 l.x) ∧ w'.cell? ⟨b, 9, none⟩ = some (.int .i64 l.y) ∧ w'.cell? ⟨b, 10, none⟩ = some (.int .u8 r.k) ∧ w'.cell? ⟨b, 11, none⟩ = some (.int .i64 r.n) ∧ w'.cell? ⟨b, 12, none⟩ = some (.int .i64 r.a) ∧ w'.cell? ⟨b, 13, none⟩ = some (.int .u8 r.o) ∧ w'.cell? ⟨b, 14, none⟩ = some (.int .i64 r.x) ∧ w'.cell? ⟨b, 15, none⟩ = some (.int .i64 r.y))) (by kernel_rfl) (SK.out _ (Kept.drew (Kept.refl _))) (fun hHeld => ?_)
    have HK0 : Hid (Kept W W.drew) := Kept.drew (Kept.refl W)
    generalize W.drew = w40 at *
    refine wpAnyH_take (i := 0) (v := ?vv1) rfl (by kernel_rfl) (by kernel_rfl) (by kernel_rfl) (fun _ _ _ h => h) (Or.inl ⟨by rfl, ?hy1⟩) hHeld ?hr1
    case hy1 =>
      intro w hSw
      try dsimp only at hSw
      simp only [List.getElem_toArray, List.getElem_cons_zero]
      go_simp
      try with_reducible rfl
    simp only [List.getElem_toArray, List.getElem_cons_zero, Act.put, List.setIfInBounds_toArray, List.set_cons_zero, List.set_cons_succ]
    refine wpAnyH_take (i := 1) (v := ?vv2) rfl (by kernel_rfl) (by kernel_rfl) (by kernel_rfl) (fun _ _ _ h => h) (Or.inl ⟨by rfl, ?hy2⟩) hHeld ?hr2
    case hy2 =>
      intro w hSw
      try dsimp only at hSw
      simp only [List.getElem_toArray, List.getElem_cons_zero, List.getElem_cons_succ]
      go_simp
      try with_reducible rfl
    simp only [List.getElem_toArray, List.getElem_cons_zero, List.getElem_cons_succ, Act.put, List.setIfInBounds_toArray, List.set_cons_zero, List.set_cons_succ]
    refine wpAnyH_take (i := 2) (v := ?vv3) rfl (by kernel_rfl) (by kernel_rfl) (by kernel_rfl) (fun _ _ _ h => h) (Or.inl ⟨by rfl, ?hy3⟩) hHeld ?hr3
    case hy3 =>
      intro w hSw
      try dsimp only at hSw
      simp only [List.getElem_toArray, List.getElem_cons_zero, List.getElem_cons_succ]
      go_simp
      try with_reducible rfl
    simp only [List.getElem_toArray, List.getElem_cons_zero, List.getElem_cons_succ, Act.put, List.setIfInBounds_toArray, List.set_cons_zero, List.set_cons_succ]
    refine wpAnyH_take (i := 3) (v := ?vv4) rfl (by kernel_rfl) (by kernel_rfl) (by kernel_rfl) (fun _ _ _ h => h) (Or.inl ⟨by rfl, ?hy4⟩) hHeld ?hr4
    case hy4 =>
      intro w hSw
      try dsimp only at hSw
      simp only [List.getElem_toArray, List.getElem_cons_zero, List.getElem_cons_succ]
      go_simp
      try with_reducible rfl
    simp only [List.getElem_toArray, List.getElem_cons_zero, List.getElem_cons_succ, Act.put, List.setIfInBounds_toArray, List.set_cons_zero, List.set_cons_succ]
    refine wpAnyH_take (i := 4) (v := ?vv5) rfl (by kernel_rfl) (by kernel_rfl) (by kernel_rfl) (fun _ _ _ h => h) (Or.inl ⟨by rfl, ?hy5⟩) hHeld ?hr5
    case hy5 =>
      intro w hSw
      try dsimp only at hSw
      simp only [List.getElem_toArray, List.getElem_cons_zero, List.getElem_cons_succ]
      go_simp
      try with_reducible rfl
    simp only [List.getElem_toArray, List.getElem_cons_zero, List.getElem_cons_succ, Act.put, List.setIfInBounds_toArray, List.set_cons_zero, List.set_cons_succ]
    refine wpAnyH_take (i := 5) (v := ?vv6) rfl (by kernel_rfl) (by kernel_rfl) (by kernel_rfl) (fun _ _ _ h => h) (Or.inl ⟨by rfl, ?hy6⟩) hHeld ?hr6
    case hy6 =>
      intro w hSw
      try dsimp only at hSw
      simp only [List.getElem_toArray, List.getElem_cons_zero, List.getElem_cons_succ]
      go_simp
      try with_reducible rfl
    simp only [List.getElem_toArray, List.getElem_cons_zero, List.getElem_cons_succ, Act.put, List.setIfInBounds_toArray, List.set_cons_zero, List.set_cons_succ]
    refine wpAnyH_take (i := 6) (v := ?vv7) rfl (by kernel_rfl) (by kernel_rfl) (by kernel_rfl) (fun _ _ _ h => h) (Or.inl ⟨by rfl, ?hy7⟩) hHeld ?hr7
    case hy7 =>
      intro w hSw
      try dsimp only at hSw
      simp only [List.getElem_toArray, List.getElem_cons_zero, List.getElem_cons_succ]
      go_simp
      try with_reducible rfl
    simp only [List.getElem_toArray, List.getElem_cons_zero, List.getElem_cons_succ, Act.put, List.setIfInBounds_toArray, List.set_cons_zero, List.set_cons_succ]
    refine wpAnyH_take (i := 7) (v := ?vv8) rfl (by kernel_rfl) (by kernel_rfl) (by kernel_rfl) (fun _ _ _ h => h) (Or.inl ⟨by rfl, ?hy8⟩) hHeld ?hr8
    case hy8 =>
      intro w hSw
      try dsimp only at hSw
      simp only [List.getElem_toArray, List.getElem_cons_zero, List.getElem_cons_succ]
      go_simp
      try with_reducible rfl
    simp only [List.getElem_toArray, List.getElem_cons_zero, List.getElem_cons_succ, Act.put, List.setIfInBounds_toArray, List.set_cons_zero, List.set_cons_succ]
    refine wpAnyH_ready (rs := [8]) (by kernel_rfl) (by simp) ?_
    refine AllReadyH.cons rfl (fun K hK => ?_) AllReadyH.nil
    try simp only [List.getElem_toArray, List.getElem_cons_zero, List.getElem_cons_succ]
    go_simp
    refine hK.out _ _ (SK.out _ (HK0.out.alloc _)) (fun hHeld => ?_)
    clear hK K
    try simp only [List.getElem_toArray, List.getElem_cons_zero, List.getElem_cons_succ, Act.put, List.setIfInBounds_toArray, List.set_cons_zero, List.set_cons_succ]
    refine wpAnyH_ready (rs := [9]) (by kernel_rfl) (by simp) ?_
    refine AllReadyH.cons rfl (fun K hK => ?_) AllReadyH.nil
    try simp only [List.getElem_toArray, List.getElem_cons_zero, List.getElem_cons_succ]
    go_simp
    refine (ofjust_any o x y g l r (0) _ _ _ [16] _ (ops_at rfl rfl rfl (Nat.le_of_ble_eq_true rfl))).mono ?_
    rintro e w50 ⟨rfl, hk1⟩
    rw [HQ.out]
    have HK1 := Lib.hid ((HK0.out.alloc _).trans hk1)
    clear hk1
    go_wp2_with fail
    refine hK.out _ _ (SK.out _ HK1.out) (fun hHeld => ?_)
    clear hK K
    try simp only [List.getElem_toArray, List.getElem_cons_zero, List.getElem_cons_succ, Act.put, List.setIfInBounds_toArray, List.set_cons_zero, List.set_cons_succ]
    refine wpAnyH_take (i := 10) (v := ?vv9) rfl (by kernel_rfl) (by kernel_rfl) (by kernel_rfl) (fun _ _ _ h => h) (Or.inl ⟨by rfl, ?hy9⟩) hHeld ?hr9
    case hy9 =>
      intro w hSw
      try dsimp only at hSw
      simp only [List.getElem_toArray, List.getElem_cons_zero, List.getElem_cons_succ]
      go_simp
      try with_reducible rfl
    simp only [List.getElem_toArray, List.getElem_cons_zero, List.getElem_cons_succ, Act.put, List.setIfInBounds_toArray, List.set_cons_zero, List.set_cons_succ]
    refine wpAnyH_take (i := 11) (v := undef) rfl (by kernel_rfl) (by kernel_rfl) (by kernel_rfl) (fun _ _ _ h => h) (Or.inr ⟨by rfl, rfl⟩) hHeld ?hr10
    try simp only [List.getElem_toArray, List.getElem_cons_zero, List.getElem_cons_succ, Act.put, List.setIfInBounds_toArray, List.set_cons_zero, List.set_cons_succ]
    refine wpAnyH_take (i := 12) (v := undef) rfl (by kernel_rfl) (by kernel_rfl) (by kernel_rfl) (fun _ _ _ h => h) (Or.inr ⟨by rfl, rfl⟩) hHeld ?hr11
    try simp only [List.getElem_toArray, List.getElem_cons_zero, List.getElem_cons_succ, Act.put, List.setIfInBounds_toArray, List.set_cons_zero, List.set_cons_succ]
    refine wpAnyH_take (i := 13) (v := undef) rfl (by kernel_rfl) (by kernel_rfl) (by kernel_rfl) (fun _ _ _ h => h) (Or.inr ⟨by rfl, rfl⟩) hHeld ?hr12
    try simp only [List.getElem_toArray, List.getElem_cons_zero, List.getElem_cons_succ, Act.put, List.setIfInBounds_toArray, List.set_cons_zero, List.set_cons_succ]
    refine wpAnyH_take (i := 14) (v := ?vv13) rfl (by kernel_rfl) (by kernel_rfl) (by kernel_rfl) (fun _ _ _ h => h) (Or.inl ⟨by rfl, ?hy13⟩) hHeld ?hr13
    case hy13 =>
      intro w hSw
      try dsimp only at hSw
      simp only [List.getElem_toArray, List.getElem_cons_zero, List.getElem_cons_succ]
      go_simp
      try with_reducible rfl
    simp only [List.getElem_toArray, List.getElem_cons_zero, List.getElem_cons_succ, Act.put, List.setIfInBounds_toArray, List.set_cons_zero, List.set_cons_succ]
    obtain ⟨k0, k1, k2, z0, z1, z2, ks⟩ := form_facts (HK1.out.row HO.out.frm)
    refine wpAnyH_ready (rs := [15]) (by kernel_rfl) (by simp) ?_
    refine AllReadyH.cons rfl (fun K hK => ?_) AllReadyH.nil
    try simp only [List.getElem_toArray, List.getElem_cons_zero, List.getElem_cons_succ]
    go_simp
    refine hK.out _ _ (ask_facts (put3_ask (HK1.out.row HO.out.ask) _ _ _)) (fun hHeld => ?_)
    clear hK K
    try simp only [List.getElem_toArray, List.getElem_cons_zero, List.getElem_cons_succ, Act.put, List.setIfInBounds_toArray, List.set_cons_zero, List.set_cons_succ]
    refine wpAnyH_take (i := 16) (v := ?vv14) rfl (by kernel_rfl) (by kernel_rfl) (by kernel_rfl) (fun _ _ _ h => h) (Or.inl ⟨by rfl, ?hy14⟩) hHeld ?hr14
    case hy14 =>
      intro w hSw
      try dsimp only at hSw
      simp only [List.getElem_toArray, List.getElem_cons_zero, List.getElem_cons_succ]
      go_simp
      try with_reducible rfl
    simp only [List.getElem_toArray, List.getElem_cons_zero, List.getElem_cons_succ, Act.put, List.setIfInBounds_toArray, List.set_cons_zero, List.set_cons_succ]
    refine wpAnyH_done (by kernel_rfl) ?_ _
    clear SK hHeld
    go_wp2
    have HO9 := Lib.hid (HO.out.then HK1.out)
    clear HO
    have HO := HO9
    have HR := Lib.hid (put3_row HO.out.frm ⟨16, l.x, l.y⟩)
    have HE := Lib.hid (HO.out.end1 ⟨16, l.x, l.y⟩).1
    clear k0 k1 k2 z0 z1 z2 ks
    change bodyPost _ _ _ _ _ (put3 w50 (b + 1) ⟨16, l.x, l.y⟩)
    generalize put3 w50 (b + 1) ⟨16, l.x, l.y⟩ = w99 at *
    obtain ⟨k0, k1, k2, _, _, _, ks⟩ := form_facts HR.out
    exact bodyPost_ret (v := .tuple #[formV ⟨16, l.x, l.y⟩, .bool false]) (by simp [results, Tryz.results114, go_sem, formV, k0, k1, k2]) rfl (rule_no (HC.out) ⟨16, l.x, l.y⟩ rfl HE.out)
  | true =>
    cases hp : (l.k == 4 && memO [2, 10] l.o) with
    | false =>
      have HC : Hid (cB L o x y l r 14 = false) := by
        show _ = _
        show (o == 16 && isC r && r.n == 0 && (isB l 2 || isB l 10)) = false
        have a1 := hq
        have a2 := hp
        simp only [memO, List.any_cons, List.any_nil, Bool.or_false] at a1 a2
        rw [Bool.and_comm (o == 16), a1, Bool.true_and]
        unfold isB
        rw [← Bool.and_or_distrib_left]
        exact a2
      have HQ := Lib.hid hq
      have HP := Lib.hid hp
      clear hq hp
      refine wp_region_held_drew (S := (fun w' => w'.cell? ⟨b, 0, none⟩ = some (.int .u8 o) ∧ w'.cell? ⟨b, 1, none⟩ = some (.int .i64 x) ∧ w'.cell? ⟨b, 2, none⟩ = some (.int .i64 y) ∧ w'.cell? ⟨b, 3, none⟩ = some (.pointer (some ⟨g, 0, none⟩)) ∧ w'.cell? ⟨b, 4, none⟩ = some (.int .u8 l.k) ∧ w'.cell? ⟨b, 5, none⟩ = some (.int .i64 l.n) ∧ w'.cell? ⟨b, 6, none⟩ = some (.int .i64 l.a) ∧ w'.cell? ⟨b, 7, none⟩ = some (.int .u8 l.o) ∧ w'.cell? ⟨b, 8, none⟩ = some (.int .i64 l.x) ∧ w'.cell? ⟨b, 9, none⟩ = some (.int .i64 l.y) ∧ w'.cell? ⟨b, 10, none⟩ = some (.int .u8 r.k) ∧ w'.cell? ⟨b, 11, none⟩ = some (.int .i64 r.n) ∧ w'.cell? ⟨b, 12, none⟩ = some (.int .i64 r.a) ∧ w'.cell? ⟨b, 13, none⟩ = some (.int .u8 r.o) ∧ w'.cell? ⟨b, 14, none⟩ = some (.int .i64 r.x) ∧ w'.cell? ⟨b, 15, none⟩ = some (.int .i64 r.y))) (by kernel_rfl) (SK.out _ (Kept.drew (Kept.refl _))) (fun hHeld => ?_)
      have HK0 : Hid (Kept W W.drew) := Kept.drew (Kept.refl W)
      generalize W.drew = w40 at *
      refine wpAnyH_take (i := 0) (v := ?vv15) rfl (by kernel_rfl) (by kernel_rfl) (by kernel_rfl) (fun _ _ _ h => h) (Or.inl ⟨by rfl, ?hy15⟩) hHeld ?hr15
      case hy15 =>
        intro w hSw
        try dsimp only at hSw
        simp only [List.getElem_toArray, List.getElem_cons_zero]
        go_simp
        try with_reducible rfl
      simp only [List.getElem_toArray, List.getElem_cons_zero, Act.put, List.setIfInBounds_toArray, List.set_cons_zero, List.set_cons_succ]
      refine wpAnyH_take (i := 1) (v := ?vv16) rfl (by kernel_rfl) (by kernel_rfl) (by kernel_rfl) (fun _ _ _ h => h) (Or.inl ⟨by rfl, ?hy16⟩) hHeld ?hr16
      case hy16 =>
        intro w hSw
        try dsimp only at hSw
        simp only [List.getElem_toArray, List.getElem_cons_zero, List.getElem_cons_succ]
        go_simp
        try with_reducible rfl
      simp only [List.getElem_toArray, List.getElem_cons_zero, List.getElem_cons_succ, Act.put, List.setIfInBounds_toArray, List.set_cons_zero, List.set_cons_succ]
      refine wpAnyH_take (i := 2) (v := ?vv17) rfl (by kernel_rfl) (by kernel_rfl) (by kernel_rfl) (fun _ _ _ h => h) (Or.inl ⟨by rfl, ?hy17⟩) hHeld ?hr17
      case hy17 =>
        intro w hSw
        try dsimp only at hSw
        simp only [List.getElem_toArray, List.getElem_cons_zero, List.getElem_cons_succ]
        go_simp
        try with_reducible rfl
      simp only [List.getElem_toArray, List.getElem_cons_zero, List.getElem_cons_succ, Act.put, List.setIfInBounds_toArray, List.set_cons_zero, List.set_cons_succ]
      refine wpAnyH_take (i := 3) (v := ?vv18) rfl (by kernel_rfl) (by kernel_rfl) (by kernel_rfl) (fun _ _ _ h => h) (Or.inl ⟨by rfl, ?hy18⟩) hHeld ?hr18
      case hy18 =>
        intro w hSw
        try dsimp only at hSw
        simp only [List.getElem_toArray, List.getElem_cons_zero, List.getElem_cons_succ]
        go_simp
        try with_reducible rfl
      simp only [List.getElem_toArray, List.getElem_cons_zero, List.getElem_cons_succ, Act.put, List.setIfInBounds_toArray, List.set_cons_zero, List.set_cons_succ]
      refine wpAnyH_take (i := 4) (v := ?vv19) rfl (by kernel_rfl) (by kernel_rfl) (by kernel_rfl) (fun _ _ _ h => h) (Or.inl ⟨by rfl, ?hy19⟩) hHeld ?hr19
      case hy19 =>
        intro w hSw
        try dsimp only at hSw
        simp only [List.getElem_toArray, List.getElem_cons_zero, List.getElem_cons_succ]
        go_simp
        try with_reducible rfl
      simp only [List.getElem_toArray, List.getElem_cons_zero, List.getElem_cons_succ, Act.put, List.setIfInBounds_toArray, List.set_cons_zero, List.set_cons_succ]
      refine wpAnyH_take (i := 5) (v := ?vv20) rfl (by kernel_rfl) (by kernel_rfl) (by kernel_rfl) (fun _ _ _ h => h) (Or.inl ⟨by rfl, ?hy20⟩) hHeld ?hr20
      case hy20 =>
        intro w hSw
        try dsimp only at hSw
        simp only [List.getElem_toArray, List.getElem_cons_zero, List.getElem_cons_succ]
        go_simp
        try with_reducible rfl
      simp only [List.getElem_toArray, List.getElem_cons_zero, List.getElem_cons_succ, Act.put, List.setIfInBounds_toArray, List.set_cons_zero, List.set_cons_succ]
      refine wpAnyH_take (i := 6) (v := ?vv21) rfl (by kernel_rfl) (by kernel_rfl) (by kernel_rfl) (fun _ _ _ h => h) (Or.inl ⟨by rfl, ?hy21⟩) hHeld ?hr21
      case hy21 =>
        intro w hSw
        try dsimp only at hSw
        simp only [List.getElem_toArray, List.getElem_cons_zero, List.getElem_cons_succ]
        go_simp
        try with_reducible rfl
      simp only [List.getElem_toArray, List.getElem_cons_zero, List.getElem_cons_succ, Act.put, List.setIfInBounds_toArray, List.set_cons_zero, List.set_cons_succ]
      refine wpAnyH_take (i := 7) (v := ?vv22) rfl (by kernel_rfl) (by kernel_rfl) (by kernel_rfl) (fun _ _ _ h => h) (Or.inl ⟨by rfl, ?hy22⟩) hHeld ?hr22
      case hy22 =>
        intro w hSw
        try dsimp only at hSw
        simp only [List.getElem_toArray, List.getElem_cons_zero, List.getElem_cons_succ]
        go_simp
        try with_reducible rfl
      simp only [List.getElem_toArray, List.getElem_cons_zero, List.getElem_cons_succ, Act.put, List.setIfInBounds_toArray, List.set_cons_zero, List.set_cons_succ]
      refine wpAnyH_ready (rs := [8]) (by kernel_rfl) (by simp) ?_
      refine AllReadyH.cons rfl (fun K hK => ?_) AllReadyH.nil
      try simp only [List.getElem_toArray, List.getElem_cons_zero, List.getElem_cons_succ]
      go_simp
      refine hK.out _ _ (SK.out _ (HK0.out.alloc _)) (fun hHeld => ?_)
      clear hK K
      try simp only [List.getElem_toArray, List.getElem_cons_zero, List.getElem_cons_succ, Act.put, List.setIfInBounds_toArray, List.set_cons_zero, List.set_cons_succ]
      refine wpAnyH_ready (rs := [9]) (by kernel_rfl) (by simp) ?_
      refine AllReadyH.cons rfl (fun K hK => ?_) AllReadyH.nil
      try simp only [List.getElem_toArray, List.getElem_cons_zero, List.getElem_cons_succ]
      go_simp
      refine (ofjust_any o x y g l r (0) _ _ _ [16] _ (ops_at rfl rfl rfl (Nat.le_of_ble_eq_true rfl))).mono ?_
      rintro e w50 ⟨rfl, hk1⟩
      rw [HQ.out]
      have HK1 := Lib.hid ((HK0.out.alloc _).trans hk1)
      clear hk1
      go_wp2_with fail
      refine hK.out _ _ (SK.out _ HK1.out) (fun hHeld => ?_)
      clear hK K
      try simp only [List.getElem_toArray, List.getElem_cons_zero, List.getElem_cons_succ, Act.put, List.setIfInBounds_toArray, List.set_cons_zero, List.set_cons_succ]
      refine wpAnyH_take (i := 10) (v := ?vv23) rfl (by kernel_rfl) (by kernel_rfl) (by kernel_rfl) (fun _ _ _ h => h) (Or.inl ⟨by rfl, ?hy23⟩) hHeld ?hr23
      case hy23 =>
        intro w hSw
        try dsimp only at hSw
        simp only [List.getElem_toArray, List.getElem_cons_zero, List.getElem_cons_succ]
        go_simp
        try with_reducible rfl
      simp only [List.getElem_toArray, List.getElem_cons_zero, List.getElem_cons_succ, Act.put, List.setIfInBounds_toArray, List.set_cons_zero, List.set_cons_succ]
      refine wpAnyH_take (i := 11) (v := ?vv24) rfl (by kernel_rfl) (by kernel_rfl) (by kernel_rfl) (fun _ _ _ h => h) (Or.inl ⟨by rfl, ?hy24⟩) hHeld ?hr24
      case hy24 =>
        intro w hSw
        try dsimp only at hSw
        simp only [List.getElem_toArray, List.getElem_cons_zero, List.getElem_cons_succ]
        go_simp
        try with_reducible rfl
      simp only [List.getElem_toArray, List.getElem_cons_zero, List.getElem_cons_succ, Act.put, List.setIfInBounds_toArray, List.set_cons_zero, List.set_cons_succ]
      refine wpAnyH_ready (rs := [12]) (by kernel_rfl) (by simp) ?_
      refine AllReadyH.cons rfl (fun K hK => ?_) AllReadyH.nil
      try simp only [List.getElem_toArray, List.getElem_cons_zero, List.getElem_cons_succ]
      go_simp
      refine hK.out _ _ (SK.out _ (HK1.out.alloc _)) (fun hHeld => ?_)
      clear hK K
      try simp only [List.getElem_toArray, List.getElem_cons_zero, List.getElem_cons_succ, Act.put, List.setIfInBounds_toArray, List.set_cons_zero, List.set_cons_succ]
      refine wpAnyH_ready (rs := [13]) (by kernel_rfl) (by simp) ?_
      refine AllReadyH.cons rfl (fun K hK => ?_) AllReadyH.nil
      try simp only [List.getElem_toArray, List.getElem_cons_zero, List.getElem_cons_succ]
      go_simp
      refine (leftof_any o x y g l r _ _ _ [2, 10] _ (ops_at rfl rfl rfl (Nat.le_of_ble_eq_true rfl))).mono ?_
      rintro e w51 ⟨rfl, hk2⟩
      rw [HP.out]
      have HK2 := Lib.hid ((HK1.out.alloc _).trans hk2)
      clear hk2
      go_wp2_with fail
      refine hK.out _ _ (SK.out _ HK2.out) (fun hHeld => ?_)
      clear hK K
      try simp only [List.getElem_toArray, List.getElem_cons_zero, List.getElem_cons_succ, Act.put, List.setIfInBounds_toArray, List.set_cons_zero, List.set_cons_succ]
      refine wpAnyH_take (i := 14) (v := ?vv25) rfl (by kernel_rfl) (by kernel_rfl) (by kernel_rfl) (fun _ _ _ h => h) (Or.inl ⟨by rfl, ?hy25⟩) hHeld ?hr25
      case hy25 =>
        intro w hSw
        try dsimp only at hSw
        simp only [List.getElem_toArray, List.getElem_cons_zero, List.getElem_cons_succ]
        go_simp
        try with_reducible rfl
      simp only [List.getElem_toArray, List.getElem_cons_zero, List.getElem_cons_succ, Act.put, List.setIfInBounds_toArray, List.set_cons_zero, List.set_cons_succ]
      obtain ⟨k0, k1, k2, z0, z1, z2, ks⟩ := form_facts (HK2.out.row HO.out.frm)
      refine wpAnyH_ready (rs := [15]) (by kernel_rfl) (by simp) ?_
      refine AllReadyH.cons rfl (fun K hK => ?_) AllReadyH.nil
      try simp only [List.getElem_toArray, List.getElem_cons_zero, List.getElem_cons_succ]
      go_simp
      refine hK.out _ _ (ask_facts (put3_ask (HK2.out.row HO.out.ask) _ _ _)) (fun hHeld => ?_)
      clear hK K
      try simp only [List.getElem_toArray, List.getElem_cons_zero, List.getElem_cons_succ, Act.put, List.setIfInBounds_toArray, List.set_cons_zero, List.set_cons_succ]
      refine wpAnyH_take (i := 16) (v := ?vv26) rfl (by kernel_rfl) (by kernel_rfl) (by kernel_rfl) (fun _ _ _ h => h) (Or.inl ⟨by rfl, ?hy26⟩) hHeld ?hr26
      case hy26 =>
        intro w hSw
        try dsimp only at hSw
        simp only [List.getElem_toArray, List.getElem_cons_zero, List.getElem_cons_succ]
        go_simp
        try with_reducible rfl
      simp only [List.getElem_toArray, List.getElem_cons_zero, List.getElem_cons_succ, Act.put, List.setIfInBounds_toArray, List.set_cons_zero, List.set_cons_succ]
      refine wpAnyH_done (by kernel_rfl) ?_ _
      clear SK hHeld
      go_wp2
      have HO9 := Lib.hid (HO.out.then HK2.out)
      clear HO
      have HO := HO9
      have HR := Lib.hid (put3_row HO.out.frm ⟨16, l.x, l.y⟩)
      have HE := Lib.hid (HO.out.end1 ⟨16, l.x, l.y⟩).1
      clear k0 k1 k2 z0 z1 z2 ks
      change bodyPost _ _ _ _ _ (put3 w51 (b + 1) ⟨16, l.x, l.y⟩)
      generalize put3 w51 (b + 1) ⟨16, l.x, l.y⟩ = w99 at *
      obtain ⟨k0, k1, k2, _, _, _, ks⟩ := form_facts HR.out
      exact bodyPost_ret (v := .tuple #[formV ⟨16, l.x, l.y⟩, .bool false]) (by simp [results, Tryz.results114, go_sem, formV, k0, k1, k2]) rfl (rule_no (HC.out) ⟨16, l.x, l.y⟩ rfl HE.out)
    | true =>
      have HC : Hid (cB L o x y l r 14 = true) := by
        show _ = _
        show (o == 16 && isC r && r.n == 0 && (isB l 2 || isB l 10)) = true
        have a1 := hq
        have a2 := hp
        simp only [memO, List.any_cons, List.any_nil, Bool.or_false] at a1 a2
        rw [Bool.and_comm (o == 16), a1, Bool.true_and]
        unfold isB
        rw [← Bool.and_or_distrib_left]
        exact a2
      have HQ := Lib.hid hq
      have HP := Lib.hid hp
      clear hq hp
      refine wp_region_held_drew (S := (fun w' => w'.cell? ⟨b, 0, none⟩ = some (.int .u8 o) ∧ w'.cell? ⟨b, 1, none⟩ = some (.int .i64 x) ∧ w'.cell? ⟨b, 2, none⟩ = some (.int .i64 y) ∧ w'.cell? ⟨b, 3, none⟩ = some (.pointer (some ⟨g, 0, none⟩)) ∧ w'.cell? ⟨b, 4, none⟩ = some (.int .u8 l.k) ∧ w'.cell? ⟨b, 5, none⟩ = some (.int .i64 l.n) ∧ w'.cell? ⟨b, 6, none⟩ = some (.int .i64 l.a) ∧ w'.cell? ⟨b, 7, none⟩ = some (.int .u8 l.o) ∧ w'.cell? ⟨b, 8, none⟩ = some (.int .i64 l.x) ∧ w'.cell? ⟨b, 9, none⟩ = some (.int .i64 l.y) ∧ w'.cell? ⟨b, 10, none⟩ = some (.int .u8 r.k) ∧ w'.cell? ⟨b, 11, none⟩ = some (.int .i64 r.n) ∧ w'.cell? ⟨b, 12, none⟩ = some (.int .i64 r.a) ∧ w'.cell? ⟨b, 13, none⟩ = some (.int .u8 r.o) ∧ w'.cell? ⟨b, 14, none⟩ = some (.int .i64 r.x) ∧ w'.cell? ⟨b, 15, none⟩ = some (.int .i64 r.y))) (by kernel_rfl) (SK.out _ (Kept.drew (Kept.refl _))) (fun hHeld => ?_)
      have HK0 : Hid (Kept W W.drew) := Kept.drew (Kept.refl W)
      generalize W.drew = w40 at *
      refine wpAnyH_take (i := 0) (v := ?vv27) rfl (by kernel_rfl) (by kernel_rfl) (by kernel_rfl) (fun _ _ _ h => h) (Or.inl ⟨by rfl, ?hy27⟩) hHeld ?hr27
      case hy27 =>
        intro w hSw
        try dsimp only at hSw
        simp only [List.getElem_toArray, List.getElem_cons_zero]
        go_simp
        try with_reducible rfl
      simp only [List.getElem_toArray, List.getElem_cons_zero, Act.put, List.setIfInBounds_toArray, List.set_cons_zero, List.set_cons_succ]
      refine wpAnyH_take (i := 1) (v := ?vv28) rfl (by kernel_rfl) (by kernel_rfl) (by kernel_rfl) (fun _ _ _ h => h) (Or.inl ⟨by rfl, ?hy28⟩) hHeld ?hr28
      case hy28 =>
        intro w hSw
        try dsimp only at hSw
        simp only [List.getElem_toArray, List.getElem_cons_zero, List.getElem_cons_succ]
        go_simp
        try with_reducible rfl
      simp only [List.getElem_toArray, List.getElem_cons_zero, List.getElem_cons_succ, Act.put, List.setIfInBounds_toArray, List.set_cons_zero, List.set_cons_succ]
      refine wpAnyH_take (i := 2) (v := ?vv29) rfl (by kernel_rfl) (by kernel_rfl) (by kernel_rfl) (fun _ _ _ h => h) (Or.inl ⟨by rfl, ?hy29⟩) hHeld ?hr29
      case hy29 =>
        intro w hSw
        try dsimp only at hSw
        simp only [List.getElem_toArray, List.getElem_cons_zero, List.getElem_cons_succ]
        go_simp
        try with_reducible rfl
      simp only [List.getElem_toArray, List.getElem_cons_zero, List.getElem_cons_succ, Act.put, List.setIfInBounds_toArray, List.set_cons_zero, List.set_cons_succ]
      refine wpAnyH_take (i := 3) (v := ?vv30) rfl (by kernel_rfl) (by kernel_rfl) (by kernel_rfl) (fun _ _ _ h => h) (Or.inl ⟨by rfl, ?hy30⟩) hHeld ?hr30
      case hy30 =>
        intro w hSw
        try dsimp only at hSw
        simp only [List.getElem_toArray, List.getElem_cons_zero, List.getElem_cons_succ]
        go_simp
        try with_reducible rfl
      simp only [List.getElem_toArray, List.getElem_cons_zero, List.getElem_cons_succ, Act.put, List.setIfInBounds_toArray, List.set_cons_zero, List.set_cons_succ]
      refine wpAnyH_take (i := 4) (v := ?vv31) rfl (by kernel_rfl) (by kernel_rfl) (by kernel_rfl) (fun _ _ _ h => h) (Or.inl ⟨by rfl, ?hy31⟩) hHeld ?hr31
      case hy31 =>
        intro w hSw
        try dsimp only at hSw
        simp only [List.getElem_toArray, List.getElem_cons_zero, List.getElem_cons_succ]
        go_simp
        try with_reducible rfl
      simp only [List.getElem_toArray, List.getElem_cons_zero, List.getElem_cons_succ, Act.put, List.setIfInBounds_toArray, List.set_cons_zero, List.set_cons_succ]
      refine wpAnyH_take (i := 5) (v := ?vv32) rfl (by kernel_rfl) (by kernel_rfl) (by kernel_rfl) (fun _ _ _ h => h) (Or.inl ⟨by rfl, ?hy32⟩) hHeld ?hr32
      case hy32 =>
        intro w hSw
        try dsimp only at hSw
        simp only [List.getElem_toArray, List.getElem_cons_zero, List.getElem_cons_succ]
        go_simp
        try with_reducible rfl
      simp only [List.getElem_toArray, List.getElem_cons_zero, List.getElem_cons_succ, Act.put, List.setIfInBounds_toArray, List.set_cons_zero, List.set_cons_succ]
      refine wpAnyH_take (i := 6) (v := ?vv33) rfl (by kernel_rfl) (by kernel_rfl) (by kernel_rfl) (fun _ _ _ h => h) (Or.inl ⟨by rfl, ?hy33⟩) hHeld ?hr33
      case hy33 =>
        intro w hSw
        try dsimp only at hSw
        simp only [List.getElem_toArray, List.getElem_cons_zero, List.getElem_cons_succ]
        go_simp
        try with_reducible rfl
      simp only [List.getElem_toArray, List.getElem_cons_zero, List.getElem_cons_succ, Act.put, List.setIfInBounds_toArray, List.set_cons_zero, List.set_cons_succ]
      refine wpAnyH_take (i := 7) (v := ?vv34) rfl (by kernel_rfl) (by kernel_rfl) (by kernel_rfl) (fun _ _ _ h => h) (Or.inl ⟨by rfl, ?hy34⟩) hHeld ?hr34
      case hy34 =>
        intro w hSw
        try dsimp only at hSw
        simp only [List.getElem_toArray, List.getElem_cons_zero, List.getElem_cons_succ]
        go_simp
        try with_reducible rfl
      simp only [List.getElem_toArray, List.getElem_cons_zero, List.getElem_cons_succ, Act.put, List.setIfInBounds_toArray, List.set_cons_zero, List.set_cons_succ]
      refine wpAnyH_ready (rs := [8]) (by kernel_rfl) (by simp) ?_
      refine AllReadyH.cons rfl (fun K hK => ?_) AllReadyH.nil
      try simp only [List.getElem_toArray, List.getElem_cons_zero, List.getElem_cons_succ]
      go_simp
      refine hK.out _ _ (SK.out _ (HK0.out.alloc _)) (fun hHeld => ?_)
      clear hK K
      try simp only [List.getElem_toArray, List.getElem_cons_zero, List.getElem_cons_succ, Act.put, List.setIfInBounds_toArray, List.set_cons_zero, List.set_cons_succ]
      refine wpAnyH_ready (rs := [9]) (by kernel_rfl) (by simp) ?_
      refine AllReadyH.cons rfl (fun K hK => ?_) AllReadyH.nil
      try simp only [List.getElem_toArray, List.getElem_cons_zero, List.getElem_cons_succ]
      go_simp
      refine (ofjust_any o x y g l r (0) _ _ _ [16] _ (ops_at rfl rfl rfl (Nat.le_of_ble_eq_true rfl))).mono ?_
      rintro e w50 ⟨rfl, hk1⟩
      rw [HQ.out]
      have HK1 := Lib.hid ((HK0.out.alloc _).trans hk1)
      clear hk1
      go_wp2_with fail
      refine hK.out _ _ (SK.out _ HK1.out) (fun hHeld => ?_)
      clear hK K
      try simp only [List.getElem_toArray, List.getElem_cons_zero, List.getElem_cons_succ, Act.put, List.setIfInBounds_toArray, List.set_cons_zero, List.set_cons_succ]
      refine wpAnyH_take (i := 10) (v := ?vv35) rfl (by kernel_rfl) (by kernel_rfl) (by kernel_rfl) (fun _ _ _ h => h) (Or.inl ⟨by rfl, ?hy35⟩) hHeld ?hr35
      case hy35 =>
        intro w hSw
        try dsimp only at hSw
        simp only [List.getElem_toArray, List.getElem_cons_zero, List.getElem_cons_succ]
        go_simp
        try with_reducible rfl
      simp only [List.getElem_toArray, List.getElem_cons_zero, List.getElem_cons_succ, Act.put, List.setIfInBounds_toArray, List.set_cons_zero, List.set_cons_succ]
      refine wpAnyH_take (i := 11) (v := ?vv36) rfl (by kernel_rfl) (by kernel_rfl) (by kernel_rfl) (fun _ _ _ h => h) (Or.inl ⟨by rfl, ?hy36⟩) hHeld ?hr36
      case hy36 =>
        intro w hSw
        try dsimp only at hSw
        simp only [List.getElem_toArray, List.getElem_cons_zero, List.getElem_cons_succ]
        go_simp
        try with_reducible rfl
      simp only [List.getElem_toArray, List.getElem_cons_zero, List.getElem_cons_succ, Act.put, List.setIfInBounds_toArray, List.set_cons_zero, List.set_cons_succ]
      refine wpAnyH_ready (rs := [12]) (by kernel_rfl) (by simp) ?_
      refine AllReadyH.cons rfl (fun K hK => ?_) AllReadyH.nil
      try simp only [List.getElem_toArray, List.getElem_cons_zero, List.getElem_cons_succ]
      go_simp
      refine hK.out _ _ (SK.out _ (HK1.out.alloc _)) (fun hHeld => ?_)
      clear hK K
      try simp only [List.getElem_toArray, List.getElem_cons_zero, List.getElem_cons_succ, Act.put, List.setIfInBounds_toArray, List.set_cons_zero, List.set_cons_succ]
      refine wpAnyH_ready (rs := [13]) (by kernel_rfl) (by simp) ?_
      refine AllReadyH.cons rfl (fun K hK => ?_) AllReadyH.nil
      try simp only [List.getElem_toArray, List.getElem_cons_zero, List.getElem_cons_succ]
      go_simp
      refine (leftof_any o x y g l r _ _ _ [2, 10] _ (ops_at rfl rfl rfl (Nat.le_of_ble_eq_true rfl))).mono ?_
      rintro e w51 ⟨rfl, hk2⟩
      rw [HP.out]
      have HK2 := Lib.hid ((HK1.out.alloc _).trans hk2)
      clear hk2
      go_wp2_with fail
      refine hK.out _ _ (SK.out _ HK2.out) (fun hHeld => ?_)
      clear hK K
      try simp only [List.getElem_toArray, List.getElem_cons_zero, List.getElem_cons_succ, Act.put, List.setIfInBounds_toArray, List.set_cons_zero, List.set_cons_succ]
      refine wpAnyH_take (i := 14) (v := ?vv37) rfl (by kernel_rfl) (by kernel_rfl) (by kernel_rfl) (fun _ _ _ h => h) (Or.inl ⟨by rfl, ?hy37⟩) hHeld ?hr37
      case hy37 =>
        intro w hSw
        try dsimp only at hSw
        simp only [List.getElem_toArray, List.getElem_cons_zero, List.getElem_cons_succ]
        go_simp
        try with_reducible rfl
      simp only [List.getElem_toArray, List.getElem_cons_zero, List.getElem_cons_succ, Act.put, List.setIfInBounds_toArray, List.set_cons_zero, List.set_cons_succ]
      obtain ⟨k0, k1, k2, z0, z1, z2, ks⟩ := form_facts (HK2.out.row HO.out.frm)
      refine wpAnyH_ready (rs := [15]) (by kernel_rfl) (by simp) ?_
      refine AllReadyH.cons rfl (fun K hK => ?_) AllReadyH.nil
      try simp only [List.getElem_toArray, List.getElem_cons_zero, List.getElem_cons_succ]
      go_simp
      refine hK.out _ _ (ask_facts (put3_ask (HK2.out.row HO.out.ask) _ _ _)) (fun hHeld => ?_)
      clear hK K
      try simp only [List.getElem_toArray, List.getElem_cons_zero, List.getElem_cons_succ, Act.put, List.setIfInBounds_toArray, List.set_cons_zero, List.set_cons_succ]
      refine wpAnyH_take (i := 16) (v := ?vv38) rfl (by kernel_rfl) (by kernel_rfl) (by kernel_rfl) (fun _ _ _ h => h) (Or.inl ⟨by rfl, ?hy38⟩) hHeld ?hr38
      case hy38 =>
        intro w hSw
        try dsimp only at hSw
        simp only [List.getElem_toArray, List.getElem_cons_zero, List.getElem_cons_succ]
        go_simp
        try with_reducible rfl
      simp only [List.getElem_toArray, List.getElem_cons_zero, List.getElem_cons_succ, Act.put, List.setIfInBounds_toArray, List.set_cons_zero, List.set_cons_succ]
      refine wpAnyH_done (by kernel_rfl) ?_ _
      clear SK hHeld
      go_wp2
      have HO9 := Lib.hid (HO.out.then HK2.out)
      clear HO
      have HO := HO9
      have HR := Lib.hid (put3_row HO.out.frm ⟨16, l.x, l.y⟩)
      have HE := Lib.hid (HO.out.end1 ⟨16, l.x, l.y⟩).2
      clear k0 k1 k2 z0 z1 z2 ks
      change bodyPost _ _ _ _ _ (put3 w51 (b + 1) ⟨16, l.x, l.y⟩)
      generalize put3 w51 (b + 1) ⟨16, l.x, l.y⟩ = w99 at *
      obtain ⟨k0, k1, k2, _, _, _, ks⟩ := form_facts HR.out
      exact bodyPost_ret (v := .tuple #[formV ⟨16, l.x, l.y⟩, .bool true]) (by simp [results, Tryz.results114, go_sem, formV, k0, k1, k2]) rfl (rule_yes (HC.out) ⟨16, l.x, l.y⟩ rfl ⟨_, _, HE.out⟩ ⟨rfl, rfl⟩)
end Go.Proofs.YtgkjdmojbndicaaGreatDoor
