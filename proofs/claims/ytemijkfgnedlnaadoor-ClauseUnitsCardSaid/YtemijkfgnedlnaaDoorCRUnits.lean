/-
  Layer 5: the contract of the reference's Units.
-/
import Derived.Test.YtemijkfgnedlnaaDoorCOwnI
import Derived.Test.YtemijkfgnedlnaaDoorCUnits
import Derived.Test.YtemijkfgnedlnaaDoorCUnitR
import Derived.Deep.DeepCutAuto
namespace Go.Proofs.YtemijkfgnedlnaaDoor
open Go Go.RowKit Go.Sort Go.Lib

def slLen : Value → Nat
  | .slice _ n _ => n
  | _ => 0
def boN : Value → Nat
  | .bool true => 1
  | _ => 0
theorem before_is (x y : Int) (b : Bool) (hx : -16777216 ≤ x ∧ x ≤ 16777216) (hy : -16777216 ≤ y ∧ y ≤ 16777216) (h : decide (vr x < vr y) = b) (w : World) :
    Calls Tryd.prog 37 #[.int .i64 x, .int .i64 y] w fun e w' => e = .returned (.bool b) ∧ w' = w := by
  rw [← h]
  exact (before_any x y w (by omega) (by omega) (by omega) (by omega)).mono fun _ _ k => ⟨k.1, k.2.symm⟩
theorem has_is {la : Option Addr} {n c : Nat} {L : List Int} {w : World} (x : Int) (b : Bool) (hL : IntsAt w la n L) (hn : n ≤ 1000000) (h : hasI L x = b) :
    Calls Tryd.prog 31 #[.slice la n c, .int .i64 x] w fun e w' => e = .returned (.bool b) ∧ w' = w := by
  rw [← h]; exact (rhas_any x la n c L w hL (by omega)).mono fun _ _ k => ⟨k.1, k.2.symm⟩
theorem left_take {F cl : List Int} {t : Nat} {y : Int} (hy : cl[t]? = some y) : leftOf F (cl.take (t + 1)) = if (hasI F (-y) || hasI F y || hasI (leftOf F (cl.take t)) y) = true then leftOf F (cl.take t) else leftOf F (cl.take t) ++ [y] := by
  rw [take_at hy, leftOf_snoc]; rfl
theorem left_mem {F cl : List Int} {t : Nat} {x : Int} (h : x ∈ leftOf F (cl.take t)) : x ∈ cl := List.mem_of_mem_take ((leftOf_is F (cl.take t)).2 x |>.1 h).1
theorem left_len {F cl : List Int} {t : Nat} : (leftOf F (cl.take t)).length ≤ cl.length := nodup_sub_len _ _ (leftOf_is F _).1 fun _ hx => left_mem hx
theorem any_holds {F cl : List Int} (h : cl.any (hasI F) = true) : Quiet cl F := by
  obtain ⟨x, hx, hxF⟩ := List.any_eq_true.1 h
  exact Or.inl ⟨x, hx, (hasI_iff F x).1 hxF⟩
theorem any_not {F cl : List Int} (h : cl.any (hasI F) = false) : ∀ x ∈ cl, x ∉ F := fun x hx hxF => by
  have := List.any_eq_true.2 ⟨x, hx, (hasI_iff F x).2 hxF⟩
  rw [h] at this; cases this

set_option maxRecDepth 100000 in
set_option maxHeartbeats 16000000 in
theorem runits_any (V : Int) (ca : Option Addr) (cn cc : Nat) (C : List (List Int)) (w : World) (hV : InR V) (hC : ClsAt w ca cn C) (hcn : cn ≤ 1000000) (hS : ∀ c ∈ C, c.length ≤ 1000000) (hT : C.flatten.length ≤ 1000000) :
    Calls Tryd.prog 12 #[.agg #[.int .i64 V, .slice ca cn cc]] w (UPost V C w) := by
  have HC := Lib.hid hC; have HS := Lib.hid hS; have HTT := Lib.hid hT; clear hC hS hT
  have HLN := Lib.hid HC.out.len
  have HVR := Lib.hid hV; clear hV
  have HB := Lib.hid (MapKept.heap_alloc w (rObj V ca cn cc)).1
  have HK0 := Lib.hid ((Kept.refl w).alloc (rObj V ca cn cc))
  obtain ⟨B, hBe⟩ : ∃ B : Nat, B = w.heap.size := ⟨_, rfl⟩
  go_enter Tryd.func12, Tryd.ntmps12
  go_upto_region 1 with (fail)
  obtain ⟨w1, hw1⟩ : ∃ w1 : World, w1 = w.alloc (rObj V ca cn cc) := ⟨_, rfl⟩
  change Code.wp _ _ _ _ (w.alloc (rObj V ca cn cc))
  rw [← hBe] at HB ⊢
  rw [← hw1] at HB HK0 ⊢
  clear hw1 hBe
  obtain ⟨y0, y1⟩ := rbox_facts HB.out (Kept.refl w1)
  have HCR := Lib.hid (rright_any V ca cn cc C w1 HVR.out (HC.out.kept HK0.out) hcn HS.out)
  cases hr : rightB V C with
  | false =>
    rw [hr] at HCR
    have HR := Lib.hid hr; clear hr
    go_wp2_with fail
    refine HCR.out.mono ?_
    rintro e w2 ⟨rfl, hk2⟩
    have HK2 := Lib.hid hk2; clear hk2
    go_wp2
    go_ret2
    exact ⟨HK0.out.trans HK2.out, Or.inl ⟨HR.out, rfl⟩⟩
  | true =>
    rw [hr] at HCR
    have HR := Lib.hid hr; clear hr
    have HRI := Lib.hid ((rightB_iff V C).1 HR.out)
    have v0 := HRI.out.1
    have v1 := HRI.out.2.1
    have HNZ : Hid (NoZero C) := fun c hc x hx => (HRI.out.2.2.2 c hc x hx).1
    have HLI : Hid (∀ c ∈ C, ∀ x ∈ c, -16777216 ≤ x ∧ x ≤ 16777216) := fun c hc x hx => by
      have h1 := HRI.out.2.2.2 c hc x hx
      omega
    have HFB : Hid (∀ F, Reach C F → F.length ≤ 1000000) := fun F hF => by
      have h1 := nodup_sub_len F C.flatten (hF.cons HNZ.out).nodup fun x hx => by
        obtain ⟨c, hc, hxc⟩ := hF.from x hx
        exact List.mem_flatten.2 ⟨c, hc, hxc⟩
      have := HTT.out
      omega
    have HFR : Hid (∀ F, Reach C F → ∀ x ∈ F, -16777216 ≤ x ∧ x ≤ 16777216) := fun F hF x hx => by
      obtain ⟨c, hc, hxc⟩ := hF.from x hx
      exact HLI.out c hc x hxc
    have HFI : Hid (∀ F, Reach C F → ∀ x ∈ F, InR x) := fun F hF x hx => by
      have := HFR.out F hF x hx
      unfold InR; omega
    go_wp2_with fail
    refine HCR.out.mono ?_
    rintro e w2 ⟨rfl, hk2⟩
    have HK2 := Lib.hid hk2
    clear hk2 y0 y1 HCR
    go_wp2
    go_loopw [4, 5] (fun v4 v5 wr => ∃ (F : List Int) (b : Bool) (fa : Option Addr) (fn fc : Nat), v4 = .slice fa fn fc ∧ v5 = .bool b ∧ Hid (Reach C F) ∧ Hid (b = false → ∀ c ∈ C, Quiet c F) ∧ Hid (F.length = fn) ∧ Hid (wr.ownsRow w1.heap.size 3 1 (.slice fa fn fc) fn (F.map (Value.int .i64))) ∧ Hid (Kept w1 wr)) (fun v4 v5 _ => 2 * (1000001 - slLen v4) + boN v5)
    case atStart => exact ⟨[], true, none, 0, 0, rfl, rfl, Reach.nil, (fun h => by cases h), rfl, World.ownsRow_nil _ _ _ _, HK2.out⟩
    case round =>
      obtain ⟨F0, b, fa0, fn0, fc0, rfl, rfl, HRE0, HQ0, HFL0, HROW0, HKI0⟩ := hrel
      have hfn0 : fn0 ≤ 1000000 := by rw [← HFL0.out]; exact HFB.out F0 HRE0.out
      cases b with
      | true =>
        clear HQ0
        go_wp2
        go_loopw [4, 5, 6] (fun v4 v5 i wr => ∃ (jj : Nat) (F : List Int) (b : Bool) (fa : Option Addr) (fn fc : Nat), jj ≤ cn ∧ i = .int .i64 jj ∧ v4 = .slice fa fn fc ∧ v5 = .bool b ∧ Hid (RU C F0 F jj b) ∧ Hid (F.length = fn) ∧ Hid (wr.ownsRow w1.heap.size 3 1 (.slice fa fn fc) fn (F.map (Value.int .i64))) ∧ Hid (Kept w1 wr)) (fun _ _ i _ => cn - (intOf i).toNat)
        case atStart => exact ⟨0, F0, false, fa0, fn0, fc0, Nat.zero_le _, rfl, rfl, rfl, RU.start HRE0.out, HFL0.out, HROW0.out, HKI0.out⟩
        case round =>
          obtain ⟨jj, F, b, fa, fn, fc, hj, rfl, rfl, rfl, HRU, HFL, HROW, HKI⟩ := hrel
          have hfn : fn ≤ 1000000 := by rw [← HFL.out]; exact HFB.out F HRU.out.reach
          have j0 : (0 : Int) ≤ (jj : Int) := Int.natCast_nonneg _
          obtain ⟨wo, rfl⟩ : ∃ wo : World, wo = wr := ⟨_, rfl⟩
          obtain ⟨y0, y1⟩ := rbox_facts HB.out HKI.out
          by_cases hjn : jj < cn
          · have j1 : (jj : Int) < (cn : Int) := by omega
            have HCW := Lib.hid (HC.out.kept (HK0.out.trans HKI.out))
            obtain ⟨cb, off, rfl, hc⟩ := HCW.out.at_ (by omega)
            have hjl : jj < C.length := by rw [HLN.out]; exact hjn
            obtain ⟨cl, hcj⟩ : ∃ c, C[jj]? = some c := ⟨_, List.getElem?_eq_getElem hjl⟩
            obtain ⟨a2, k2, cap2, x0, hIc, hz2, hkc⟩ := hc jj cl hcj
            have HX0 := Lib.hid x0
            have HIC := Lib.hid hIc
            have HCJ := Lib.hid hcj
            have hk2 : k2 ≤ 1000000 := by have := HS.out cl (List.mem_of_getElem? hcj); rw [hIc.len] at this; exact this
            have HLT := Lib.hid (fun (y : Int) (hy : y ∈ cl) => HLI.out cl (List.mem_of_getElem? hcj) y hy)
            clear hc hcj hjl hIc hz2 hkc x0
            have HFA := Lib.hid (ints_of_row HROW.out HFL.out (HFI.out F HRU.out.reach))
            go_wp2
            clear y0 y1
            go_loopw [7, 8, 9] (fun v7 v8 i wr => ∃ (t : Nat) (a3 : Option Addr) (k3 c3 : Nat), t ≤ k2 ∧ i = .int .i64 t ∧ v8 = .slice a3 k3 c3 ∧ Hid (v7 = .bool ((cl.take t).any (hasI F))) ∧ Hid ((leftOf F (cl.take t)).length = k3) ∧ Hid (wr.ownsRow wo.heap.size 3 1 (.slice a3 k3 c3) k3 ((leftOf F (cl.take t)).map (Value.int .i64))) ∧ Hid (Kept wo wr)) (fun _ _ i _ => k2 - (intOf i).toNat)
            case atStart => exact ⟨0, none, 0, 0, Nat.zero_le _, rfl, rfl, rfl, rfl, World.ownsRow_nil _ _ _ _, Kept.refl _⟩
            case round =>
              obtain ⟨t, a3, k3, c3, ht, rfl, rfl, hv7, HK3, HLR, HKL⟩ := hrel
              obtain ⟨hb, hhb⟩ : ∃ hb : Bool, hb = (cl.take t).any (hasI F) := ⟨_, rfl⟩
              have hv := hv7.out
              rw [← hhb] at hv
              subst hv
              have HHB := Lib.hid hhb
              clear hhb hv7
              have t0 : (0 : Int) ≤ (t : Int) := Int.natCast_nonneg _
              have hk3b : k3 ≤ 1000000 := by
                have h1 := left_len (F := F) (cl := cl) (t := t)
                have h2 := HK3.out
                have h3 := HIC.out.len
                omega
              obtain ⟨y0, y1⟩ := rbox_facts HB.out (HKI.out.trans HKL.out)
              have x0 := HKL.out.cell HX0.out
              by_cases htk : t < k2
              · have t1 : (t : Int) < (k2 : Int) := by omega
                have HIW := Lib.hid (HIC.out.kept HKL.out)
                obtain ⟨b2, o2, rfl, hcc⟩ := HIW.out.at_ (by omega)
                have htl : t < cl.length := by rw [HIC.out.len]; exact htk
                obtain ⟨y, hy⟩ : ∃ y, cl[t]? = some y := ⟨_, List.getElem?_eq_getElem htl⟩
                have x1 := hcc t y hy
                have hyv := HLT.out y (List.mem_of_getElem? hy)
                obtain ⟨l2, l3⟩ := hyv
                have HFT := Lib.hid (left_take (F := F) hy)
                have HAT := Lib.hid (any_takeI (lits := F) hy)
                have HFW := Lib.hid (HFA.out.kept HKL.out)
                have HLW : Hid (IntsAt wr a3 k3 (leftOf F (cl.take t))) := ints_of_row HLR.out HK3.out fun x hx => HIC.out.inr x (left_mem hx)
                clear hcc htl hy
                have HH1 : Hid (∀ b, hasI F y = b → Calls Tryd.prog 31 #[.slice fa fn fc, .int .i64 y] wr fun e w' => e = .returned (.bool b) ∧ w' = wr) := fun b hb => has_is y b HFW.out hfn hb
                have HH2 : Hid (∀ b, hasI F (-y) = b → Calls Tryd.prog 31 #[.slice fa fn fc, .int .i64 (-y)] wr fun e w' => e = .returned (.bool b) ∧ w' = wr) := fun b hb => has_is (-y) b HFW.out hfn hb
                have HH3 : Hid (∀ b, hasI (leftOf F (cl.take t)) y = b → Calls Tryd.prog 31 #[.slice a3 k3 c3, .int .i64 y] wr fun e w' => e = .returned (.bool b) ∧ w' = wr) := fun b hb => has_is y b HLW.out hk3b hb
                go_upto_region 16 with (fail)
                clear y0 y1 x0 x1
                go_cut [7] (fun s wx => s = .bool (hb || hasI F y) ∧ wx = wr)
                case first =>
                  cases hb with
                  | true =>
                    go_wp2
                    go_meet
                    case rel => exact ⟨rfl, rfl⟩
                  | false =>
                    cases hy : hasI F y with
                    | true =>
                      go_wp2_with fail
                      refine (HH1.out true hy).mono ?_
                      rintro e w' ⟨rfl, rfl⟩
                      have HYhy := Lib.hid hy; clear hy
                      go_wp2
                      go_meet
                      case rel => exact ⟨by rw [HYhy.out]; rfl, rfl⟩
                    | false =>
                      go_wp2_with fail
                      refine (HH1.out false hy).mono ?_
                      rintro e w' ⟨rfl, rfl⟩
                      have HYhy := Lib.hid hy; clear hy
                      go_wp2
                      go_meet
                      case rel => exact ⟨by rw [HYhy.out]; rfl, rfl⟩
                case rest =>
                  obtain ⟨rfl, rfl⟩ := hcut
                  have HHB2 : Hid ((cl.take (t + 1)).any (hasI F) = (hb || hasI F y)) := by show _ = _; rw [HAT.out, HHB.out]
                  go_upto_region 17 with (fail)
                  go_cut [7, 64] (fun v s wx => v = .bool (hb || hasI F y) ∧ s = .bool (!(hasI F (-y) || hasI F y || hasI (leftOf F (cl.take t)) y)) ∧ wx = wc)
                  case first =>
                    cases h1 : hasI F (-y) with
                    | true =>
                      go_wp2_with fail
                      refine (HH2.out true h1).mono ?_
                      rintro e w' ⟨rfl, rfl⟩
                      have HYh1 := Lib.hid h1; clear h1
                      go_wp2
                      go_meet
                      case rel => exact ⟨rfl, by rw [HYh1.out]; rfl, rfl⟩
                    | false =>
                      go_wp2_with fail
                      refine (HH2.out false h1).mono ?_
                      rintro e w' ⟨rfl, rfl⟩
                      have HYh1 := Lib.hid h1; clear h1
                      cases h2 : hasI F y with
                      | true =>
                        go_wp2_with fail
                        refine (HH1.out true h2).mono ?_
                        rintro e w' ⟨rfl, rfl⟩
                        have HYh2 := Lib.hid h2; clear h2
                        go_wp2
                        go_meet
                        case rel => exact ⟨by first | rfl | (rw [HYh2.out]; simp), by rw [HYh1.out, HYh2.out]; rfl, rfl⟩
                      | false =>
                        go_wp2_with fail
                        refine (HH1.out false h2).mono ?_
                        rintro e w' ⟨rfl, rfl⟩
                        have HYh2 := Lib.hid h2; clear h2
                        cases h3 : hasI (leftOf F (cl.take t)) y with
                        | true =>
                          go_wp2_with fail
                          refine (HH3.out true h3).mono ?_
                          rintro e w' ⟨rfl, rfl⟩
                          have HYh3 := Lib.hid h3; clear h3
                          go_wp2
                          go_meet
                          case rel => exact ⟨by first | rfl | (rw [HYh2.out]; simp), by rw [HYh1.out, HYh2.out, HYh3.out]; rfl, rfl⟩
                        | false =>
                          go_wp2_with fail
                          refine (HH3.out false h3).mono ?_
                          rintro e w' ⟨rfl, rfl⟩
                          have HYh3 := Lib.hid h3; clear h3
                          go_wp2
                          go_meet
                          case rel => exact ⟨by first | rfl | (rw [HYh2.out]; simp), by rw [HYh1.out, HYh2.out, HYh3.out]; rfl, rfl⟩
                  case rest =>
                    obtain ⟨rfl, rfl, rfl⟩ := hcut
                    cases hx : (hasI F (-y) || hasI F y || hasI (leftOf F (cl.take t)) y) with
                    | true =>
                      rw [hx, if_pos rfl] at HFT
                      clear hx
                      go_wp2
                      go_roundw
                      case rel => exact ⟨t + 1, a3, k3, c3, by omega, by go_num, rfl, (by show _ = _; rw [HHB2.out]), by show _ = _; rw [HFT.out]; exact HK3.out, by show World.ownsRow _ _ _ _ _ _ _; rw [HFT.out]; exact HLR.out, HKL.out⟩
                      case measure => simp [intOf]; omega
                    | false =>
                      rw [hx, if_neg (by simp)] at HFT
                      clear hx
                      go_wp2_with (at_builtin; refine wpList_append_int (w0 := wc) rfl _ _ rfl wo.heap.size a3 k3 c3 _ rfl HLR.out y rfl rfl (by omega) HKL.out.size ?_; intro a4 c4 w4 hown4 hgrow4; have HOW4 := Lib.hid hown4; have HGR4 := Lib.hid hgrow4; clear hown4 hgrow4)
                      have HK4 := Lib.hid (grow_kept HLR.out HKL.out (Nat.le_refl _) HGR4.out)
                      go_roundw
                      case rel => exact ⟨t + 1, a4, k3 + 1, c4, by omega, by go_num, rfl, (by show _ = _; rw [HHB2.out]), by show _ = _; rw [HFT.out, List.length_append, HK3.out]; rfl, by show World.ownsRow _ _ _ _ _ _ _; rw [HFT.out]; exact HOW4.out, HK4.out⟩
                      case measure => simp [intOf]; omega
              · obtain rfl : t = k2 := by omega
                have htt : cl.take t = cl := by rw [← HIC.out.len]; exact List.take_length
                rw [htt] at HHB HK3 HLR
                clear htt
                have HROW3 := Lib.hid (row_keptR HROW.out HKL.out)
                have HKW3 := Lib.hid (HKI.out.trans HKL.out)
                cases hb with
                | true =>
                  have HQ := Lib.hid (any_holds HHB.out.symm)
                  go_wp2
                  go_roundw
                  case rel => exact ⟨jj + 1, F, b, fa, fn, fc, by omega, by go_num, rfl, rfl, HRU.out.quiet HCJ.out HQ.out, HFL.out, HROW3.out, HKW3.out⟩
                  case measure => simp [intOf]; omega
                | false =>
                  have HNF := Lib.hid (any_not HHB.out.symm)
                  match k3, HK3, HLR, hk3b with
                  | 0, HK3, HLR, _ =>
                    have HNO : Hid (UnitsRes C none) := ⟨F, HRU.out.reach, cl, List.mem_of_getElem? HCJ.out, left_none HNF.out HK3.out⟩
                    go_wp2
                    go_ret2
                    exact ⟨HK0.out.trans HKW3.out, Or.inr ⟨HR.out, Or.inl ⟨HNO.out, rfl⟩⟩⟩
                  | 1, HK3, HLR, _ =>
                    obtain ⟨l, hl⟩ : ∃ l, leftOf F cl = [l] := List.length_eq_one_iff.1 HK3.out
                    have HST := Lib.hid (left_one HNF.out hl)
                    have hrow := HLR.out
                    rw [hl] at hrow
                    obtain ⟨r, rfl, _, _, _⟩ := row_some hrow (by omega)
                    have x5 : wr.cell? ⟨r, 0, none⟩ = some (.int .i64 l) := by rw [hrow.cellAt 0 (by omega)]; rfl
                    clear hrow hl
                    go_wp2_with (at_builtin; refine wpList_append_int (w0 := wr) rfl _ _ rfl w1.heap.size fa fn fc _ rfl HROW3.out l rfl rfl (by omega) HKW3.out.size ?_; intro a4 c4 w4 hown4 hgrow4; have HOW4 := Lib.hid hown4; have HGR4 := Lib.hid hgrow4; clear hown4 hgrow4)
                    have HK4 := Lib.hid (grow_kept HROW3.out HKW3.out (Nat.le_refl _) HGR4.out)
                    go_wp2
                    go_roundw
                    case rel => exact ⟨jj + 1, F ++ [l], true, a4, fn + 1, c4, by omega, by go_num, rfl, rfl, HRU.out.step HCJ.out HST.out, by show _ = _; rw [List.length_append, HFL.out]; rfl, HOW4.out, HK4.out⟩
                    case measure => simp [intOf]; omega
                  | k3 + 2, HK3, HLR, hk3b =>
                    have HQ : Hid (Quiet cl F) := left_two (by rw [HK3.out]; omega)
                    have d0 : (((k3 + 2 : Nat) : Int) == 0) = false := beq_eq_false_iff_ne.2 (by omega)
                    have d1 : (((k3 + 2 : Nat) : Int) == 1) = false := beq_eq_false_iff_ne.2 (by omega)
                    obtain ⟨k4, hk4⟩ : ∃ k4 : Nat, k4 = k3 + 2 := ⟨_, rfl⟩
                    rw [← hk4] at d0 d1 ⊢
                    go_wp2
                    go_roundw
                    case rel => exact ⟨jj + 1, F, b, fa, fn, fc, by omega, by go_num, rfl, rfl, HRU.out.quiet HCJ.out HQ.out, HFL.out, HROW3.out, HKW3.out⟩
                    case measure => simp [intOf]; omega
          · obtain rfl : jj = cn := by omega
            have hru := HRU.out
            rw [← HLN.out] at hru
            have HRU2 := Lib.hid hru
            clear hru
            go_wp2
            go_roundw
            case rel => exact ⟨F, b, fa, fn, fc, rfl, rfl, HRU2.out.reach, (fun h => by subst h; exact HRU2.out.done), HFL.out, HROW.out, HKI.out⟩
            case measure =>
              have h1 := HFL.out
              have h2 := HFL0.out
              cases b with
              | true =>
                have h3 := HRU2.out.more rfl
                simp [slLen, boN]; omega
              | false =>
                obtain ⟨h3, _⟩ := HRU2.out.same rfl
                subst h3
                simp [slLen, boN]; omega
      | false =>
        have HQ := Lib.hid (HQ0.out rfl)
        have HCO := Lib.hid (HRE0.out.cons HNZ.out)
        have HRG := Lib.hid (HFR.out F0 HRE0.out)
        clear HQ0
        go_wp2
        obtain ⟨q, hq⟩ : ∃ q : Nat, q = fn0 := ⟨_, rfl⟩
        rw [← hq] at HFL0 HROW0 hfn0 ⊢
        clear hq
        go_loopw [11] (fun i wr => ∃ (p : Nat) (L : List Int), p ≤ q ∧ i = .int .i64 p ∧ Hid (SortR F0 L p) ∧ Hid (wr.ownsRow w1.heap.size 3 1 (.slice fa0 q fc0) q (L.map (Value.int .i64))) ∧ Hid (Kept w1 wr)) (fun i _ => q - (intOf i).toNat)
        case atStart => exact ⟨0, F0, Nat.zero_le _, rfl, SortR.start F0, HROW0.out, HKI0.out⟩
        case round =>
          obtain ⟨p, L, hp, rfl, HSR, HROWL, HKL⟩ := hrel
          have p0 : (0 : Int) ≤ (p : Int) := Int.natCast_nonneg _
          have HLL : Hid (L.length = q) := by show _ = _; rw [HSR.out.perm.length_eq]; exact HFL0.out
          by_cases hpq : p < q
          · have p1 : (p : Int) < (q : Int) := by omega
            obtain ⟨x, hx⟩ : ∃ x, L[p]? = some x := ⟨_, List.getElem?_eq_getElem (by rw [HLL.out]; exact hpq)⟩
            obtain ⟨hsi, he, hsl⟩ := HSR.out.at_ hx
            obtain ⟨S, hS⟩ : ∃ S, S = L.take p := ⟨_, rfl⟩
            obtain ⟨R, hR⟩ : ∃ R, R = L.drop (p + 1) := ⟨_, rfl⟩
            rw [← hS, ← hR] at hsi he
            rw [← hS] at hsl
            have HSI := Lib.hid hsi
            have HE := Lib.hid he
            have HSL := Lib.hid hsl
            have HXR : Hid (-16777216 ≤ x ∧ x ≤ 16777216) := HRG.out x (HSR.out.perm.mem_iff.1 (List.mem_of_getElem? hx))
            obtain ⟨l2, l3⟩ := HXR.out
            have HRW0 : Hid (wr.ownsRow w1.heap.size 3 1 (.slice fa0 q fc0) q ((insAt S x p ++ R).map (Value.int .i64))) := by show World.ownsRow _ _ _ _ _ _ _; rw [HE.out]; exact HROWL.out
            obtain ⟨r, hr, _, _, _⟩ := row_some HROWL.out (by omega)
            clear hx hsi he hsl hS hR HSR HROWL HLL HE
            obtain ⟨wo, rfl⟩ : ∃ wo : World, wo = wr := ⟨_, rfl⟩
            subst hr
            go_wp2
            go_loopw [12] (fun i wr => ∃ (k : Nat), k ≤ p ∧ i = .int .i64 k ∧ Hid (SortI F0 S R x k) ∧ Hid (wr.ownsRow w1.heap.size 3 1 (.slice (some ⟨r, 0, none⟩) q fc0) q ((insAt S x k ++ R).map (Value.int .i64))) ∧ Hid (Kept w1 wr)) (fun i _ => (intOf i).toNat)
            case atStart => exact ⟨p, Nat.le_refl _, rfl, HSI.out, HRW0.out, HKL.out⟩
            case round =>
              obtain ⟨k, hk, rfl, HSK, HRK, HKK⟩ := hrel
              have k0 : (0 : Int) ≤ (k : Int) := Int.natCast_nonneg _
              rcases Nat.eq_zero_or_pos k with hz | hz
              · subst hz
                have HN := Lib.hid (HSK.out.done HCO.out (fun y h0 => absurd h0 (Nat.lt_irrefl 0)))
                rw [HSL.out] at HN
                go_wp2_with fail
                go_quiet (fail)
                go_wp2
                go_roundw
                case rel => exact ⟨p + 1, _, by omega, by go_num, HN.out, HRK.out, Kept.drewN HKK.out _⟩
                case measure => simp [intOf]; omega
              · obtain ⟨m, hm⟩ : ∃ m : Nat, k = m + 1 := ⟨k - 1, by omega⟩
                have HM := Lib.hid hm
                have hml : m < S.length := by have := HSL.out; omega
                obtain ⟨pv, hp⟩ : ∃ pv, S[m]? = some pv := ⟨_, List.getElem?_eq_getElem hml⟩
                have HPV := Lib.hid hp
                have hpr : -16777216 ≤ pv ∧ pv ≤ 16777216 := HRG.out pv (HSK.out.perm.mem_iff.1 (List.mem_append_left _ ((insAt_mem S x k pv).2 (Or.inr (List.mem_of_getElem? hp)))))
                have HPR := Lib.hid hpr
                have HCK : Hid (∀ (j : Nat) (z : Int), j < q → (insAt S x k ++ R)[j]? = some z → wr.cell? ⟨r, j, none⟩ = some (.int .i64 z)) := fun j z hjq hj => by
                  rw [HRK.out.cellAt j (by omega), List.getElem?_map, hj]; rfl
                have i1 := HCK.out k x (by omega) HSK.out.at_x
                have i2 := HCK.out m pv (by omega) (by rw [hm]; rw [hm] at HSK; exact HSK.out.at_p hp)
                have hw1 : IntKind.i64.wrap ((k : Int) - 1) = (m : Int) := by rw [IntWalk.i64_in _ (by omega)]; omega
                have q1 : (0 : Int) < (k : Int) := by omega
                have q2 : (k : Int) < (q : Int) := by omega
                have q3 : (0 : Int) ≤ (m : Int) := Int.natCast_nonneg _
                have q4 : (m : Int) < (q : Int) := by omega
                clear hm hml hp hpr
                by_cases hlt : vr x < vr pv
                · have HBF : Hid (∀ w, Calls Tryd.prog 37 #[.int .i64 x, .int .i64 pv] w fun e w' => e = .returned (.bool true) ∧ w' = w) := fun w => before_is x pv true HXR.out HPR.out (decide_eq_true hlt) w
                  have HST : Hid (SortI F0 S R x m) := by have h := HSK.out; rw [HM.out] at h; exact h.step HPV.out hlt
                  have HSW : Hid (((insAt S x k ++ R).set k pv).set m x = insAt S x m ++ R) := by have h := HSK.out; rw [HM.out] at h ⊢; exact h.swap HPV.out
                  have hs1 := HRK.out.stored k (.int .i64 pv)
                  have hs2 := HRK.out.stored m (.int .i64 x)
                  have hkm : k ≠ m := by have := HM.out; omega
                  have c1' : (wr.setCell ⟨r, k, none⟩ (.int .i64 pv)).cell? ⟨r, m, none⟩ = some (.int .i64 pv) := by
                    rw [hs1.1.cellAt m (by omega), List.getElem?_set_ne hkm, ← HRK.out.cellAt m (by omega)]; exact i2
                  have c2' : (wr.setCell ⟨r, m, none⟩ (.int .i64 x)).cell? ⟨r, k, none⟩ = some (.int .i64 x) := by
                    rw [hs2.1.cellAt k (by omega), List.getElem?_set_ne (Ne.symm hkm), ← HRK.out.cellAt k (by omega)]; exact i1
                  have f1 := HRK.out.frozenAt k
                  have f2 := HRK.out.frozenAt m
                  have f1' := hs2.1.frozenAt k
                  have f2' := hs1.1.frozenAt m
                  clear hs1 hs2 hlt
                  go_wp2_with fail
                  go_quiet ((go_at_call 37; exact Calls.quiet_of_same (HBF.out _)))
                  go_wp2_with fail
                  go_region
                  clear i1 i2 c1' c2' f1 f2 f1' f2'
                  generalize hwx : wr.drewN _ = wx
                  have HKX2 : Hid (Kept w1 wx) := by
                    show Kept w1 wx
                    rw [← hwx]
                    exact Kept.drewN HKK.out _
                  have HRX2 : Hid (wx.ownsRow w1.heap.size 3 1 (.slice (some ⟨r, 0, none⟩) q fc0) q ((insAt S x k ++ R).map (Value.int .i64))) := by
                    show wx.ownsRow _ _ _ _ _ _
                    rw [← hwx]
                    exact HRK.out
                  clear hwx
                  have hgl : w1.heap.size ≤ r := (HRX2.out.lt r rfl).1
                  have HEND : Hid (((wx.setCell ⟨r, k, none⟩ (.int .i64 pv)).setCell ⟨r, m, none⟩ (.int .i64 x)).ownsRow w1.heap.size 3 1 (.slice (some ⟨r, 0, none⟩) q fc0) q ((insAt S x m ++ R).map (Value.int .i64))) := by
                    have h9 := ((HRX2.out.stored k (.int .i64 pv)).1.stored m (.int .i64 x)).1
                    rw [← HSW.out, List.map_set, List.map_set]
                    exact h9
                  have HEND3 := Lib.hid ((HKX2.out.setCell (p := ⟨r, k, none⟩) hgl (.int .i64 pv)).setCell (p := ⟨r, m, none⟩) hgl (.int .i64 x))
                  go_wp2
                  go_roundw
                  case rel => exact ⟨m, by have := HM.out; omega, by go_num, HST.out, HEND.out, HEND3.out⟩
                  case measure => have := HM.out; simp [intOf]; omega
                · have HBF : Hid (∀ w, Calls Tryd.prog 37 #[.int .i64 x, .int .i64 pv] w fun e w' => e = .returned (.bool false) ∧ w' = w) := fun w => before_is x pv false HXR.out HPR.out (decide_eq_false hlt) w
                  have HN := Lib.hid (HSK.out.done HCO.out (fun y _ hy => by
                    have e : k - 1 = m := by have := HM.out; omega
                    rw [e, HPV.out] at hy
                    cases hy
                    exact hlt))
                  rw [HSL.out] at HN
                  clear hlt
                  go_wp2_with fail
                  go_quiet ((go_at_call 37; exact Calls.quiet_of_same (HBF.out _)))
                  go_wp2
                  go_roundw
                  case rel => exact ⟨p + 1, _, by omega, by go_num, HN.out, HRK.out, Kept.drewN HKK.out _⟩
                  case measure => simp [intOf]; omega
          · obtain rfl : p = q := by omega
            obtain ⟨hs, hm⟩ := HSR.out.done HLL.out
            have HYES : Hid (UnitsRes C (some L)) := ⟨F0, HRE0.out, HQ.out, hs, hm⟩
            have HIL : Hid (IntsAt wr fa0 p L) := ints_of_row HROWL.out HLL.out fun x hx => HFI.out F0 HRE0.out x ((hm x).1 hx)
            have HFIT := Lib.hid (row_fit HROWL.out)
            clear hs hm
            go_wp2
            go_ret2
            exact ⟨HK0.out.trans HKL.out, Or.inr ⟨HR.out, Or.inr ⟨fa0, p, fc0, L, HYES.out, rfl, HIL.out, HFIT.out⟩⟩⟩
end Go.Proofs.YtemijkfgnedlnaaDoor
