/-
  Layer 5: the contract of the reference's Get.
-/
import Derived.Test.YtlikokeknfhejaaGreatDoorDRGetM
import Derived.Test.YtlikokeknfhejaaGreatDoorCText
import Derived.Deep.DeepCutAuto
namespace Go.Proofs.YtlikokeknfhejaaGreatDoor
open Go Go.RowKit Go.Lib

def IsPut (L : List UInt8) : Prop := ∃ V C, rightB V C = true ∧ L = putT V C
def RGetPost (L : List UInt8) (w : World) (e : Ending) (w' : World) : Prop :=
  Kept w w' ∧ ((∃ V C a k c, rightB V C = true ∧ L = putT V C ∧ e = .returned (.tuple #[.agg #[.int .i64 V, .slice a k c], .int .i64 0]) ∧ ClsAt w' a k C) ∨
    (¬ IsPut L ∧ e = .returned (.tuple #[.agg #[.int .i64 0, .slice none 0 0], .int .i64 2])))
theorem map_numV {M : List Int} (h : ∀ x ∈ M, -16777216 ≤ x ∧ x ≤ 16777216) : (M.map Lib.itoa).map numV = M ∧ (M.map Lib.itoa).all numO = true := by
  induction M with
  | nil => exact ⟨rfl, rfl⟩
  | cons x M ih =>
    obtain ⟨h1, h2⟩ := ih fun y hy => h y (by simp [hy])
    have hx := h x (by simp)
    refine ⟨?_, ?_⟩
    · rw [List.map_cons, List.map_cons, h1, numV_itoa (by omega) (by omega)]
    · rw [List.map_cons, List.all_cons, h2, numO_itoa (by omega) (by omega)]; rfl
theorem nums_in {V : Int} {C : List (List Int)} (hr : rightB V C = true) : ∀ x ∈ numsOf C, -16777216 ≤ x ∧ x ≤ 16777216 := by
  obtain ⟨h1, h2, _, h4⟩ := (rightB_iff V C).1 hr
  intro x hx
  unfold numsOf at hx
  obtain ⟨c, hc, hxc⟩ := List.mem_flatMap.1 hx
  rcases List.mem_append.1 hxc with h | h
  · have := h4 c hc x h; omega
  · rw [List.mem_singleton.1 h]; omega
theorem right_nz2 {V : Int} {C : List (List Int)} (h : rightB V C = true) : NoZero C := fun c hc x hx => (((rightB_iff V C).1 h).2.2.2 c hc x hx).1
/-- What is read of a formula's text. -/
theorem read_back {V : Int} {C : List (List Int)} (hr : rightB V C = true) {W : List (List UInt8)} (hW : W = wordsOf (putT V C)) :
    4 ≤ W.length ∧ W[0]? = some [112] ∧ W[1]? = some [99, 110, 102] ∧ W[2]? = some (Lib.itoa V) ∧ numV (Lib.itoa V) = V ∧ numO (Lib.itoa V) = true ∧ clOf ((W.drop 4).map numV) = (C, []) ∧ (W.drop 4).all numO = true := by
  subst hW
  rw [words_put]
  obtain ⟨h1, h2, _, _⟩ := (rightB_iff V C).1 hr
  obtain ⟨m1, m2⟩ := map_numV (nums_in hr)
  refine ⟨by simp, rfl, rfl, rfl, numV_itoa (by omega) (by omega), numO_itoa (by omega) (by omega), ?_, ?_⟩
  · show clOf (((numsOf C).map Lib.itoa).map numV) = _
    rw [m1, clOf_nums C (right_nz2 hr)]
  · exact m2
theorem noput_of {L : List UInt8} {W : List (List UInt8)} (hW : W = wordsOf L) (h : W.length < 4 ∨ (∃ x, W[0]? = some x ∧ x ≠ [112]) ∨ (∃ x, W[1]? = some x ∧ x ≠ [99, 110, 102])) : ¬ IsPut L := by
  rintro ⟨V, C, hr, rfl⟩
  obtain ⟨h1, h2, h3, _⟩ := read_back hr hW
  rcases h with h | ⟨x, hx, hne⟩ | ⟨x, hx, hne⟩
  · omega
  · rw [h2] at hx; exact hne (Option.some.inj hx).symm
  · rw [h3] at hx; exact hne (Option.some.inj hx).symm
set_option maxRecDepth 100000 in
set_option maxHeartbeats 16000000 in
theorem rget_any (a : Option Addr) (n c : Nat) (L : List UInt8) (w : World) (hL : BytesAt w a n L) (hF : Fit a n c) (hn : n ≤ 1000) (hW : Laid w) :
    Calls Tryz.prog 40 #[.slice a n c] w (RGetPost L w) := by
  have HL := Lib.hid hL
  have HLN := Lib.hid hL.len
  have HK0 := Lib.hid ((Kept.refl w).alloc zM)
  have HR := Lib.hid (MapKept.heap_alloc w zM).1
  obtain ⟨R0, hRe⟩ : ∃ R0 : Nat, R0 = w.heap.size := ⟨_, rfl⟩
  rw [← hRe] at HR
  have HRL := Lib.hid (show w.heap.size ≤ R0 by omega)
  have HWL := Lib.hid (hW.kept HK0.out)
  obtain ⟨hnc, hcm⟩ := hF.2
  have hc1 : (n : Int) ≤ (c : Int) := by omega
  have hc2 : (c : Int) ≤ 9223372036854775807 := by omega
  clear hL hW hF
  go_enter Tryz.func40, Tryz.ntmps40
  go_upto_region 1 with (fail)
  rw [← hRe]
  obtain ⟨w1, hw1⟩ : ∃ w1 : World, w1 = w.alloc zM := ⟨_, rfl⟩
  change Code.wp _ _ _ _ (w.alloc zM)
  rw [← hw1] at HR HK0 HWL ⊢
  clear hw1 hRe
  go_wp2
  go_loopw [4, 5, 6] (fun v4 v5 i wr => ∃ (j fr : Nat) (wa : Option Addr) (wk wz : Nat) (W : List (List UInt8)), j ≤ n ∧ i = .int .i64 j ∧ v5 = .int .i64 fr ∧ v4 = .slice wa wk wz ∧ W.length = wk ∧ wk ≤ j ∧ fr ≤ j ∧ Hid (WordsTo L fr j W) ∧ Hid (wr.ownsRow w1.heap.size 9 1 (.slice wa wk wz) wk (W.map strV)) ∧ Hid (Kept w1 wr)) (fun _ _ i _ => n - (intOf i).toNat)
  case atStart => exact ⟨0, 0, none, 0, 0, [], Nat.zero_le _, rfl, rfl, rfl, rfl, Nat.le_refl _, Nat.le_refl _, WordsTo.start L, World.ownsRow_nil _ _ _ _, Kept.refl _⟩
  case round =>
    obtain ⟨j, fr, wa, wk, wz, W, hj, rfl, rfl, rfl, hwl, hwk, hfr, HWT, HROW, HKJ⟩ := hrel
    have j0 : (0 : Int) ≤ (j : Int) := Int.natCast_nonneg _
    have f0 : (0 : Int) ≤ (fr : Int) := Int.natCast_nonneg _
    have f1 : (fr : Int) ≤ (j : Int) := by omega
    by_cases hjn : j < n
    · have j1 : (j : Int) < (n : Int) := by omega
      have HLW := Lib.hid (HL.out.kept (HK0.out.trans HKJ.out))
      obtain ⟨b, off, rfl, hcc⟩ := HLW.out.at_ (by omega)
      obtain ⟨x, hx⟩ : ∃ x, L[j]? = some x := ⟨_, List.getElem?_eq_getElem (by rw [HLN.out]; exact hjn)⟩
      have x0 := hcc j x hx
      have HX := Lib.hid hx
      obtain ⟨k, hk⟩ : ∃ k : Nat, k = x.toNat := ⟨_, rfl⟩
      rw [← hk] at x0
      have HSEP : Hid (isSep x = (decide (k = 32) || decide (k = 10))) := by
        show _ = _
        unfold isSep
        have e : ∀ (y : UInt8) (m : Nat), m < 256 → y.toNat = m → (x == y) = decide (k = m) := fun y m _ hy => by
          rw [Bool.eq_iff_iff, beq_iff_eq, decide_eq_true_eq, hk, ← hy]
          exact ⟨fun h => by rw [h], fun h => UInt8.toNat_inj.1 h⟩
        rw [e 32 32 (by omega) rfl, e 10 10 (by omega) rfl]
      have k0 : (0 : Int) ≤ (k : Int) := Int.natCast_nonneg _
      have HP := Lib.hid (BytesAt.sub HLW.out fr (j - fr) (by omega))
      have cv := conv_str (c := c - fr) HP.out (fun h => by cases h) (fun ad h => by cases h; rfl)
      have CV := Lib.hid cv
      clear hcc hx hk cv
      go_upto_region 6 with (fail)
      go_cut [33] (fun s wx => s = .bool (isSep x) ∧ wx = wr)
      case first =>
        by_cases h1 : k = 32
        · have b1 : ((k : Int) == 32) = true := beq_iff_eq.2 (by omega)
          have b2 : decide (k = 32) = true := decide_eq_true h1
          clear h1
          go_wp2
          go_meet
          case rel => exact ⟨by rw [HSEP.out, b2]; rfl, rfl⟩
        · have b1 : ((k : Int) == 32) = false := beq_eq_false_iff_ne.2 (by omega)
          have b2 : decide (k = 32) = false := decide_eq_false h1
          have b3 : ((k : Int) == 10) = decide (k = 10) := by rw [Bool.eq_iff_iff, beq_iff_eq, decide_eq_true_eq]; omega
          clear h1
          go_wp2
          go_meet
          case rel => exact ⟨by rw [HSEP.out, b2, ← b3]; rfl, rfl⟩
      case rest =>
        obtain ⟨rfl, rfl⟩ := hcut
        cases hs : isSep x with
        | true =>
          have HS := Lib.hid hs
          have cv := CV.out
          clear hs x0
          go_wp2_with (at_builtin; refine wpList_append_str (w0 := wc) rfl _ _ rfl w1.heap.size wa wk wz W rfl HROW.out ((L.drop fr).take (j - fr)) rfl rfl (by omega) HKJ.out.size ?_; intro a4 c4 w4 hown4 hgrow4; have HOW4 := Lib.hid hown4; have HGR4 := Lib.hid hgrow4; clear hown4 hgrow4)
          have HK4 := Lib.hid (grow_kept HROW.out HKJ.out (Nat.le_refl _) HGR4.out)
          clear cv
          go_wp2
          go_roundw
          case rel => exact ⟨j + 1, j + 1, a4, wk + 1, c4, _, by omega, by go_num, by go_num, rfl, by rw [List.length_append, hwl]; rfl, by omega, Nat.le_refl _, HWT.out.sep HX.out HS.out, HOW4.out, HK4.out⟩
          case measure => simp [intOf]; omega
        | false =>
          have HS := Lib.hid hs
          clear hs x0
          go_wp2
          go_roundw
          case rel => exact ⟨j + 1, fr, wa, wk, wz, W, by omega, by go_num, rfl, rfl, hwl, by omega, by omega, HWT.out.step HX.out HS.out, HROW.out, HKJ.out⟩
          case measure => simp [intOf]; omega
    · obtain rfl : n = j := by omega
      have HWD : Hid (W = wordsOf L) := by
        have h := HWT.out
        rw [← HLN.out] at h
        exact h.done
      have HL0 := Lib.hid (HL.out.kept (HK0.out.trans HKJ.out))
      clear HWT
      obtain ⟨w2, rfl⟩ : ∃ w2 : World, w2 = wr := ⟨_, rfl⟩
      have HWL2 := Lib.hid (HWL.out.kept HKJ.out)
      have HR2 := Lib.hid (HKJ.out.row HR.out)
      have HKW2 := Lib.hid (HK0.out.trans HKJ.out)
      have HBAD : Hid (∀ wx : World, Kept w2 wx → ∀ (h : ¬ IsPut L), RGetPost L w (.returned (.tuple #[.agg #[.int .i64 0, .slice none 0 0], .int .i64 2])) ((wx.setCell ⟨R0, 0, none⟩ (.int .i64 0)).setCell ⟨R0, 1, none⟩ (.slice none 0 0))) := fun wx hk h =>
        ⟨((HKW2.out.trans hk).setCell (p := ⟨R0, 0, none⟩) HRL.out (.int .i64 0)).setCell (p := ⟨R0, 1, none⟩) HRL.out (.slice none 0 0), Or.inr ⟨h, rfl⟩⟩
      have f0' := frozen_of_row HR2.out 0
      have f1' := frozen_of_row HR2.out 1
      obtain ⟨r0, r1⟩ := rbox_facts HR2.out (Kept.refl w2)
      by_cases h4 : wk < 4
      · have d4 : decide ((wk : Int) < 4) = true := decide_eq_true (by omega)
        have HNO := Lib.hid (noput_of HWD.out (Or.inl (by omega)))
        clear h4
        go_wp2
        have HB := Lib.hid (HBAD.out w2 (Kept.refl w2) HNO.out)
        have HR4 := Lib.hid (set2r (u := .int .i64 0) (v := .slice none 0 0) HR2.out)
        generalize (w2.setCell ⟨R0, 0, none⟩ (.int .i64 0)).setCell ⟨R0, 1, none⟩ (.slice none 0 0) = w4 at *
        clear r0 r1 f0' f1'
        obtain ⟨r0, r1⟩ := rbox_facts HR4.out (Kept.refl w4)
        exact bodyPost_ret (v := .tuple #[.agg #[.int .i64 0, .slice none 0 0], .int .i64 2]) (by simp [results, Tryz.results40, go_sem, r0, r1]) rfl HB.out
      · have d4 : decide ((wk : Int) < 4) = false := decide_eq_false (by omega)
        obtain ⟨x0, hx0⟩ : ∃ x, W[0]? = some x := ⟨_, List.getElem?_eq_getElem (by omega)⟩
        obtain ⟨x1, hx1⟩ : ∃ x, W[1]? = some x := ⟨_, List.getElem?_eq_getElem (by omega)⟩
        obtain ⟨x2, hx2⟩ : ∃ x, W[2]? = some x := ⟨_, List.getElem?_eq_getElem (by omega)⟩
        obtain ⟨r, rfl, y0⟩ := str_cell HROW.out hx0 (by omega)
        obtain ⟨_, hr1, y1⟩ := str_cell HROW.out hx1 (by omega)
        cases hr1
        obtain ⟨_, hr2, y2⟩ := str_cell HROW.out hx2 (by omega)
        cases hr2
        have HX0 := Lib.hid hx0; have HX1 := Lib.hid hx1; have HX2 := Lib.hid hx2
        clear hx0 hx1 hx2
        have q0 : (4 : Int) ≤ (wk : Int) := by omega
        by_cases e0 : x0 = [112]
        case neg =>
          have b0 : (x0 == [112]) = false := beq_eq_false_iff_ne.2 e0
          have HNO := Lib.hid (noput_of HWD.out (Or.inr (Or.inl ⟨x0, HX0.out, e0⟩)))
          go_wp2
          have HB := Lib.hid (HBAD.out w2 (Kept.refl w2) HNO.out)
          have HR4 := Lib.hid (set2r (u := .int .i64 0) (v := .slice none 0 0) HR2.out)
          generalize (w2.setCell ⟨R0, 0, none⟩ (.int .i64 0)).setCell ⟨R0, 1, none⟩ (.slice none 0 0) = w4 at *
          clear r0 r1 f0' f1'
          obtain ⟨r0, r1⟩ := rbox_facts HR4.out (Kept.refl w4)
          exact bodyPost_ret (v := .tuple #[.agg #[.int .i64 0, .slice none 0 0], .int .i64 2]) (by simp [results, Tryz.results40, go_sem, r0, r1]) rfl HB.out
        subst e0
        by_cases e1 : x1 = [99, 110, 102]
        case neg =>
          have b1 : (x1 == [99, 110, 102]) = false := beq_eq_false_iff_ne.2 e1
          have HNO := Lib.hid (noput_of HWD.out (Or.inr (Or.inr ⟨x1, HX1.out, e1⟩)))
          go_wp2
          have HB := Lib.hid (HBAD.out w2 (Kept.refl w2) HNO.out)
          have HR4 := Lib.hid (set2r (u := .int .i64 0) (v := .slice none 0 0) HR2.out)
          generalize (w2.setCell ⟨R0, 0, none⟩ (.int .i64 0)).setCell ⟨R0, 1, none⟩ (.slice none 0 0) = w4 at *
          clear r0 r1 f0' f1'
          obtain ⟨r0, r1⟩ := rbox_facts HR4.out (Kept.refl w4)
          exact bodyPost_ret (v := .tuple #[.agg #[.int .i64 0, .slice none 0 0], .int .i64 2]) (by simp [results, Tryz.results40, go_sem, r0, r1]) rfl HB.out
        subst e1
        have HWLEN : Hid ((∀ x ∈ W, x.length ≤ 1000) ∧ W.length ≤ 1000) := by
          obtain ⟨h1, h2⟩ := words_len L []
          have h3 := HLN.out
          rw [HWD.out]
          unfold wordsOf
          refine ⟨fun x hx => ?_, by omega⟩
          have := h1 x hx
          simp at this
          omega
        have hlx : x2.length ≤ 1000000 := by
          have := HWLEN.out.1 x2 (List.mem_of_getElem? HX2.out)
          omega
        go_wp2_with fail
        refine (number_any x2 w2 hlx HWL2.out).mono ?_
        rintro e w3 ⟨rfl, hk3⟩
        have HK3 := Lib.hid hk3
        clear hk3 y0 y1 y2 r0 r1 f0' f1' hlx
        have hvi := numV_in x2
        have HVI : Hid (InR (numV x2)) := by show InR _; unfold InR; omega
        obtain ⟨V, hV⟩ : ∃ V, V = numV x2 := ⟨_, rfl⟩
        obtain ⟨ok0, hok0⟩ : ∃ b, b = numO x2 := ⟨_, rfl⟩
        rw [← hV] at HVI hvi ⊢
        rw [← hok0]
        have HV := Lib.hid hV
        have HOK0 := Lib.hid hok0
        clear hV hok0
        have HKH := Lib.hid ((Kept.refl w3).alloc (f2Obj V none 0 0 83))
        obtain ⟨h, hh⟩ : ∃ h : Nat, h = w3.heap.size := ⟨_, rfl⟩
        have HG0 := Lib.hid (GetAt.start (V := V) (t := 83) hh)
        go_upto_region 13 with (fail)
        rw [← hh]
        obtain ⟨w7, hw7⟩ : ∃ w7 : World, w7 = w3.alloc (f2Obj V none 0 0 83) := ⟨_, rfl⟩
        change Code.wp _ _ _ _ (w3.alloc (f2Obj V none 0 0 83))
        rw [← hw7] at HG0 HKH ⊢
        clear hw7
        have HK27 := Lib.hid (HK3.out.trans HKH.out)
        have HHE : Hid (w2.heap.size ≤ h) := by show _ ≤ _; rw [hh]; exact HK3.out.size
        have HR7 := Lib.hid (HK27.out.row HR2.out)
        have HLT7 : Hid (R0 < h) := by
          have h1 := (Array.getElem?_eq_some_iff.1 HR2.out).1
          have h2 := HHE.out
          show R0 < h
          omega
        obtain ⟨ii, hi, hz0, hz1, hz2⟩ := info_parts infoInts
        have HI := Lib.hid (And.intro hi (And.intro hz0 (And.intro hz1 hz2))); clear hi hz0 hz1 hz2 hh HKH HK3
        obtain ⟨W4, hW4⟩ : ∃ W4, W4 = W.drop 4 := ⟨_, rfl⟩
        have HW4 := Lib.hid hW4
        have HW4L : Hid (W4.length + 4 = wk) := by show _ = _; rw [hW4, List.length_drop]; omega
        clear hW4
        go_wp2
        go_loopw [8, 10, 11] (fun v8 v10 v11 wr => ∃ (j : Nat) (ok : Bool) (a : Option Addr) (k c' : Nat) (ac : Option Addr) (kc cc : Nat) (vs : List Value) (D : List (List Int)) (cur : List Int), j + 4 ≤ wk ∧ v11 = .int .i64 ((j : Int) + 4) ∧ v8 = .bool ok ∧ v10 = .slice ac kc cc ∧ Hid (ok = (ok0 && (W4.take j).all numO)) ∧ Hid (clOf ((W4.take j).map numV) = (D, cur)) ∧ Hid (GetAt w7 h V 83 wr a k c' ac kc cc vs D cur)) (fun _ _ i _ => wk - (intOf i).toNat)
        case atStart => exact ⟨0, ok0, none, 0, 0, none, 0, 0, [], [], [], by omega, by go_num, rfl, rfl, by show _ = _; simp, rfl, HG0.out⟩
        case round =>
          obtain ⟨j, ok, a, k, c', ac, kc, cc, vs, D, cur, hj4, rfl, rfl, rfl, HOKJ, HCL, HG⟩ := hrel
          have HKR : Hid (Kept w2 wr) := HG.out.turned.from HK27.out fun q hq e => by have := HHE.out; omega
          have HRWR := Lib.hid (row_keptR HROW.out HKR.out)
          have HWLR := Lib.hid (HWL2.out.kept HKR.out)
          have j0 : (0 : Int) ≤ (j : Int) := Int.natCast_nonneg _
          have HLEN : Hid (D.length + D.flatten.length + cur.length = j) := by
            have h1 := (clOf_facts ((W4.take j).map numV)).1
            rw [HCL.out, List.length_map, List.length_take] at h1
            simp only at h1
            have := HW4L.out
            show _ = _
            omega
          have hj1000 : j ≤ 1000 := by have h1 := HWLEN.out.2; have h2 := HW4L.out; have h3 := hwl; omega
          have hkb : k ≤ 1000 ∧ kc ≤ 1000 := by
            have h1 := HG.out.rows.len
            have h2 := HG.out.clen
            have h3 := HLEN.out
            omega
          by_cases hjn : j + 4 < wk
          · have j1 : (j : Int) + 4 < (wk : Int) := by omega
            have j2 : (0 : Int) ≤ (j : Int) + 4 := by omega
            obtain ⟨x, hx⟩ : ∃ x, W4[j]? = some x := ⟨_, List.getElem?_eq_getElem (by have := HW4L.out; omega)⟩
            have hxW : W[j + 4]? = some x := by
              have h1 := hx
              rw [HW4.out, List.getElem?_drop] at h1
              rw [Nat.add_comm]; exact h1
            obtain ⟨_, hr1, y1⟩ := str_cell HRWR.out hxW (by omega)
            cases hr1
            have hlx : x.length ≤ 1000000 := by
              have := HWLEN.out.1 x (List.mem_of_getElem? hxW)
              omega
            have HTK : Hid (W4.take (j + 1) = W4.take j ++ [x]) := by show _ = _; rw [List.take_succ_eq_append_getElem (List.getElem?_eq_some_iff.1 hx).1, (List.getElem?_eq_some_iff.1 hx).2]
            have HNUM := Lib.hid (number_any x wr hlx HWLR.out)
            have HCLN : Hid (clOf ((W4.take (j + 1)).map numV) = clStep (D, cur) (numV x)) := by
              show _ = _
              rw [HTK.out, List.map_append]
              show clOf ((W4.take j).map numV ++ [numV x]) = _
              rw [clOf_snoc, HCL.out]
            have HOKN : Hid ((ok && numO x) = (ok0 && (W4.take (j + 1)).all numO)) := by
              show _ = _
              rw [HTK.out, List.all_append, HOKJ.out, Bool.and_assoc]; simp
            have hxi := numV_in x
            have e4 : ((j + 4 : Nat) : Int) = (j : Int) + 4 := by omega
            have e5 : ((j : Int) + 4).toNat = j + 4 := by omega
            clear hx hxW hlx
            go_wp2_with fail
            refine HNUM.out.mono ?_
            rintro e w8 ⟨rfl, hk8⟩
            have HK8 := Lib.hid hk8
            clear hk8 y1 HNUM
            obtain ⟨y, hy⟩ : ∃ y, y = numV x := ⟨_, rfl⟩
            obtain ⟨ob, hob⟩ : ∃ ob, ob = numO x := ⟨_, rfl⟩
            rw [← hy] at HCLN hxi ⊢
            rw [← hob] at HOKN ⊢
            clear hy hob
            have HG8 := Lib.hid (HG.out.kept HK8.out)
            go_upto_region 18 with (fail)
            go_cut [8] (fun s wx => s = .bool (ok && ob) ∧ wx = w8)
            case first =>
              cases ok with
              | true =>
                go_wp2
                go_meet
                case rel => exact ⟨rfl, rfl⟩
              | false =>
                go_wp2
                go_meet
                case rel => exact ⟨rfl, rfl⟩
            case rest =>
              obtain ⟨rfl, rfl⟩ := hcut
              by_cases hy0 : y = 0
              · have b0 : (y != 0) = false := by simp [hy0]
                have HCS : Hid (clOf ((W4.take (j + 1)).map numV) = (D ++ [cur], [])) := by
                  show _ = _
                  rw [HCLN.out, clStep, if_pos hy0]
                clear hy0
                have HN := HG8.out.hN
                have q0 := rbox_facts HG8.out.blk (Kept.refl wc)
                obtain ⟨q0, q1⟩ := q0
                have q2 := frozen_of_row HG8.out.blk 1
                have q3 := (Array.getElem?_eq_some_iff.1 HG8.out.blk).1
                have z1 : (wc.alloc (.cells #[.slice ac kc cc] 22)).cell? ⟨h, 1, none⟩ = some (.slice a k c') := ((Kept.refl wc).alloc _).cell q1
                have z2 : (wc.alloc (.cells #[.slice ac kc cc] 22)).frozen? ⟨h, 1, none⟩ = false := frozen_of_row (((Kept.refl wc).alloc _).row HG8.out.blk) 1
                have z3 : h < (wc.alloc (.cells #[.slice ac kc cc] 22)).heap.size := by simp; omega
                have HNH : Hid ((Value.slice a k c').ownBlock ≠ some h) := by
                  intro e
                  have h1 := (HG8.out.rows.row.lt h e).1
                  have := HG8.out.hN
                  omega
                have hnw := HG8.out.nw
                go_wp2_with (at_builtin; refine wpList_append_lies _ rfl _ _ _ rfl w7.heap.size 22 ii _ 1 24 Tryz.underlying23 HI.out.1 HI.out.2.1 HI.out.2.2.1 HI.out.2.2.2 rfl (by omega) (.slice a k c') k vs rfl (HG8.out.rows.row.alloc _) ⟨wc.heap.size, 0, none⟩ 1 1 [.slice ac kc cc] rfl rfl (World.news_of_block (cs := #[.slice ac kc cc]) (t := 22) (fr := (0, 0)) (heap_alloc_new wc _)) (by simp [Value.oneCell']) (by omega) (by unfold maxLen; omega) (by omega) (by simp; omega) (wc.heap.size + 1) (by simp) ?_; intro gg cap w10 hown10 hgrow10 hat10 hlt10; have c10 : w10.cell? ⟨h, 1, none⟩ = some (.slice a k c') := (hgrow10.cell_far ⟨h, 1, none⟩ z3 (Ne.symm HNH.out)).trans z1; have z10 : w10.frozen? ⟨h, 1, none⟩ = false := (hgrow10.frozen_far ⟨h, 1, none⟩ z3 (Ne.symm HNH.out)).trans z2; have HGR := Lib.hid hgrow10; have HOW := Lib.hid hown10; have HAT := Lib.hid hat10; clear hgrow10 hown10 hat10 hlt10)
                have HE := Lib.hid (HG8.out.store HOW.out HGR.out HAT.out)
                clear c10 z10 q0 q1 q2 q3 z1 z2 z3
                go_wp2
                go_roundw
                case rel => exact ⟨j + 1, ok && ob, some ⟨gg, 0, none⟩, k + 1, cap, none, 0, 0, vs ++ [Value.slice ac kc cc], D ++ [cur], [], by omega, by go_num, rfl, rfl, HOKN.out, HCS.out, HE.out⟩
                case measure => simp [intOf]; omega
              · have b0 : (y != 0) = true := by simpa using hy0
                have HCS : Hid (clOf ((W4.take (j + 1)).map numV) = (D, cur ++ [y])) := by
                  show _ = _
                  rw [HCLN.out, clStep, if_neg hy0]
                clear hy0
                have HYI : Hid (InR y) := by show InR y; unfold InR; omega
                go_wp2_with (at_builtin; refine wpList_append_int2 (w0 := wc) rfl _ _ rfl w7.heap.size ac kc cc cur rfl HG8.out.own y rfl rfl (by omega) HG8.out.nw ?_; intro g4 c4 w4 hown4 hgrow4 hat4; have HOW4 := Lib.hid hown4; have HGR4 := Lib.hid hgrow4; have HAT4 := Lib.hid hat4; clear hown4 hgrow4 hat4)
                have HE := Lib.hid (HG8.out.grow HYI.out HOW4.out HGR4.out HAT4.out)
                go_wp2
                go_roundw
                case rel => exact ⟨j + 1, ok && ob, a, k, c', some ⟨g4, 0, none⟩, kc + 1, c4, vs, D, cur ++ [y], by omega, by go_num, rfl, rfl, HOKN.out, HCS.out, HE.out⟩
                case measure => simp [intOf]; omega
          · have hjw : j + 4 = wk := by omega
            have j1 : (j : Int) + 4 = (wk : Int) := by omega
            have htk : W4.take j = W4 := by
              have h1 := HW4L.out
              rw [show j = W4.length by omega]; exact List.take_length
            rw [htk] at HCL HOKJ
            clear htk
            have HNN : Hid (∀ x ∈ W4.map numV, InR x) := fun x hx => by
              obtain ⟨y, _, rfl⟩ := List.mem_map.1 hx
              have := numV_in y
              unfold InR; omega
            have HDF : Hid (D.length ≤ 1000 ∧ D.flatten.length ≤ 1000) := by
              have := HLEN.out
              exact ⟨by omega, by omega⟩
            have HCD := Lib.hid HG.out.rows.cls
            have HIS : Hid (∀ V' C', rightB V' C' = true → L = putT V' C' → V = V' ∧ D = C' ∧ ok = true) := fun V' C' hr' hp => by
              obtain ⟨_, _, _, p3, p4, p5, p6, p7⟩ := read_back hr' (W := W) (by rw [← hp]; exact HWD.out)
              rw [HX2.out] at p3
              rw [← Option.some.inj p3] at p4 p5
              rw [← HW4.out, HCL.out] at p6
              rw [← HW4.out] at p7
              refine ⟨HV.out.trans p4, (Prod.mk.inj p6).1, ?_⟩
              rw [HOKJ.out, HOK0.out, p5, p7]; rfl
            obtain ⟨q0, q1⟩ := rbox_facts HG.out.blk (Kept.refl wr)
            have HPUT := Lib.hid (rput_any V a k c' D wr HVI.out HCD.out (by omega) (fun d hd => Nat.le_trans (flat_mem_len hd) HDF.out.2) (by have := HDF.out.2; omega) HWLR.out)
            have HLR := Lib.hid (HL0.out.kept HKR.out)
            go_wp2_with fail
            refine HPUT.out.mono ?_
            rintro e w9 ⟨hk9, hpost⟩
            have HK9 := Lib.hid hk9
            have HG9 := Lib.hid (HG.out.kept hk9)
            have HR9 : Hid (w9.heap[R0]? = some zM) := hk9.row ((HG.out.turned.block R0 (Array.getElem?_eq_some_iff.1 HR7.out).1 (by have := HLT7.out; omega)).trans HR7.out)
            have HKW9 := Lib.hid (HKW2.out.trans (HKR.out.trans hk9))
            have HBAD9 := HBAD.out w9 (HKR.out.trans hk9)
            have HBAD9 := Lib.hid HBAD9
            clear hk9 q0 q1
            rcases hpost with ⟨hno, rfl⟩ | ⟨hyes, rfl⟩
            · have HRN := Lib.hid hno
              clear hno
              cases ok with
              | true =>
                have HNO : Hid (¬ IsPut L) := fun ⟨V', C', hr', hp⟩ => by
                    obtain ⟨rfl, rfl, _⟩ := HIS.out V' C' hr' hp
                    rw [HRN.out] at hr'; cases hr'
                have f0' := frozen_of_row HR9.out 0
                have f1' := frozen_of_row HR9.out 1
                obtain ⟨r0, r1⟩ := rbox_facts HR9.out (Kept.refl w9)
                go_wp2
                have HB := Lib.hid (HBAD9.out HNO.out)
                have HR4 := Lib.hid (set2r (u := .int .i64 0) (v := .slice none 0 0) HR9.out)
                generalize (w9.setCell ⟨R0, 0, none⟩ (.int .i64 0)).setCell ⟨R0, 1, none⟩ (.slice none 0 0) = w4 at *
                clear r0 r1 f0' f1'
                obtain ⟨r0, r1⟩ := rbox_facts HR4.out (Kept.refl w4)
                exact bodyPost_ret (v := .tuple #[.agg #[.int .i64 0, .slice none 0 0], .int .i64 2]) (by simp [results, Tryz.results40, go_sem, r0, r1]) rfl HB.out
              | false =>
                have HNO : Hid (¬ IsPut L) := fun ⟨V', C', hr', hp⟩ => by
                    obtain ⟨_, _, h⟩ := HIS.out V' C' hr' hp
                    cases h
                have f0' := frozen_of_row HR9.out 0
                have f1' := frozen_of_row HR9.out 1
                obtain ⟨r0, r1⟩ := rbox_facts HR9.out (Kept.refl w9)
                go_wp2
                have HB := Lib.hid (HBAD9.out HNO.out)
                have HR4 := Lib.hid (set2r (u := .int .i64 0) (v := .slice none 0 0) HR9.out)
                generalize (w9.setCell ⟨R0, 0, none⟩ (.int .i64 0)).setCell ⟨R0, 1, none⟩ (.slice none 0 0) = w4 at *
                clear r0 r1 f0' f1'
                obtain ⟨r0, r1⟩ := rbox_facts HR4.out (Kept.refl w4)
                exact bodyPost_ret (v := .tuple #[.agg #[.int .i64 0, .slice none 0 0], .int .i64 2]) (by simp [results, Tryz.results40, go_sem, r0, r1]) rfl HB.out
            · have HRY := Lib.hid hyes
              clear hyes
              cases ok with
              | false =>
                have HNO : Hid (¬ IsPut L) := fun ⟨V', C', hr', hp⟩ => by
                    obtain ⟨_, _, h⟩ := HIS.out V' C' hr' hp
                    cases h
                have f0' := frozen_of_row HR9.out 0
                have f1' := frozen_of_row HR9.out 1
                obtain ⟨r0, r1⟩ := rbox_facts HR9.out (Kept.refl w9)
                go_wp2
                have HB := Lib.hid (HBAD9.out HNO.out)
                have HR4 := Lib.hid (set2r (u := .int .i64 0) (v := .slice none 0 0) HR9.out)
                generalize (w9.setCell ⟨R0, 0, none⟩ (.int .i64 0)).setCell ⟨R0, 1, none⟩ (.slice none 0 0) = w4 at *
                clear r0 r1 f0' f1'
                obtain ⟨r0, r1⟩ := rbox_facts HR4.out (Kept.refl w4)
                exact bodyPost_ret (v := .tuple #[.agg #[.int .i64 0, .slice none 0 0], .int .i64 2]) (by simp [results, Tryz.results40, go_sem, r0, r1]) rfl HB.out
              | true =>
                obtain ⟨b, off, rfl, _⟩ := HLR.out.at_ (by omega)
                have HLR9 := Lib.hid (HL0.out.kept (HKR.out.trans HK9.out))
                have cv := conv_str (c := c) HLR9.out (fun h => by cases h) (fun ad h => by cases h; rfl)
                obtain ⟨T, hT⟩ : ∃ T : ByteArray, T = ⟨(putT V D).toArray⟩ := ⟨_, rfl⟩
                obtain ⟨S, hS⟩ : ∃ S : ByteArray, S = ⟨L.toArray⟩ := ⟨_, rfl⟩
                rw [← hS] at cv
                rw [← hT]
                by_cases hLP : L = putT V D
                · have b9 : (T.toList == S.toList) = true := by rw [hT, hS, ByteArray.toList_mk, ByteArray.toList_mk, hLP]; simp
                  have HLP := Lib.hid hLP
                  have f0' := frozen_of_row HR9.out 0
                  have f1' := frozen_of_row HR9.out 1
                  obtain ⟨r0, r1⟩ := rbox_facts HR9.out (Kept.refl w9)
                  obtain ⟨q0, q1⟩ := rbox_facts HG9.out.blk (Kept.refl w9)
                  clear hLP hT hS
                  go_wp2
                  have HR4 := Lib.hid (set2r (u := .int .i64 V) (v := .slice a k c') HR9.out)
                  have HT9 := Lib.hid ((Turned.setCell (T := fun q => q = R0) w9 ⟨R0, 0, none⟩ (.int .i64 V) rfl).trans (Turned.setCell (T := fun q => q = R0) _ ⟨R0, 1, none⟩ (.slice a k c') rfl))
                  have HKE := Lib.hid ((HKW9.out.setCell (p := ⟨R0, 0, none⟩) HRL.out (.int .i64 V)).setCell (p := ⟨R0, 1, none⟩) HRL.out (.slice a k c'))
                  have HCE : Hid (∀ w10, Turned (fun q => q = R0) w9 w10 → ClsAt w10 a k D) := fun w10 ht9 => by
                    refine RowsV.cls (HG9.out.rows.turned (HG9.out.rows.row.kept (row := some R0) ⟨ht9.os, ht9.tape, ht9.output, ht9.size, fun q hq hne => ht9.block q hq (fun e => hne (by rw [e]))⟩ ?_) (ht9.mono fun q _ e => Or.inl (Or.inl (by have := HLT7.out; omega))))
                    refine Or.inr fun e => ?_
                    have h1 := (HG9.out.rows.row.lt R0 e).1
                    have h2 := HG9.out.hN
                    have := HLT7.out
                    omega
                  have HCF := Lib.hid (HCE.out _ HT9.out)
                  generalize (w9.setCell ⟨R0, 0, none⟩ (.int .i64 V)).setCell ⟨R0, 1, none⟩ (.slice a k c') = w4 at *
                  clear r0 r1 f0' f1' q0 q1
                  obtain ⟨r0, r1⟩ := rbox_facts HR4.out (Kept.refl w4)
                  exact bodyPost_ret (v := .tuple #[.agg #[.int .i64 V, .slice a k c'], .int .i64 0]) (by simp [results, Tryz.results40, go_sem, r0, r1]) rfl ⟨HKE.out, Or.inl ⟨V, D, a, k, c', HRY.out, HLP.out, rfl, HCF.out⟩⟩
                · have b9 : (T.toList == S.toList) = false := by rw [hT, hS, ByteArray.toList_mk, ByteArray.toList_mk]; exact beq_eq_false_iff_ne.2 fun h => hLP h.symm
                  have HLP := Lib.hid hLP
                  clear hLP hT hS
                  have HNO : Hid (¬ IsPut L) := fun ⟨V', C', hr', hp⟩ => by
                      obtain ⟨rfl, rfl, _⟩ := HIS.out V' C' hr' hp
                      exact HLP.out hp
                  have f0' := frozen_of_row HR9.out 0
                  have f1' := frozen_of_row HR9.out 1
                  obtain ⟨r0, r1⟩ := rbox_facts HR9.out (Kept.refl w9)
                  go_wp2
                  have HB := Lib.hid (HBAD9.out HNO.out)
                  have HR4 := Lib.hid (set2r (u := .int .i64 0) (v := .slice none 0 0) HR9.out)
                  generalize (w9.setCell ⟨R0, 0, none⟩ (.int .i64 0)).setCell ⟨R0, 1, none⟩ (.slice none 0 0) = w4 at *
                  clear r0 r1 f0' f1'
                  obtain ⟨r0, r1⟩ := rbox_facts HR4.out (Kept.refl w4)
                  exact bodyPost_ret (v := .tuple #[.agg #[.int .i64 0, .slice none 0 0], .int .i64 2]) (by simp [results, Tryz.results40, go_sem, r0, r1]) rfl HB.out
end Go.Proofs.YtlikokeknfhejaaGreatDoor
