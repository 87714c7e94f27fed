/-
  Layer 5: the contract of the program's Units.
-/
import Derived.Test.YtlikokeknfhejaaGreatDoorCGo
import Derived.Test.YtlikokeknfhejaaGreatDoorCHoldsL
namespace Go.Proofs.YtlikokeknfhejaaGreatDoor
open Go Go.RowKit Go.Lib

theorem nodup_sub_len : ∀ (F L : List Int), F.Nodup → (∀ x ∈ F, x ∈ L) → F.length ≤ L.length
  | [], L, _, _ => Nat.zero_le _
  | x :: F, L, hn, hs => by
    have hx := hs x (by simp)
    have hn' := List.nodup_cons.1 hn
    have := nodup_sub_len F (L.erase x) hn'.2 fun y hy => by
      have h1 := hs y (List.mem_cons_of_mem _ hy)
      have hne : y ≠ x := fun e => hn'.1 (e ▸ hy)
      exact (List.mem_erase_of_ne hne).2 h1
    have h2 := List.length_erase_of_mem hx
    have h3 := List.length_pos_of_mem hx
    simp only [List.length_cons]
    omega
theorem flat_len {C : List (List Int)} {b : Nat} (h : ∀ c ∈ C, c.length ≤ b) : C.flatten.length ≤ b * C.length := by
  induction C with
  | nil => simp
  | cons c C ih =>
    have h1 := h c (by simp)
    have h2 := ih fun d hd => h d (List.mem_cons_of_mem _ hd)
    rw [List.flatten_cons, List.length_append, List.length_cons, Nat.mul_add]
    omega
theorem rise_sorted {F K : List Int} (hc : Cons F) (h : RiseOf F K) : SortedV K :=
  chain_sorted fun i a b ha hb => by
    have h1 := h.adj i a b ha hb
    rcases Int.lt_or_eq_of_le h1.1 with h2 | h2
    · exact h2
    · rcases vr_eq h2 with h3 | h3
      · exact absurd h3 h1.2
      · have ha' := (h.mem a).1 (List.mem_of_getElem? ha)
        have hb' := (h.mem b).1 (List.mem_of_getElem? hb)
        rw [h3] at ha'
        exact absurd ha' (hc.one b hb')
/-- What Units answers. -/
def UPost (V : Int) (C : List (List Int)) (w : World) (e : Ending) (w' : World) : Prop :=
  Kept w w' ∧ ((rightB V C = false ∧ e = .returned (.tuple #[.slice none 0 0, .bool false])) ∨ (rightB V C = true ∧
    ((UnitsRes C none ∧ e = .returned (.tuple #[.slice none 0 0, .bool false])) ∨
      ∃ a k c K, UnitsRes C (some K) ∧ e = .returned (.tuple #[.slice a k c, .bool true]) ∧ IntsAt w' a k K ∧ Fit a k c)))
theorem openN_at {D : List (List Int)} {i : Nat} {d : List Int} (h : D[i]? = some d) : (openN D)[i]? = some (d.length : Int) := by
  unfold openN; rw [List.getElem?_map, h]; rfl
theorem ui_start {D : List (List Int)} {F : List Int} (hr : Reach D F) (ht : ∀ (i : Nat) (d : List Int), D[i]? = some d → d.length ≤ 1 → ∃ y ∈ d, y ∈ F) : UI D [] [] (openN D) F := by
  refine ⟨hr, by unfold openN; simp, fun i d hd => ?_, fun i d hd x hx h1 => ?_⟩
  · rw [openN_at hd, cnt_nil]; simp
  · rw [openN_at hd] at hx
    cases hx
    exact ht i d hd (by omega)
theorem ui_end {D : List (List Int)} {O F : List Int} (h : UI D F [] O F) (hn : ∀ d ∈ D, d.Nodup) : ∀ d ∈ D, Quiet d F := by
  refine all_quiet hn fun d hd hc => ?_
  obtain ⟨i, hi⟩ := List.mem_iff_getElem?.1 hd
  have h1 := h.cnts i d hi
  exact h.told i d hi _ h1 (by simp; omega)
set_option maxRecDepth 100000 in
set_option maxHeartbeats 8000000 in
theorem units_any (V : Int) (ca : Option Addr) (cn cc : Nat) (C : List (List Int)) (w : World) (hV : InR V) (hC : ClsAt w ca cn C) (hcn : cn ≤ 1000000) (hS : ∀ c ∈ C, c.length ≤ 1000000) (hT : C.flatten.length ≤ 1000000) :
    Calls Tryz.prog 50 #[.agg #[.int .i64 V, .slice ca cn cc]] w (UPost V C w) := by
  have HC := Lib.hid hC; have HS := Lib.hid hS; clear hC hS
  have HLN := Lib.hid HC.out.len
  have HVR := Lib.hid hV; clear hV
  have HB := Lib.hid (MapKept.heap_alloc w (fObj V ca cn cc)).1
  have HK0 := Lib.hid ((Kept.refl w).alloc (fObj V ca cn cc))
  obtain ⟨B, hBe⟩ : ∃ B : Nat, B = w.heap.size := ⟨_, rfl⟩
  go_enter Tryz.func50, Tryz.ntmps50
  go_upto_region 1 with (fail)
  obtain ⟨w1, hw1⟩ : ∃ w1 : World, w1 = w.alloc (fObj V ca cn cc) := ⟨_, rfl⟩
  change Code.wp _ _ _ _ (w.alloc (fObj V ca cn cc))
  rw [← hBe] at HB ⊢
  rw [← hw1] at HB HK0 ⊢
  clear hw1 hBe
  obtain ⟨y0, y1⟩ := box_facts HB.out (Kept.refl w1)
  cases hr : rightB V C with
  | false =>
    have HR := Lib.hid hr; clear hr
    go_wp2_with fail
    refine (right_any V ca cn cc C w1 HVR.out (HC.out.kept HK0.out) (by omega) (Short.le HS.out)).mono ?_
    rw [HR.out]
    rintro e w2 ⟨rfl, hk2⟩
    have HK2 := Lib.hid hk2; clear hk2
    go_wp2
    go_ret2
    exact ⟨HK0.out.trans HK2.out, Or.inl ⟨HR.out, rfl⟩⟩
  | true =>
    have HR := Lib.hid hr; clear hr
    have HRI := Lib.hid ((rightB_iff V C).1 HR.out)
    have HNZ : Hid (NoZero C) := fun c hc x hx => (HRI.out.2.2.2 c hc x hx).1
    have HLI : Hid (∀ c ∈ C, ∀ x ∈ c, Lit24 x) := fun c hc x hx => by
      have h1 := HRI.out.2.2.2 c hc x hx
      have h2 := HRI.out.2.1
      exact ⟨h1.1, by omega, by omega⟩
    go_wp2_with fail
    refine (right_any V ca cn cc C w1 HVR.out (HC.out.kept HK0.out) (by omega) (Short.le HS.out)).mono ?_
    rw [HR.out]
    rintro e w2 ⟨rfl, hk2⟩
    have HK2 := Lib.hid (HK0.out.trans hk2)
    replace y0 := hk2.cell y0; replace y1 := hk2.cell y1
    clear hk2
    go_wp2_with fail
    refine (new_any V ca cn cc C w2 (HC.out.kept HK2.out) hcn HS.out).mono ?_
    rintro e w3 ⟨hk3, N, base, fb, um, km, s, n, vs, CB, DU, D, rfl, hfol, hcl, hfa, hfn, hon, hDl, hb1, hb2, hb3, hb4, hn, hNw⟩
    have HCL := Lib.hid hcl
    have HCK := Lib.hid hfol.cls.len
    have HND := Lib.hid hcl.nodup
    have HNZD := Lib.hid (hcl.noZero HNZ.out)
    have HLID : Hid (∀ d ∈ D, ∀ y ∈ d, Lit24 y) := fun d hd y hy => by
      obtain ⟨c, hc, hr⟩ := hcl.to d hd
      exact HLI.out c hc y ((hr.2.2 y).1 hy)
    have HDL : Hid (∀ d ∈ D, d.length ≤ 1000000) := fun d hd => by
      obtain ⟨c, hc, hr⟩ := hcl.to d hd
      have h1 := nodup_sub_len d c hr.2.1.nodup fun x hx => (hr.2.2 x).1 hx
      exact Nat.le_trans h1 (HS.out c hc)
    have hnb : n ≤ 1000000000000 := by have h1 := HLN.out; omega
    have hDb : D.length ≤ 1000000 := by have h1 := HLN.out; omega
    have HQ0 : Hid (FolQ w2.heap.size N base fb um km n vs CB DU D w3 s (openN D) []) := ⟨hfol, hfn, hon, hfol.cls.len.symm, hNw, hb1, hb2, hb3, hb4⟩
    have HK3 := Lib.hid hk3
    obtain ⟨c0, c1, c2, c3, c4⟩ := fol_facts hfol.blk (Kept.refl w3)
    have hckD : s.ck = D.length := hfol.cls.len.symm
    rw [hckD] at c0
    clear hk3 hfol hcl hfa hfn hon hDl hb1 hb2 hb3 hb4 hn hNw y0 y1 hckD
    go_wp2
    clear c0 c1 c2 c3 c4
    go_loopw [17] (fun i wr => ∃ (j : Nat) (s : Fo) (F : List Int), j ≤ D.length ∧ i = .int .i64 j ∧ FolQ w2.heap.size N base fb um km n vs CB DU D wr s (openN D) F ∧ Reach D F ∧ (∀ (i : Nat) (d : List Int), i < j → D[i]? = some d → d.length ≤ 1 → ∃ y ∈ d, y ∈ F) ∧ Turned (Big w2.heap.size) w3 wr) (fun i _ => D.length - (intOf i).toNat)
    case atStart => exact ⟨0, s, [], Nat.zero_le _, rfl, HQ0.out, Reach.nil, fun i d h => absurd h (Nat.not_lt_zero _), Turned.refl _ _⟩
    case round =>
      obtain ⟨j, s, F, hj, rfl, hq, hre, hto, ht⟩ := hrel
      have HQ := Lib.hid hq; have HRE := Lib.hid hre; have HTO := Lib.hid hto; have HT := Lib.hid ht
      clear hq hre hto ht
      have j0 : (0 : Int) ≤ (j : Int) := Int.natCast_nonneg _
      have HKW : Hid (Kept w wr) := (HT.out.from (Kept.refl w3 |> fun k => HK3.out.trans k) fun q hq e => by unfold Big at e; omega) |> fun k => HK2.out.trans k
      have HCO : Hid (Cons F) := HRE.out.cons HNZD.out
      have HFL : Hid (F.length ≤ 100000000) := by
        have h1 := nodupZ_len HCO.out.nodup fun x hx => by
          obtain ⟨e, he, hxe⟩ := HRE.out.from x hx
          exact (HLID.out e he x hxe).2
        show _ ≤ _; omega
      have hon : s.on ≤ 1000000 := by rw [HQ.out.on]; exact hDb
      have hck : s.ck ≤ 1000000 := by rw [HQ.out.ck]; exact hDb
      by_cases hjn : j < D.length
      · have j1 : (j : Int) < (D.length : Int) := by omega
        obtain ⟨d, hd⟩ : ∃ d, D[j]? = some d := ⟨_, List.getElem?_eq_getElem hjn⟩
        have HHD := Lib.hid hd
        have hdm := List.mem_of_getElem? hd
        have hox := openN_at hd
        clear hd
        by_cases hfew : (d.length : Int) ≤ 1
        · have HLC := Lib.hid (look_few HQ.out.at_ j (d.length : Int) d hox HHD.out hfew hon hck HQ.out.fn HFL.out HFL.out HCO.out.toOne (HLID.out d hdm) (HDL.out d hdm) HQ.out.nw)
          have HDM := Lib.hid hdm
          have HC1 : Hid (cnt [] d ≤ 1) := by show _ ≤ _; rw [cnt_nil]; omega
          clear hdm hox hfew
          go_wp2_with fail
          refine HLC.out.mono ?_
          rintro e w4 hpost
          rcases hpost with ⟨hno, rfl, hk4⟩ | ⟨F', s', nk', hyes, rfl, hfol, hch, hno', hnk, hfn, hon', hck'⟩
          · have HUN : Hid (UnitsRes C none) := HCL.out.units HNZ.out (fun c hc h => by have := (HLI.out c hc _ h).2.1; omega) ⟨F, HRE.out, d, HDM.out, hno⟩
            have HK4 := Lib.hid (HKW.out.trans hk4)
            clear hno hk4
            go_wp2
            go_ret2
            exact ⟨HK4.out, Or.inr ⟨HR.out, Or.inl ⟨HUN.out, rfl⟩⟩⟩
          · obtain ⟨hr', htold, T', rfl, _⟩ := look_reach HRE.out HCO.out HDM.out (G := []) (by simp) HC1.out hyes
            have HFO := Lib.hid hfol; have HCH := Lib.hid hch; have HRE' := Lib.hid hr'; have HTD := Lib.hid htold
            have HS' := Lib.hid (And.intro hnk (And.intro hfn (And.intro hon' hck')))
            clear hyes hfol hch hno' hnk hfn hon' hck' hr' htold
            go_wp2
            go_roundw
            case rel =>
              obtain ⟨h1, h2, h3, h4⟩ := HS'.out
              have hnk : nk' = (F ++ T').length := by omega
              refine ⟨j + 1, s', F ++ T', by omega, by go_num, ⟨by rw [← hnk]; exact HFO.out, h2, by rw [h3]; exact HQ.out.on, by rw [h4]; exact HQ.out.ck, Nat.le_trans HQ.out.nw HCH.out.size, HQ.out.low⟩, HRE'.out, ?_, HT.out.trans (HCH.out.mono fun q _ e => HQ.out.ch q e)⟩
              intro i d' hi hd' hl'
              by_cases hij : i = j
              · subst hij
                rw [HHD.out] at hd'; cases hd'
                exact HTD.out
              · obtain ⟨y, hy, hyF⟩ := HTO.out i d' (by omega) hd' hl'
                exact ⟨y, hy, List.mem_append_left _ hyF⟩
            case measure => simp [intOf]; omega
        · have HLC := Lib.hid (look_many HQ.out.at_ j (d.length : Int) hox (by omega) hon)
          have HFEW : Hid (¬ d.length ≤ 1) := by intro h; omega
          clear hfew hdm hox
          go_wp2_with fail
          refine HLC.out.mono ?_
          rintro e w4 ⟨rfl, rfl⟩
          go_wp2
          go_roundw
          case rel =>
            refine ⟨j + 1, s, F, by omega, by go_num, HQ.out, HRE.out, ?_, HT.out⟩
            intro i d' hi hd' hl'
            by_cases hij : i = j
            · subst hij
              rw [HHD.out] at hd'; cases hd'
              exact absurd hl' HFEW.out
            · exact HTO.out i d' (by omega) hd' hl'
          case measure => simp [intOf]; omega
      · obtain rfl : j = D.length := by omega
        have HUI : Hid (UI D [] [] (openN D) F) := ui_start HRE.out fun i d hd h1 => HTO.out i d (List.getElem?_eq_some_iff.1 hd).1 hd h1
        obtain ⟨w5, rfl⟩ : ∃ w5 : World, w5 = wr := ⟨_, rfl⟩
        clear HTO HRE HCO HFL hon hck
        go_wp2
        go_loopw [6] (fun i wr => ∃ (p : Nat) (s : Fo) (O F : List Int), p ≤ F.length ∧ i = .int .i64 p ∧ FolQ w2.heap.size N base fb um km n vs CB DU D wr s O F ∧ UI D (F.take p) [] O F ∧ Turned (Big w2.heap.size) w5 wr) (fun i _ => 33554434 - (intOf i).toNat)
        case atStart => exact ⟨0, s, openN D, F, Nat.zero_le _, rfl, HQ.out, by rw [List.take_zero]; exact HUI.out, Turned.refl _ _⟩
        case round =>
          obtain ⟨p, s, O, F, hp, rfl, hq, hui, ht⟩ := hrel
          have HQ := Lib.hid hq; have HU := Lib.hid hui; have HT2 := Lib.hid ht
          clear hq hui ht
          have p0 : (0 : Int) ≤ (p : Int) := Int.natCast_nonneg _
          have HKR : Hid (Kept w wr) := HT2.out.from HKW.out fun q hq e => by
            unfold Big at e
            have := HK2.out.size
            omega
          have HCO : Hid (Cons F) := HU.out.reach.cons HNZD.out
          have HFI : Hid (F.length ≤ 1000000) := by
            have h1 := nodup_sub_len F C.flatten HCO.out.nodup fun x hx => by
              obtain ⟨d, hd, hxd⟩ := HU.out.reach.from x hx
              obtain ⟨c, hc, hr⟩ := HCL.out.to d hd
              exact List.mem_flatten.2 ⟨c, hc, (hr.2.2 x).1 hxd⟩
            show _ ≤ _; omega
          have hfi := HFI.out
          have hfn := HQ.out.fn
          obtain ⟨c0, c1, c2, c3, c4⟩ := fol_facts HQ.out.at_.blk (Kept.refl wr)
          have hrow := HQ.out.at_.fnd
          rw [hfn] at c4 hrow
          by_cases hpf : p < F.length
          · have p1 : (p : Int) < (F.length : Int) := by omega
            obtain ⟨l, hl⟩ : ∃ l, F[p]? = some l := ⟨_, List.getElem?_eq_getElem hpf⟩
            have HL := Lib.hid hl
            have HTK := Lib.hid (show F.take (p + 1) = F.take p ++ [l] from take_snoc' hl)
            obtain ⟨r, hr, _, _, _⟩ := row_some hrow (by omega)
            rw [hr] at c4 hrow
            have x0 : wr.cell? ⟨r, p, none⟩ = some (.int .i64 l) := by rw [hrow.cellAt p (by omega), List.getElem?_map, hl]; rfl
            have HNG : Hid (l ∉ F.take p) := by
              intro hm
              obtain ⟨i, hi⟩ := List.mem_iff_getElem?.1 hm
              rw [List.getElem?_take] at hi
              split at hi
              · rename_i hit
                have h1 := List.pairwise_iff_getElem.1 HCO.out.nodup i p (by omega) hpf hit
                rw [(List.getElem?_eq_some_iff.1 hl).2, (List.getElem?_eq_some_iff.1 hi).2] at h1
                exact h1 rfl
              · cases hi
            have HGO := Lib.hid (goOn_any HQ.out HU.out l (List.mem_of_getElem? hl) HNG.out (fun x hx => List.mem_of_mem_take hx) hnb hDb HLID.out HDL.out HND.out)
            clear hl hr hrow hfn
            go_wp2_with fail
            refine HGO.out.mono ?_
            rintro e w6 ⟨ht6, hpost⟩
            have HT6 := Lib.hid ht6; clear ht6 c0 c1 c2 c3 c4 x0
            rcases hpost with ⟨rfl, hno⟩ | ⟨s', O', T, rfl, hq', hui'⟩
            · have HUN : Hid (UnitsRes C none) := HCL.out.units HNZ.out (fun c hc h => by have := (HLI.out c hc _ h).2.1; omega) hno
              have HK6 : Hid (Kept w w6) := HT6.out.from HKR.out fun q hq e => by
                unfold Big at e
                have := HK2.out.size
                omega
              clear hno
              go_wp2
              go_ret2
              exact ⟨HK6.out, Or.inr ⟨HR.out, Or.inl ⟨HUN.out, rfl⟩⟩⟩
            · have HQ' := Lib.hid hq'; have HU' := Lib.hid hui'; clear hq' hui'
              go_wp2
              go_roundw
              case rel =>
                refine ⟨p + 1, s', O', F ++ T, by simp; omega, by go_num, HQ'.out, ?_, HT2.out.trans HT6.out⟩
                rw [List.take_append_of_le_length (by omega), HTK.out]
                exact HU'.out
              case measure => simp [intOf]; omega
          · obtain rfl : p = F.length := by omega
            have hui := HU.out
            rw [List.take_length] at hui
            have HQU := Lib.hid (ui_end hui HND.out)
            have HIN : Hid (∀ x ∈ F, InR x) := fun x hx => by
              obtain ⟨d, hd, hxd⟩ := HU.out.reach.from x hx
              exact (HLID.out d hd x hxd).inr.1
            have HII := Lib.hid (ints_of_row hrow rfl HIN.out)
            have HFT := Lib.hid (row_fit hrow)
            clear hui hrow hfn
            go_wp2_with fail
            refine (rising_any s.fa F.length s.fc F wr HII.out hfi HFT.out.1 (fun x hx e => by
              obtain ⟨d, hd, hxd⟩ := HU.out.reach.from x hx
              have := (HLID.out d hd x hxd).2.1
              omega)).mono ?_
            rintro e w6 ⟨a, k, c', K, rfl, hIK, hFI, hRK, hk6, _⟩
            have HFI := Lib.hid hFI; clear hFI
            have HIK := Lib.hid hIK; have HK6 := Lib.hid (HKR.out.trans hk6)
            have HUN : Hid (UnitsRes C (some K)) := HCL.out.units HNZ.out (fun c hc h => by have := (HLI.out c hc _ h).2.1; omega) ⟨F, HU.out.reach, HQU.out, rise_sorted HCO.out hRK, hRK.mem⟩
            clear hIK hRK hk6 c0 c1 c2 c3 c4
            go_wp2
            go_ret2
            exact ⟨HK6.out, Or.inr ⟨HR.out, Or.inr ⟨a, k, c', K, HUN.out, rfl, HIK.out, HFI.out⟩⟩⟩
end Go.Proofs.YtlikokeknfhejaaGreatDoor
