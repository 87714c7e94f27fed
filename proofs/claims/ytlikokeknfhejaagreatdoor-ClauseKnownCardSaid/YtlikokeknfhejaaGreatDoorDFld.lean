/-
  Layer 5: the contract of bytes.Fields.
-/
import Derived.Test.YtlikokeknfhejaaGreatDoorDFldM
import Derived.Test.YtlikokeknfhejaaGreatDoorDRune
import Derived.Laws.BitsAllLaws
import Derived.Deep.DeepCutAuto
namespace Go.Proofs.YtlikokeknfhejaaGreatDoor
open Go Go.RowKit Go.Lib

/-- The table of plain spaces. -/
def Spc (w : World) : Prop := ∀ k, k < 256 → w.cell? ⟨0, k, none⟩ = some (.int .u8 (spN k : Int))
theorem Spc.kept {w w' : World} (h : Spc w) (k : Kept w w') : Spc w' := fun i hi => k.cell (h i hi)
theorem spN_cases (k : Nat) : spN k = 0 ∨ spN k = 1 := by unfold spN; split <;> simp
theorem isSp_of {c : UInt8} {k : Nat} (h : k = c.toNat) : isSp c = (spN k == 1) := by rw [h]; rfl
/-- All bytes are plain as long as their union is. -/
def SetTo (L : List UInt8) (i sb : Nat) : Prop := sb < 256 ∧ ((∀ b ∈ L.take i, b.toNat < 128) → sb < 128)
theorem SetTo.step {L : List UInt8} {i sb k : Nat} {c : UInt8} (h : SetTo L i sb) (hc : L[i]? = some c) (hk : k = c.toNat) : SetTo L (i + 1) (sb ||| k) := by
  have hk1 : k < 256 := by rw [hk]; exact c.toNat_lt
  refine ⟨Nat.or_lt_two_pow (n := 8) h.1 hk1, fun hp => ?_⟩
  have e : L.take (i + 1) = L.take i ++ [c] := by rw [List.take_succ_eq_append_getElem (List.getElem?_eq_some_iff.1 hc).1, (List.getElem?_eq_some_iff.1 hc).2]
  rw [e] at hp
  have h1 := h.2 fun b hb => hp b (List.mem_append_left _ hb)
  have h2 := hp c (by simp)
  exact Nat.or_lt_two_pow (n := 7) h1 (by omega)
/-- Is there a space at this place? -/
def spAt (L : List UInt8) (i : Nat) : Bool := (L[i]?.map isSp).getD false
theorem spAt_some {L : List UInt8} {i : Nat} {x : UInt8} (h : L[i]? = some x) : spAt L i = isSp x := by unfold spAt; rw [h]; rfl
theorem spAt_end {L : List UInt8} {i : Nat} (h : L.length ≤ i) : spAt L i = false := by unfold spAt; rw [List.getElem?_eq_none h]; rfl
theorem seg_snoc {L : List UInt8} {fs i : Nat} {x : UInt8} (h : fs ≤ i) (hx : L[i]? = some x) : (L.drop fs).take (i + 1 - fs) = (L.drop fs).take (i - fs) ++ [x] := by
  have e : i + 1 - fs = (i - fs) + 1 := by omega
  have hf : (L.drop fs)[i - fs]? = some x := by
    rw [List.getElem?_drop]
    have : fs + (i - fs) = i := by omega
    rw [this]; exact hx
  rw [e, List.take_add_one, hf]; rfl
theorem seg_ne {L : List UInt8} {fs i : Nat} (h : fs < i) (hi : i ≤ L.length) : (L.drop fs).take (i - fs) ≠ [] := by
  intro e
  have := congrArg List.length e
  rw [List.length_take, List.length_drop, List.length_nil] at this
  omega
theorem infoBytes : (Tryz.prog.info? 26).map (fun i => (i.zero, i.size, i.bytes)) = some (some (.slice none 0 0), 1, 24) := by kernel_rfl

set_option maxRecDepth 100000 in
set_option maxHeartbeats 16000000 in
theorem fields_any (a : Option Addr) (n c : Nat) (L : List UInt8) (w : World) (hL : BytesAt w a n L) (hnc : n ≤ c) (_hcm : c ≤ 9223372036854775807) (hn : n ≤ 100000) (hA : Spc w)
    (hFF : (¬ ∀ b ∈ L, b.toNat < 128) → ∀ w', Kept w w' → Calls Tryz.prog 164 #[.slice a n c, .func (.func 165) #[] #[]] w' (FldPost L w')) :
    Calls Tryz.prog 117 #[.slice a n c] w (FldPost L w) := by
  have HL := Lib.hid hL
  have HLN := Lib.hid hL.len
  have HA := Lib.hid hA
  have HFF := Lib.hid hFF
  have hc1 : (n : Int) ≤ (c : Int) := by omega
  clear hL hA hFF
  go_enter Tryz.func117, Tryz.ntmps117
  go_wp2
  go_loopw [3, 4, 5, 6] (fun v3 v4 v5 v6 wr => ∃ (i m sb ws : Nat), i ≤ n ∧ v6 = .int .i64 (i : Int) ∧ v3 = .int .i64 (m : Int) ∧ v4 = .int .i64 (ws : Int) ∧ v5 = .int .u8 (sb : Int) ∧ Hid (m = cntF true (L.take i)) ∧ m ≤ i ∧ ws ≤ 1 ∧ Hid (ws = if wasF true (L.take i) = true then 1 else 0) ∧ Hid (SetTo L i sb) ∧ wr = w) (fun _ _ _ v6 _ => n - (intOf v6).toNat)
  case atStart => exact ⟨0, 0, 0, 1, Nat.zero_le _, rfl, rfl, rfl, rfl, rfl, Nat.le_refl _, Nat.le_refl _, rfl, ⟨by omega, fun _ => by omega⟩, rfl⟩
  case round =>
    obtain ⟨i, m, sb, ws, hi, rfl, rfl, rfl, rfl, HM, hmi, hws, HWS, HST, rfl⟩ := hrel
    have i0 : (0 : Int) ≤ (i : Int) := Int.natCast_nonneg _
    have m0 : (0 : Int) ≤ (m : Int) := Int.natCast_nonneg _
    have m1 : (m : Int) ≤ 100000 := by omega
    by_cases hin : i < n
    · have i1 : (i : Int) < (n : Int) := by omega
      obtain ⟨b, off, rfl, hcc⟩ := HL.out.at_ (by omega)
      obtain ⟨x, hx⟩ : ∃ x, L[i]? = some x := ⟨_, List.getElem?_eq_getElem (by rw [HLN.out]; exact hin)⟩
      have y0 := hcc i x hx
      have HX := Lib.hid hx
      obtain ⟨k, hk⟩ : ∃ k : Nat, k = x.toNat := ⟨_, rfl⟩
      have hk1 : k < 256 := by rw [hk]; exact x.toNat_lt
      rw [← hk] at y0
      have HK := Lib.hid hk
      have k0 : (0 : Int) ≤ (k : Int) := Int.natCast_nonneg _
      have k1 : (k : Int) < 256 := by omega
      have y1 := HA.out k hk1
      have HTK : Hid (L.take (i + 1) = L.take i ++ [x]) := by
        show _ = _
        rw [List.take_succ_eq_append_getElem (List.getElem?_eq_some_iff.1 hx).1, (List.getElem?_eq_some_iff.1 hx).2]
      have HST2 := Lib.hid (HST.out.step HX.out hk)
      have hor := u8_or_nat sb k HST.out.1 hk1
      have s0 : (0 : Int) ≤ (sb : Int) := Int.natCast_nonneg _
      have HSP := Lib.hid (isSp_of hk)
      clear hcc hx hk
      have hsp := spN_cases k
      have hw01 : ws = 0 ∨ ws = 1 := by omega
      obtain ⟨sp, hspe⟩ : ∃ sp, sp = spN k := ⟨_, rfl⟩
      rw [← hspe] at y1 hsp HSP
      clear hspe
      rcases hsp with rfl | rfl
      · have HNS : Hid (isSp x = false) := by show _ = _; rw [HSP.out]; rfl
        rcases hw01 with rfl | rfl
        · have HD : Hid (bits BinOp.and IntKind.i64 0 (bits BinOp.xor IntKind.i64 (if IntKind.i64.signed = true then -1 else 9223372036854775807) 0) = 0) := by show _ = _; decide
          have HWF : Hid (wasF true (L.take i) = false) := by
            have h := HWS.out
            cases hb : wasF true (L.take i) with
            | true => rw [hb] at h; simp at h
            | false => exact rfl
          have HM2 : Hid (m + 0 = cntF true (L.take (i + 1))) := by
            show _ = _
            rw [HTK.out, cntF_snoc, HWF.out, HNS.out, ← HM.out]; simp
          have HW2 : Hid (0 = if wasF true (L.take (i + 1)) = true then 1 else 0) := by
            show _ = _
            rw [HTK.out, wasF_snoc, HNS.out]; simp
          go_wp2
          go_roundw
          case rel => exact ⟨i + 1, m + 0, sb ||| k, 0, by omega, by go_num, by rw [HD.out, IntWalk.wrap64_in _ (by omega)]; simp, rfl, rfl, HM2.out, by omega, by omega, HW2.out, HST2.out, trivial⟩
          case measure => simp [intOf]; omega
        · have HD : Hid (bits BinOp.and IntKind.i64 1 (bits BinOp.xor IntKind.i64 (if IntKind.i64.signed = true then -1 else 9223372036854775807) 0) = 1) := by show _ = _; decide
          have HWF : Hid (wasF true (L.take i) = true) := by
            have h := HWS.out
            cases hb : wasF true (L.take i) with
            | true => exact rfl
            | false => rw [hb] at h; simp at h
          have HM2 : Hid (m + 1 = cntF true (L.take (i + 1))) := by
            show _ = _
            rw [HTK.out, cntF_snoc, HWF.out, HNS.out, ← HM.out]; simp
          have HW2 : Hid (0 = if wasF true (L.take (i + 1)) = true then 1 else 0) := by
            show _ = _
            rw [HTK.out, wasF_snoc, HNS.out]; simp
          go_wp2
          go_roundw
          case rel => exact ⟨i + 1, m + 1, sb ||| k, 0, by omega, by go_num, by rw [HD.out, IntWalk.wrap64_in _ (by omega)]; simp, rfl, rfl, HM2.out, by omega, by omega, HW2.out, HST2.out, trivial⟩
          case measure => simp [intOf]; omega
      · have HNS : Hid (isSp x = true) := by show _ = _; rw [HSP.out]; rfl
        rcases hw01 with rfl | rfl
        · have HD : Hid (bits BinOp.and IntKind.i64 0 (bits BinOp.xor IntKind.i64 (if IntKind.i64.signed = true then -1 else 9223372036854775807) 1) = 0) := by show _ = _; decide
          have HWF : Hid (wasF true (L.take i) = false) := by
            have h := HWS.out
            cases hb : wasF true (L.take i) with
            | true => rw [hb] at h; simp at h
            | false => exact rfl
          have HM2 : Hid (m + 0 = cntF true (L.take (i + 1))) := by
            show _ = _
            rw [HTK.out, cntF_snoc, HWF.out, HNS.out, ← HM.out]; simp
          have HW2 : Hid (1 = if wasF true (L.take (i + 1)) = true then 1 else 0) := by
            show _ = _
            rw [HTK.out, wasF_snoc, HNS.out]; simp
          go_wp2
          go_roundw
          case rel => exact ⟨i + 1, m + 0, sb ||| k, 1, by omega, by go_num, by rw [HD.out, IntWalk.wrap64_in _ (by omega)]; simp, rfl, rfl, HM2.out, by omega, by omega, HW2.out, HST2.out, trivial⟩
          case measure => simp [intOf]; omega
        · have HD : Hid (bits BinOp.and IntKind.i64 1 (bits BinOp.xor IntKind.i64 (if IntKind.i64.signed = true then -1 else 9223372036854775807) 1) = 0) := by show _ = _; decide
          have HWF : Hid (wasF true (L.take i) = true) := by
            have h := HWS.out
            cases hb : wasF true (L.take i) with
            | true => exact rfl
            | false => rw [hb] at h; simp at h
          have HM2 : Hid (m + 0 = cntF true (L.take (i + 1))) := by
            show _ = _
            rw [HTK.out, cntF_snoc, HWF.out, HNS.out, ← HM.out]; simp
          have HW2 : Hid (1 = if wasF true (L.take (i + 1)) = true then 1 else 0) := by
            show _ = _
            rw [HTK.out, wasF_snoc, HNS.out]; simp
          go_wp2
          go_roundw
          case rel => exact ⟨i + 1, m + 0, sb ||| k, 1, by omega, by go_num, by rw [HD.out, IntWalk.wrap64_in _ (by omega)]; simp, rfl, rfl, HM2.out, by omega, by omega, HW2.out, HST2.out, trivial⟩
          case measure => simp [intOf]; omega
    · obtain rfl : n = i := by omega
      have HTN : Hid (L.take n = L) := by show _ = _; rw [← HLN.out]; exact List.take_length
      rw [HTN.out] at HM
      have HMF : Hid (m = (fieldsOf L).length) := by show _ = _; rw [fields_cnt]; exact HM.out
      have HPL : Hid ((∀ b ∈ L, b.toNat < 128) → sb < 128) := fun h => HST.out.2 (by rw [HTN.out]; exact h)
      have hsb : sb < 256 := HST.out.1
      clear HM HTN HST HWS
      by_cases hbig : 128 ≤ sb
      · have d0 : decide ((128 : Int) ≤ (sb : Int)) = true := decide_eq_true (by omega)
        have HNP : Hid (¬ ∀ b ∈ L, b.toNat < 128) := fun h => by have := HPL.out h; omega
        clear hbig
        go_wp2_with fail
        refine (HFF.out HNP.out wr (Kept.refl _)).mono ?_
        rintro e w2 ⟨hk2, g, k, P, rfl, hF, h1, h2, h3⟩
        have HR := Lib.hid (show FldPost L wr (.returned (.slice (some ⟨g, 0, none⟩) k k)) w2 from ⟨hk2, g, k, P, rfl, hF, h1, h2, h3⟩)
        clear hk2 hF h1 h2 h3
        go_wp2
        go_ret
        exact HR.out
      · have d0 : decide ((128 : Int) ≤ (sb : Int)) = false := decide_eq_false (by omega)
        clear hbig
        have hmk := run_make_row' (P := Tryz.prog) 193 26 (.slice none 0 0) 24 Tryz.underlying193 infoBytes rfl .i64 .i64 m (by omega) (by omega)
        obtain ⟨wA, rfl⟩ : ∃ wA : World, wA = wr := ⟨_, rfl⟩
        go_upto_region 15 with (fail)
        have HFR := Lib.hid (FRow.made wA m)
        change Code.wp _ _ _ _ (wA.alloc (.cells (madeCells #[.slice none 0 0] m) 26))
        obtain ⟨g, hg⟩ : ∃ g : Nat, g = wA.heap.size := ⟨_, rfl⟩
        rw [← hg] at HFR ⊢
        generalize wA.alloc (.cells (madeCells #[.slice none 0 0] m) 26) = w2 at *
        clear hmk hg d0 hsb
        have HL2 := Lib.hid (HL.out.kept HFR.out.kept)
        have HA2 := Lib.hid (HA.out.kept HFR.out.kept)
        have HF0 : Hid (fieldsOf L = fldFrom [] (L.drop 0)) := rfl
        go_wp2
        go_loopw [12] (fun v wr' => ∃ i : Nat, i ≤ n ∧ v = .int .i64 (i : Int) ∧ Hid (fieldsOf L = fldFrom [] (L.drop i)) ∧ w2 = wr') (fun v _ => n - (intOf v).toNat)
        case atStart => exact ⟨0, Nat.zero_le _, rfl, HF0.out, rfl⟩
        case round =>
          obtain ⟨i, hi, rfl, HFI, rfl⟩ := hrel
          have i0 : (0 : Int) ≤ (i : Int) := Int.natCast_nonneg _
          go_upto_region 18 with (fail)
          go_cut [55] (fun s wx => s = .bool (spAt L i) ∧ w2 = wx)
          case first =>
            by_cases hin : i < n
            · have i1 : (i : Int) < (n : Int) := by omega
              obtain ⟨b, off, rfl, hcc⟩ := HL2.out.at_ (by omega)
              obtain ⟨x, hx⟩ : ∃ x, L[i]? = some x := ⟨_, List.getElem?_eq_getElem (by rw [HLN.out]; exact hin)⟩
              have y0 := hcc i x hx
              obtain ⟨k, hk⟩ : ∃ k : Nat, k = x.toNat := ⟨_, rfl⟩
              have hk1 : k < 256 := by rw [hk]; exact x.toNat_lt
              rw [← hk] at y0
              have k0 : (0 : Int) ≤ (k : Int) := Int.natCast_nonneg _
              have k1 : (k : Int) < 256 := by omega
              have y1 := HA2.out k hk1
              have HSP : Hid (spAt L i = (spN k == 1)) := by show _ = _; rw [spAt_some hx]; exact isSp_of hk
              have hsp := spN_cases k
              obtain ⟨sp, hspe⟩ : ∃ sp, sp = spN k := ⟨_, rfl⟩
              rw [← hspe] at y1 hsp HSP
              clear hcc hx hk hspe
              rcases hsp with rfl | rfl
              · go_wp2
                go_meet
                case rel => exact ⟨by rw [HSP.out]; rfl, rfl⟩
              · go_wp2
                go_meet
                case rel => exact ⟨by rw [HSP.out]; rfl, rfl⟩
            · have HSP : Hid (spAt L i = false) := spAt_end (by rw [HLN.out]; omega)
              have d1 : decide ((i : Int) < (n : Int)) = false := decide_eq_false (by omega)
              go_wp2
              go_meet
              case rel => exact ⟨by rw [HSP.out], rfl⟩
          case rest =>
            obtain ⟨rfl, rfl⟩ := hcut
            cases hq : spAt L i with
            | true =>
              have hin : i < n := by
                apply Decidable.byContradiction
                intro h
                rw [spAt_end (by rw [HLN.out]; omega)] at hq; cases hq
              have HFN : Hid (fieldsOf L = fldFrom [] (L.drop (i + 1))) := by
                obtain ⟨x, hx⟩ : ∃ x, L[i]? = some x := ⟨_, List.getElem?_eq_getElem (by rw [HLN.out]; exact hin)⟩
                show _ = _
                rw [HFI.out, drop_at hx, fldFrom, if_pos (by rw [← spAt_some hx]; exact hq), if_pos rfl]
              clear hq
              go_wp2
              go_roundw
              case rel => exact ⟨i + 1, by omega, by go_num, HFN.out, trivial⟩
              case measure => simp [intOf]; omega
            | false =>
              have HQ := Lib.hid hq
              clear hq
              go_wp2
              go_loopw [10, 11, 12] (fun v10 v11 v12 wr => ∃ (i fs : Nat) (P : List (List UInt8)), i ≤ n ∧ fs ≤ i ∧ v12 = .int .i64 (i : Int) ∧ v11 = .int .i64 (fs : Int) ∧ v10 = .int .i64 (P.length : Int) ∧ Hid (fieldsOf L = P ++ fldFrom ((L.drop fs).take (i - fs)) (L.drop i)) ∧ Hid (fs = i → spAt L i = false) ∧ Hid (FRow wA wr g m P)) (fun _ _ v _ => n - (intOf v).toNat)
              case atStart =>
                refine ⟨i, i, [], hi, Nat.le_refl _, rfl, rfl, rfl, ?_, fun _ => HQ.out, HFR.out⟩
                show _ = _
                rw [HFI.out]; simp
              case round =>
                obtain ⟨i, fs, P, hi, hfs, rfl, rfl, rfl, HFP, HNS, HFW⟩ := hrel
                have i0 : (0 : Int) ≤ (i : Int) := Int.natCast_nonneg _
                have f0 : (0 : Int) ≤ (fs : Int) := Int.natCast_nonneg _
                have f1 : (fs : Int) ≤ (i : Int) := by omega
                have HLR := Lib.hid (HL.out.kept HFW.out.kept)
                have HAR := Lib.hid (HA.out.kept HFW.out.kept)
                by_cases hin : i < n
                · have i1 : (i : Int) < (n : Int) := by omega
                  obtain ⟨b, off, rfl, hcc⟩ := HLR.out.at_ (by omega)
                  obtain ⟨x, hx⟩ : ∃ x, L[i]? = some x := ⟨_, List.getElem?_eq_getElem (by rw [HLN.out]; exact hin)⟩
                  have y0 := hcc i x hx
                  have HX := Lib.hid hx
                  obtain ⟨k, hk⟩ : ∃ k : Nat, k = x.toNat := ⟨_, rfl⟩
                  have hk1 : k < 256 := by rw [hk]; exact x.toNat_lt
                  rw [← hk] at y0
                  have k0 : (0 : Int) ≤ (k : Int) := Int.natCast_nonneg _
                  have k1 : (k : Int) < 256 := by omega
                  have y1 := HAR.out k hk1
                  have HSP : Hid (isSp x = (spN k == 1)) := isSp_of hk
                  have hsp := spN_cases k
                  obtain ⟨sp, hspe⟩ : ∃ sp, sp = spN k := ⟨_, rfl⟩
                  rw [← hspe] at y1 hsp HSP
                  clear hcc hx hk hspe
                  rcases hsp with rfl | rfl
                  · have HFN : Hid (fieldsOf L = P ++ fldFrom ((L.drop fs).take (i + 1 - fs)) (L.drop (i + 1))) := by
                      show _ = _
                      rw [HFP.out, drop_at HX.out, fldFrom, if_neg (by rw [HSP.out]; simp), seg_snoc hfs HX.out]
                    go_wp2
                    go_roundw
                    case rel => exact ⟨i + 1, fs, P, by omega, by omega, by go_num, rfl, rfl, HFN.out, (fun h => by omega), HFW.out⟩
                    case measure => simp [intOf]; omega
                  · have HSX : Hid (isSp x = true) := by show _ = _; rw [HSP.out]; rfl
                    have hlt : fs < i := by
                      rcases Nat.lt_or_eq_of_le hfs with h | h
                      · exact h
                      · have h1 := HNS.out h
                        rw [spAt_some HX.out, HSX.out] at h1; cases h1
                    have HSN := Lib.hid (seg_ne hlt (by rw [HLN.out]; omega))
                    have HFN : Hid (fieldsOf L = (P ++ [(L.drop fs).take (i - fs)]) ++ fldFrom [] (L.drop (i + 1))) := by
                      show _ = _
                      rw [HFP.out, drop_at HX.out, fldFrom, if_pos HSX.out, if_neg HSN.out]; simp
                    have hPm : P.length < m := by
                      rw [HMF.out, HFN.out]
                      simp
                    have p0 : (0 : Int) ≤ (P.length : Int) := Int.natCast_nonneg _
                    have p1 : (P.length : Int) < (m : Int) := by omega
                    have m2 : (m : Int) ≤ 100000 := by omega
                    obtain ⟨⟨v, z0⟩, z1, z2⟩ := HFW.out.facts hPm
                    have HSUB := Lib.hid (BytesAt.sub (HL.out) fs (i - fs) (by omega))
                    have HF2 := Lib.hid (HFW.out.store hPm HSUB.out)
                    obtain ⟨q, hq⟩ : ∃ q : Nat, q = P.length := ⟨_, rfl⟩
                    rw [← hq] at p0 p1 z0 z1 HF2 ⊢
                    have HPL2 : Hid ((P ++ [(L.drop fs).take (i - fs)]).length = q + 1) := by show _ = _; rw [List.length_append, hq]; rfl
                    have f2 : (fs : Int) < (i : Int) := by omega
                    clear hq
                    go_upto_region 27 with (fail)
                    change Code.wp _ _ _ _ (wr.setCell ⟨g, q, none⟩ (.slice (some ⟨b, off + fs, none⟩) (i - fs) (i - fs)))
                    generalize wr.setCell ⟨g, q, none⟩ (.slice (some ⟨b, off + fs, none⟩) (i - fs) (i - fs)) = w5 at *
                    clear y0 y1 z0 z1 z2 HFW
                    have HL5 := Lib.hid (HL.out.kept HF2.out.kept)
                    have HA5 := Lib.hid (HA.out.kept HF2.out.kept)
                    go_loopw [12] (fun v wr' => ∃ i2 : Nat, i < i2 ∧ i2 ≤ n ∧ v = .int .i64 (i2 : Int) ∧ Hid (fieldsOf L = (P ++ [(L.drop fs).take (i - fs)]) ++ fldFrom [] (L.drop i2)) ∧ w5 = wr') (fun v _ => n - (intOf v).toNat)
                    case atStart => exact ⟨i + 1, by omega, by omega, by go_num, HFN.out, rfl⟩
                    case round =>
                      obtain ⟨i2, hii, hi2, rfl, HFI2, rfl⟩ := hrel
                      have i20 : (0 : Int) ≤ (i2 : Int) := Int.natCast_nonneg _
                      go_upto_region 27 with (fail)
                      go_cut [96] (fun s wx => s = .bool (spAt L i2) ∧ w5 = wx)
                      case first =>
                        by_cases hin2 : i2 < n
                        · have i21 : (i2 : Int) < (n : Int) := by omega
                          obtain ⟨b2, off2, hbe, hcc⟩ := HL5.out.at_ (by omega)
                          cases hbe
                          obtain ⟨x2, hx2⟩ : ∃ x, L[i2]? = some x := ⟨_, List.getElem?_eq_getElem (by rw [HLN.out]; exact hin2)⟩
                          have y0 := hcc i2 x2 hx2
                          obtain ⟨k2, hk2⟩ : ∃ k : Nat, k = x2.toNat := ⟨_, rfl⟩
                          have hk21 : k2 < 256 := by rw [hk2]; exact x2.toNat_lt
                          rw [← hk2] at y0
                          have k20 : (0 : Int) ≤ (k2 : Int) := Int.natCast_nonneg _
                          have k21 : (k2 : Int) < 256 := by omega
                          have y1 := HA5.out k2 hk21
                          have HSP2 : Hid (spAt L i2 = (spN k2 == 1)) := by show _ = _; rw [spAt_some hx2]; exact isSp_of hk2
                          have hsp := spN_cases k2
                          obtain ⟨sp, hspe⟩ : ∃ sp, sp = spN k2 := ⟨_, rfl⟩
                          rw [← hspe] at y1 hsp HSP2
                          clear hcc hx2 hk2 hspe
                          rcases hsp with rfl | rfl
                          · go_wp2
                            go_meet
                            case rel => exact ⟨by rw [HSP2.out]; rfl, rfl⟩
                          · go_wp2
                            go_meet
                            case rel => exact ⟨by rw [HSP2.out]; rfl, rfl⟩
                        · have HSP2 : Hid (spAt L i2 = false) := spAt_end (by rw [HLN.out]; omega)
                          have d1 : decide ((i2 : Int) < (n : Int)) = false := decide_eq_false (by omega)
                          go_wp2
                          go_meet
                          case rel => exact ⟨by rw [HSP2.out], rfl⟩
                      case rest =>
                        obtain ⟨rfl, rfl⟩ := hcut
                        cases hq : spAt L i2 with
                        | true =>
                          have hin2 : i2 < n := by
                            apply Decidable.byContradiction
                            intro h
                            rw [spAt_end (by rw [HLN.out]; omega)] at hq; cases hq
                          have HFN2 : Hid (fieldsOf L = (P ++ [(L.drop fs).take (i - fs)]) ++ fldFrom [] (L.drop (i2 + 1))) := by
                            obtain ⟨x2, hx2⟩ : ∃ x, L[i2]? = some x := ⟨_, List.getElem?_eq_getElem (by rw [HLN.out]; exact hin2)⟩
                            show _ = _
                            rw [HFI2.out, drop_at hx2, fldFrom, if_pos (by rw [← spAt_some hx2]; exact hq), if_pos rfl]
                          clear hq
                          go_wp2
                          go_roundw
                          case rel => exact ⟨i2 + 1, by omega, by omega, by go_num, HFN2.out, trivial⟩
                          case measure => simp [intOf]; omega
                        | false =>
                          have HQ2 := Lib.hid hq
                          clear hq
                          have HFE : Hid (fieldsOf L = (P ++ [(L.drop fs).take (i - fs)]) ++ fldFrom ((L.drop i2).take (i2 - i2)) (L.drop i2)) := by
                            show _ = _
                            rw [HFI2.out]; simp
                          go_wp2
                          go_roundw
                          case rel => exact ⟨i2, i2, P ++ [(L.drop fs).take (i - fs)], by omega, Nat.le_refl _, rfl, rfl, by rw [HPL2.out]; go_num, HFE.out, fun _ => HQ2.out, HF2.out⟩
                          case measure => simp [intOf]; omega
                · obtain rfl : n = i := by omega
                  have HDN : Hid (L.drop n = []) := by show _ = _; rw [← HLN.out]; exact List.drop_length
                  have HLE : Hid (m ≤ L.length ∧ ∀ x ∈ fieldsOf L, x.length ≤ L.length) := by
                    refine ⟨by rw [HMF.out, fields_cnt]; exact cntF_le L true, fun x hx => ?_⟩
                    have := fld_mem_len L [] x hx
                    simpa using this
                  by_cases hlt : fs < n
                  · have f2 : (fs : Int) < (n : Int) := by omega
                    have HSN := Lib.hid (seg_ne hlt (by rw [HLN.out]; omega))
                    have HFN : Hid (fieldsOf L = P ++ [(L.drop fs).take (n - fs)]) := by
                      show _ = _
                      rw [HFP.out, HDN.out, fldFrom, if_neg HSN.out]
                    have hPm : P.length < m := by
                      rw [HMF.out, HFN.out]
                      simp
                    obtain ⟨b, off, rfl, hcc⟩ := HLR.out.at_ (by omega)
                    have p0 : (0 : Int) ≤ (P.length : Int) := Int.natCast_nonneg _
                    have p1 : (P.length : Int) < (m : Int) := by omega
                    obtain ⟨⟨v, z0⟩, z1, z2⟩ := HFW.out.facts hPm
                    have HSUB := Lib.hid (BytesAt.sub (HL.out) fs (n - fs) (by omega))
                    have HF2 := Lib.hid (HFW.out.store hPm HSUB.out)
                    have HPL2 : Hid ((P ++ [(L.drop fs).take (n - fs)]).length = m) := by show _ = _; rw [HMF.out, HFN.out]
                    obtain ⟨q, hq⟩ : ∃ q : Nat, q = P.length := ⟨_, rfl⟩
                    rw [← hq] at p0 p1 z0 z1 HF2 ⊢
                    clear hq hcc
                    go_wp2
                    go_ret
                    exact ⟨HF2.out.kept, g, m, _, rfl, HF2.out.done HPL2.out, Nat.le_succ_of_le HLE.out.1, (fun x hx => HLE.out.2 x (by rw [HFN.out]; exact hx)), fun _ => HFN.out.symm⟩
                  · have hfe : fs = n := by omega
                    have f2 : ¬ ((fs : Int) < (n : Int)) := by omega
                    have HFN : Hid (fieldsOf L = P) := by
                      show _ = _
                      rw [HFP.out, HDN.out, hfe]; simp [fldFrom]
                    have HPL2 : Hid (P.length = m) := by show _ = _; rw [HMF.out, HFN.out]
                    clear hfe
                    go_wp2
                    go_ret
                    exact ⟨HFW.out.kept, g, m, _, rfl, HFW.out.done HPL2.out, Nat.le_succ_of_le HLE.out.1, (fun x hx => HLE.out.2 x (by rw [HFN.out]; exact hx)), fun _ => HFN.out.symm⟩
end Go.Proofs.YtlikokeknfhejaaGreatDoor
