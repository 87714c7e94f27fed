/-
  Layer 5: the contract of bytes.FieldsFunc at unicode.IsSpace: some pieces of the text.
-/
import Derived.Test.YtlikokeknfhejaaGreatDoorDFldM
import Derived.Test.YtlikokeknfhejaaGreatDoorDRune
import Derived.Test.YtlikokeknfhejaaGreatDoorShelf
import Derived.Deep.DeepCutAuto
import Derived.Laws.MakeOwn
namespace Go.Proofs.YtlikokeknfhejaaGreatDoor
open Go Go.RowKit Go.Lib

theorem infoSpan : (Tryz.prog.info? 284).isSome = true := by kernel_rfl
theorem infoSpan1 : (Tryz.prog.info? 288).map (fun i => (i.zero, i.size, i.bytes)) = some (some (.agg #[.int .i64 0, .int .i64 0]), 2, 16) := by kernel_rfl
theorem infoBytes' : (Tryz.prog.info? 26).map (fun i => (i.zero, i.size, i.bytes)) = some (some (.slice none 0 0), 1, 24) := by kernel_rfl
def spC (S : List (Nat × Nat)) : List Value := S.flatMap fun p => [.int .i64 (p.1 : Int), .int .i64 (p.2 : Int)]
theorem spC_len (S : List (Nat × Nat)) : (spC S).length = 2 * S.length := by
  induction S with
  | nil => rfl
  | cons p S ih =>
    have e : spC (p :: S) = [.int .i64 (p.1 : Int), .int .i64 (p.2 : Int)] ++ spC S := rfl
    rw [e, List.length_append, ih]; simp; omega
theorem spC_get : ∀ (S : List (Nat × Nat)) (j : Nat) (p : Nat × Nat), S[j]? = some p → (spC S)[j * 2]? = some (.int .i64 (p.1 : Int)) ∧ (spC S)[j * 2 + 1]? = some (.int .i64 (p.2 : Int))
  | [], j, p, h => by simp at h
  | q :: S, 0, p, h => by
    have : q = p := by simpa using h
    subst this
    exact ⟨rfl, rfl⟩
  | q :: S, j + 1, p, h => by
    have h2 := spC_get S j p (by simpa using h)
    have e : spC (q :: S) = [.int .i64 (q.1 : Int), .int .i64 (q.2 : Int)] ++ spC S := rfl
    rw [e, show (j + 1) * 2 = j * 2 + 2 by omega, List.getElem?_append_right (by simp), List.getElem?_append_right (by simp)]
    simpa using h2
def SpOk (n : Nat) (S : List (Nat × Nat)) : Prop := ∀ p ∈ S, p.1 < p.2 ∧ p.2 ≤ n
theorem SpOk.snoc {n : Nat} {S : List (Nat × Nat)} (h : SpOk n S) {s e : Nat} (h1 : s < e) (h2 : e ≤ n) : SpOk n (S ++ [(s, e)]) := by
  intro p hp
  rcases List.mem_append.1 hp with hp | hp
  · exact h p hp
  · rw [List.mem_singleton.1 hp]; exact ⟨h1, h2⟩
def pieces (L : List UInt8) (S : List (Nat × Nat)) : List (List UInt8) := S.map fun p => (L.drop p.1).take (p.2 - p.1)
theorem FRow.more {w0 w w' : World} {g m : Nat} {P : List (List UInt8)} (h : FRow w0 w g m P) (k : Kept w w') : FRow w0 w' g m P :=
  ⟨h.kept.trans k, h.new, by
    obtain ⟨cs, hs, hb, hp⟩ := h.row
    exact ⟨cs, hs, k.row hb, hp⟩⟩
set_option maxRecDepth 100000 in
/-- append(spans, span). -/
theorem wpList_append_span {w0 w : World} {ops : Array Oper} {rest : List Oper} {o : Oper} {a : Act} {Q : Exit → Act → World → Prop} (hgd : o.guard = none) (s x : Operand)
    (ho : o.op = .call { callee := .builtin .append, args := #[s, x], argTypes := #[284, 284] })
    (N : Nat) (aa : Option Addr) (n c : Nat) (S : List (Nat × Nat)) (hs : a.eval s = .slice aa n c) (hrow : w0.ownsRow N 288 2 (.slice aa n c) n (spC S)) (p q : Nat) (hw : w = w0.alloc (.cells #[.int .i64 (p : Int), .int .i64 (q : Int)] 288)) (hx : a.eval x = .slice (some ⟨w0.heap.size, 0, none⟩) 1 1) (hn : n ≤ 1000000) (hN : N ≤ w0.heap.size)
    (h : ∀ a' c' w', w'.ownsRow N 288 2 (.slice a' (n + 1) c') (n + 1) (spC (S ++ [(p, q)])) → (w0.alloc (.cells #[.int .i64 (p : Int), .int .i64 (q : Int)] 288)).grownBy w' (Value.slice aa n c).ownBlock → wpList Tryz.prog ops Q rest (a.put o.dst (.slice a' (n + 1) c')) w') : wpList Tryz.prog ops Q (o :: rest) a w := by
  subst hw
  obtain ⟨iu, hi, hz0, hz1, hz2⟩ := info_parts infoSpan1
  refine wpList_append_lies _ hgd s x 284 ho N 288 iu _ 2 16 Tryz.underlying284 hi hz0 hz1 hz2 rfl (by omega) (.slice aa n c) n (spC S) hs (hrow.alloc _) ⟨w0.heap.size, 0, none⟩ 1 1 [.int .i64 (p : Int), .int .i64 (q : Int)] hx rfl (World.news_of_block (cs := #[.int .i64 (p : Int), .int .i64 (q : Int)]) (t := 288) (fr := (0, 0)) (heap_alloc_new w0 _)) (by simp [Value.oneCell']) (by omega) (by unfold maxLen; omega) (by omega) (by simp; omega) (w0.heap.size + 1) (by simp) ?_
  intro g cap w' hown hgrow hat hlt
  refine h (some ⟨g, 0, none⟩) cap w' ?_ hgrow
  have e : spC (S ++ [(p, q)]) = spC S ++ [.int .i64 (p : Int), .int .i64 (q : Int)] := by unfold spC; rw [List.flatMap_append]; rfl
  rw [e]
  exact hown
set_option maxRecDepth 100000 in
set_option maxHeartbeats 16000000 in
theorem ff_any (a : Option Addr) (n c : Nat) (L : List UInt8) (w : World) (hL : BytesAt w a n L) (hnc : n ≤ c) (hcm : c ≤ 9223372036854775807) (hn : n ≤ 100000) (hbig : ¬ ∀ b ∈ L, b.toNat < 128) (_hT : Lib.Utf8Tabs 9 10 w) (_hW : Lib.WhiteTab 4 w)
    (hTk : ∀ w', Kept w w' → Lib.Utf8Tabs 9 10 w') (hWk : ∀ w', Kept w w' → Lib.WhiteTab 4 w') :
    Calls Tryz.prog 164 #[.slice a n c, .func (.func 165) #[] #[]] w (FldPost L w) := by
  have HL := Lib.hid hL
  have HLN := Lib.hid hL.len
  have HTK := Lib.hid hTk
  have HWK := Lib.hid hWk
  have HBIG := Lib.hid hbig
  have hc1 : (n : Int) ≤ (c : Int) := by omega
  have eg : ∀ args w, (callFunc 165 args).run Tryz.prog w = .ok (.enter 165 args) w := enters_of Tryz.func165 (by kernel_rfl) rfl
  clear hL _hT _hW hTk hWk hbig
  go_enter Tryz.func164, Tryz.ntmps164
  obtain ⟨iu, hi, hz0, hz1, hz2⟩ := info_parts infoSpan1
  obtain ⟨w2, hmk, hrow2, hgb2⟩ := run_make_own (P := Tryz.prog) w w.heap.size 284 288 iu _ 2 Tryz.underlying284 hi hz0 hz1 .i64 .i64 32 (by rw [hz2]; omega) (by unfold maxLen; omega) (Nat.le_refl _)
  have hmk' : (Instr.makeSlice 284 (.int .i64 0) (.int .i64 32)).run Tryz.prog w = .ok (.slice (some ⟨w.heap.size, 0, none⟩) 0 32) w2 := hmk
  have HR2 := Lib.hid hrow2
  have HK2 : Hid (Kept w w2) := ⟨hgb2.os, hgb2.tape, hgb2.output, hgb2.size, fun q hq => hgb2.block q hq (by simp)⟩
  clear hmk hrow2 hgb2 hi hz0 hz1 hz2
  obtain ⟨g0, hg0⟩ : ∃ g0, g0 = w.heap.size := ⟨_, rfl⟩
  rw [← hg0] at HR2 hmk'
  have HG0 : Hid (g0 = w.heap.size) := hg0
  go_upto_region 2 with (fail)
  rw [← hg0]
  clear hmk' hg0
  go_wp2
  go_loopw [5, 6, 7] (fun v5 v6 v7 wr => ∃ (i : Nat) (st : Int) (sa : Option Addr) (sn sc : Nat) (S : List (Nat × Nat)), i ≤ n ∧ v7 = .int .i64 (i : Int) ∧ v6 = .int .i64 st ∧ v5 = .slice sa sn sc ∧ (st = -1 ∨ (0 ≤ st ∧ st < (i : Int))) ∧ S.length = sn ∧ sn ≤ i ∧ Hid (SpOk n S) ∧ Hid (wr.ownsRow g0 288 2 (.slice sa sn sc) sn (spC S)) ∧ Hid (Kept w wr)) (fun _ _ v7 _ => n - (intOf v7).toNat)
  case atStart => exact ⟨0, -1, some ⟨g0, 0, none⟩, 0, 32, [], Nat.zero_le _, rfl, rfl, rfl, Or.inl rfl, rfl, Nat.le_refl _, (fun p hp => by cases hp), HR2.out, HK2.out⟩
  case round =>
    obtain ⟨i, st, sa, sn, sc, S, hi, rfl, rfl, rfl, hst, hsn, hsi, HSP, HROW, HKW⟩ := hrel
    have i0 : (0 : Int) ≤ (i : Int) := Int.natCast_nonneg _
    by_cases hin : i < n
    · have i1 : (i : Int) < (n : Int) := by omega
      have HLW := Lib.hid (HL.out.kept HKW.out)
      obtain ⟨b, off, rfl, hcc⟩ := HLW.out.at_ (by omega)
      have HSUB := Lib.hid (BytesAt.sub HLW.out i (n - i) (by omega))
      have i2 : (i : Int) < (c : Int) := by omega
      clear hcc
      go_wp2_with fail
      refine (rune_any b (off + i) (n - i) (c - i) _ wr HSUB.out (by omega) (by omega) (HTK.out wr HKW.out)).mono ?_
      rintro e w3 ⟨r, z, rfl, hr1, hr2, hz1, hz2, hk3⟩
      have HK3 := Lib.hid hk3
      have z1 : (1 : Int) ≤ (z : Int) := by omega
      have z2 : (z : Int) ≤ (n : Int) - (i : Int) := by omega
      clear hk3
      go_wp2_with fail
      refine (Tryz.unicode_IsSpace_any r w3 hr1 hr2 (HWK.out w3 (HKW.out.trans HK3.out))).mono ?_
      rintro e w4 ⟨rfl, hk4⟩
      have HK4 : Hid (Kept wr w4) := HK3.out.trans hk4
      have HROW4 := Lib.hid (row_keptR HROW.out HK4.out)
      have HKW4 := Lib.hid (HKW.out.trans HK4.out)
      clear hk4
      generalize Lib.isSpaceZ r = sp
      cases sp with
      | true =>
        rcases hst with rfl | ⟨h1, h2⟩
        · go_wp2
          go_roundw
          case rel => exact ⟨i + z, -1, sa, sn, sc, S, by omega, by go_num, rfl, rfl, Or.inl rfl, hsn, by omega, HSP.out, HROW4.out, HKW4.out⟩
          case measure => simp [intOf]; omega
        · obtain ⟨q, hq⟩ : ∃ q : Nat, (q : Int) = st := ⟨st.toNat, by omega⟩
          subst hq
          go_wp2_with (at_builtin; refine wpList_append_span (w0 := w4) rfl _ _ rfl g0 sa sn sc S rfl HROW4.out q i rfl rfl (by omega) (by rw [HG0.out]; exact HKW4.out.size) ?_; intro a5 c5 w5 hown5 hgrow5; have HOW5 := Lib.hid hown5; have HGR5 := Lib.hid hgrow5; clear hown5 hgrow5)
          have HK5 := Lib.hid (grow_kept HROW4.out HKW4.out (by rw [HG0.out]; exact Nat.le_refl _) HGR5.out)
          go_roundw
          case rel => exact ⟨i + z, -1, a5, sn + 1, c5, S ++ [(q, i)], by omega, by go_num, rfl, rfl, Or.inl rfl, by rw [List.length_append, hsn]; rfl, by omega, HSP.out.snoc (by omega) (by omega), HOW5.out, HK5.out⟩
          case measure => simp [intOf]; omega
      | false =>
        rcases hst with rfl | ⟨h1, h2⟩
        · go_wp2
          go_roundw
          case rel => exact ⟨i + z, (i : Int), sa, sn, sc, S, by omega, by go_num, rfl, rfl, Or.inr ⟨by omega, by omega⟩, hsn, by omega, HSP.out, HROW4.out, HKW4.out⟩
          case measure => simp [intOf]; omega
        · have h3 : ¬ st < 0 := by omega
          go_wp2
          go_roundw
          case rel => exact ⟨i + z, st, sa, sn, sc, S, by omega, by go_num, rfl, rfl, Or.inr ⟨by omega, by omega⟩, hsn, by omega, HSP.out, HROW4.out, HKW4.out⟩
          case measure => simp [intOf]; omega
    · obtain rfl : n = i := by omega
      obtain ⟨wA, rfl⟩ : ∃ wA : World, wA = wr := ⟨_, rfl⟩
      go_upto_if 43 with (fail)
      go_cut [5, 6, 42, 43] (fun s _ _ _ wx => ∃ (sa : Option Addr) (sn sc : Nat) (S : List (Nat × Nat)), s = .slice sa sn sc ∧ S.length = sn ∧ sn ≤ n + 1 ∧ SpOk n S ∧ wx.ownsRow g0 288 2 (.slice sa sn sc) sn (spC S) ∧ Kept w wx)
      case first =>
        rcases hst with rfl | ⟨h1, h2⟩
        · go_wp2
          go_meet
          case rel => exact ⟨sa, sn, sc, S, rfl, hsn, by omega, HSP.out, HROW.out, HKW.out⟩
        · obtain ⟨q, hq⟩ : ∃ q : Nat, (q : Int) = st := ⟨st.toNat, by omega⟩
          subst hq
          go_wp2_with (at_builtin; refine wpList_append_span (w0 := wA) rfl _ _ rfl g0 sa sn sc S rfl HROW.out q n rfl rfl (by omega) (by rw [HG0.out]; exact HKW.out.size) ?_; intro a5 c5 w5 hown5 hgrow5; have HOW5 := Lib.hid hown5; have HGR5 := Lib.hid hgrow5; clear hown5 hgrow5)
          have HK5 := Lib.hid (grow_kept HROW.out HKW.out (by rw [HG0.out]; exact Nat.le_refl _) HGR5.out)
          go_meet
          case rel => exact ⟨a5, sn + 1, c5, S ++ [(q, n)], rfl, by rw [List.length_append, hsn]; rfl, by omega, HSP.out.snoc (by omega) (Nat.le_refl _), HOW5.out, HK5.out⟩
      case rest =>
        clear HSP HROW HKW hst hsn hsi
        obtain ⟨sa, sn, sc, S, rfl, hsn, hsi, hsp, hrow, hkw⟩ := hcut
        have HSP := Lib.hid hsp
        have HROW := Lib.hid hrow
        have HKW := Lib.hid hkw
        clear hsp hrow hkw
        have hmk := run_make_row' (P := Tryz.prog) 193 26 (.slice none 0 0) 24 Tryz.underlying193 infoBytes' rfl .i64 .i64 sn (by omega) (by omega)
        go_upto_region 16 with (fail)
        have HFR := Lib.hid (FRow.made wc sn)
        change Code.wp _ _ _ _ (wc.alloc (.cells (madeCells #[.slice none 0 0] sn) 26))
        obtain ⟨g, hg⟩ : ∃ g : Nat, g = wc.heap.size := ⟨_, rfl⟩
        rw [← hg] at HFR ⊢
        generalize wc.alloc (.cells (madeCells #[.slice none 0 0] sn) 26) = w5 at *
        clear hmk hg
        obtain ⟨wB, rfl⟩ : ∃ wB : World, wB = wc := ⟨_, rfl⟩
        have HLB := Lib.hid (HL.out.kept HKW.out)
        go_wp2
        go_loopw [56] (fun v wr => ∃ j : Nat, j ≤ sn ∧ v = .int .i64 (j : Int) ∧ Hid (FRow wB wr g sn (pieces L (S.take j)))) (fun v _ => sn - (intOf v).toNat)
        case atStart => exact ⟨0, Nat.zero_le _, rfl, HFR.out⟩
        case round =>
          obtain ⟨j, hj, rfl, HFJ⟩ := hrel
          have j0 : (0 : Int) ≤ (j : Int) := Int.natCast_nonneg _
          by_cases hjn : j < sn
          · have j1 : (j : Int) < (sn : Int) := by omega
            obtain ⟨⟨s, e⟩, hp⟩ : ∃ p, S[j]? = some p := ⟨_, List.getElem?_eq_getElem (by omega)⟩
            obtain ⟨h1, h2⟩ := HSP.out (s, e) (List.mem_of_getElem? hp)
            simp only at h1 h2
            have HRJ := Lib.hid (row_keptR HROW.out HFJ.out.kept)
            obtain ⟨g1, g2⟩ := spC_get S j (s, e) hp
            simp only at g1 g2
            have hsa : ∃ r, sa = some ⟨r, 0, none⟩ := by
              rcases HRJ.out.2 with ⟨_, h0⟩ | ⟨r, _, _, hv, _⟩
              · omega
              · injection hv with hv _ _; exact ⟨r, hv⟩
            obtain ⟨r, rfl⟩ := hsa
            have y0 : wr.cell? ⟨r, j * 2, none⟩ = some (.int .i64 (s : Int)) := by rw [HRJ.out.cellAt (j * 2) (by omega), g1]
            have y1 : wr.cell? ⟨r, j * 2 + 1, none⟩ = some (.int .i64 (e : Int)) := by rw [HRJ.out.cellAt (j * 2 + 1) (by omega), g2]
            have HTK2 : Hid (pieces L (S.take (j + 1)) = pieces L (S.take j) ++ [(L.drop s).take (e - s)]) := by
              show _ = _
              rw [List.take_succ_eq_append_getElem (List.getElem?_eq_some_iff.1 hp).1, (List.getElem?_eq_some_iff.1 hp).2]
              unfold pieces
              rw [List.map_append]; rfl
            have HPL : Hid ((pieces L (S.take j)).length = j) := by
              show _ = _
              unfold pieces
              rw [List.length_map, List.length_take]; omega
            obtain ⟨b, off, rfl, hcc⟩ := HLB.out.at_ (by omega)
            have HSUB := Lib.hid (BytesAt.sub HLB.out s (e - s) (by omega))
            have s0 : (0 : Int) ≤ (s : Int) := Int.natCast_nonneg _
            have s1 : (s : Int) < (e : Int) := by omega
            have s2 : (e : Int) ≤ (n : Int) := by omega
            clear hp hcc g1 g2
            have HFB := Lib.hid (HFJ.out.more ((Kept.refl wr).alloc (.cells #[.int .i64 (s : Int), .int .i64 (e : Int)] 288)))
            have hPm : (pieces L (S.take j)).length < sn := by rw [HPL.out]; exact hjn
            have HST := Lib.hid (HFB.out.store hPm HSUB.out)
            obtain ⟨⟨v, z0⟩, z1, z2⟩ := HFB.out.facts hjn
            rw [HPL.out, ← HTK2.out] at HST
            clear hPm
            go_wp2
            go_roundw
            case rel => exact ⟨j + 1, by omega, by go_num, HST.out⟩
            case measure => simp [intOf]; omega
          · obtain rfl : sn = j := by omega
            have HPL : Hid ((pieces L (S.take sn)).length = sn) := by
              show _ = _
              unfold pieces
              rw [List.length_map, List.length_take]; omega
            go_wp2
            go_ret
            refine ⟨HKW.out.trans HFJ.out.kept, g, sn, _, rfl, HFJ.out.done HPL.out, ?_, fun x hx => ?_, fun h => absurd h HBIG.out⟩
            · have := HLN.out; omega
            · obtain ⟨p, _, rfl⟩ := List.mem_map.1 hx
              rw [List.length_take, List.length_drop]; omega
end Go.Proofs.YtlikokeknfhejaaGreatDoor
