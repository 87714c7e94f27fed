/-
  Layer 5: the contract of the program's goOn.
-/
import Derived.Test.YtlikokeknfhejaaGreatDoorCLook
import Derived.Test.YtlikokeknfhejaaGreatDoorCGoM
import Derived.Test.YtlikokeknfhejaaGreatDoorCNew
namespace Go.Proofs.YtlikokeknfhejaaGreatDoor
open Go Go.RowKit Go.Lib

theorem look_reach {D : List (List Int)} {F G d F' : List Int} (hF : Reach D F) (hc : Cons F) (hd : d ∈ D) (hG : ∀ x ∈ G, x ∈ F) (h1 : cnt G d ≤ 1) (h : LookRes d F (some F')) : Reach D F' ∧ (∃ y ∈ d, y ∈ F') ∧ ∃ T, F' = F ++ T ∧ T.length ≤ 1 := by
  obtain ⟨l, hl, hn, ⟨h2, rfl⟩ | ⟨h2, rfl⟩⟩ := h
  · exact ⟨hF, ⟨l, hl, h2⟩, [], by simp, by simp⟩
  · exact ⟨look_step hF hc hd hG h1 hl hn h2, ⟨l, hl, by simp⟩, [l], rfl, by simp⟩
/-- The blocks from B on. -/
def Big (B q : Nat) : Prop := B ≤ q
/-- What a follower is between two steps. -/
structure FolQ (B N base fb um km n : Nat) (vs : List Value) (CB : Nat → Prop) (DU : DataW Unit) (D : List (List Int)) (w : World) (s : Fo) (O F : List Int) : Prop where
  at_ : FolAt N base w fb um km s n F.length vs CB DU D O F F (usesN D)
  fn : s.fn = F.length
  on : s.on = D.length
  ck : s.ck = D.length
  nw : N ≤ w.heap.size
  low : B ≤ fb ∧ B ≤ um ∧ B ≤ km ∧ B ≤ N
theorem FolQ.ch {B N base fb um km n : Nat} {vs : List Value} {CB : Nat → Prop} {DU : DataW Unit} {D : List (List Int)} {w : World} {s : Fo} {O F : List Int} (h : FolQ B N base fb um km n vs CB DU D w s O F) : ∀ q, Ch fb km s q → Big B q := by
  obtain ⟨l1, l2, l3⟩ := h.at_.low
  have := h.low
  unfold Big
  rintro q (e | e | e | e)
  · omega
  · omega
  · have := (l2 q e).1; omega
  · have := (l3 q e).1; omega
def GoPost (B N base fb um km n : Nat) (vs : List Value) (CB : Nat → Prop) (DU : DataW Unit) (D : List (List Int)) (G F : List Int) (l : Int) (w : World) (e : Ending) (w' : World) : Prop :=
  Turned (Big B) w w' ∧ ((e = .returned (.bool false) ∧ UnitsRes D none) ∨
    ∃ s' O' T, e = .returned (.bool true) ∧ FolQ B N base fb um km n vs CB DU D w' s' O' (F ++ T) ∧ UI D (G ++ [l]) [] O' (F ++ T))
set_option maxRecDepth 100000 in
set_option maxHeartbeats 8000000 in
theorem goOn_any {B N base fb um km n : Nat} {vs : List Value} {CB : Nat → Prop} {DU : DataW Unit} {D : List (List Int)} {w : World} {s : Fo} {O F G : List Int} (h : FolQ B N base fb um km n vs CB DU D w s O F) (hu : UI D G [] O F) (l : Int) (hl : l ∈ F) (hlG : l ∉ G) (hGF : ∀ x ∈ G, x ∈ F)
    (hn : n ≤ 1000000000000) (hD : D.length ≤ 1000000) (hlit : ∀ d ∈ D, ∀ y ∈ d, Lit24 y) (hdl : ∀ d ∈ D, d.length ≤ 1000000) (hnd : ∀ d ∈ D, d.Nodup) :
    Calls Tryz.prog 94 #[.pointer (some ⟨fb, 0, none⟩), .int .i64 l] w (GoPost B N base fb um km n vs CB DU D G F l w) := by
  have HNZ : Hid (NoZero D) := fun d hd y hy => (hlit d hd y hy).1
  have HL24 : Hid (∀ x ∈ F, Lit24 x) := fun x hx => by
    obtain ⟨d, hd, hxd⟩ := hu.reach.from x hx
    exact hlit d hd x hxd
  have hl24 := HL24.out l hl
  obtain ⟨v, hv, hlk⟩ := grp_look h.at_.grp (by unfold maxLen; omega) h.at_.use hl24.neg.inr.1
  have HV := Lib.hid hv; have HLK := Lib.hid hlk
  obtain ⟨va, vc, hvs⟩ := slice_of_row hv.own.1
  subst hvs
  have lk0 := hlk w rfl
  obtain ⟨c0, c1, c2, c3, c4⟩ := fol_facts h.at_.blk (Kept.refl w)
  have HUS : Hid (∀ x ∈ usesN D (-l), ∃ i : Nat, x = i ∧ i ∈ usesOf D (-l) ∧ i < D.length) := fun x hx => by
    unfold usesN at hx
    obtain ⟨i, hi, rfl⟩ := List.mem_map.1 hx
    exact ⟨i, rfl, hi, ((usesOf_mem D (-l) i).1 hi).1⟩
  obtain ⟨m, hm⟩ : ∃ m : Nat, m = (usesN D (-l)).length := ⟨_, rfl⟩
  have hml : m ≤ 1000000 := by
    rw [hm]; unfold usesN
    rw [List.length_map]
    have h1 := List.length_filter_le (fun i => (D.getD i []).contains (-l)) (List.range D.length)
    unfold usesOf
    rw [List.length_range] at h1
    omega
  have HCV : Hid (ClauseV w (No CB fb km s) (.slice va m vc) (usesN D (-l))) := by
    rw [hm]
    refine ⟨va, _, vc, rfl, ints_of_row hv.own.1 rfl fun x hx => ?_, row_fit hv.own.1, fun _ ad had hno => hv.shun _ h.at_.shun ad.block (by rw [had]; rfl) hno⟩
    obtain ⟨i, rfl, _, hi⟩ := HUS.out x hx
    unfold InR; omega
  have HM := Lib.hid hm
  rw [← hm] at lk0
  have l1 : -16777216 ≤ l := hl24.2.1
  have l2 : l ≤ 16777216 := hl24.2.2
  have HQ := Lib.hid h; have HU := Lib.hid hu; have HLG := Lib.hid hlG; have HGF := Lib.hid hGF; have HLI := Lib.hid hlit; have HDL := Lib.hid hdl; have HND := Lib.hid hnd; have HLF := Lib.hid hl
  clear hv hlk h hu hlG hGF hlit hdl hnd hl hl24 hm
  go_enter Tryz.func94, Tryz.ntmps94
  go_wp2
  clear lk0 c0 c1 c2 c3 c4
  go_loopw [15] (fun i wr => ∃ (p : Nat) (s : Fo) (O T : List Int), p ≤ m ∧ i = .int .i64 p ∧ FolQ B N base fb um km n vs CB DU D wr s O (F ++ T) ∧ UI D G ((usesOf D (-l)).take p) O (F ++ T) ∧ ClauseV wr (No CB fb km s) (.slice va m vc) (usesN D (-l)) ∧ Turned (Big B) w wr) (fun i _ => m - (intOf i).toNat)
  case atStart => exact ⟨0, s, O, [], Nat.zero_le _, rfl, by rw [List.append_nil]; exact HQ.out, by rw [List.append_nil]; exact HU.out, HCV.out, Turned.refl _ _⟩
  case round =>
    obtain ⟨p, s, O, T, hp, rfl, hq, hui, hcv, ht⟩ := hrel
    have HQ := Lib.hid hq; have HU := Lib.hid hui; have HCV := Lib.hid hcv; have HT := Lib.hid ht
    clear hq hui hcv ht
    have p0 : (0 : Int) ≤ (p : Int) := Int.natCast_nonneg _
    have HUL : Hid ((usesOf D (-l)).length = m) := by show _ = m; rw [HM.out]; unfold usesN; rw [List.length_map]
    by_cases hpm : p < m
    · have p1 : (p : Int) < (m : Int) := by omega
      obtain ⟨va', m', vc', hvv, hIV, _, _⟩ := HCV.out
      obtain ⟨rfl, rfl, rfl⟩ : va = va' ∧ m = m' ∧ vc = vc' := by injection hvv with h1 h2 h3; exact ⟨h1, h2, h3⟩
      obtain ⟨bv, ov, rfl, hcell⟩ := hIV.at_ (by omega)
      obtain ⟨i, hi⟩ : ∃ i, (usesOf D (-l))[p]? = some i := ⟨_, List.getElem?_eq_getElem (by rw [HUL.out]; exact hpm)⟩
      have x0 := hcell p (i : Int) (by unfold usesN; rw [List.getElem?_map, hi]; rfl)
      have hiu := List.mem_of_getElem? hi
      have hiD := ((usesOf_mem D (-l) i).1 hiu).1
      obtain ⟨d, hd⟩ : ∃ d, D[i]? = some d := ⟨_, List.getElem?_eq_getElem hiD⟩
      have HTK := Lib.hid (show (usesOf D (-l)).take (p + 1) = (usesOf D (-l)).take p ++ [i] by
        obtain ⟨h1, h2⟩ := List.getElem?_eq_some_iff.1 hi
        rw [List.take_succ_eq_append_getElem h1, h2])
      have HNI : Hid (i ∉ (usesOf D (-l)).take p) := by
        intro hmem
        obtain ⟨j, hj⟩ := List.mem_iff_getElem?.1 hmem
        rw [List.getElem?_take] at hj
        split at hj
        · rename_i hjp
          have h1 := List.pairwise_iff_getElem.1 (usesOf_nodup D (-l)) j p (by rw [HUL.out]; omega) (by rw [HUL.out]; omega) hjp
          rw [(List.getElem?_eq_some_iff.1 hi).2, (List.getElem?_eq_some_iff.1 hj).2] at h1
          exact h1 rfl
        · cases hj
      have hox := HU.out.at_ hd HNI.out
      have HLOW := Lib.hid (lower_cnt hd hiu (HND.out d (List.mem_of_getElem? hd)) HLG.out)
      have HHD := Lib.hid hd; have HOX := Lib.hid hox
      have hrow := HQ.out.at_.opn
      have hoi : i < s.on := by rw [HQ.out.on]; exact hiD
      obtain ⟨r, hr, _, _, _⟩ := row_some hrow (by omega)
      rw [hr] at hrow
      have x1 : wr.cell? ⟨r, i, none⟩ = some (.int .i64 (cnt G d : Int)) := by rw [hrow.cellAt i (by omega), List.getElem?_map, hox]; rfl
      have x2 : wr.frozen? ⟨r, i, none⟩ = false := hrow.frozenAt i
      have HROW := Lib.hid hrow; have HR := Lib.hid hr
      obtain ⟨c0, c1, c2, c3, c4⟩ := fol_facts HQ.out.at_.blk (Kept.refl wr)
      rw [hr] at c2
      have i0 : (0 : Int) ≤ (i : Int) := Int.natCast_nonneg _
      have i1 : (i : Int) < (s.on : Int) := by omega
      obtain ⟨cn, hcn⟩ : ∃ cn : Nat, cn = cnt G d := ⟨_, rfl⟩
      have HCN := Lib.hid hcn
      have cn0 : (0 : Int) ≤ (cn : Int) := Int.natCast_nonneg _
      have cn1 : (cn : Int) ≤ 1000000 := by
        have h1 : cnt G d ≤ d.length := by unfold cnt; exact List.countP_le_length
        have h2 := HDL.out d (List.mem_of_getElem? hd)
        omega
      rw [← hcn] at x1 hox HOX HLOW
      clear hcell hi hd hox hrow hr hvv hIV hcn
      have HSO := Lib.hid (HQ.out.at_.setO HR.out (j := i) ((cn : Int) - 1))
      have HCO : Hid (Cons (F ++ T)) := HU.out.reach.cons HNZ.out
      have HFL : Hid ((F ++ T).length ≤ 100000000) := by
        have h1 := nodupZ_len HCO.out.nodup fun x hx => by
          obtain ⟨e, he, hxe⟩ := HU.out.reach.from x hx
          exact (HLI.out e he x hxe).2
        show _ ≤ _; omega
      go_upto_region 5 with (fail)
      generalize hw2 : wr.setCell ⟨r, i, none⟩ (.int .i64 ((cn : Int) - 1)) = w2 at *
      clear c0 c1 c2 c3 c4 x0 x1 x2 hw2
      have HQ2 : Hid (FolAt N base w2 fb um km s n (F ++ T).length vs CB DU D (O.set i ((cn : Int) - 1)) (F ++ T) (F ++ T) (usesN D)) := HSO.out.1
      have HCV2 : Hid (ClauseV w2 (No CB fb km s) (.slice (some ⟨bv, ov, none⟩) m vc) (usesN D (-l))) :=
        HCV.out.turned (HSO.out.2.mono fun q _ e => Or.inr (Or.inr (Or.inr (Or.inr (Or.inl (by rw [e, HR.out]; rfl)))))) fun q _ e => e
      have HT2 : Hid (Turned (Big B) w w2) := HT.out.trans (HSO.out.2.mono fun q _ e => HQ.out.ch q (Or.inr (Or.inr (Or.inl (by rw [e, HR.out]; rfl)))))
      have HX2 : Hid ((O.set i ((cn : Int) - 1))[i]? = some ((cn : Int) - 1)) := by
        have h1 := (List.getElem?_eq_some_iff.1 HOX.out).1
        show _ = _
        rw [List.getElem?_set, if_pos rfl, if_pos h1]
      have hon : s.on ≤ 1000000 := by rw [HQ.out.on]; exact hD
      have hck : s.ck ≤ 1000000 := by rw [HQ.out.ck]; exact hD
      have HNW : Hid (N ≤ w2.heap.size) := Nat.le_trans HQ.out.nw HSO.out.2.size
      by_cases hfew : (cn : Int) - 1 ≤ 1
      · have hdm := List.mem_of_getElem? HHD.out
        have HLC := Lib.hid (look_few HQ2.out i ((cn : Int) - 1) d HX2.out HHD.out hfew hon hck HQ.out.fn HFL.out HFL.out HCO.out.toOne (HLI.out d hdm) (HDL.out d hdm) HNW.out)
        have HDM := Lib.hid hdm; have HFEW := Lib.hid hfew
        have HGS : Hid (∀ x ∈ G ++ [l], x ∈ F ++ T) := fun x hx => by
          rcases List.mem_append.1 hx with h1 | h1
          · exact List.mem_append_left _ (HGF.out x h1)
          · rw [List.mem_singleton.1 h1]; exact List.mem_append_left _ HLF.out
        have HC1 : Hid (cnt (G ++ [l]) d ≤ 1) := by
          have h1 := HLOW.out
          show _ ≤ _
          omega
        clear hdm hfew
        go_wp2_with fail
        refine HLC.out.mono ?_
        rintro e w3 hpost
        rcases hpost with ⟨hno, rfl, hk3⟩ | ⟨F', s', nk', hyes, rfl, hfol, hch, hno', hnk, hfn, hon', hck'⟩
        · have HNO := Lib.hid hno; have HK3 := Lib.hid hk3; clear hno hk3
          go_wp2
          go_ret
          exact ⟨HT2.out.trans (HK3.out.turned _), Or.inl ⟨rfl, F ++ T, HU.out.reach, d, HDM.out, HNO.out⟩⟩
        · obtain ⟨hr', htold, T', rfl, _⟩ := look_reach HU.out.reach HCO.out HDM.out HGS.out HC1.out hyes
          have HFO := Lib.hid hfol; have HCH := Lib.hid hch; have HNO := Lib.hid hno'; have HRE := Lib.hid hr'; have HTO := Lib.hid htold
          have HS := Lib.hid (And.intro hnk (And.intro hfn (And.intro hon' hck')))
          clear hyes hfol hch hno' hnk hfn hon' hck' hr' htold
          go_wp2
          go_roundw
          case rel =>
            obtain ⟨h1, h2, h3, h4⟩ := HS.out
            have hnk : nk' = (F ++ T ++ T').length := by omega
            refine ⟨p + 1, s', O.set i ((cn : Int) - 1), T ++ T', by omega, by go_num, ⟨?_, by rw [← List.append_assoc]; exact h2, by rw [h3]; exact HQ.out.on, by rw [h4]; exact HQ.out.ck, Nat.le_trans HNW.out HCH.out.size, HQ.out.low⟩, ?_, ?_, ?_⟩
            · rw [← List.append_assoc, ← hnk]; exact HFO.out
            · rw [← List.append_assoc, HTK.out]
              exact HU.out.count HHD.out HOX.out HNI.out HRE.out (fun y hy => List.mem_append_left _ hy) fun _ => HTO.out
            · exact HCV2.out.turned (HCH.out.mono fun q _ e => e.no) fun q hq e => (HNO.out q e).elim id fun e' => by omega
            · exact HT2.out.trans (HCH.out.mono fun q _ e => HQ.out.ch q e)
          case measure => simp [intOf]; omega
      · have HLC := Lib.hid (look_many HQ2.out i ((cn : Int) - 1) HX2.out (by omega) hon)
        have HFEW := Lib.hid hfew
        clear hfew
        go_wp2_with fail
        refine HLC.out.mono ?_
        rintro e w3 ⟨rfl, rfl⟩
        go_wp2
        go_roundw
        case rel =>
          refine ⟨p + 1, s, O.set i ((cn : Int) - 1), T, by omega, by go_num, ⟨HQ2.out, HQ.out.fn, HQ.out.on, HQ.out.ck, HNW.out, HQ.out.low⟩, ?_, HCV2.out, HT2.out⟩
          rw [HTK.out]
          exact HU.out.count HHD.out HOX.out HNI.out HU.out.reach (fun y hy => hy) fun h => (show False by have := HFEW.out; omega).elim
        case measure => simp [intOf]; omega
    · obtain rfl : p = m := by omega
      go_wp2
      go_ret
      have hui := HU.out
      rw [← HUL.out, List.take_length] at hui
      exact ⟨HT.out, Or.inr ⟨s, O, T, rfl, HQ.out, hui.done HND.out HLG.out⟩⟩
end Go.Proofs.YtlikokeknfhejaaGreatDoor
