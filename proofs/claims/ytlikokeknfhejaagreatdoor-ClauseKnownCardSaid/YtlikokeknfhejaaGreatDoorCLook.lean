/-
  Layer 5: the contract of the program's look.
-/
import Derived.Test.YtlikokeknfhejaaGreatDoorCFolB
import Derived.Test.YtlikokeknfhejaaGreatDoorCRef
namespace Go.Proofs.YtlikokeknfhejaaGreatDoor
open Go Go.RowKit Go.Lib

/-- What looking at a clause with at most one literal left finds: it fails; or one of its literals is known then. -/
def LookRes (d F : List Int) (r : Option (List Int)) : Prop := match r with
  | none => ∀ x ∈ d, -x ∈ F
  | some F' => ∃ l ∈ d, -l ∉ F ∧ ((l ∈ F ∧ F' = F) ∨ (l ∉ F ∧ F' = F ++ [l]))
/-- The blocks that change. -/
def Ch (fb km : Nat) (s : Fo) (q : Nat) : Prop := q = fb ∨ q = km ∨ At s.oa q ∨ At s.fa q
theorem Ch.no {CB : Nat → Prop} {fb km q : Nat} {s : Fo} (h : Ch fb km s q) : No CB fb km s q := by
  rcases h with h | h | h | h
  · exact Or.inr (Or.inl h)
  · exact Or.inr (Or.inr (Or.inl h))
  · exact Or.inr (Or.inr (Or.inr (Or.inr (Or.inl h))))
  · exact Or.inr (Or.inr (Or.inr (Or.inr (Or.inr h))))
def LookPost (N base fb um km n : Nat) (s : Fo) (nk : Nat) (vs : List Value) (CB : Nat → Prop) (DU : DataW Unit) (D : List (List Int)) (O F : List Int) (f : Int → List Int) (d : List Int) (w : World) (e : Ending) (w' : World) : Prop :=
  (LookRes d F none ∧ e = .returned (.bool false) ∧ Kept w w') ∨
  ∃ F' s' nk', LookRes d F (some F') ∧ e = .returned (.bool true) ∧ FolAt N base w' fb um km s' n nk' vs CB DU D O F' F' f ∧ Turned (Ch fb km s) w w' ∧ (∀ q, No CB fb km s' q → No CB fb km s q ∨ w.heap.size ≤ q) ∧ nk' + F.length = nk + F'.length ∧ s'.fn = F'.length ∧ s'.on = s.on ∧ s'.ck = s.ck
/-- Where a new row of what was found lies. -/
def gg_prop (s : Fo) (gg : Nat) (w : World) : Prop := (Value.slice s.fa s.fn s.fc).ownBlock = some gg ∨ gg = w.heap.size + 1
set_option maxRecDepth 100000 in
set_option maxHeartbeats 4000000 in
theorem look_many {N base : Nat} {w : World} {fb um km : Nat} {s : Fo} {n nk : Nat} {vs : List Value} {CB : Nat → Prop} {DU : DataW Unit} {D : List (List Int)} {O F : List Int} {f : Int → List Int} (h : FolAt N base w fb um km s n nk vs CB DU D O F F f) (i : Nat) (x : Int) (hx : O[i]? = some x) (h1 : 1 < x) (hon : s.on ≤ 1000000) :
    Calls Tryz.prog 93 #[.pointer (some ⟨fb, 0, none⟩), .int .i64 i] w fun e w' => e = .returned (.bool true) ∧ w = w' := by
  have hOl : O.length = s.on := by have := h.opn.1; simp at this; omega
  have hi := (List.getElem?_eq_some_iff.1 hx).1
  have hrow := h.opn
  obtain ⟨r, hr, _, _, hcap⟩ := row_some hrow (by omega)
  rw [hr] at hrow
  obtain ⟨c0, c1, c2, c3, c4⟩ := fol_facts h.blk (Kept.refl w)
  rw [hr] at c2
  have x0 : w.cell? ⟨r, i, none⟩ = some (.int .i64 x) := by rw [hrow.cellAt i (by omega), List.getElem?_map, hx]; rfl
  have d1 : decide (1 < x) = true := decide_eq_true h1
  have i0 : (0 : Int) ≤ (i : Int) := Int.natCast_nonneg _
  have i1 : (i : Int) < (s.on : Int) := by omega
  have HH := Lib.hid h
  clear hrow hr hOl hx h1 h
  go_enter Tryz.func93, Tryz.ntmps93
  go_wp2
  go_ret
  exact ⟨rfl, rfl⟩
set_option maxRecDepth 100000 in
set_option maxHeartbeats 8000000 in
theorem look_few {N base : Nat} {w : World} {fb um km : Nat} {s : Fo} {n nk : Nat} {vs : List Value} {CB : Nat → Prop} {DU : DataW Unit} {D : List (List Int)} {O F : List Int} {f : Int → List Int} (h : FolAt N base w fb um km s n nk vs CB DU D O F F f) (i : Nat) (x : Int) (d : List Int) (hx : O[i]? = some x) (hd : D[i]? = some d) (h1 : x ≤ 1) (hon : s.on ≤ 1000000) (_hck : s.ck ≤ 1000000) (hfn : s.fn = F.length) (hfl : F.length ≤ 100000000) (hnk : nk ≤ 100000000) (hone : One F) (hlit : ∀ y ∈ d, Lit24 y) (hdl : d.length ≤ 1000000) (hNw : N ≤ w.heap.size) :
    Calls Tryz.prog 93 #[.pointer (some ⟨fb, 0, none⟩), .int .i64 i] w (LookPost N base fb um km n s nk vs CB DU D O F f d w) := by
  have hOl : O.length = s.on := by have := h.opn.1; simp at this; omega
  have hi := (List.getElem?_eq_some_iff.1 hx).1
  have hrow := h.opn
  obtain ⟨r, hr, _, _, hcap⟩ := row_some hrow (by omega)
  rw [hr] at hrow
  obtain ⟨c0, c1, c2, c3, c4⟩ := fol_facts h.blk (Kept.refl w)
  rw [hr] at c2
  have x0 : w.cell? ⟨r, i, none⟩ = some (.int .i64 x) := by rw [hrow.cellAt i (by omega), List.getElem?_map, hx]; rfl
  have d1 : decide (1 < x) = false := decide_eq_false (by omega)
  have i0 : (0 : Int) ≤ (i : Int) := Int.natCast_nonneg _
  have i1 : (i : Int) < (s.on : Int) := by omega
  have hDi := (List.getElem?_eq_some_iff.1 hd).1
  have i2 : (i : Int) < (s.ck : Int) := by have := h.cls.len; omega
  obtain ⟨rc, u, hrc, _, hcell, a, k, c, rfl, hI, hF, hCB⟩ := h.cls.cell hd
  rw [hrc] at c0
  have HI := Lib.hid hI; have HDL := Lib.hid hI.len
  have HH := Lib.hid h; have HONE := Lib.hid hone; have HLIT := Lib.hid hlit; have HFN := Lib.hid hfn; have HR := Lib.hid hr
  have hk : k ≤ 1000000 := by rw [← hI.len]; exact hdl
  clear hrow hr hOl hx hd h1 h hrc hI hF hCB hone hlit hfn hdl
  go_enter Tryz.func93, Tryz.ntmps93
  go_wp2
  go_loopw [23] (fun i wr => ∃ t : Nat, t ≤ k ∧ i = .int .i64 t ∧ (∀ y ∈ d.take t, -y ∈ F) ∧ Kept w wr) (fun i _ => k - (intOf i).toNat)
  case atStart => exact ⟨0, Nat.zero_le _, rfl, by simp, Kept.refl _⟩
  case round =>
    obtain ⟨t, ht, rfl, hall, hK⟩ := hrel
    have HA := Lib.hid hall; have HK := Lib.hid hK
    clear hall hK
    have t0 : (0 : Int) ≤ (t : Int) := Int.natCast_nonneg _
    by_cases htk : t < k
    · have t1 : (t : Int) < (k : Int) := by omega
      obtain ⟨b, off, rfl, hc⟩ := HI.out.at_ (by omega)
      have htl : t < d.length := by rw [HDL.out]; exact htk
      obtain ⟨l, hl⟩ : ∃ l, d[t]? = some l := ⟨_, List.getElem?_eq_getElem htl⟩
      have x1 := HK.out.cell (hc t l hl)
      have HL24 := Lib.hid (HLIT.out l (List.mem_of_getElem? hl))
      have HML := Lib.hid (List.mem_of_getElem? hl)
      have HTK : Hid (d.take (t + 1) = d.take t ++ [l]) := by
        show _ = _
        rw [List.take_succ_eq_append_getElem htl, (List.getElem?_eq_some_iff.1 hl).2]
      have HF1 := Lib.hid (HH.out.kept HK.out)
      obtain ⟨e0, e1, e2, e3, e4⟩ := fol_facts HF1.out.blk (Kept.refl wr)
      clear hc hl htl c0 c1 c2 c3 c4 x0 hcell
      by_cases hneg : -l ∈ F
      · have HC := Lib.hid (kfails_any km nk F l wr HF1.out.kn HONE.out HL24.out)
        rw [(hasI_iff F (-l)).2 hneg] at HC
        have HNG := Lib.hid hneg; clear hneg
        go_wp2_with fail
        refine HC.out.mono ?_
        rintro e w2 ⟨rfl, hk2⟩
        have HK2 := Lib.hid hk2; clear hk2
        go_wp2
        go_roundw
        case rel =>
          refine ⟨t + 1, by omega, by go_num, ?_, HK.out.trans HK2.out⟩
          rw [HTK.out]
          intro y hy
          rcases List.mem_append.1 hy with hy | hy
          · exact HA.out y hy
          · rw [List.mem_singleton.1 hy]; exact HNG.out
        case measure => simp [intOf]; omega
      · have HC := Lib.hid (kfails_any km nk F l wr HF1.out.kn HONE.out HL24.out)
        rw [(hasI_no F (-l)).2 hneg] at HC
        have HNG := Lib.hid hneg; clear hneg
        go_wp2_with fail
        refine HC.out.mono ?_
        rintro e w2 ⟨rfl, hk2⟩
        have HF2 := Lib.hid (HF1.out.kept hk2)
        have HK2 := Lib.hid (HK.out.trans hk2); clear hk2 e0 e1 e2 e3 e4
        obtain ⟨e0, e1, e2, e3, e4⟩ := fol_facts HF2.out.blk (Kept.refl w2)
        by_cases hin : l ∈ F
        · have HC2 := Lib.hid (kholds_any km nk F l w2 HF2.out.kn HONE.out HL24.out)
          rw [(hasI_iff F l).2 hin] at HC2
          have HIN := Lib.hid hin; clear hin
          go_wp2_with fail
          refine HC2.out.mono ?_
          rintro e w3 ⟨rfl, hk3⟩
          have HK3 := Lib.hid hk3; clear hk3
          go_wp2
          go_ret
          exact Or.inr ⟨F, s, nk, ⟨l, HML.out, HNG.out, Or.inl ⟨HIN.out, rfl⟩⟩, rfl, HF2.out.kept HK3.out, (HK2.out.trans HK3.out).turned _, fun q hq => Or.inl hq, rfl, HFN.out, rfl, rfl⟩
        · have HC2 := Lib.hid (kholds_any km nk F l w2 HF2.out.kn HONE.out HL24.out)
          rw [(hasI_no F l).2 hin] at HC2
          have HIN := Lib.hid hin; clear hin
          go_wp2_with fail
          refine HC2.out.mono ?_
          rintro e w3 ⟨rfl, hk3⟩
          have HF3 := Lib.hid (HF2.out.kept hk3)
          have HK3 := Lib.hid (HK2.out.trans hk3); clear hk3 e0 e1 e2 e3 e4
          obtain ⟨e0, e1, e2, e3, e4⟩ := fol_facts HF3.out.blk (Kept.refl w3)
          have HP := Lib.hid (kput_yes km nk F l w3 HF3.out.kn HONE.out HL24.out HNG.out (by omega))
          go_wp2_with fail
          refine HP.out.mono ?_
          rintro e w4 ⟨rfl, hkn4, ht4⟩
          have HF4 := Lib.hid (HF3.out.putK hkn4 ht4)
          have HT4 := Lib.hid ht4; clear hkn4 ht4 e0 e1 e2 e3 e4
          obtain ⟨e0, e1, e2, e3, e4⟩ := fol_facts HF4.out.blk (Kept.refl w4)
          obtain ⟨ii, hi, hz0, hz1, hz2⟩ := info_parts infoInt
          have HII := Lib.hid (And.intro hi (And.intro hz0 (And.intro hz1 hz2))); clear hi hz0 hz1 hz2
          have hfnb : s.fn ≤ 100000000 := by rw [HFN.out]; exact hfl
          have HBK := Lib.hid HF4.out.blk
          have HLT := Lib.hid HF4.out.ltF
          have HLO := Lib.hid HF4.out.low
          have HFL := Lib.hid (And.intro HF4.out.lf (And.intro HF4.out.lu HF4.out.lk))
          have HNW := Lib.hid (show N ≤ w4.heap.size from Nat.le_trans hNw (Nat.le_trans HK3.out.size HT4.out.size))
          go_upto_region 10 with (at_builtin; refine wpList_append_lies _ rfl _ _ _ rfl N 3 ii _ 1 8 Tryz.underlying22 HII.out.1 HII.out.2.1 HII.out.2.2.1 HII.out.2.2.2 rfl (by omega) (.slice s.fa s.fn s.fc) s.fn (F.map (Value.int .i64)) rfl (HF4.out.fnd.alloc _) ⟨w4.heap.size, 0, none⟩ 1 1 [.int .i64 l] rfl rfl (World.news_of_block (cs := #[.int .i64 l]) (t := 3) (fr := (0, 0)) (heap_alloc_new w4 _)) (by simp [Value.oneCell']) (by omega) (by unfold maxLen; omega) (by omega) (by have := HNW.out; simp; omega) (w4.heap.size + 1) (by simp) ?_; intro gg cap w6 hown4 hgrow4 hat4 hlt4; have hb4 : w6.heap[fb]? = some (folObj um km s) := (hgrow4.block fb (by have := HLT.out.1; simp; omega) (fun e => by have h1 := (HLO.out.2.2 fb (At.own.1 e.symm)).1; have := HFL.out.1; omega)).trans (((Kept.refl w4).alloc _).row HBK.out); have z0 := (fol_facts hb4 (Kept.refl w6)).2.2.2.2; have z1 := frozen_of_row hb4 4; have HOW := Lib.hid hown4; have HGR := Lib.hid hgrow4; have HAT := Lib.hid hat4; clear hown4 hgrow4 hat4 hlt4 hb4)
          have HE := Lib.hid (HF4.out.snocF HOW.out HGR.out HAT.out)
          have HAT2 : Hid (gg_prop s gg w4) := HAT.out
          clear e0 e1 e2 e3 e4 z0 z1 HOW HGR HAT
          generalize w6.setCell ⟨fb, 4, none⟩ (.slice (some ⟨gg, 0, none⟩) (s.fn + 1) cap) = w7 at *
          go_wp2
          go_ret
          refine Or.inr ⟨F ++ [l], _, nk + 1, ⟨l, HML.out, HNG.out, Or.inr ⟨HIN.out, rfl⟩⟩, rfl, HE.out.1, ?_, ?_, by simp; omega, by simp [HFN.out], rfl, rfl⟩
          · refine ((HK3.out.turned _).trans (HT4.out.mono fun q _ e => Or.inr (Or.inl e))).trans (HE.out.2.mono fun q _ e => ?_)
            rcases e with e | e
            · exact Or.inl e
            · exact Or.inr (Or.inr (Or.inr e))
          · intro q hq
            rcases hq with e | e | e | e | e | e
            · exact Or.inl (Or.inl e)
            · exact Or.inl (Or.inr (Or.inl e))
            · exact Or.inl (Or.inr (Or.inr (Or.inl e)))
            · exact Or.inl (Or.inr (Or.inr (Or.inr (Or.inl e))))
            · exact Or.inl (Or.inr (Or.inr (Or.inr (Or.inr (Or.inl e)))))
            · rcases gg_new HAT2.out q e with e' | e'
              · exact Or.inl (Or.inr (Or.inr (Or.inr (Or.inr (Or.inr e')))))
              · refine Or.inr ?_
                have h1 := HK3.out.size
                have h2 := HT4.out.size
                omega
    · obtain rfl : t = k := by omega
      have hall := HA.out
      rw [← HDL.out, List.take_length] at hall
      have HALL := Lib.hid hall; clear hall
      go_wp2
      go_ret
      exact Or.inl ⟨HALL.out, rfl, HK.out⟩
end Go.Proofs.YtlikokeknfhejaaGreatDoor
