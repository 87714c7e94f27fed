/-
  Layer 5, ClauseOrder: the law's walk.
-/
import Derived.Test.YtemijkfgnedlnaaDoorCUnitsL
import Derived.Test.YtemijkfgnedlnaaDoorCOrdM
namespace Go.Proofs.YtemijkfgnedlnaaDoor
open Go Go.RowKit Go.Lib

theorem right_alike {V : Int} {C D : List (List Int)} (h : Alike C D) (hC : C.length ≤ 1048576) (hD : D.length ≤ 1048576) : rightB V D = rightB V C := by
  rw [Bool.eq_iff_iff, rightB_iff, rightB_iff]
  constructor
  · rintro ⟨h1, h2, _, h4⟩
    refine ⟨h1, h2, hC, fun c hc x hx => ?_⟩
    obtain ⟨d, hd, hm⟩ := h.1 c hc
    exact h4 d hd x ((hm x).1 hx)
  · rintro ⟨h1, h2, _, h4⟩
    refine ⟨h1, h2, hD, fun d hd x hx => ?_⟩
    obtain ⟨c, hc, hm⟩ := h.2 d hd
    exact h4 c hc x ((hm x).1 hx)
theorem holds_alike {V : Int} {C D : List (List Int)} {M : List Bool} (h : Alike C D) (hr : rightB V D = rightB V C) : holdsB V D M = holdsB V C M := by
  unfold holdsB
  rw [hr, hf_alike M h]
theorem UFact.alike {V : Int} {C D : List (List Int)} {K : List Int} {ok : Bool} (h : Alike C D) (hr : rightB V D = rightB V C) (k : UFact V D K ok) : UFact V C K ok := by
  rcases k with ⟨h1, h2, h3⟩ | ⟨h1, h2, h3⟩
  · exact Or.inl ⟨by rw [← hr]; exact h1, h2, h3.alike h.symm⟩
  · exact Or.inr ⟨h1, h2, fun h4 => (h3 (by rw [hr]; exact h4)).alike h.symm⟩
theorem rev_take {cl : List Int} {t j : Nat} {y : Int} (hy : cl[j]? = some y) (h : j + 1 + t = cl.length) : cl.reverse.take (t + 1) = cl.reverse.take t ++ [y] := by
  have hl : t < cl.reverse.length := by rw [List.length_reverse]; omega
  rw [List.take_succ_eq_append_getElem hl]
  congr 2
  rw [List.getElem_reverse]
  have e : cl.length - 1 - t = j := by omega
  have h1 := (List.getElem?_eq_some_iff.1 hy).2
  simp only [e]
  exact h1
/-- A clause that lies in older memory, as one of a formula that is being made. -/
theorem clauseV_old {W w : World} {T : Nat → Prop} {a : Option Addr} {n c : Nat} {d : List Int} (hI : IntsAt W a n d) (hk : Kept W w) (hF : Fit a n c) (hT : ∀ q, q < W.heap.size → ¬ T q) : ClauseV w T (.slice a n c) d := by
  refine ⟨a, n, c, rfl, hI.kept hk, hF, fun h0 ad had => hT _ ?_⟩
  obtain ⟨b, off, rfl, hc⟩ := hI.at_ h0
  cases had
  obtain ⟨x, hx⟩ : ∃ x, d[0]? = some x := ⟨_, List.getElem?_eq_getElem (by rw [hI.len]; exact h0)⟩
  exact World.block_lt_of_cell? W _ (hc 0 x hx)
theorem tmod_add {i t n p : Nat} (h : (i + t) % n = p) : Int.tmod ((i : Int) + (t : Int)) (n : Int) = (p : Int) := by
  rw [Int.tmod_eq_emod_of_nonneg (by omega), ← h]
  push_cast
  rfl

set_option maxRecDepth 100000 in
set_option maxHeartbeats 16000000 in
theorem clauseorder_any (V : Int) (ca ma : Option Addr) (cn cc n c : Nat) (C : List (List Int)) (M : List Bool) (tn : Nat) (w : World) (hV : InR V) (hC : ClsAt w ca cn C) (hFC : Fit ca cn cc) (hM : BoolsAt w ma n M) (hFM : Fit ma n c) (htn : tn ≤ 255) (hW : Laid w) :
    Calls Tryd.prog 5 #[.agg #[.int .i64 V, .slice ca cn cc], .slice ma n c, .int .u8 (tn : Int)] w fun e w' => e = .returned (.bool true) ∧ Kept w w' := by
  have HK0 := Lib.hid ((Kept.refl w).alloc (fObj V ca cn cc))
  have HC := Lib.hid (hC.kept HK0.out)
  have HM := Lib.hid (hM.kept HK0.out)
  have HW := Lib.hid (hW.kept HK0.out)
  have HB := Lib.hid (MapKept.heap_alloc w (fObj V ca cn cc)).1
  have HV := Lib.hid hV
  have HFM := Lib.hid hFM
  have HFC := Lib.hid hFC
  have tn0 : (0 : Int) ≤ (tn : Int) := Int.natCast_nonneg _
  have tn1 : (tn : Int) ≤ 255 := by omega
  clear hC hM hW hV hFM hFC
  go_enter Tryd.func5, Tryd.ntmps5
  go_upto_region 1 with (fail)
  change Code.wp _ _ _ _ (w.alloc (fObj V ca cn cc))
  generalize w.alloc (fObj V ca cn cc) = W at *
  obtain ⟨fb, hfb⟩ : ∃ b : Nat, b = w.heap.size := ⟨_, rfl⟩
  rw [← hfb] at HB ⊢
  clear hfb
  obtain ⟨f0, f1⟩ := box_facts HB.out (Kept.refl W)
  go_wp2_with fail
  refine (few_any V 40 ca cn cc C W HC.out (Nat.le_trans HFC.out.2.1 HFC.out.2.2) (by unfold InR; decide)).mono ?_
  rintro e w1 ⟨rfl, hk1⟩
  have HK1 := Lib.hid hk1
  clear hk1 f0 f1
  cases hfew : fewF C 40 with
  | false =>
    clear hfew
    go_wp2_with fail
    refine (works_any _ (HW.out.kept HK1.out)).mono ?_
    rintro e w2 ⟨rfl, hk2⟩
    have HK2 := Lib.hid (HK0.out.trans (HK1.out.trans hk2))
    clear hk2
    go_wp2
    go_ret
    exact ⟨rfl, HK2.out⟩
  | true =>
  have HFW : Hid (C.length ≤ 40 ∧ ∀ c ∈ C, c.length ≤ 30) := by
    have := few_len' hfew
    exact ⟨by omega, this.2⟩
  clear hfew
  have HCN : Hid (C.length = cn) := HC.out.len
  have hcn : cn ≤ 40 := by rw [← HC.out.len]; exact HFW.out.1
  have HSH : Hid (∀ c ∈ C, c.length ≤ 1000000) := fun c hc => Nat.le_trans (HFW.out.2 c hc) (by decide)
  by_cases h30 : n ≤ 100
  case neg =>
    have d30 : decide ((100 : Int) < (n : Int)) = true := decide_eq_true (by omega)
    clear h30
    go_wp2_with fail
    refine (works_any _ (HW.out.kept HK1.out)).mono ?_
    rintro e w3 ⟨rfl, hk3⟩
    have HK3 := Lib.hid (HK0.out.trans (HK1.out.trans hk3))
    clear hk3
    go_wp2
    go_ret
    exact ⟨rfl, HK3.out⟩
  have d30 : decide ((100 : Int) < (n : Int)) = false := decide_eq_false (by omega)
  obtain ⟨f0, f1⟩ := box_facts HB.out HK1.out
  go_upto_region 4 with (fail)
  have HH := Lib.hid (MapKept.heap_alloc w1 (f2Obj V none 0 0 24)).1
  have HKH := Lib.hid ((Kept.refl w1).alloc (f2Obj V none 0 0 24))
  change Code.wp _ _ _ _ (w1.alloc (f2Obj V none 0 0 24))
  generalize w1.alloc (f2Obj V none 0 0 24) = w7 at *
  obtain ⟨h, hh⟩ : ∃ b : Nat, b = w1.heap.size := ⟨_, rfl⟩
  rw [← hh] at HH ⊢
  have HWH : Hid (W.heap.size ≤ h ∧ h < w7.heap.size) := ⟨by rw [hh]; exact HK1.out.size, (Array.getElem?_eq_some_iff.1 HH.out).1⟩
  have HK7 := Lib.hid (HK1.out.trans HKH.out)
  have HB7 := Lib.hid (HK7.out.row HB.out)
  clear hh HKH HK1 f0 f1 d30
  have HFBL := Lib.hid (Array.getElem?_eq_some_iff.1 HB.out).1
  obtain ⟨ii, hi, hz0, hz1, hz2⟩ := info_parts infoInts
  have HI := Lib.hid (And.intro hi (And.intro hz0 (And.intro hz1 hz2))); clear hi hz0 hz1 hz2
  go_wp2
  go_loopw [8] (fun i wr => ∃ (jj : Nat) (a : Option Addr) (k c' : Nat) (vs : List Value), jj ≤ cn ∧ i = .int .i64 jj ∧ Hid (wr.heap[h]? = some (f2Obj V a k c' 24)) ∧ Hid (RowsV w7.heap.size wr (TG (fun q => q = h) a) a k c' vs (ordL C tn jj)) ∧ Hid (Turned (fun q => q = h) w7 wr)) (fun i _ => cn - (intOf i).toNat)
  case atStart => exact ⟨0, none, 0, 0, [], Nat.zero_le _, rfl, HH.out, RowsV.nil _ _ _, Turned.refl _ _⟩
  case round =>
    obtain ⟨jj, a, k, c', vs, hj, rfl, HBK, HRW, HT⟩ := hrel
    have HKWR : Hid (Kept W wr) := HT.out.from HK7.out fun q hq e => by have := HWH.out; omega
    have HBR := Lib.hid (HKWR.out.row HB.out)
    have j0 : (0 : Int) ≤ (jj : Int) := Int.natCast_nonneg _
    obtain ⟨f0, f1⟩ := box_facts HBR.out (Kept.refl wr)
    by_cases hjn : jj < cn
    · have j1 : (jj : Int) < (cn : Int) := by omega
      have hn0 : 0 < cn := by omega
      obtain ⟨p, hp⟩ : ∃ p, p = (jj + tn) % cn := ⟨_, rfl⟩
      have hpl : p < cn := by rw [hp]; exact Nat.mod_lt _ hn0
      have hmod := tmod_add hp.symm
      have HPM : Hid ((jj + tn) % C.length = p) := by show _ = _; rw [HCN.out]; exact hp.symm
      have hw1 : IntKind.i64.wrap ((jj : Int) + (tn : Int)) = (jj : Int) + (tn : Int) := IntWalk.i64_in _ (by omega)
      have hw2 : IntKind.i64.wrap (tn : Int) = (tn : Int) := IntWalk.i64_in _ (by omega)
      have hw3 : IntKind.i64.wrap (p : Int) = (p : Int) := IntWalk.i64_in _ (by omega)
      have p0 : (0 : Int) ≤ (p : Int) := Int.natCast_nonneg _
      have p1 : (p : Int) < (cn : Int) := by omega
      have n0 : ((cn : Int) == 0) = false := beq_eq_false_iff_ne.2 (by omega)
      have hkb : k ≤ 1000000 := by have h1 := HRW.out.len; have h2 := ordL_len C tn jj; omega
      obtain ⟨cb, off, rfl, hc⟩ := HC.out.at_ (by omega)
      obtain ⟨cl, hcj⟩ : ∃ c, C[p]? = some c := ⟨_, List.getElem?_eq_getElem (by rw [HCN.out]; exact hpl)⟩
      obtain ⟨a2, k2, cap2, x0, hIc, hz2, hkc⟩ := hc p cl hcj
      replace x0 := HKWR.out.cell x0
      have HIC := Lib.hid hIc
      have HF2 : Hid (Fit a2 k2 cap2) := ⟨hz2, hkc⟩
      have hk2 : k2 ≤ 30 := by rw [← hIc.len]; exact HFW.out.2 cl (List.mem_of_getElem? hcj)
      have HOS : Hid (ordL C tn (jj + 1) = ordL C tn jj ++ (cl.reverse :: if jj % 3 = 0 then [cl] else [])) := by
        show _ = _
        rw [ordL_succ, ordAt_some (by rw [HPM.out]; exact hcj)]
      clear hc hcj hIc hz2 hkc hp
      go_upto_region 7 with (fail)
      go_quiet (fail)
      clear f0 f1 x0 hmod hw1 hw2 hw3 n0
      have HKQ := Lib.hid (Kept.drewN (Kept.refl wr) nq)
      generalize wr.drewN nq = wo at *
      have HKWO := Lib.hid (HKWR.out.trans HKQ.out)
      have HRWO := Lib.hid (HRW.out.kept HKQ.out)
      have HBKO := Lib.hid (HKQ.out.row HBK.out)
      have HSZ := Lib.hid (show w7.heap.size ≤ wo.heap.size from Nat.le_trans HT.out.size HKQ.out.size)
      have HICO := Lib.hid (HIC.out.kept HKWO.out)
      go_wp2
      go_loopw [10, 11] (fun v10 i wr => ∃ (t : Nat) (m : Int) (a3 : Option Addr) (c3 : Nat), t ≤ k2 ∧ m = (k2 : Int) - 1 - t ∧ i = .int .i64 m ∧ v10 = .slice a3 t c3 ∧ Hid (wr.ownsRow wo.heap.size 3 1 (.slice a3 t c3) t ((cl.reverse.take t).map (Value.int .i64))) ∧ Hid (Kept wo wr)) (fun _ i _ => (intOf i + 1).toNat)
      case atStart => exact ⟨0, (k2 : Int) - 1, none, 0, Nat.zero_le _, by omega, by go_num, rfl, World.ownsRow_nil _ _ _ _, Kept.refl _⟩
      case round =>
        obtain ⟨t, m, a3, c3, ht, hm, rfl, rfl, HROW, HKI⟩ := hrel
        by_cases htk : t < k2
        · obtain ⟨j, hj⟩ : ∃ j : Nat, (j : Int) = m := ⟨m.toNat, by omega⟩
          subst hj
          have HM2 := Lib.hid hm
          have t0 : (0 : Int) ≤ (j : Int) := Int.natCast_nonneg _
          have t1 : (j : Int) < (k2 : Int) := by omega
          have HIW := Lib.hid (HICO.out.kept HKI.out)
          obtain ⟨b2, o2, rfl, hcc⟩ := HIW.out.at_ (by omega)
          have htl : j < cl.length := by rw [HIC.out.len]; omega
          obtain ⟨y, hy⟩ : ∃ y, cl[j]? = some y := ⟨_, List.getElem?_eq_getElem htl⟩
          have x1 := hcc j y hy
          have HFT := Lib.hid (rev_take (t := t) hy (by rw [HIC.out.len]; omega))
          clear hcc htl hy hm
          go_wp2_with (at_builtin; refine wpList_append_int (w0 := wr) rfl _ _ rfl wo.heap.size a3 t c3 _ rfl HROW.out y rfl rfl (by omega) HKI.out.size ?_; intro a4 c4 w4 hown4 hgrow4; have HOW4 := Lib.hid hown4; have HGR4 := Lib.hid hgrow4; clear hown4 hgrow4)
          have HK4 := Lib.hid (grow_kept HROW.out HKI.out (Nat.le_refl _) HGR4.out)
          go_roundw
          case rel => exact ⟨t + 1, (j : Int) - 1, a4, c4, by omega, by have := HM2.out; omega, by go_num, rfl, by show World.ownsRow _ _ _ _ _ _ _; rw [HFT.out]; exact HOW4.out, HK4.out⟩
          case measure => simp [intOf]
        · obtain rfl : t = k2 := by omega
          obtain rfl : m = -1 := by omega
          have htt : cl.reverse.take t = cl.reverse := by rw [← HIC.out.len, ← List.length_reverse]; exact List.take_length
          rw [htt] at HROW
          clear htt
          have HBK3 := Lib.hid (HKI.out.row HBKO.out)
          have HRW3 := Lib.hid (HRWO.out.kept HKI.out)
          have HNH : Hid ((Value.slice a k c').ownBlock ≠ some h) := by
            intro e
            have h1 := (HRW.out.row.lt h e).1
            have := HWH.out.2
            omega
          have HCV : Hid (ClauseV wr (TG (fun q => q = h) a) (.slice a3 t c3) cl.reverse) := by
            refine clauseV_new HROW.out (by rw [List.length_reverse]; exact HIC.out.len) (fun x hx => HIC.out.inr x (List.mem_reverse.1 hx)) fun q hq hTq => ?_
            rcases hTq with h1 | h1
            · have h2 := (Array.getElem?_eq_some_iff.1 HBKO.out).1
              omega
            · have h2 := (HRWO.out.row.lt q (by cases a with | none => cases h1 | some ad => simpa [Value.ownBlock] using h1)).2
              omega
          obtain ⟨q0, q1⟩ := box_facts HBK3.out (Kept.refl wr)
          have q2 := frozen_of_row HBK3.out 1
          have q3 := (Array.getElem?_eq_some_iff.1 HBK3.out).1
          have HSZ3 := Lib.hid (show w7.heap.size ≤ wr.heap.size from Nat.le_trans HSZ.out HKI.out.size)
          have z1 : (wr.alloc (.cells #[.slice a3 t c3] 25)).cell? ⟨h, 1, none⟩ = some (.slice a k c') := ((Kept.refl wr).alloc _).cell q1
          have z2 : (wr.alloc (.cells #[.slice a3 t c3] 25)).frozen? ⟨h, 1, none⟩ = false := frozen_of_row (((Kept.refl wr).alloc _).row HBK3.out) 1
          have z3 : h < (wr.alloc (.cells #[.slice a3 t c3] 25)).heap.size := by simp; omega
          go_upto_region 14 with (at_builtin; refine wpList_append_lies _ rfl _ _ _ rfl w7.heap.size 25 ii _ 1 24 Tryd.underlying22 HI.out.1 HI.out.2.1 HI.out.2.2.1 HI.out.2.2.2 rfl (by omega) (.slice a k c') k vs rfl (HRW3.out.row.alloc _) ⟨wr.heap.size, 0, none⟩ 1 1 [.slice a3 t c3] rfl rfl (World.news_of_block (cs := #[.slice a3 t c3]) (t := 25) (fr := (0, 0)) (heap_alloc_new wr _)) (by simp [Value.oneCell']) (by omega) (by unfold maxLen; omega) (by omega) (by have := HSZ3.out; simp; omega) (wr.heap.size + 1) (by simp) ?_; intro gg cap w10 hown10 hgrow10 hat10 hlt10; have c10 : w10.cell? ⟨h, 1, none⟩ = some (.slice a k c') := (hgrow10.cell_far ⟨h, 1, none⟩ z3 (Ne.symm HNH.out)).trans z1; have z10 : w10.frozen? ⟨h, 1, none⟩ = false := (hgrow10.frozen_far ⟨h, 1, none⟩ z3 (Ne.symm HNH.out)).trans z2; have HGR := Lib.hid hgrow10; have HOW := Lib.hid hown10; have HAT := Lib.hid hat10; clear hgrow10 hown10 hat10 hlt10)
          have hE := own_end (T0 := fun q => q = h) rfl HBK3.out HRW3.out (Kept.refl wr) HWH.out.2 HOW.out HGR.out HAT.out HCV.out HSZ3.out
          have HE := Lib.hid hE
          have HT9 : Hid (Turned (fun q => q = h) w7 (w10.setCell ⟨h, 1, none⟩ (.slice (some ⟨gg, 0, none⟩) (k + 1) cap))) := by
            refine (((HT.out.trans ((HKQ.out.trans HKI.out).turned _)).mono fun q _ e => Or.inl e).trans HE.out.2.2).mono fun q hq hTq => ?_
            rcases hTq with h1 | h1
            · exact h1
            · have h2 := (HRW.out.row.lt q (by cases a with | none => cases h1 | some ad => simpa [Value.ownBlock] using h1)).1
              omega
          clear hE c10 z10 q0 q1 q2 q3 z1 z2 z3
          obtain ⟨w9, hw9⟩ : ∃ w9 : World, w9 = w10.setCell ⟨h, 1, none⟩ (.slice (some ⟨gg, 0, none⟩) (k + 1) cap) := ⟨_, rfl⟩
          change Code.wp _ _ _ _ (w10.setCell ⟨h, 1, none⟩ (.slice (some ⟨gg, 0, none⟩) (k + 1) cap))
          rw [← hw9] at HE HT9 ⊢
          clear hw9
          have hmod3 : Int.tmod (jj : Int) 3 = ((jj % 3 : Nat) : Int) := by rw [Int.tmod_eq_emod_of_nonneg (by omega)]; omega
          by_cases h3 : jj % 3 = 0
          · have d3 : (((jj % 3 : Nat) : Int) == 0) = true := beq_iff_eq.2 (by omega)
            have HOS3 : Hid (ordL C tn (jj + 1) = (ordL C tn jj ++ [cl.reverse]) ++ [cl]) := by show _ = _; rw [HOS.out, if_pos h3]; simp
            clear h3
            have HBK4 := Lib.hid HE.out.1
            have HRW4 := Lib.hid HE.out.2.1
            have HKW9 : Hid (Kept W w9) := HT9.out.from HK7.out fun q hq e => by have := HWH.out; omega
            have HNH4 : Hid ((Value.slice (some ⟨gg, 0, none⟩) (k + 1) cap).ownBlock ≠ some h) := by
              intro e
              have h1 := (HRW4.out.row.lt h e).1
              have := HWH.out.2
              omega
            have HCV4 : Hid (ClauseV w9 (TG (fun q => q = h) (some ⟨gg, 0, none⟩)) (.slice a2 t cap2) cl) := by
              refine clauseV_old HIC.out HKW9.out HF2.out fun q hq hTq => ?_
              have h9 := HWH.out
              rcases hTq with h1 | h1
              · omega
              · have h2 := (HRW4.out.row.lt q (by simpa [Value.ownBlock] using h1)).1
                omega
            obtain ⟨q0, q1⟩ := box_facts HBK4.out (Kept.refl w9)
            have q2 := frozen_of_row HBK4.out 1
            have q3 := (Array.getElem?_eq_some_iff.1 HBK4.out).1
            have HSZ4 := Lib.hid (show w7.heap.size ≤ w9.heap.size from HT9.out.size)
            have z1 : (w9.alloc (.cells #[.slice a2 t cap2] 25)).cell? ⟨h, 1, none⟩ = some (.slice (some ⟨gg, 0, none⟩) (k + 1) cap) := ((Kept.refl w9).alloc _).cell q1
            have z2 : (w9.alloc (.cells #[.slice a2 t cap2] 25)).frozen? ⟨h, 1, none⟩ = false := frozen_of_row (((Kept.refl w9).alloc _).row HBK4.out) 1
            have z3 : h < (w9.alloc (.cells #[.slice a2 t cap2] 25)).heap.size := by simp; omega
            go_wp2_with (at_builtin; refine wpList_append_lies _ rfl _ _ _ rfl w7.heap.size 25 ii _ 1 24 Tryd.underlying22 HI.out.1 HI.out.2.1 HI.out.2.2.1 HI.out.2.2.2 rfl (by omega) (.slice (some ⟨gg, 0, none⟩) (k + 1) cap) (k + 1) (vs ++ [.slice a3 t c3]) rfl (HRW4.out.row.alloc _) ⟨w9.heap.size, 0, none⟩ 1 1 [.slice a2 t cap2] rfl rfl (World.news_of_block (cs := #[.slice a2 t cap2]) (t := 25) (fr := (0, 0)) (heap_alloc_new w9 _)) (by simp [Value.oneCell']) (by omega) (by unfold maxLen; omega) (by omega) (by have := HSZ4.out; simp; omega) (w9.heap.size + 1) (by simp) ?_; intro g2 cap3 w12 hown10 hgrow10 hat10 hlt10; have c10 : w12.cell? ⟨h, 1, none⟩ = some (.slice (some ⟨gg, 0, none⟩) (k + 1) cap) := (hgrow10.cell_far ⟨h, 1, none⟩ z3 (Ne.symm HNH4.out)).trans z1; have z10 : w12.frozen? ⟨h, 1, none⟩ = false := (hgrow10.frozen_far ⟨h, 1, none⟩ z3 (Ne.symm HNH4.out)).trans z2; have HGR5 := Lib.hid hgrow10; have HOW5 := Lib.hid hown10; have HAT5 := Lib.hid hat10; clear hgrow10 hown10 hat10 hlt10)
            have hE := own_end (T0 := fun q => q = h) rfl HBK4.out HRW4.out (Kept.refl w9) HWH.out.2 HOW5.out HGR5.out HAT5.out HCV4.out HSZ4.out
            have HE5 := Lib.hid hE
            clear hE c10 z10 q0 q1 q2 q3 z1 z2 z3
            go_roundw
            case rel =>
              refine ⟨jj + 1, some ⟨g2, 0, none⟩, k + 1 + 1, cap3, (vs ++ [.slice a3 t c3]) ++ [.slice a2 t cap2], by omega, by go_num, HE5.out.1, ?_, ?_⟩
              · show RowsV _ _ _ _ _ _ _ _
                rw [HOS3.out]; exact HE5.out.2.1
              · refine ((HT9.out.mono fun q _ e => Or.inl e).trans HE5.out.2.2).mono fun q hq hTq => ?_
                rcases hTq with h1 | h1
                · exact h1
                · have h2 := (HRW4.out.row.lt q (by simpa [Value.ownBlock] using h1)).1
                  omega
            case measure => simp [intOf]; omega
          · have d3 : (((jj % 3 : Nat) : Int) == 0) = false := beq_eq_false_iff_ne.2 (by omega)
            have HOS3 : Hid (ordL C tn (jj + 1) = ordL C tn jj ++ [cl.reverse]) := by show _ = _; rw [HOS.out, if_neg h3]
            clear h3
            go_wp2
            go_roundw
            case rel =>
              refine ⟨jj + 1, some ⟨gg, 0, none⟩, k + 1, cap, vs ++ [.slice a3 t c3], by omega, by go_num, HE.out.1, ?_, HT9.out⟩
              show RowsV _ _ _ _ _ _ _ _
              rw [HOS3.out]; exact HE.out.2.1
            case measure => simp [intOf]; omega
    · obtain rfl : jj = cn := by omega
      obtain ⟨D, hD⟩ : ∃ D, D = ordL C tn jj := ⟨_, rfl⟩
      have hal := ord_alike C tn
      rw [HCN.out, ← hD] at hal
      have HAL := Lib.hid hal
      have HDL : Hid (D.length ≤ 80) := by
        have := ordL_len C tn jj
        rw [← hD] at this
        show _ ≤ _; omega
      have HDS : Hid (∀ d ∈ D, d.length ≤ 30) := fun d hd => by
        rw [hD] at hd
        obtain ⟨c, hc, hl, _⟩ := mem_ordL hd
        rw [hl]; exact HFW.out.2 c hc
      have HREQ : Hid (rightB V D = rightB V C) := right_alike hal (by have := HFW.out.1; omega) (by have := HDL.out; omega)
      have HHEQ : Hid (holdsB V D M = holdsB V C M) := holds_alike hal HREQ.out
      rw [← hD] at HRW
      clear hal hD
      have HDSH : Hid (∀ c ∈ D, c.length ≤ 1000000) := fun c hc => Nat.le_trans (HDS.out c hc) (by decide)
      have HCF : Hid (C.flatten.length ≤ 1000000) := Nat.le_trans (flat_len HFW.out.2) (by have := HFW.out.1; omega)
      have HDF : Hid (D.flatten.length ≤ 1000000) := Nat.le_trans (flat_len HDS.out) (by have := HDL.out; omega)
      have HCD := Lib.hid HRW.out.cls
      have hk80 : k ≤ 80 := by have h1 := HCD.out.len; have h2 := HDL.out; omega
      go_wp2_with fail
      refine (units_any V ca jj cc C wr HV.out (HC.out.kept HKWR.out) (by omega) HSH.out HCF.out).mono ?_
      rintro e w8 hpost
      obtain ⟨hk8, ua, uk, uc, okU, K, rfl, hI8, hU8⟩ := hpost.told
      have HK8 := Lib.hid hk8
      have HI8 := Lib.hid hI8
      have HU8 := Lib.hid hU8
      clear hpost hI8 hU8 hk8 f0 f1
      obtain ⟨g0, g1⟩ := box_facts HBK.out HK8.out
      go_wp2_with fail
      refine (units_any V a k c' D w8 HV.out (HCD.out.kept HK8.out) (by omega) HDSH.out HDF.out).mono ?_
      rintro e w9 hpost
      obtain ⟨hk9, va, vk, vc, okV, K2, rfl, hI9, hU9⟩ := hpost.told
      obtain ⟨rfl, rfl⟩ := HU8.out.eq (hU9.alike HAL.out HREQ.out)
      have HI9 := Lib.hid hI9
      have HK9 := Lib.hid (HK8.out.trans hk9)
      have HI89 := Lib.hid (HI8.out.kept hk9)
      clear hpost hI9 hU9 hk9 g0 g1
      have huk : uk ≤ 1000000 := by
        have h1 := HI8.out.len
        have h2 := HU8.out.len
        have h3 := HCF.out
        omega
      have b0 : (okV == okV) = true := by simp
      have b1 : (rightB V C == rightB V C) = true := by simp
      have b2 : (holdsB V C M == holdsB V C M) = true := by simp
      have HKW9 := Lib.hid (HKWR.out.trans HK9.out)
      have HR1 : Hid (∀ w', Kept w9 w' → Calls Tryd.prog 15 #[.agg #[.int .i64 V, .slice ca jj cc]] w' fun e w2 => e = .returned (.bool (rightB V C)) ∧ Kept w' w2) := fun w' hk =>
        right_any V ca jj cc C w' HV.out (HC.out.kept (HKW9.out.trans hk)) (by omega) (Short.le HSH.out)
      have HR2 : Hid (∀ w', Kept w9 w' → Calls Tryd.prog 15 #[.agg #[.int .i64 V, .slice a k c']] w' fun e w2 => e = .returned (.bool (rightB V C)) ∧ Kept w' w2) := fun w' hk => by
        rw [← HREQ.out]
        exact right_any V a k c' D w' HV.out (HCD.out.kept (HK9.out.trans hk)) (by omega) (Short.le HDSH.out)
      have HH1 : Hid (∀ w', Kept w9 w' → Calls Tryd.prog 18 #[.agg #[.int .i64 V, .slice ca jj cc], .slice ma n c] w' fun e w2 => e = .returned (.bool (holdsB V C M)) ∧ Kept w' w2) := fun w' hk =>
        holds_any V ca ma jj cc n c C M w' HV.out (HC.out.kept (HKW9.out.trans hk)) (by omega) HSH.out (HM.out.kept (HKW9.out.trans hk)) (by omega)
      have HH2 : Hid (∀ w', Kept w9 w' → Calls Tryd.prog 18 #[.agg #[.int .i64 V, .slice a k c'], .slice ma n c] w' fun e w2 => e = .returned (.bool (holdsB V C M)) ∧ Kept w' w2) := fun w' hk => by
        rw [← HHEQ.out]
        exact holds_any V a ma k c' n c D M w' HV.out (HCD.out.kept (HK9.out.trans hk)) (by omega) HDSH.out (HM.out.kept (HKW9.out.trans hk)) (by omega)
      have HSM : Hid (∀ w', Kept w9 w' → Calls Tryd.prog 14 #[.slice ua uk uc, .slice va vk vc] w' fun e w2 => e = .returned (.bool true) ∧ Kept w' w2) := fun w' hk =>
        same_true ua va uk uc vk vc K2 K2 w' (HI89.out.kept hk) (HI9.out.kept hk) rfl (by omega)
      have HWK : Hid (∀ w', Kept w9 w' → Calls Tryd.prog 7 #[] w' fun e w2 => e = .returned (.bool true) ∧ Kept w' w2) := fun w' hk =>
        works_any _ (HW.out.kept (HKW9.out.trans hk))
      have HRB : Hid (∀ (ar : Array Value) (w' : World), Kept w9 w' → (ar = #[.agg #[.int .i64 V, .slice ca jj cc]] ∨ ar = #[.agg #[.int .i64 V, .slice a k c']]) → Calls Tryd.prog 15 ar w' fun e w2 => e = .returned (.bool (rightB V C)) ∧ Kept w' w2) := fun ar w' hk h => by
        rcases h with rfl | rfl
        · exact HR1.out w' hk
        · exact HR2.out w' hk
      have HHB : Hid (∀ (ar : Array Value) (w' : World), Kept w9 w' → (ar = #[.agg #[.int .i64 V, .slice ca jj cc], .slice ma n c] ∨ ar = #[.agg #[.int .i64 V, .slice a k c'], .slice ma n c]) → Calls Tryd.prog 18 ar w' fun e w2 => e = .returned (.bool (holdsB V C M)) ∧ Kept w' w2) := fun ar w' hk h => by
        rcases h with rfl | rfl
        · exact HH1.out w' hk
        · exact HH2.out w' hk
      have FN : Hid (∀ w', Kept w9 w' → Kept w9 w' ∧ (w'.cell? ⟨fb, 0, none⟩ = some (.int .i64 V) ∧ w'.cell? ⟨fb, 1, none⟩ = some (.slice ca jj cc)) ∧ w'.cell? ⟨h, 0, none⟩ = some (.int .i64 V) ∧ w'.cell? ⟨h, 1, none⟩ = some (.slice a k c')) := fun w' hk =>
        ⟨hk, box_facts HBR.out (HK9.out.trans hk), box_facts HBK.out (HK9.out.trans hk)⟩
      clear HR1 HR2 HH1 HH2 HU8 HHEQ HREQ HAL HDF HDS HDSH HDL HCF HRW HCD HT HI HFW HSH HI89 HI9 HB7 HWH HK7 HH huk hk80
      generalize rightB V C = rb at *
      generalize holdsB V C M = hb at *
      go_upto_region 18 with (fail)
      go_region_held3 (fun w' => Kept w9 w' ∧ (w'.cell? ⟨fb, 0, none⟩ = some (.int .i64 V) ∧ w'.cell? ⟨fb, 1, none⟩ = some (.slice ca jj cc)) ∧ w'.cell? ⟨h, 0, none⟩ = some (.int .i64 V) ∧ w'.cell? ⟨h, 1, none⟩ = some (.slice a k c'))
        (first | exact FN.out _ (Kept.refl _) | exact FN.out _ (Kept.drew (Kept.refl _)) | assumption | exact FN.out _ (Kept.trans (And.left ‹Kept w9 _ ∧ _›) (by assumption)))
        ((first
          | (go_at_call 15; refine (HRB.out _ _ (And.left ‹Kept w9 _ ∧ _›) (by first | exact Or.inl rfl | exact Or.inr rfl)).mono ?_; rintro e w10 ⟨rfl, hk10⟩)
          | (go_at_call 18; refine (HHB.out _ _ (And.left ‹Kept w9 _ ∧ _›) (by first | exact Or.inl rfl | exact Or.inr rfl)).mono ?_; rintro e w10 ⟨rfl, hk10⟩)
          | (go_at_call 14; refine (HSM.out _ (And.left ‹Kept w9 _ ∧ _›)).mono ?_; rintro e w10 ⟨rfl, hk10⟩)
          | (go_at_call 7; refine (HWK.out _ (And.left ‹Kept w9 _ ∧ _›)).mono ?_; rintro e w10 ⟨rfl, hk10⟩)))
      have HKE := Lib.hid (HK0.out.trans (HKW9.out.trans (And.left ‹Kept w9 _ ∧ _›)))
      go_wp2
      go_ret
      exact ⟨rfl, HKE.out⟩
end Go.Proofs.YtemijkfgnedlnaaDoor
