/-
  Several texts in one: NBinM: Layer 4, NormBin: contracts: what Bool and Number tell of a term, Not of no term, the statement's own Bool and Known.; NBinL: Layer 4, NormBin: what is made of any two terms has the value of what the operation makes of theirs: the law's walk..
-/
import Derived.Test.YtgkjdmojbndicaaGreatDoorMY
import Derived.Test.YtgkjdmojbndicaaGreatDoorMD
import Derived.Deep.DeepCutAuto
namespace Go.Proofs.YtgkjdmojbndicaaGreatDoor
open Go Go.RowKit

set_option maxHeartbeats 400000 in
theorem oknown_low (op : Int) (w : World) (h1 : op < 1) : Calls Tryz.prog 23 #[.int .u8 op] w fun e w' => e = .returned (.bool false) ∧ w = w' := by
  go_enter Tryz.func23, Tryz.ntmps23
  go_wp2
  go_ret
  exact ⟨rfl, rfl⟩
set_option maxHeartbeats 400000 in
theorem oknown_high (op : Int) (w : World) (h1 : 1 ≤ op) (h2 : ¬ op ≤ 16) : Calls Tryz.prog 23 #[.int .u8 op] w fun e w' => e = .returned (.bool false) ∧ w = w' := by
  go_enter Tryz.func23, Tryz.ntmps23
  go_wp2
  go_ret
  exact ⟨rfl, rfl⟩
set_option maxHeartbeats 400000 in
theorem oknown_yes (op : Int) (w : World) (h1 : 1 ≤ op) (h2 : op ≤ 16) : Calls Tryz.prog 23 #[.int .u8 op] w fun e w' => e = .returned (.bool true) ∧ w = w' := by
  go_enter Tryz.func23, Tryz.ntmps23
  go_wp2
  go_ret
  exact ⟨rfl, rfl⟩
theorem oknown_any (op : Int) (w : World) : Calls Tryz.prog 23 #[.int .u8 op] w fun e w' => e = .returned (.bool (knownB op)) ∧ w = w' := by
  unfold knownB
  by_cases h1 : op < 1
  · refine (oknown_low op w h1).mono ?_
    rintro e w' ⟨rfl, rfl⟩
    simp; omega
  · by_cases h2 : op ≤ 16
    · refine (oknown_yes op w (by omega) h2).mono ?_
      rintro e w' ⟨rfl, rfl⟩
      simp; omega
    · refine (oknown_high op w (by omega) h2).mono ?_
      rintro e w' ⟨rfl, rfl⟩
      simp; omega
set_option maxHeartbeats 1000000 in
theorem oplain_any (d : Nd) (w : World) : Calls Tryz.prog 21 #[d.val] w fun e w' => e = .returned d.val ∧ Kept w w' := by
  simp only [Nd.val]
  go_enter Tryz.func21, Tryz.ntmps21
  go_wp2
  exact bodyPost_ret (v := d.val) (by simp [results, Tryz.results21, go_sem, Nd.val]) rfl ⟨rfl, ((Kept.refl _).alloc _).alloc _⟩
set_option maxHeartbeats 8000000 in
theorem rbool_any (d : Nd) (w : World) :
    Calls Tryz.prog 20 #[d.val] w fun e w' => e = .returned (.bool (truthN d)) ∧ Kept w w' := by
  simp only [Nd.val]
  by_cases h4 : d.k = 4
  · have b4 : (d.k == 4) = true := beq_iff_eq.2 h4
    have b1 : (d.k == 1) = false := beq_eq_false_iff_ne.2 (by omega)
    have HE : Hid (truthN d = (d.o == 14 || d.o == 15 || d.o == 16)) := by
      show _ = _
      unfold truthN
      rw [b1, b4]; simp
    clear h4
    by_cases o14 : d.o = 14
    · have m0 : (d.o == 14) = true := beq_iff_eq.2 o14
      clear o14
      go_enter Tryz.func20, Tryz.ntmps20
      go_wp2
      go_ret
      exact ⟨by rw [HE.out, m0]; rfl, (Kept.refl _).alloc _⟩
    have m0 : (d.o == 14) = false := beq_eq_false_iff_ne.2 o14
    by_cases o15 : d.o = 15
    · have m1 : (d.o == 15) = true := beq_iff_eq.2 o15
      clear o14 o15
      go_enter Tryz.func20, Tryz.ntmps20
      go_wp2
      go_ret
      exact ⟨by rw [HE.out, m0, m1]; rfl, (Kept.refl _).alloc _⟩
    have m1 : (d.o == 15) = false := beq_eq_false_iff_ne.2 o15
    by_cases o16 : d.o = 16
    · have m2 : (d.o == 16) = true := beq_iff_eq.2 o16
      clear o14 o15 o16
      go_enter Tryz.func20, Tryz.ntmps20
      go_wp2
      go_ret
      exact ⟨by rw [HE.out, m0, m1, m2]; rfl, (Kept.refl _).alloc _⟩
    have m2 : (d.o == 16) = false := beq_eq_false_iff_ne.2 o16
    clear o14 o15 o16
    go_enter Tryz.func20, Tryz.ntmps20
    go_wp2
    go_ret
    exact ⟨by rw [HE.out, m0, m1, m2]; rfl, (Kept.refl _).alloc _⟩
  have b4 : (d.k == 4) = false := beq_eq_false_iff_ne.2 h4
  by_cases h1 : d.k = 1
  · have b1 : (d.k == 1) = true := beq_iff_eq.2 h1
    have HE : Hid (truthN d = (d.n == 0 || d.n == 1)) := by
      show _ = _
      unfold truthN
      rw [b1, b4]; simp
    clear h1 h4
    by_cases n0 : d.n = 0
    · have m0 : (d.n == 0) = true := beq_iff_eq.2 n0
      clear n0
      go_enter Tryz.func20, Tryz.ntmps20
      go_wp2
      go_ret
      exact ⟨by rw [HE.out, m0]; rfl, (Kept.refl _).alloc _⟩
    have m0 : (d.n == 0) = false := beq_eq_false_iff_ne.2 n0
    by_cases n1 : d.n = 1
    · have m1 : (d.n == 1) = true := beq_iff_eq.2 n1
      clear n0 n1
      go_enter Tryz.func20, Tryz.ntmps20
      go_wp2
      go_ret
      exact ⟨by rw [HE.out, m0, m1]; rfl, (Kept.refl _).alloc _⟩
    have m1 : (d.n == 1) = false := beq_eq_false_iff_ne.2 n1
    clear n0 n1
    go_enter Tryz.func20, Tryz.ntmps20
    go_wp2
    go_ret
    exact ⟨by rw [HE.out, m0, m1]; rfl, (Kept.refl _).alloc _⟩
  have b1 : (d.k == 1) = false := beq_eq_false_iff_ne.2 h1
  have HE : Hid (truthN d = false) := by
    show _ = _
    unfold truthN
    rw [b1, b4]; simp
  clear h1 h4
  go_enter Tryz.func20, Tryz.ntmps20
  go_wp2
  go_ret
  exact ⟨by rw [HE.out]; rfl, (Kept.refl _).alloc _⟩
end Go.Proofs.YtgkjdmojbndicaaGreatDoor

namespace Go.Proofs.YtgkjdmojbndicaaGreatDoor
open Go Go.RowKit

section
variable {w0 w : World} {B g m : Nat} {P : List (Nat × Obj)} {L : List Nd}
theorem binbad_ses (h : Ses w0 B g m P w L) (op x y : Int) (hx : InR x) (hy : InR y) (hb : knownB op = false ∨ hasB L.length x = false ∨ hasB L.length y = false) :
    Calls Tryz.prog 13 #[.pointer (some ⟨g, 0, none⟩), .int .u8 op, .int .i64 x, .int .i64 y] w fun e w' => e = .returned (.int .i64 (-1)) ∧ Kept w w' := by
  obtain ⟨a, c, hG, hP⟩ := h.gr
  exact bin_bad hG op x y hx hy hb
theorem notbad_ses (h : Ses w0 B g m P w L) (x : Int) (hx : InR x) (hb : hasB L.length x = false) :
    Calls Tryz.prog 14 #[.pointer (some ⟨g, 0, none⟩), .int .i64 x] w fun e w' => e = .returned (.int .i64 (-1)) ∧ Kept w w' := by
  obtain ⟨a, c, hG, hP⟩ := h.gr
  exact not_bad hG x hx hb
theorem node_ses (h : Ses w0 B g m P w L) (i : Int) :
    Calls Tryz.prog 17 #[.pointer (some ⟨g, 0, none⟩), .int .i64 i] w fun e w' => e = .returned (.tuple #[(nodeAt L i).val, .bool (hasB L.length i)]) ∧ Kept w w' := by
  obtain ⟨a, c, hG, hP⟩ := h.gr
  exact node_any hG i
theorem number_ses (h : Ses w0 B g m P w L) (i : Int) :
    Calls Tryz.prog 18 #[.pointer (some ⟨g, 0, none⟩), .int .i64 i] w fun e w' => e = .returned (.tuple #[.int .i64 (numN (nodeAt L i)), .bool (isC (nodeAt L i))]) ∧ Kept w w' := by
  obtain ⟨a, c, hG, hP⟩ := h.gr
  exact number_any hG i
theorem bool_ses (h : Ses w0 B g m P w L) {w1 : World} (hk : Kept w w1) (i : Int) :
    Calls Tryz.prog 19 #[.pointer (some ⟨g, 0, none⟩), .int .i64 i] w1 fun e w' => e = .returned (.bool (truthN (nodeAt L i))) ∧ Kept w1 w' := by
  obtain ⟨a, c, hG, hP⟩ := (h.then hk).gr
  exact bool_any hG i
end
theorem has_none (n : Nat) : hasB n (-1) = false := by unfold hasB; simp
theorem has_size (n : Nat) : hasB n (n : Int) = false := by unfold hasB; simp
theorem ofI_none {S : List Int} {C : List Cl} (L : List Nd) : ofI S C L (-1) = 0 := by unfold ofI; rw [has_none]; rfl
theorem ofI_has {S : List Int} {C : List Cl} {L : List Nd} {i : Int} (h : hasB L.length i = true) : ofI S C L i = valI S C L i := by unfold ofI; rw [h]; rfl
set_option maxRecDepth 100000 in
set_option maxHeartbeats 16000000 in
theorem normbin_any (la : Option Addr) (n lc : Nat) (ds : List Nd) (s : Sl) (S : List Int) (C : List Cl) (op x y : Int) (w : World) (hds : NodesAt w la n ds) (hE : EnvAt w s.sa s.sn s.ca s.cn S C) (hx : InR x) (hy : InR y) (hL : Laid w) (hT : Tab w) :
    Calls Tryz.prog 3 #[.slice la n lc, .agg #[.slice s.sa s.sn s.sc, .slice s.ca s.cn s.cc], .int .u8 op, .int .i64 x, .int .i64 y] w fun e w' => e = .returned (.bool true) ∧ Kept w w' := by
  have hk0 := (Kept.refl w).alloc (.cells #[.slice s.sa s.sn s.sc, .slice s.ca s.cn s.cc] 26)
  have HK0 := Lib.hid hk0
  have HB := Lib.hid (show EnvB (w.alloc (.cells #[.slice s.sa s.sn s.sc, .slice s.ca s.cn s.cc] 26)) w.heap.size s from (MapKept.heap_alloc w _).1)
  have HD := Lib.hid (hds.kept hk0)
  have HE := Lib.hid (hE.kept hk0)
  have HL := Lib.hid (And.intro (hL.kept hk0) (hT.below hk0))
  have HXY := Lib.hid (And.intro hx hy)
  clear hds hE hL hT hk0 hx hy
  go_enter Tryz.func3, Tryz.ntmps3
  go_upto_region 1 with (fail)
  change Code.wp _ _ _ _ (w.alloc (.cells #[.slice s.sa s.sn s.sc, .slice s.ca s.cn s.cc] 26))
  generalize w.alloc (.cells #[.slice s.sa s.sn s.sc, .slice s.ca s.cn s.cc] 26) = W at *
  obtain ⟨be, hbe⟩ : ∃ be : Nat, be = w.heap.size := ⟨_, rfl⟩
  rw [← hbe] at HB ⊢
  clear hbe
  by_cases h40 : n ≤ 40
  · have d40 : decide ((40 : Int) < (n : Int)) = false := decide_eq_false (by omega)
    have HN40 := Lib.hid h40
    clear h40
    have ef := HB.out.facts
    have e0 := ef.1
    have e1 := ef.2
    clear ef
    go_wp2_with fail
    refine (few_any s _).mono ?_
    rintro e w1 ⟨rfl, hk1⟩
    have HK1 := Lib.hid hk1
    clear hk1 e0 e1
    cases hf : fewB s.sn s.cn with
    | false =>
      clear hf
      go_wp2_with fail
      refine (works_any _ (HL.out.1.kept HK1.out) (HL.out.2.below HK1.out)).mono ?_
      rintro e w2 ⟨rfl, hk2⟩
      have HK2 := Lib.hid (HK0.out.trans (HK1.out.trans hk2))
      clear hk2
      go_wp2
      go_ret
      exact ⟨rfl, HK2.out⟩
    | true =>
      have HFEW : Hid (s.sn ≤ 60 ∧ s.cn ≤ 60) := by
        unfold fewB at hf
        simp at hf
        exact hf
      clear hf
      go_wp2_with fail
      refine (made_any la n lc ds _ (HD.out.kept HK1.out) (by have := HN40.out; omega) (HL.out.1.kept HK1.out)).mono ?_
      rintro e w2 ⟨g, m, v, rfl, ⟨a, c, a', c', hG, rfl, hrow, _⟩, hk⟩
      have htk : ds.take n = ds := List.take_of_length_le (by rw [HD.out.len]; exact Nat.le_refl _)
      rw [htk] at hG
      have hlen : (addsL ds).length ≤ 40 := Nat.le_trans (addsL_len ds) (by rw [HD.out.len]; exact HN40.out)
      obtain ⟨L0, hL0⟩ : ∃ L, L = addsL ds := ⟨_, rfl⟩
      rw [← hL0] at hG hlen
      obtain ⟨B, hB⟩ : ∃ B : Nat, B = w1.heap.size := ⟨_, rfl⟩
      have hWB : W.heap.size ≤ B := by rw [hB]; exact HK1.out.size
      rw [← hB] at hG
      have HS := Lib.hid (show Ses W B g m [] w2 L0 from ⟨⟨_, _, hG, fun q hq => by cases hq⟩, HK1.out.trans hk, hWB, HL.out⟩)
      have HN := Lib.hid hlen
      have HG0 := Lib.hid hG.good
      clear hG hk hrow htk hlen hL0 hB hWB
      go_wp2_with fail
      refine (size_ses HS.out).mono ?_
      rintro e w' ⟨rfl, rfl⟩
      obtain ⟨q, hq⟩ : ∃ q : Nat, q = L0.length := ⟨_, rfl⟩
      have HQ := Lib.hid hq
      rw [← hq] at HN ⊢
      clear hq
      have z0 : InR 0 := by unfold InR; decide
      have HZ := Lib.hid z0
      clear z0
      by_cases hq0 : q = 0
      · have b0 : ((q : Int) == 0) = true := by rw [hq0]; rfl
        have HB0 : Hid (hasB L0.length 0 = false) := by
          show _ = _
          rw [← HQ.out, hq0]
          rfl
        clear hq0
        go_wp2_with fail
        refine (binbad_ses HS.out op 0 0 HZ.out HZ.out (Or.inr (Or.inl HB0.out))).mono ?_
        rintro e w3 ⟨rfl, hk⟩
        have HS2 := Lib.hid (HS.out.then hk)
        clear hk
        go_wp2_with fail
        refine (notbad_ses HS2.out 0 HZ.out HB0.out).mono ?_
        rintro e w4 ⟨rfl, hk⟩
        have HS3 := Lib.hid (HS2.out.then hk)
        clear hk
        go_wp2_with fail
        refine (works_any _ (HL.out.1.kept HS3.out.kept) (HL.out.2.below HS3.out.kept)).mono ?_
        rintro e w5 ⟨rfl, hk5⟩
        have HK5 := Lib.hid (HK0.out.trans (HS3.out.kept.trans hk5))
        clear hk5
        go_wp2
        go_ret
        exact ⟨rfl, HK5.out⟩
      · have b0 : ((q : Int) == 0) = false := beq_eq_false_iff_ne.2 (by omega)
        have HL40 : Hid (L0.length ≤ 40) := by rw [← HQ.out]; exact HN.out
        have HPX : Hid (hasB L0.length (pickI x L0.length) = true) := pickI_has x (by rw [← HQ.out]; exact hq0)
        have HPY : Hid (hasB L0.length (pickI y L0.length) = true) := pickI_has y (by rw [← HQ.out]; exact hq0)
        clear hq0
        go_wp2_with fail
        refine (at_ses HS.out x HXY.out.1 (Nat.le_trans HL40.out (by decide))).mono ?_
        rintro e w' ⟨rfl, rfl⟩
        generalize pickI x L0.length = ia at *
        go_wp2_with fail
        refine (at_ses HS.out y HXY.out.2 (Nat.le_trans HL40.out (by decide))).mono ?_
        rintro e w' ⟨rfl, rfl⟩
        generalize pickI y L0.length = ib at *
        have HIA : Hid (InR ia) := has_in (Nat.le_trans HL40.out (by decide)) HPX.out
        have HIB : Hid (InR ib) := has_in (Nat.le_trans HL40.out (by decide)) HPY.out
        have HDA : Hid (dN L0 ia ≤ 40) := deep_index HG0.out HPX.out HL40.out
        have HDB : Hid (dN L0 ib ≤ 40) := deep_index HG0.out HPY.out HL40.out
        have ef := (show EnvB _ be s from HS.out.kept.row HB.out).facts
        have e0 := ef.1
        have e1 := ef.2
        clear ef
        go_wp2_with fail
        refine (value_ses HS.out (Nat.le_trans HL40.out (by decide)) (s := s) (HE.out.kept HS.out.kept) (by have := HFEW.out; omega) (by have := HFEW.out; omega) ia HIA.out).mono ?_
        rintro e w3 ⟨rfl, hk4⟩
        rw [HPX.out]
        have HS2 := Lib.hid (HS.out.then hk4)
        clear hk4 e0 e1
        have ef := (show EnvB _ be s from HS2.out.kept.row HB.out).facts
        have e0 := ef.1
        have e1 := ef.2
        clear ef
        go_wp2_with fail
        refine (value_ses HS2.out (Nat.le_trans HL40.out (by decide)) (s := s) (HE.out.kept HS2.out.kept) (by have := HFEW.out; omega) (by have := HFEW.out; omega) ib HIB.out).mono ?_
        rintro e w4 ⟨rfl, hk4⟩
        rw [HPY.out]
        have HS3 := Lib.hid (HS2.out.then hk4)
        clear hk4 e0 e1
        clear HS HS2
        obtain ⟨va, hva⟩ : ∃ v, v = ofI S C L0 ia := ⟨_, rfl⟩
        obtain ⟨vb, hvb⟩ : ∃ v, v = ofI S C L0 ib := ⟨_, rfl⟩
        rw [← hva, ← hvb]
        have HVA : Hid (va = valI S C L0 ia) := hva.trans (ofI_has HPX.out)
        have HVB : Hid (vb = valI S C L0 ib) := hvb.trans (ofI_has HPY.out)
        clear hva hvb
        go_wp2_with fail
        refine (node_ses HS3.out ia).mono ?_
        rintro e w5 ⟨rfl, hk5⟩
        rw [HPX.out]
        obtain ⟨dd, hdd⟩ : ∃ d, d = nodeAt L0 ia := ⟨_, rfl⟩
        rw [← hdd]
        have HDD := Lib.hid hdd
        clear hdd
        simp only [Nd.val]
        have HS4 := Lib.hid (HS3.out.then (hk5.trans ((Kept.refl w5).alloc (nodeObj dd))))
        have HBN := Lib.hid (MapKept.heap_alloc w5 (nodeObj dd)).1
        clear hk5 HS3
        go_upto_region 10 with (fail)
        change Code.wp _ _ _ _ (w5.alloc (nodeObj dd))
        generalize w5.alloc (nodeObj dd) = W6 at *
        obtain ⟨bn, hbn⟩ : ∃ bn : Nat, bn = w5.heap.size := ⟨_, rfl⟩
        rw [← hbn] at HBN ⊢
        clear hbn
        go_wp2_with fail
        refine (number_ses HS4.out ia).mono ?_
        rintro e w7 ⟨rfl, hk7⟩
        rw [← HDD.out]
        have HS7 := Lib.hid (HS4.out.then hk7)
        have HBN7 := Lib.hid (hk7.row HBN.out)
        clear hk7 HS4 HBN
        go_upto_region 11 with (fail)
        go_cut [21, 22, 116] (fun _ _ t wx => t = .bool false ∧ Kept w7 wx)
        case first =>
          have FN : Hid (∀ w', Kept w7 w' → Kept w7 w' ∧ w'.cell? ⟨bn, 0, none⟩ = some (.int .u8 dd.k) ∧ w'.cell? ⟨bn, 1, none⟩ = some (.int .i64 dd.n) ∧ w'.cell? ⟨bn, 2, none⟩ = some (.int .i64 dd.a) ∧ w'.cell? ⟨bn, 3, none⟩ = some (.int .u8 dd.o) ∧ w'.cell? ⟨bn, 4, none⟩ = some (.int .i64 dd.x) ∧ w'.cell? ⟨bn, 5, none⟩ = some (.int .i64 dd.y)) := fun w' hk => by
            obtain ⟨z0, z1, z2, z3, z4, z5⟩ := box_facts HBN7.out hk
            exact ⟨hk, z0, z1, z2, z3, z4, z5⟩
          have tt : (truthN dd != truthN dd) = false := by simp
          by_cases hc : dd.k = 1
          · have c1 : (dd.k == 1) = true := beq_iff_eq.2 hc
            have HC1 : Hid (isC dd = true ∧ numN dd = dd.n) := by
              have e : isC dd = true := (isC_iff dd).2 hc
              exact ⟨e, by unfold numN; rw [e]; rfl⟩
            rw [HC1.out.1, HC1.out.2]
            clear hc
            have nn : (dd.n != dd.n) = false := by simp
            go_region_held3 (fun w' => Kept w7 w' ∧ w'.cell? ⟨bn, 0, none⟩ = some (.int .u8 dd.k) ∧ w'.cell? ⟨bn, 1, none⟩ = some (.int .i64 dd.n) ∧ w'.cell? ⟨bn, 2, none⟩ = some (.int .i64 dd.a) ∧ w'.cell? ⟨bn, 3, none⟩ = some (.int .u8 dd.o) ∧ w'.cell? ⟨bn, 4, none⟩ = some (.int .i64 dd.x) ∧ w'.cell? ⟨bn, 5, none⟩ = some (.int .i64 dd.y))
            (first | exact FN.out _ (Kept.refl _) | exact FN.out _ (Kept.drew (Kept.refl _)) | assumption | exact FN.out _ (Kept.trans (And.left ‹Kept w7 _ ∧ _›) (by assumption)))
            ((first
              | (go_at_call 19; refine (bool_ses HS7.out (And.left ‹Kept w7 _ ∧ _›) ia).mono ?_; rintro e w8 ⟨rfl, hk8⟩; rw [← HDD.out])
              | (go_at_call 21; refine (oplain_any dd _).mono ?_; rintro e w9 ⟨rfl, hk9⟩)
              | (go_at_call 20; refine (rbool_any dd _).mono ?_; rintro e w10 ⟨rfl, hk10⟩)))
            go_wp2
            go_meet
            case rel => exact ⟨rfl, And.left ‹Kept w7 _ ∧ _›⟩
          · have c1 : (dd.k == 1) = false := beq_eq_false_iff_ne.2 hc
            have HC1 : Hid (isC dd = false) := by
              show _ = _
              cases e : isC dd with
              | false => rfl
              | true => exact absurd ((isC_iff dd).1 e) hc
            rw [HC1.out]
            clear hc
            refine wp_region_held_drew (S := (fun w' => Kept w7 w' ∧ w'.cell? ⟨bn, 0, none⟩ = some (.int .u8 dd.k) ∧ w'.cell? ⟨bn, 1, none⟩ = some (.int .i64 dd.n) ∧ w'.cell? ⟨bn, 2, none⟩ = some (.int .i64 dd.a) ∧ w'.cell? ⟨bn, 3, none⟩ = some (.int .u8 dd.o) ∧ w'.cell? ⟨bn, 4, none⟩ = some (.int .i64 dd.x) ∧ w'.cell? ⟨bn, 5, none⟩ = some (.int .i64 dd.y))) (by kernel_rfl) (FN.out w7.drew (Kept.drew (Kept.refl _))) (fun hHeld => ?_)
            refine wpAnyH_take (i := 0) (v := ?vv0) rfl (by kernel_rfl) (by kernel_rfl) (by kernel_rfl) (fun _ _ _ h => h) (Or.inl ⟨by rfl, ?hy0⟩) hHeld ?hr0
            case hy0 =>
              intro w hSw
              try dsimp only at hSw
              simp only [List.getElem_toArray, List.getElem_cons_zero]
              go_simp
              try with_reducible rfl
            simp only [List.getElem_toArray, List.getElem_cons_zero, Act.put, List.setIfInBounds_toArray, List.set_cons_zero, List.set_cons_succ]
            refine wpAnyH_take (i := 1) (v := ?vv1) rfl (by kernel_rfl) (by kernel_rfl) (by kernel_rfl) (fun _ _ _ h => h) (Or.inl ⟨by rfl, ?hy1⟩) hHeld ?hr1
            case hy1 =>
              intro w hSw
              try dsimp only at hSw
              simp only [List.getElem_toArray, List.getElem_cons_zero, List.getElem_cons_succ]
              go_simp
              try with_reducible rfl
            simp only [List.getElem_toArray, List.getElem_cons_zero, List.getElem_cons_succ, Act.put, List.setIfInBounds_toArray, List.set_cons_zero, List.set_cons_succ]
            refine wpAnyH_take (i := 2) (v := ?vv2) rfl (by kernel_rfl) (by kernel_rfl) (by kernel_rfl) (fun _ _ _ h => h) (Or.inl ⟨by rfl, ?hy2⟩) hHeld ?hr2
            case hy2 =>
              intro w hSw
              try dsimp only at hSw
              simp only [List.getElem_toArray, List.getElem_cons_zero, List.getElem_cons_succ]
              go_simp
              try with_reducible rfl
            simp only [List.getElem_toArray, List.getElem_cons_zero, List.getElem_cons_succ, Act.put, List.setIfInBounds_toArray, List.set_cons_zero, List.set_cons_succ]
            refine wpAnyH_take (i := 3) (v := ?vv3) rfl (by kernel_rfl) (by kernel_rfl) (by kernel_rfl) (fun _ _ _ h => h) (Or.inl ⟨by rfl, ?hy3⟩) hHeld ?hr3
            case hy3 =>
              intro w hSw
              try dsimp only at hSw
              simp only [List.getElem_toArray, List.getElem_cons_zero, List.getElem_cons_succ]
              go_simp
              try with_reducible rfl
            simp only [List.getElem_toArray, List.getElem_cons_zero, List.getElem_cons_succ, Act.put, List.setIfInBounds_toArray, List.set_cons_zero, List.set_cons_succ]
            refine wpAnyH_take (i := 4) (v := ?vv4) rfl (by kernel_rfl) (by kernel_rfl) (by kernel_rfl) (fun _ _ _ h => h) (Or.inl ⟨by rfl, ?hy4⟩) hHeld ?hr4
            case hy4 =>
              intro w hSw
              try dsimp only at hSw
              simp only [List.getElem_toArray, List.getElem_cons_zero, List.getElem_cons_succ]
              go_simp
              try with_reducible rfl
            simp only [List.getElem_toArray, List.getElem_cons_zero, List.getElem_cons_succ, Act.put, List.setIfInBounds_toArray, List.set_cons_zero, List.set_cons_succ]
            refine wpAnyH_take (i := 5) (v := ?vv5) rfl (by kernel_rfl) (by kernel_rfl) (by kernel_rfl) (fun _ _ _ h => h) (Or.inl ⟨by rfl, ?hy5⟩) hHeld ?hr5
            case hy5 =>
              intro w hSw
              try dsimp only at hSw
              simp only [List.getElem_toArray, List.getElem_cons_zero, List.getElem_cons_succ]
              go_simp
              try with_reducible rfl
            simp only [List.getElem_toArray, List.getElem_cons_zero, List.getElem_cons_succ, Act.put, List.setIfInBounds_toArray, List.set_cons_zero, List.set_cons_succ]
            refine wpAnyH_take (i := 6) (v := ?vv6) rfl (by kernel_rfl) (by kernel_rfl) (by kernel_rfl) (fun _ _ _ h => h) (Or.inl ⟨by rfl, ?hy6⟩) hHeld ?hr6
            case hy6 =>
              intro w hSw
              try dsimp only at hSw
              simp only [List.getElem_toArray, List.getElem_cons_zero, List.getElem_cons_succ]
              go_simp
              try with_reducible rfl
            simp only [List.getElem_toArray, List.getElem_cons_zero, List.getElem_cons_succ, Act.put, List.setIfInBounds_toArray, List.set_cons_zero, List.set_cons_succ]
            refine wpAnyH_take (i := 7) (v := ?vv7) rfl (by kernel_rfl) (by kernel_rfl) (by kernel_rfl) (fun _ _ _ h => h) (Or.inl ⟨by rfl, ?hy7⟩) hHeld ?hr7
            case hy7 =>
              intro w hSw
              try dsimp only at hSw
              simp only [List.getElem_toArray, List.getElem_cons_zero, List.getElem_cons_succ]
              go_simp
              try with_reducible rfl
            simp only [List.getElem_toArray, List.getElem_cons_zero, List.getElem_cons_succ, Act.put, List.setIfInBounds_toArray, List.set_cons_zero, List.set_cons_succ]
            refine wpAnyH_take (i := 8) (v := ?vv8) rfl (by kernel_rfl) (by kernel_rfl) (by kernel_rfl) (fun _ _ _ h => h) (Or.inl ⟨by rfl, ?hy8⟩) hHeld ?hr8
            case hy8 =>
              intro w hSw
              try dsimp only at hSw
              simp only [List.getElem_toArray, List.getElem_cons_zero, List.getElem_cons_succ]
              go_simp
              try with_reducible rfl
            simp only [List.getElem_toArray, List.getElem_cons_zero, List.getElem_cons_succ, Act.put, List.setIfInBounds_toArray, List.set_cons_zero, List.set_cons_succ]
            refine wpAnyH_take (i := 9) (v := ?vv9) rfl (by kernel_rfl) (by kernel_rfl) (by kernel_rfl) (fun _ _ _ h => h) (Or.inl ⟨by rfl, ?hy9⟩) hHeld ?hr9
            case hy9 =>
              intro w hSw
              try dsimp only at hSw
              simp only [List.getElem_toArray, List.getElem_cons_zero, List.getElem_cons_succ]
              go_simp
              try with_reducible rfl
            simp only [List.getElem_toArray, List.getElem_cons_zero, List.getElem_cons_succ, Act.put, List.setIfInBounds_toArray, List.set_cons_zero, List.set_cons_succ]
            refine wpAnyH_take (i := 10) (v := ?vv10) rfl (by kernel_rfl) (by kernel_rfl) (by kernel_rfl) (fun _ _ _ h => h) (Or.inl ⟨by rfl, ?hy10⟩) hHeld ?hr10
            case hy10 =>
              intro w hSw
              try dsimp only at hSw
              simp only [List.getElem_toArray, List.getElem_cons_zero, List.getElem_cons_succ]
              go_simp
              try with_reducible rfl
            simp only [List.getElem_toArray, List.getElem_cons_zero, List.getElem_cons_succ, Act.put, List.setIfInBounds_toArray, List.set_cons_zero, List.set_cons_succ]
            refine wpAnyH_take (i := 11) (v := ?vv11) rfl (by kernel_rfl) (by kernel_rfl) (by kernel_rfl) (fun _ _ _ h => h) (Or.inl ⟨by rfl, ?hy11⟩) hHeld ?hr11
            case hy11 =>
              intro w hSw
              try dsimp only at hSw
              simp only [List.getElem_toArray, List.getElem_cons_zero, List.getElem_cons_succ]
              go_simp
              try with_reducible rfl
            simp only [List.getElem_toArray, List.getElem_cons_zero, List.getElem_cons_succ, Act.put, List.setIfInBounds_toArray, List.set_cons_zero, List.set_cons_succ]
            refine wpAnyH_take (i := 12) (v := undef) rfl (by kernel_rfl) (by kernel_rfl) (by kernel_rfl) (fun _ _ _ h => h) (Or.inr ⟨by rfl, rfl⟩) hHeld ?hr12
            try simp only [List.getElem_toArray, List.getElem_cons_zero, List.getElem_cons_succ, Act.put, List.setIfInBounds_toArray, List.set_cons_zero, List.set_cons_succ]
            refine wpAnyH_take (i := 13) (v := undef) rfl (by kernel_rfl) (by kernel_rfl) (by kernel_rfl) (fun _ _ _ h => h) (Or.inr ⟨by rfl, rfl⟩) hHeld ?hr13
            try simp only [List.getElem_toArray, List.getElem_cons_zero, List.getElem_cons_succ, Act.put, List.setIfInBounds_toArray, List.set_cons_zero, List.set_cons_succ]
            refine wpAnyH_take (i := 14) (v := undef) rfl (by kernel_rfl) (by kernel_rfl) (by kernel_rfl) (fun _ _ _ h => h) (Or.inr ⟨by rfl, rfl⟩) hHeld ?hr14
            try simp only [List.getElem_toArray, List.getElem_cons_zero, List.getElem_cons_succ, Act.put, List.setIfInBounds_toArray, List.set_cons_zero, List.set_cons_succ]
            refine wpAnyH_take (i := 15) (v := undef) rfl (by kernel_rfl) (by kernel_rfl) (by kernel_rfl) (fun _ _ _ h => h) (Or.inr ⟨by rfl, rfl⟩) hHeld ?hr15
            try simp only [List.getElem_toArray, List.getElem_cons_zero, List.getElem_cons_succ, Act.put, List.setIfInBounds_toArray, List.set_cons_zero, List.set_cons_succ]
            refine wpAnyH_take (i := 16) (v := ?vv16) rfl (by kernel_rfl) (by kernel_rfl) (by kernel_rfl) (fun _ _ _ h => h) (Or.inl ⟨by rfl, ?hy16⟩) hHeld ?hr16
            case hy16 =>
              intro w hSw
              try dsimp only at hSw
              simp only [List.getElem_toArray, List.getElem_cons_zero, List.getElem_cons_succ]
              go_simp
              try with_reducible rfl
            simp only [List.getElem_toArray, List.getElem_cons_zero, List.getElem_cons_succ, Act.put, List.setIfInBounds_toArray, List.set_cons_zero, List.set_cons_succ]
            refine wpAnyH_take (i := 17) (v := ?vv17) rfl (by kernel_rfl) (by kernel_rfl) (by kernel_rfl) (fun _ _ _ h => h) (Or.inl ⟨by rfl, ?hy17⟩) hHeld ?hr17
            case hy17 =>
              intro w hSw
              try dsimp only at hSw
              simp only [List.getElem_toArray, List.getElem_cons_zero, List.getElem_cons_succ]
              go_simp
              try with_reducible rfl
            simp only [List.getElem_toArray, List.getElem_cons_zero, List.getElem_cons_succ, Act.put, List.setIfInBounds_toArray, List.set_cons_zero, List.set_cons_succ]
            refine wpAnyH_take (i := 18) (v := ?vv18) rfl (by kernel_rfl) (by kernel_rfl) (by kernel_rfl) (fun _ _ _ h => h) (Or.inl ⟨by rfl, ?hy18⟩) hHeld ?hr18
            case hy18 =>
              intro w hSw
              try dsimp only at hSw
              simp only [List.getElem_toArray, List.getElem_cons_zero, List.getElem_cons_succ]
              go_simp
              try with_reducible rfl
            simp only [List.getElem_toArray, List.getElem_cons_zero, List.getElem_cons_succ, Act.put, List.setIfInBounds_toArray, List.set_cons_zero, List.set_cons_succ]
            refine wpAnyH_take (i := 19) (v := ?vv19) rfl (by kernel_rfl) (by kernel_rfl) (by kernel_rfl) (fun _ _ _ h => h) (Or.inl ⟨by rfl, ?hy19⟩) hHeld ?hr19
            case hy19 =>
              intro w hSw
              try dsimp only at hSw
              simp only [List.getElem_toArray, List.getElem_cons_zero, List.getElem_cons_succ]
              go_simp
              try with_reducible rfl
            simp only [List.getElem_toArray, List.getElem_cons_zero, List.getElem_cons_succ, Act.put, List.setIfInBounds_toArray, List.set_cons_zero, List.set_cons_succ]
            refine wpAnyH_take (i := 20) (v := ?vv20) rfl (by kernel_rfl) (by kernel_rfl) (by kernel_rfl) (fun _ _ _ h => h) (Or.inl ⟨by rfl, ?hy20⟩) hHeld ?hr20
            case hy20 =>
              intro w hSw
              try dsimp only at hSw
              simp only [List.getElem_toArray, List.getElem_cons_zero, List.getElem_cons_succ]
              go_simp
              try with_reducible rfl
            simp only [List.getElem_toArray, List.getElem_cons_zero, List.getElem_cons_succ, Act.put, List.setIfInBounds_toArray, List.set_cons_zero, List.set_cons_succ]
            refine wpAnyH_take (i := 22) (v := ?vv22) rfl (by kernel_rfl) (by kernel_rfl) (by kernel_rfl) (fun _ _ _ h => h) (Or.inl ⟨by rfl, ?hy22⟩) hHeld ?hr22
            case hy22 =>
              intro w hSw
              try dsimp only at hSw
              simp only [List.getElem_toArray, List.getElem_cons_zero, List.getElem_cons_succ]
              go_simp
              try with_reducible rfl
            simp only [List.getElem_toArray, List.getElem_cons_zero, List.getElem_cons_succ, Act.put, List.setIfInBounds_toArray, List.set_cons_zero, List.set_cons_succ]
            refine wpAnyH_ready (rs := [21]) (by kernel_rfl) (by simp) ?_
            refine AllReadyH.cons rfl (fun K hK => ?_) AllReadyH.nil
            try simp only [List.getElem_toArray, List.getElem_cons_zero, List.getElem_cons_succ]
            go_simp
            refine (bool_ses HS7.out hHeld.1 ia).mono ?_
            rintro e w8 ⟨rfl, hk8⟩
            have FS_w8 := Lib.hid (FN.out w8 (hHeld.1.trans hk8))
            rw [← HDD.out]
            clear hk8
            go_wp2_with fail
            refine hK.out _ _ (FS_w8.out) (fun hHeld => ?_)
            clear hK K
            try simp only [List.getElem_toArray, List.getElem_cons_zero, List.getElem_cons_succ, Act.put, List.setIfInBounds_toArray, List.set_cons_zero, List.set_cons_succ]
            refine wpAnyH_ready (rs := [23]) (by kernel_rfl) (by simp) ?_
            refine AllReadyH.cons rfl (fun K hK => ?_) AllReadyH.nil
            try simp only [List.getElem_toArray, List.getElem_cons_zero, List.getElem_cons_succ]
            go_simp
            refine (oplain_any dd _).mono ?_
            rintro e w9 ⟨rfl, hk9⟩
            have FS_w9 := Lib.hid (FN.out w9 (hHeld.1.trans hk9))
            simp only [Nd.val]
            clear hk9
            go_wp2_with fail
            refine hK.out _ _ (FS_w9.out) (fun hHeld => ?_)
            clear hK K
            try simp only [List.getElem_toArray, List.getElem_cons_zero, List.getElem_cons_succ, Act.put, List.setIfInBounds_toArray, List.set_cons_zero, List.set_cons_succ]
            refine wpAnyH_ready (rs := [24]) (by kernel_rfl) (by simp) ?_
            refine AllReadyH.cons rfl (fun K hK => ?_) AllReadyH.nil
            try simp only [List.getElem_toArray, List.getElem_cons_zero, List.getElem_cons_succ]
            go_simp
            refine (rbool_any dd _).mono ?_
            rintro e w10 ⟨rfl, hk10⟩
            have FS_w10 := Lib.hid (FN.out w10 (hHeld.1.trans hk10))
            clear hk10
            go_wp2_with fail
            refine hK.out _ _ (FS_w10.out) (fun hHeld => ?_)
            clear hK K
            try simp only [List.getElem_toArray, List.getElem_cons_zero, List.getElem_cons_succ, Act.put, List.setIfInBounds_toArray, List.set_cons_zero, List.set_cons_succ]
            refine wpAnyH_take (i := 25) (v := ?vv25) rfl (by kernel_rfl) (by kernel_rfl) (by kernel_rfl) (fun _ _ _ h => h) (Or.inl ⟨by rfl, ?hy25⟩) hHeld ?hr25
            case hy25 =>
              intro w hSw
              try dsimp only at hSw
              simp only [List.getElem_toArray, List.getElem_cons_zero, List.getElem_cons_succ]
              go_simp
              try with_reducible rfl
            simp only [List.getElem_toArray, List.getElem_cons_zero, List.getElem_cons_succ, Act.put, List.setIfInBounds_toArray, List.set_cons_zero, List.set_cons_succ]
            refine wpAnyH_take (i := 26) (v := ?vv26) rfl (by kernel_rfl) (by kernel_rfl) (by kernel_rfl) (fun _ _ _ h => h) (Or.inl ⟨by rfl, ?hy26⟩) hHeld ?hr26
            case hy26 =>
              intro w hSw
              try dsimp only at hSw
              simp only [List.getElem_toArray, List.getElem_cons_zero, List.getElem_cons_succ]
              go_simp
              try with_reducible rfl
            simp only [List.getElem_toArray, List.getElem_cons_zero, List.getElem_cons_succ, Act.put, List.setIfInBounds_toArray, List.set_cons_zero, List.set_cons_succ]
            refine wpAnyH_done (by kernel_rfl) ?_ _
            go_wp2
            go_meet
            case rel => exact ⟨rfl, hHeld.1⟩
        case rest =>
          obtain ⟨rfl, hk⟩ := hcut
          have HS := Lib.hid (HS7.out.then hk)
          clear hk HS7 HBN7
          have HVIA : Hid (InR va) := by
            show InR va
            rw [HVA.out]
            exact valI_in HE.out.syms.inr HE.out.cells.ok HG0.out ia
          have HVIB : Hid (InR vb) := by
            show InR vb
            rw [HVB.out]
            exact valI_in HE.out.syms.inr HE.out.cells.ok HG0.out ib
          have eq16 : (opI 16 va 0 != opI 16 va 0) = false := by simp
          have eqop : (opI op va vb == opI op va vb) = true := by simp
          cases hkn : knownB op with
          | true =>
            have HKN := Lib.hid hkn
            have HO : Hid (1 ≤ op ∧ op ≤ 16) := by
              show _ ∧ _
              unfold knownB at hkn
              simpa using hkn
            clear hkn
            go_wp2_with fail
            refine (bin_ses HS.out op ia ib HO.out.1 HO.out.2 HPX.out HPY.out 40 40 HL40.out HDA.out HDB.out (by omega)).mono ?_
            rintro e w11 ⟨id, L1, rfl, q1, q2, q3, q4⟩
            have HS1 := Lib.hid q1
            have HE1 : Hid (Ext L0 L1) := q2.ext
            have HR1 := Lib.hid q2.run
            have HI1 : Hid (hasB L1.length id = true) := q2.has
            have HN1 : Hid (L1.length ≤ 380) := q3
            clear q1 q2 q3 q4
            clear HS
            go_wp2_with fail
            refine (not_ses HS1.out ia (HE1.out.has HPX.out) 380 40 HN1.out (by rw [dN_ext HE1.out HPX.out]; exact HDA.out) (by omega)).mono ?_
            rintro e w12 ⟨nt, L2, rfl, q1, q2, q5, q6, q3, q4⟩
            have HS2 := Lib.hid q1
            have HE2 := Lib.hid q2
            have HI2 := Lib.hid q5
            have HR2 := Lib.hid q6
            have HN2 : Hid (L2.length ≤ 1000) := Nat.le_trans q3 (by omega)
            clear q1 q2 q3 q4 q5 q6 HS1
            have HEE : Hid (Ext L0 L2) := HE1.out.trans HE2.out
            have HVR : Hid (ofI S C L2 id = opI op va vb) := by
              have hid := HE2.out.has HI1.out
              have r := run_val HE.out.syms.inr HE.out.cells.ok HS2.out.good (HR1.out L2 HE2.out) ⟨HO.out.1, HO.out.2, HEE.out.has HPX.out, HEE.out.has HPY.out⟩
              have r' : valI S C L2 id = opI op (valI S C L2 ia) (valI S C L2 ib) := r
              rw [val_ext HEE.out HPX.out, val_ext HEE.out HPY.out, ← HVA.out, ← HVB.out] at r'
              exact (ofI_has hid).trans r'
            have HVS : Hid (ofI S C L2 nt = opI 16 va 0) := by
              obtain ⟨z, hz, hr⟩ := HR2.out L2 (Ext.refl _)
              have r := run_val HE.out.syms.inr HE.out.cells.ok HS2.out.good hr (fw16 (HEE.out.has HPX.out) hz.1)
              have r' : valI S C L2 nt = opI 16 (valI S C L2 ia) (valI S C L2 z) := r
              rw [val_ext HEE.out HPX.out, val_cn HS2.out.good hz, ← HVA.out] at r'
              exact (ofI_has HI2.out).trans r'
            have ef := (show EnvB _ be s from HS2.out.kept.row HB.out).facts
            have e0 := ef.1
            have e1 := ef.2
            clear ef
            go_wp2_with fail
            refine (value_ses HS2.out (Nat.le_trans HN2.out (by decide)) (s := s) (HE.out.kept HS2.out.kept) (by have := HFEW.out; omega) (by have := HFEW.out; omega) id (has_in (Nat.le_trans HN2.out (by decide)) (HE2.out.has HI1.out))).mono ?_
            rintro e w13 ⟨rfl, hk4⟩
            rw [HVR.out, HE2.out.has HI1.out]
            have HS3 := Lib.hid (HS2.out.then hk4)
            clear hk4 e0 e1 HS2
            have ef := (show EnvB _ be s from HS3.out.kept.row HB.out).facts
            have e0 := ef.1
            have e1 := ef.2
            clear ef
            go_wp2_with fail
            refine (value_ses HS3.out (Nat.le_trans HN2.out (by decide)) (s := s) (HE.out.kept HS3.out.kept) (by have := HFEW.out; omega) (by have := HFEW.out; omega) nt (has_in (Nat.le_trans HN2.out (by decide)) HI2.out)).mono ?_
            rintro e w14 ⟨rfl, hk4⟩
            rw [HVS.out, HI2.out]
            have HS4 := Lib.hid (HS3.out.then hk4)
            clear hk4 e0 e1 HS3
            go_wp2_with fail
            refine (refdo_any 16 va 0 _ HVIA.out HZ.out).mono ?_
            rintro e w15 ⟨rfl, rfl⟩
            go_wp2_with fail
            refine (binbad_ses HS4.out op (-1) ib ⟨by decide, by decide⟩ HIB.out (Or.inr (Or.inl (has_none _)))).mono ?_
            rintro e w16 ⟨rfl, hk⟩
            have HS5 := Lib.hid (HS4.out.then hk)
            clear hk HS4
            go_wp2_with fail
            refine (size_ses HS5.out).mono ?_
            rintro e w' ⟨rfl, rfl⟩
            go_wp2_with fail
            refine (binbad_ses HS5.out op ia (L2.length : Int) HIA.out ⟨by omega, by have := HN2.out; omega⟩ (Or.inr (Or.inr (has_size _)))).mono ?_
            rintro e w17 ⟨rfl, hk⟩
            have HS6 := Lib.hid (HS5.out.then hk)
            clear hk HS5
            go_wp2_with fail
            refine (oknown_any op _).mono ?_
            rintro e w18 ⟨rfl, rfl⟩
            rw [HKN.out]
            go_wp2_with fail
            refine (refdo_any op va vb _ HVIA.out HVIB.out).mono ?_
            rintro e w15 ⟨rfl, rfl⟩
            go_wp2_with fail
            refine (works_any _ (HL.out.1.kept HS6.out.kept) (HL.out.2.below HS6.out.kept)).mono ?_
            rintro e w19 ⟨rfl, hk5⟩
            have HK5 := Lib.hid (HK0.out.trans (HS6.out.kept.trans hk5))
            clear hk5
            go_wp2
            go_ret
            exact ⟨rfl, HK5.out⟩
          | false =>
            have HKN := Lib.hid hkn
            clear hkn eqop
            go_wp2_with fail
            refine (binbad_ses HS.out op ia ib HIA.out HIB.out (Or.inl HKN.out)).mono ?_
            rintro e w11 ⟨rfl, hk⟩
            obtain ⟨L1, hl1⟩ : ∃ L, L = L0 := ⟨_, rfl⟩
            have HS1 : Hid (Ses W B g m [] w11 L1) := by rw [hl1]; exact HS.out.then hk
            have HE1 : Hid (Ext L0 L1) := by rw [hl1]; exact Ext.refl _
            have HN1 : Hid (L1.length ≤ 380) := by rw [hl1]; exact Nat.le_trans HL40.out (by decide)
            clear hk hl1
            clear HS
            go_wp2_with fail
            refine (not_ses HS1.out ia (HE1.out.has HPX.out) 380 40 HN1.out (by rw [dN_ext HE1.out HPX.out]; exact HDA.out) (by omega)).mono ?_
            rintro e w12 ⟨nt, L2, rfl, q1, q2, q5, q6, q3, q4⟩
            have HS2 := Lib.hid q1
            have HE2 := Lib.hid q2
            have HI2 := Lib.hid q5
            have HR2 := Lib.hid q6
            have HN2 : Hid (L2.length ≤ 1000) := Nat.le_trans q3 (by omega)
            clear q1 q2 q3 q4 q5 q6 HS1
            have HEE : Hid (Ext L0 L2) := HE1.out.trans HE2.out
            have HVS : Hid (ofI S C L2 nt = opI 16 va 0) := by
              obtain ⟨z, hz, hr⟩ := HR2.out L2 (Ext.refl _)
              have r := run_val HE.out.syms.inr HE.out.cells.ok HS2.out.good hr (fw16 (HEE.out.has HPX.out) hz.1)
              have r' : valI S C L2 nt = opI 16 (valI S C L2 ia) (valI S C L2 z) := r
              rw [val_ext HEE.out HPX.out, val_cn HS2.out.good hz, ← HVA.out] at r'
              exact (ofI_has HI2.out).trans r'
            have ef := (show EnvB _ be s from HS2.out.kept.row HB.out).facts
            have e0 := ef.1
            have e1 := ef.2
            clear ef
            go_wp2_with fail
            refine (value_ses HS2.out (Nat.le_trans HN2.out (by decide)) (s := s) (HE.out.kept HS2.out.kept) (by have := HFEW.out; omega) (by have := HFEW.out; omega) (-1) ⟨by decide, by decide⟩).mono ?_
            rintro e w13 ⟨rfl, hk4⟩
            rw [ofI_none, has_none]
            have HS3 := Lib.hid (HS2.out.then hk4)
            clear hk4 e0 e1 HS2
            have ef := (show EnvB _ be s from HS3.out.kept.row HB.out).facts
            have e0 := ef.1
            have e1 := ef.2
            clear ef
            go_wp2_with fail
            refine (value_ses HS3.out (Nat.le_trans HN2.out (by decide)) (s := s) (HE.out.kept HS3.out.kept) (by have := HFEW.out; omega) (by have := HFEW.out; omega) nt (has_in (Nat.le_trans HN2.out (by decide)) HI2.out)).mono ?_
            rintro e w14 ⟨rfl, hk4⟩
            rw [HVS.out, HI2.out]
            have HS4 := Lib.hid (HS3.out.then hk4)
            clear hk4 e0 e1 HS3
            go_wp2_with fail
            refine (refdo_any 16 va 0 _ HVIA.out HZ.out).mono ?_
            rintro e w15 ⟨rfl, rfl⟩
            go_wp2_with fail
            refine (binbad_ses HS4.out op (-1) ib ⟨by decide, by decide⟩ HIB.out (Or.inr (Or.inl (has_none _)))).mono ?_
            rintro e w16 ⟨rfl, hk⟩
            have HS5 := Lib.hid (HS4.out.then hk)
            clear hk HS4
            go_wp2_with fail
            refine (size_ses HS5.out).mono ?_
            rintro e w' ⟨rfl, rfl⟩
            go_wp2_with fail
            refine (binbad_ses HS5.out op ia (L2.length : Int) HIA.out ⟨by omega, by have := HN2.out; omega⟩ (Or.inr (Or.inr (has_size _)))).mono ?_
            rintro e w17 ⟨rfl, hk⟩
            have HS6 := Lib.hid (HS5.out.then hk)
            clear hk HS5
            go_wp2_with fail
            refine (oknown_any op _).mono ?_
            rintro e w18 ⟨rfl, rfl⟩
            rw [HKN.out]
            go_wp2_with fail
            refine (works_any _ (HL.out.1.kept HS6.out.kept) (HL.out.2.below HS6.out.kept)).mono ?_
            rintro e w19 ⟨rfl, hk5⟩
            have HK5 := Lib.hid (HK0.out.trans (HS6.out.kept.trans hk5))
            clear hk5
            go_wp2
            go_ret
            exact ⟨rfl, HK5.out⟩
  · have d40 : decide ((40 : Int) < (n : Int)) = true := decide_eq_true (by omega)
    clear h40
    go_wp2_with fail
    refine (works_any _ HL.out.1 HL.out.2).mono ?_
    rintro e w2 ⟨rfl, hk2⟩
    have HK2 := Lib.hid (HK0.out.trans hk2)
    clear hk2
    go_wp2
    go_ret
    exact ⟨rfl, HK2.out⟩
end Go.Proofs.YtgkjdmojbndicaaGreatDoor
