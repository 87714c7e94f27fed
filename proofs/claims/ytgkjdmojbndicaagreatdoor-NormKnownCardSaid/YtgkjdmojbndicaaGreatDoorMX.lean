/-
  Layer 4: contracts of the statements' helpers: few, Pick, at, plains; the table of math/bits out of the card's list.
-/
import Derived.Test.YtgkjdmojbndicaaGreatDoorMP
import Derived.Test.YtgkjdmojbndicaaGreatDoorMQ
namespace Go.Proofs.YtgkjdmojbndicaaGreatDoor
open Go Go.RowKit Go.ChangeShapes Go.WideShapes Go.ChangeAt

theorem gTab : Tryz.prog.globalNamed "math/bits.deBruijn64tab" = some 1 := by kernel_rfl
theorem tTab : (Tryz.prog.globals[1]?).map (·.type) = some 163 := by kernel_rfl
theorem cTab : Tryz.prog.cellsOf 163 = 64 := by kernel_rfl
theorem cU8 : Tryz.prog.cellsOf 5 = 1 := by kernel_rfl
def tabInts : List Int := [0, 1, 56, 2, 57, 49, 28, 3, 61, 58, 42, 50, 38, 29, 17, 4, 62, 47, 59, 36, 45, 43, 51, 22, 53, 39, 33, 30, 24, 18, 12, 5, 63, 55, 48, 27, 60, 41, 37, 16, 46, 35, 44, 21, 52, 32, 23, 11, 54, 26, 40, 15, 34, 20, 31, 10, 25, 14, 19, 9, 13, 8, 7, 6]
theorem tab_of_list {W : World} (h : laidMetH Tryz.prog theList W) : Tab W := by
  rw [MakeChecks.laidMetH_plain _ _ _ (by kernel_rfl)] at h
  have hT : Lib.TabIs Tryz.prog W "math/bits.deBruijn64tab" .u8 tabInts := Lib.tabIs_of_head gTab tTab Tryz.underlying163 Tryz.underlying5 cU8 cTab h.tail
  intro j hj
  have hc := hT.cell gTab j hj
  have e : ∀ j, j < 64 → tabInts.getD j 0 = ((Lib.deBruijn64tab.getD j 0 : Nat) : Int) := by decide +kernel
  rw [hc, e j hj]
def fewB (sn cn : Nat) : Bool := decide (sn ≤ 60) && decide (cn ≤ 60)
set_option maxHeartbeats 1000000 in
theorem few_any (s : Sl) (w : World) : Calls Tryz.prog 9 #[.agg #[.slice s.sa s.sn s.sc, .slice s.ca s.cn s.cc]] w fun e w' => e = .returned (.bool (fewB s.sn s.cn)) ∧ Kept w w' := by
  have HK := Lib.hid ((Kept.refl w).alloc (.cells #[.slice s.sa s.sn s.sc, .slice s.ca s.cn s.cc] 26))
  by_cases h1 : s.sn ≤ 60
  · by_cases h2 : s.cn ≤ 60
    · have HE : Hid (fewB s.sn s.cn = true) := by show _ = _; unfold fewB; simp [h1, h2]
      have d1 : decide ((s.sn : Int) ≤ 60) = true := decide_eq_true (by omega)
      have d2 : decide ((s.cn : Int) ≤ 60) = true := decide_eq_true (by omega)
      have i1 : (s.sn : Int) ≤ 60 := by omega
      have i2 : (s.cn : Int) ≤ 60 := by omega
      clear h1 h2
      go_enter Tryz.func9, Tryz.ntmps9
      go_wp2
      go_ret
      rw [HE.out]
      exact ⟨rfl, HK.out⟩
    · have HE : Hid (fewB s.sn s.cn = false) := by show _ = _; unfold fewB; simp [h2]
      have d1 : decide ((s.sn : Int) ≤ 60) = true := decide_eq_true (by omega)
      have d2 : decide ((s.cn : Int) ≤ 60) = false := decide_eq_false (by omega)
      have i1 : (s.sn : Int) ≤ 60 := by omega
      have i2 : ¬ (s.cn : Int) ≤ 60 := by omega
      clear h1 h2
      go_enter Tryz.func9, Tryz.ntmps9
      go_wp2
      go_ret
      rw [HE.out]
      exact ⟨rfl, HK.out⟩
  · have HE : Hid (fewB s.sn s.cn = false) := by show _ = _; unfold fewB; simp [h1]
    have d1 : decide ((s.sn : Int) ≤ 60) = false := decide_eq_false (by omega)
    have i1 : ¬ (s.sn : Int) ≤ 60 := by omega
    clear h1
    go_enter Tryz.func9, Tryz.ntmps9
    go_wp2
    go_ret
    rw [HE.out]
    exact ⟨rfl, HK.out⟩
/-- A number brought from 0 up to n. -/
def pickI (i : Int) (n : Nat) : Int := if n = 0 then 0 else i % n
theorem pickI_has (i : Int) {L : List Nd} (h : L.length ≠ 0) : hasB L.length (pickI i L.length) = true := by
  unfold pickI
  rw [if_neg h]
  exact (hasB_iff _ _).2 ⟨Int.emod_nonneg _ (by omega), Int.emod_lt_of_pos _ (by omega)⟩
theorem pick_arith (i : Int) (n : Nat) (h : n ≠ 0) (hn : n ≤ 1000000000) : (i.tmod n + n).tmod n = i % n ∧ -1000000000 < i.tmod n ∧ i.tmod n < 1000000000 := by
  have h1 := Int.tmod_add_mul_tdiv i n
  have h2 := Int.lt_tmod_of_pos i (show (0 : Int) < n by omega)
  have h3 := Int.tmod_lt_of_pos i (show (0 : Int) < n by omega)
  refine ⟨?_, by omega, by omega⟩
  have h4 : (0 : Int) ≤ i.tmod n + n := by omega
  rw [Int.tmod_eq_emod_of_nonneg h4, Int.add_emod_right]
  have h5 : i % n = (i.tmod n) % n := by
    conv => lhs; rw [← h1]
    rw [Int.add_mul_emod_self_left]
  exact h5.symm
set_option maxHeartbeats 1000000 in
theorem pick_any (i : Int) (n : Nat) (w : World) (_hi : InR i) (hn : n ≤ 1000000000) :
    Calls Tryz.prog 34 #[.int .i64 i, .int .i64 n] w fun e w' => e = .returned (.int .i64 (pickI i n)) ∧ w = w' := by
  by_cases h0 : n = 0
  · subst h0
    go_enter Tryz.func34, Tryz.ntmps34
    go_wp2
    go_ret
    exact ⟨rfl, rfl⟩
  · obtain ⟨p1, p2, p3⟩ := pick_arith i n h0 hn
    have HP := Lib.hid p1
    have hE : Hid (pickI i n = (i.tmod n + n).tmod n) := by
      show _ = _
      unfold pickI
      rw [if_neg h0, p1]
    have d0 : decide ((n : Int) ≤ 0) = false := decide_eq_false (by omega)
    have n0 : ((n : Int) == 0) = false := beq_eq_false_iff_ne.2 (by omega)
    have n1 : (n : Int) ≤ 1000000000 := by omega
    have n2 : 0 < (n : Int) := by omega
    obtain ⟨t, ht⟩ : ∃ t : Int, t = i.tmod n := ⟨_, rfl⟩
    rw [← ht] at p2 p3 hE
    have HT := Lib.hid ht
    clear p1 h0 hn
    go_enter Tryz.func34, Tryz.ntmps34
    go_wp2
    go_ret
    exact ⟨by rw [hE.out, HT.out]; rfl, rfl⟩
theorem pickI_in (i : Int) {n : Nat} (h : n ≤ 1000000000) : InR (pickI i n) ∧ 0 ≤ pickI i n := by
  unfold pickI
  split
  · exact ⟨in0, by decide⟩
  · have h1 := Int.emod_nonneg i (show (n : Int) ≠ 0 by omega)
    have h2 := Int.emod_lt_of_pos i (show (0 : Int) < n by omega)
    exact ⟨⟨by omega, by omega⟩, h1⟩
section
variable {w0 w : World} {B g m : Nat} {P : List (Nat × Obj)} {L : List Nd}
theorem size_ses (h : Ses w0 B g m P w L) : Calls Tryz.prog 12 #[.pointer (some ⟨g, 0, none⟩)] w fun e w' => e = .returned (.int .i64 L.length) ∧ w = w' := by
  obtain ⟨a, c, hG, hP⟩ := h.gr
  exact size_cell g L.length c a w hG.cell0
set_option maxHeartbeats 1000000 in
theorem at_ses (h : Ses w0 B g m P w L) (i : Int) (hi : InR i) (hn : L.length ≤ 1000000000) :
    Calls Tryz.prog 15 #[.pointer (some ⟨g, 0, none⟩), .int .i64 i] w fun e w' => e = .returned (.int .i64 (pickI i L.length)) ∧ w = w' := by
  have HS := Lib.hid h
  have HN := Lib.hid hn
  have HI := Lib.hid hi
  clear h hn hi
  go_enter Tryz.func15, Tryz.ntmps15
  go_wp2_with fail
  refine (size_ses HS.out).mono ?_
  rintro e w' ⟨rfl, rfl⟩
  go_wp2_with fail
  refine (pick_any i _ _ HI.out HN.out).mono ?_
  rintro e w' ⟨rfl, rfl⟩
  go_wp2
  go_ret
  exact ⟨rfl, rfl⟩
end
theorem deep_index {L : List Nd} (hG : Good L) {i : Int} (hi : hasB L.length i = true) {n : Nat} (hn : L.length ≤ n) : dN L i ≤ n := by
  have h1 := (hasB_iff _ _).1 hi
  have h2 := dN_le hG L.length i (by omega) hi
  omega
/-- What plains answers: a graph of the law's own, three plain terms; or that there is none. -/
def PlainsQ (W : World) (e : Ending) (w' : World) : Prop :=
  (∃ g, e = .returned (.tuple #[.pointer (some ⟨g, 0, none⟩), .int .i64 0, .int .i64 0, .int .i64 0, .bool false]) ∧ Kept W w') ∨
  (∃ g m a b c L, e = .returned (.tuple #[.pointer (some ⟨g, 0, none⟩), .int .i64 a, .int .i64 b, .int .i64 c, .bool true]) ∧ Ses W W.heap.size g m [] w' L ∧ (Pl L a ∧ Pl L b ∧ Pl L c) ∧ (dN L a ≤ 60 ∧ dN L b ≤ 60 ∧ dN L c ≤ 60) ∧ L.length ≤ 46000)
set_option maxRecDepth 100000 in
set_option maxHeartbeats 8000000 in
theorem plains_any (la : Option Addr) (n lc : Nat) (ds : List Nd) (x y z : Int) (W : World) (hds : NodesAt W la n ds) (hn : n ≤ 30) (hx : InR x) (hy : InR y) (hz : InR z) (hL : Laid W) (hT : Tab W) :
    Calls Tryz.prog 25 #[.slice la n lc, .int .i64 x, .int .i64 y, .int .i64 z] W (PlainsQ W) := by
  have HD := Lib.hid hds
  have HL := Lib.hid (And.intro hL hT)
  have HX := Lib.hid (And.intro hx (And.intro hy hz))
  clear hds hL hT hx hy hz
  go_enter Tryz.func25, Tryz.ntmps25
  go_wp2_with fail
  refine (made_any la n lc ds W HD.out (by omega) HL.out.1).mono ?_
  rintro e w1 ⟨g, m, v, rfl, ⟨a, c, a', c', hG, rfl, hrow, _⟩, hk⟩
  have htk : ds.take n = ds := List.take_of_length_le (by rw [HD.out.len]; exact Nat.le_refl _)
  rw [htk] at hG
  have hlen : (addsL ds).length ≤ 30 := Nat.le_trans (addsL_len ds) (by rw [HD.out.len]; exact hn)
  obtain ⟨L0, hL0⟩ : ∃ L, L = addsL ds := ⟨_, rfl⟩
  rw [← hL0] at hG hlen
  have HS := Lib.hid (show Ses W W.heap.size g m [] w1 L0 from ⟨⟨_, _, hG, fun q hq => by cases hq⟩, hk, Nat.le_refl _, HL.out⟩)
  have HN := Lib.hid hlen
  clear hG hk hrow htk hlen hL0
  go_wp2_with fail
  refine (size_ses HS.out).mono ?_
  rintro e w' ⟨rfl, rfl⟩
  by_cases h0 : L0.length = 0
  · have d0 : ((L0.length : Int) == 0) = true := by rw [h0]; rfl
    have HK := Lib.hid HS.out.kept
    generalize (L0.length : Int) = n0 at *
    clear h0 HN HS
    go_wp2
    exact bodyPost_ret (v := .tuple #[.pointer (some ⟨g, 0, none⟩), .int .i64 0, .int .i64 0, .int .i64 0, .bool false]) (by simp [results, Tryz.results25, go_sem]) rfl (Or.inl ⟨g, rfl, HK.out⟩)
  · have d0 : ((L0.length : Int) == 0) = false := beq_eq_false_iff_ne.2 (by omega)
    have H0 := Lib.hid h0
    clear h0
    have hl9 : L0.length ≤ 1000000000 := Nat.le_trans HN.out (by decide)
    have HL9 := Lib.hid hl9
    clear hl9
    go_wp2_with fail
    refine (at_ses HS.out x HX.out.1 HL9.out).mono ?_
    rintro e w' ⟨rfl, rfl⟩
    go_wp2_with fail
    refine (at_ses HS.out y HX.out.2.1 HL9.out).mono ?_
    rintro e w' ⟨rfl, rfl⟩
    go_wp2_with fail
    refine (at_ses HS.out z HX.out.2.2 HL9.out).mono ?_
    rintro e w' ⟨rfl, rfl⟩
    have hbx := pickI_has x H0.out
    have hby := pickI_has y H0.out
    have hbz := pickI_has z H0.out
    obtain ⟨i_x, hix⟩ : ∃ i, i = pickI x L0.length := ⟨_, rfl⟩
    obtain ⟨i_y, hiy⟩ : ∃ i, i = pickI y L0.length := ⟨_, rfl⟩
    obtain ⟨i_z, hiz⟩ : ∃ i, i = pickI z L0.length := ⟨_, rfl⟩
    rw [← hix] at hbx ⊢
    rw [← hiy] at hby ⊢
    rw [← hiz] at hbz ⊢
    have HI_x : Hid (Know L0 i_x 30) := ⟨hbx, deep_index HS.out.good hbx HN.out⟩
    have HI_y : Hid (Know L0 i_y 30) := ⟨hby, deep_index HS.out.good hby HN.out⟩
    have HI_z : Hid (Know L0 i_z 30) := ⟨hbz, deep_index HS.out.good hbz HN.out⟩
    have HU_x : Hid (i_x < (30 : Nat)) := by have := ((hasB_iff _ _).1 hbx).2; have := HN.out; show _ < _; omega
    have HU_y : Hid (i_y < (30 : Nat)) := by have := ((hasB_iff _ _).1 hby).2; have := HN.out; show _ < _; omega
    have HU_z : Hid (i_z < (30 : Nat)) := by have := ((hasB_iff _ _).1 hbz).2; have := HN.out; show _ < _; omega
    clear hbx hby hbz hix hiy hiz d0
    go_wp2_with fail
    refine (of_ses HS.out i_x HI_x.out.1 (30) 30 30 HN.out HI_x.out.2 HU_x.out (by omega)).mono ?_
    rintro e w1 ⟨i_a, L1, rfl, q1, q2, q5, q6, q3, q4⟩
    have HS2 := Lib.hid q1
    have HN2 : Hid (L1.length ≤ 30+15000) := q3
    have HR_a := Lib.hid q5
    have HJ : Hid (Know L1 i_a 60) := ⟨q6, q4⟩
    have HE0 : Hid (Ext L0 L1) := q2
    have HT := Lib.hid (HI_x.out.ext HE0.out)
    clear HI_x
    have HI_x := HT
    clear HT
    have HT := Lib.hid (HI_y.out.ext HE0.out)
    clear HI_y
    have HI_y := HT
    clear HT
    have HT := Lib.hid (HI_z.out.ext HE0.out)
    clear HI_z
    have HI_z := HT
    clear HT
    clear q1 q2 q3 q4 q5 q6
    have HI_a := HJ
    clear HJ
    clear HS
    have HS := HS2
    clear HS2
    clear HN
    have HN := HN2
    clear HN2
    go_wp2_with fail
    refine (of_ses HS.out i_y HI_y.out.1 (30+15000) 30 30 HN.out HI_y.out.2 HU_y.out (by omega)).mono ?_
    rintro e w2 ⟨i_b, L2, rfl, q1, q2, q5, q6, q3, q4⟩
    have HS2 := Lib.hid q1
    have HN2 : Hid (L2.length ≤ 30+15000+15000) := q3
    have HR_b := Lib.hid q5
    have HJ : Hid (Know L2 i_b 60) := ⟨q6, q4⟩
    have HE1 : Hid (Ext L1 L2) := q2
    have HT := Lib.hid (HI_x.out.ext HE1.out)
    clear HI_x
    have HI_x := HT
    clear HT
    have HT := Lib.hid (HI_y.out.ext HE1.out)
    clear HI_y
    have HI_y := HT
    clear HT
    have HT := Lib.hid (HI_z.out.ext HE1.out)
    clear HI_z
    have HI_z := HT
    clear HT
    have HT := Lib.hid (HI_a.out.ext HE1.out)
    clear HI_a
    have HI_a := HT
    clear HT
    clear q1 q2 q3 q4 q5 q6
    have HI_b := HJ
    clear HJ
    clear HS
    have HS := HS2
    clear HS2
    clear HN
    have HN := HN2
    clear HN2
    go_wp2_with fail
    refine (of_ses HS.out i_z HI_z.out.1 (30+15000+15000) 30 30 HN.out HI_z.out.2 HU_z.out (by omega)).mono ?_
    rintro e w3 ⟨i_c, L3, rfl, q1, q2, q5, q6, q3, q4⟩
    have HS2 := Lib.hid q1
    have HN2 : Hid (L3.length ≤ 30+15000+15000+15000) := q3
    have HR_c := Lib.hid q5
    have HJ : Hid (Know L3 i_c 60) := ⟨q6, q4⟩
    have HE2 : Hid (Ext L2 L3) := q2
    have HT := Lib.hid (HI_x.out.ext HE2.out)
    clear HI_x
    have HI_x := HT
    clear HT
    have HT := Lib.hid (HI_y.out.ext HE2.out)
    clear HI_y
    have HI_y := HT
    clear HT
    have HT := Lib.hid (HI_z.out.ext HE2.out)
    clear HI_z
    have HI_z := HT
    clear HT
    have HT := Lib.hid (HI_a.out.ext HE2.out)
    clear HI_a
    have HI_a := HT
    clear HT
    have HT := Lib.hid (HI_b.out.ext HE2.out)
    clear HI_b
    have HI_b := HT
    clear HT
    clear q1 q2 q3 q4 q5 q6
    have HI_c := HJ
    clear HJ
    clear HS
    have HS := HS2
    clear HS2
    clear HN
    have HN := HN2
    clear HN2
    have HQ : Hid ((Pl L3 i_a ∧ Pl L3 i_b ∧ Pl L3 i_c) ∧ (dN L3 i_a ≤ 60 ∧ dN L3 i_b ≤ 60 ∧ dN L3 i_c ≤ 60) ∧ L3.length ≤ 46000) :=
      ⟨⟨(HR_a.out _ (HE1.out.trans (HE2.out.trans (Ext.refl L3)))).pl HS.out.good, (HR_b.out _ (HE2.out.trans (Ext.refl L3))).pl HS.out.good, (HR_c.out _ (Ext.refl L3)).pl HS.out.good⟩, ⟨HI_a.out.2, HI_b.out.2, HI_c.out.2⟩, Nat.le_trans HN.out (by decide)⟩
    go_wp2
    exact bodyPost_ret (v := .tuple #[.pointer (some ⟨g, 0, none⟩), .int .i64 i_a, .int .i64 i_b, .int .i64 i_c, .bool true]) (by simp [results, Tryz.results25, go_sem]) rfl (Or.inr ⟨g, m, i_a, i_b, i_c, L3, rfl, HS.out, HQ.out.1, HQ.out.2.1, HQ.out.2.2⟩)
end Go.Proofs.YtgkjdmojbndicaaGreatDoor
