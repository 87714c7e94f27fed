/-
  Layer 5: contracts of the library's sort and compaction at rows of one's own, of the program's risingBy and Clean.
-/
import Derived.Test.YtlikokeknfhejaaGreatDoorCRise
namespace Go.Proofs.YtlikokeknfhejaaGreatDoor
open Go Go.RowKit Go.Sort Go.Lib

abbrev byVar : Value := .func (.func 69) #[] #[]
abbrev byCmp (B : Nat) : Value := .func (.func 123) #[] #[.pointer (some ⟨B, 0, none⟩)]
theorem sort_row {N r B c : Nat} {L : List Int} {w : World} (hrow : w.ownsRow N 3 1 (.slice (some ⟨r, 0, none⟩) L.length c) L.length (L.map (Value.int .i64))) (hl : L.length ≤ 1000000) (hr : r < w.heap.size) (hB : B < w.heap.size) (hBr : B ≠ r) (hc : w.cell? ⟨B, 0, none⟩ = some byVar) :
    Calls Tryz.prog 122 #[.slice (some ⟨r, 0, none⟩) L.length c, byCmp B] w fun e w' => e = .returned (.tuple #[]) ∧ ∃ S : List Int, S.Perm L ∧ (S.Pairwise fun a b => kx a ≤ kx b) ∧ w'.ownsRow N 3 1 (.slice (some ⟨r, 0, none⟩) L.length c) L.length (S.map (Value.int .i64)) ∧ Turned (fun q => q = r) w w' := by
  have eg : ∀ args w, (callFunc 123 args).run Tryz.prog w = .ok (.enter 123 args) w := enters_of Tryz.func123 (by kernel_rfl) rfl
  have hcmp : CmpLays1 Tryz.prog 123 #[.pointer (some ⟨B, 0, none⟩)] (Value.int .i64) cf r 0 L.toArray.size w := by
    intro m os dk hdk x y
    refine (rise_cmp x y B _ ?_).mono fun e w' ⟨he, q, hq⟩ => ⟨he, q, #[], by rw [hq, grow_empty]⟩
    unfold sortWorld
    rw [cell?_grow _ _ _ (by show B < (putRow _ _ _ _ _).heap.size; rw [size_putRow]; exact hB), cell?_putRow_other _ _ r 0 _ _ (Or.inl hBr)]
    exact hc
  have hO : SWO (ltOf cf) := by rw [ltOf_cf]; exact swo_key kx
  have hcon := Tryz.slices_SortFunc_f122 (Value.int .i64) (fun _ => rfl) cf hO 123 #[.pointer (some ⟨B, 0, none⟩)] r 0 c L.toArray w eg hcmp (row_holds hrow) hr (by simp; omega)
  refine Calls.mono (show Calls Tryz.prog 122 #[.slice (some ⟨r, 0, none⟩) L.length c, byCmp B] w _ from hcon) ?_
  rintro e w' ⟨he, d', n, os, hp, hs, rfl⟩
  obtain ⟨hz, hperm⟩ := perm_mem hp
  rw [ltOf_cf] at hs
  have hd : d' = d'.toList.toArray := by simp
  have hsl : d'.toList.length = L.length := by simpa using hz
  obtain ⟨h1, h2⟩ := put_row (n := n) (os := os) (S := d'.toList) hrow hsl
  rw [← hd] at h1 h2
  refine ⟨he, d'.toList, by simpa using hperm, ?_, h1, h2⟩
  exact sorted_pairwise (f := kx) (d := d') (by rw [hz]; exact hs)
theorem compact_row {N r c : Nat} {S : List Int} {w : World} (hrow : w.ownsRow N 3 1 (.slice (some ⟨r, 0, none⟩) S.length c) S.length (S.map (Value.int .i64))) (hl : S.length ≤ 1000000) (hc : S.length ≤ c) (hin : ∀ x ∈ S, InR x) (hm : ∀ x, x ∈ compact S ↔ x ∈ S) :
    Calls Tryz.prog 125 #[.slice (some ⟨r, 0, none⟩) S.length c] w fun e w' => e = .returned (.slice (some ⟨r, 0, none⟩) (compact S).length c) ∧ IntsAt w' (some ⟨r, 0, none⟩) (compact S).length (compact S) ∧ Turned (fun q => q = r) w w' := by
  refine (Tryz.slices_Compact_int r 0 c S w (row_holds hrow) (by omega) hc).mono ?_
  rintro e w' ⟨rfl, q, rfl⟩
  have hle := compact_length_le S
  obtain ⟨h1, h2⟩ := put_row (n := q) (os := #[]) (S := compact S ++ List.replicate (S.length - (compact S).length) 0) hrow (by simp; omega)
  rw [grow_empty] at h1 h2
  refine ⟨rfl, ⟨rfl, fun x hx => hin x ((hm x).1 hx), fun hn => ⟨r, 0, rfl, fun j x hj => ?_⟩⟩, h2⟩
  have hjl := (List.getElem?_eq_some_iff.1 hj).1
  have h3 : IntsAt (putRow (Value.int .i64) (Sort.ahead w q) r 0 (compact S ++ List.replicate (S.length - (compact S).length) 0).toArray) (some ⟨r, 0, none⟩) S.length (compact S ++ List.replicate (S.length - (compact S).length) 0) :=
    ints_of_row h1 (by simp; omega) (fun y hy => by
      rcases List.mem_append.1 hy with hy | hy
      · exact hin y ((hm y).1 hy)
      · rw [(List.mem_replicate.1 hy).2]; unfold InR; omega)
  obtain ⟨b, off, hb, hcell⟩ := h3.at_ (by omega)
  cases hb
  exact hcell j x (by rw [List.getElem?_append_left hjl]; exact hj)

/-- A slice that has what its length says. -/
def Fit (a : Option Addr) (k c : Nat) : Prop := (a = none → k = 0 ∧ c = 0) ∧ k ≤ c ∧ c ≤ 9223372036854775807
structure RiseOf (L K : List Int) : Prop where
  mem : ∀ x, x ∈ K ↔ x ∈ L
  adj : AdjB K
  len : K.length ≤ L.length
theorem row_fit {w : World} {N n c : Nat} {e : TypeId} {a : Option Addr} {xs : List Value} (h : w.ownsRow N e 1 (.slice a n c) n xs) : Fit a n c := by
  rcases h.2 with ⟨hv, h0⟩ | ⟨r, cap, cur, hv, hN, hblk, hle, hmx, hsz, htk⟩
  · injection hv with h1 h2 h3
    subst h1; subst h2; subst h3
    exact ⟨fun _ => ⟨rfl, rfl⟩, Nat.le_refl _, by omega⟩
  · injection hv with h1 _ h3
    subst h1; subst h3
    refine ⟨(fun h => by cases h), ?_, Nat.le_trans hmx (by decide)⟩
    have h4 := congrArg List.length htk
    simp [List.length_take] at h4
    have := h.1
    omega

set_option maxHeartbeats 2000000 in
theorem rising_any (la : Option Addr) (n c : Nat) (L : List Int) (w : World) (hL : IntsAt w la n L) (hn : n ≤ 1000000) (hz : la = none → n = 0 ∧ c = 0) (hm : ∀ x ∈ L, x ≠ -9223372036854775808) :
    Calls Tryz.prog 83 #[byVar, .slice la n c] w fun e w' => ∃ a k c' K, e = .returned (.slice a k c') ∧ IntsAt w' a k K ∧ Fit a k c' ∧ RiseOf L K ∧ Kept w w' ∧ ∀ ad, a = some ad → w.heap.size ≤ ad.block := by
  have HL := Lib.hid hL; have HZ := Lib.hid hz; have HM := Lib.hid hm
  clear hL hz hm
  have HB := Lib.hid (MapKept.heap_alloc w (.cells #[byVar] 134)).1
  have HK0 := Lib.hid ((Kept.refl w).alloc (.cells #[byVar] 134))
  go_enter Tryz.func83, Tryz.ntmps83
  go_wp2_with fail
  obtain ⟨B, hB⟩ : ∃ B : Nat, B = w.heap.size := ⟨_, rfl⟩
  obtain ⟨w1, hw1⟩ : ∃ w1 : World, w1 = w.alloc (.cells #[byVar] 134) := ⟨_, rfl⟩
  have HB1 : Hid (B < w1.heap.size) := by show B < _; rw [hw1, hB]; simp
  have HBW : Hid (w.heap.size ≤ B) := by show _ ≤ B; omega
  simp only [← hB, ← hw1] at HB HK0 ⊢
  clear hB hw1
  refine (clone_any la n c L w1 (HL.out.kept HK0.out) hn HZ.out).mono ?_
  rintro e w2 ⟨a2, c2, rfl, hrow, hk2⟩
  have HROW := Lib.hid hrow; have HK2 := Lib.hid hk2; clear hrow hk2
  by_cases h0 : n = 0
  · subst h0
    have hnil : L = [] := List.eq_nil_of_length_eq_zero HL.out.len
    have HNIL := Lib.hid hnil; clear hnil
    go_wp2_with fail
    refine (Tryz.slices_SortFunc_none_f122 (α := Int) a2 c2 _ _).mono ?_
    rintro e w3 ⟨rfl, rfl⟩
    go_wp2_with fail
    refine (Tryz.slices_Compact_int_empty a2 c2 _).mono ?_
    rintro e w4 ⟨rfl, rfl⟩
    go_wp2
    go_ret
    refine ⟨a2, 0, c2, [], rfl, IntsAt.nil _ _, row_fit HROW.out, ⟨fun x => by rw [HNIL.out], ?_, Nat.zero_le _⟩, HK0.out.trans HK2.out, fun ad had => by subst had; exact Nat.le_trans HK0.out.size (HROW.out.lt ad.block rfl).1⟩
    intro i a b h; simp at h
  · obtain ⟨r, rfl, hrN, hrlt, hcap⟩ := row_some HROW.out (by omega)
    have hlen := HL.out.len
    subst hlen
    have HIN := Lib.hid HL.out.inr
    have hBc : w2.cell? ⟨B, 0, none⟩ = some byVar := by
      rw [cell_of_row _ _ _ _ _ _ (HK2.out.row HB.out)]; rfl
    have HS := Lib.hid (sort_row HROW.out hn hrlt (Nat.lt_of_lt_of_le HB1.out HK2.out.size) (by have := HB1.out; omega) hBc)
    clear hBc
    go_wp2_with fail
    refine HS.out.mono ?_
    rintro e w3 ⟨rfl, S, hperm, hsort, hrow3, ht3⟩
    have HPM := Lib.hid hperm
    have hsl : S.length = L.length := hperm.length_eq
    have hmem : ∀ x, x ∈ S ↔ x ∈ L := fun x => hperm.mem_iff
    have hsv : S.Pairwise fun a b => vr a ≤ vr b := by
      refine List.Pairwise.imp_of_mem (fun {a b} ha hb h => ?_) hsort
      rwa [kx_vr (HIN.out a ((hmem a).1 ha)) (HM.out a ((hmem a).1 ha)), kx_vr (HIN.out b ((hmem b).1 hb)) (HM.out b ((hmem b).1 hb))] at h
    obtain ⟨hcm, hadj⟩ := compact_is S hsv
    rw [← hsl] at hrow3
    have HC := Lib.hid (compact_row hrow3 (by omega) (by omega) (fun x hx => HIN.out x ((hmem x).1 hx)) hcm)
    rw [hsl] at HC
    have HRS : Hid (RiseOf L (compact S)) := ⟨fun x => (hcm x).trans (hmem x), hadj, by have := compact_length_le S; omega⟩
    have HT3 := Lib.hid ht3
    have HCL : Hid ((compact S).length ≤ c2) := by have := compact_length_le S; show _ ≤ _; omega
    clear hperm hsort hrow3 ht3 hsl hmem hsv hcm hadj
    go_wp2_with fail
    refine HC.out.mono ?_
    rintro e w4 ⟨rfl, hI, ht4⟩
    have HI := Lib.hid hI; have HT4 := Lib.hid ht4; clear hI ht4
    generalize compact S = K at *
    go_wp2
    go_ret
    refine ⟨some ⟨r, 0, none⟩, K.length, c2, K, rfl, HI.out, ⟨(fun h => by cases h), HCL.out, (row_fit HROW.out).2.2⟩, HRS.out, ?_, fun ad had => by cases had; exact Nat.le_trans HK0.out.size hrN⟩
    exact (HT3.out.trans HT4.out).from (HK0.out.trans HK2.out) (fun q hq h => by have := HB1.out; have := HBW.out; omega)

/-- What Clean answers. -/
def CleanPost (c : List Int) (w : World) (e : Ending) (w' : World) : Prop :=
  Kept w w' ∧ ((CleanRes c none ∧ e = .returned (.tuple #[.slice none 0 0, .bool false])) ∨ ∃ a k c' K, CleanRes c (some K) ∧ e = .returned (.tuple #[.slice a k c', .bool true]) ∧ IntsAt w' a k K ∧ Fit a k c' ∧ K.length ≤ c.length ∧ ∀ ad, a = some ad → w.heap.size ≤ ad.block)
theorem CleanPost.no {c : List Int} {w w' : World} (h : CleanRes c none) (hk : Kept w w') : CleanPost c w (.returned (.tuple #[.slice none 0 0, .bool false])) w' := ⟨hk, Or.inl ⟨h, rfl⟩⟩
set_option maxHeartbeats 2000000 in
theorem clean_any (la : Option Addr) (n c : Nat) (L : List Int) (w : World) (hL : IntsAt w la n L) (hn : n ≤ 1000000) (hz : la = none → n = 0 ∧ c = 0) :
    Calls Tryz.prog 41 #[.slice la n c] w (CleanPost L w) := by
  have HL := Lib.hid hL; have HZ := Lib.hid hz
  clear hL hz
  have hcon : ∀ x, Calls Tryz.prog 82 #[.slice la n c, .int .i64 x] w fun e w' => e = .returned (.bool (decide (x ∈ L))) ∧ w' = w := by
    intro x
    by_cases h0 : n = 0
    · subst h0
      have hnil := List.eq_nil_of_length_eq_zero HL.out.len
      subst hnil
      exact Tryz.slices_Contains_int_empty la c x w
    · obtain ⟨b, off, rfl, _⟩ := HL.out.at_ (by omega)
      have h1 := Tryz.slices_Contains_int b off n c L x w (by rw [HL.out.len]; exact Nat.le_refl _) (by omega) (HL.out.all (by omega))
      rw [← HL.out.len, List.take_length] at h1
      rw [← HL.out.len]
      refine h1.mono fun e w' ⟨he, hw⟩ => ⟨?_, hw⟩
      rw [he]; congr 2; rw [Bool.eq_iff_iff]; simp
  have HCON := Lib.hid hcon; clear hcon
  by_cases c1 : (0 : Int) ∈ L
  · have d1 := decide_eq_true c1
    have HC1 := Lib.hid c1; clear c1
    go_enter Tryz.func41, Tryz.ntmps41
    go_wp2_with (go_at_call 82; refine (HCON.out 0).mono ?_; rw [d1]; rintro e w' ⟨rfl, rfl⟩)
    go_ret2
    exact CleanPost.no ⟨0, HC1.out, Or.inl rfl⟩ (Kept.refl _)
  · have d1 := decide_eq_false c1
    have HC1 := Lib.hid c1; clear c1
    by_cases c2 : (-9223372036854775808 : Int) ∈ L
    · have d2 := decide_eq_true c2
      have HC2 := Lib.hid c2; clear c2
      have h1 := HCON.out 0
      have h2 := HCON.out (-9223372036854775808)
      rw [d1] at h1; rw [d2] at h2
      have H1 := Lib.hid h1; have H2 := Lib.hid h2; clear h1 h2 d1 d2
      go_enter Tryz.func41, Tryz.ntmps41
      go_wp2_with fail
      refine H1.out.mono ?_
      rintro e w' ⟨rfl, rfl⟩
      go_wp2_with fail
      refine H2.out.mono ?_
      rintro e w' ⟨rfl, rfl⟩
      go_wp2
      go_ret2
      exact CleanPost.no ⟨_, HC2.out, Or.inr (Or.inl rfl)⟩ (Kept.refl _)
    · have d2 := decide_eq_false c2
      have HC2 := Lib.hid c2; clear c2
      have h1 := HCON.out 0
      have h2 := HCON.out (-9223372036854775808)
      rw [d1] at h1; rw [d2] at h2
      have H1 := Lib.hid h1; have H2 := Lib.hid h2; clear h1 h2 d1 d2
      go_enter Tryz.func41, Tryz.ntmps41
      go_wp2_with fail
      refine H1.out.mono ?_
      rintro e w' ⟨rfl, rfl⟩
      go_wp2_with fail
      refine H2.out.mono ?_
      rintro e w' ⟨rfl, rfl⟩
      go_wp2_with fail
      refine (rising_any la n c L w' HL.out hn HZ.out (fun x hx e => HC2.out (e ▸ hx))).mono ?_
      rintro e w1 ⟨a, k, c', K, rfl, hI, hF, hR, hk, hnew⟩
      have HI := Lib.hid hI; have HF := Lib.hid hF; have HR := Lib.hid hR; have HK1 := Lib.hid hk; have HNW := Lib.hid hnew
      have HLN := Lib.hid HL.out.len
      have hk2 : k ≤ 1000000 := by have h1 := hR.len; rw [hI.len, HL.out.len] at h1; omega
      clear hI hF hR hk hnew
      go_wp2
      go_loopw [5] (fun i wr => ∃ j : Nat, 1 ≤ j ∧ (j ≤ k ∨ j = 1) ∧ i = .int .i64 j ∧ NoOpp K j ∧ Kept w1 wr) (fun i _ => k - (intOf i).toNat)
      case atStart => exact ⟨1, Nat.le_refl _, Or.inr rfl, rfl, NoOpp.one K, Kept.refl _⟩
      case round =>
        obtain ⟨j, hj1, hj, rfl, hno, hK⟩ := hrel
        have HN := Lib.hid hno; have HK := Lib.hid hK; clear hno hK
        have j0 : (0 : Int) ≤ (j : Int) := Int.natCast_nonneg _
        by_cases hjk : j < k
        · have j1 : (j : Int) < (k : Int) := by omega
          have j2 : (1 : Int) ≤ (j : Int) := by omega
          have j3 : (j : Int) ≤ 1000000 := by omega
          have e1 : IntKind.i64.wrap ((j : Int) - 1) = (j : Int) - 1 := IntWalk.i64_in _ (by omega)
          have e2 : ((j : Int) - 1).toNat = j - 1 := by omega
          have e3 : 0 ≤ (j : Int) - 1 := by omega
          have e4 : (j : Int) - 1 < (k : Int) := by omega
          obtain ⟨b, off, rfl, hc⟩ := HI.out.at_ (by omega)
          have hlK := HI.out.len
          obtain ⟨y, hy⟩ : ∃ y, K[j]? = some y := ⟨_, List.getElem?_eq_getElem (by omega)⟩
          obtain ⟨z, hz⟩ : ∃ z, K[j - 1]? = some z := ⟨_, List.getElem?_eq_getElem (by omega)⟩
          have x0 := HK.out.cell (hc j y hy)
          have x1 := HK.out.cell (hc (j - 1) z hz)
          have hzr := HI.out.inr z (List.mem_of_getElem? hz)
          have hzm : z ≠ -9223372036854775808 := fun e => HC2.out ((HR.out.mem _).1 (e ▸ List.mem_of_getElem? hz))
          have e5 : IntKind.i64.wrap (-z) = -z := IntWalk.i64_in _ (by unfold InR at hzr; omega)
          have z1 : -9223372036854775807 ≤ z := by unfold InR at hzr; omega
          have z2 : z ≤ 9223372036854775807 := hzr.2
          have HY := Lib.hid hy; have HZZ := Lib.hid hz
          clear hc hy hz hlK hzr hzm
          by_cases heq : y = -z
          · have d5 : (y == -z) = true := by simpa using heq
            have HE := Lib.hid heq; clear heq
            have HRES : Hid (CleanRes L none) := clean_no HR.out.mem HZZ.out (by rw [show j - 1 + 1 = j by omega]; exact HY.out) HE.out
            go_wp2_with fail
            go_quiet (fail)
            go_wp2
            go_ret2
            exact CleanPost.no HRES.out (HK1.out.trans (HK.out.trans (Kept.drewN (Kept.refl _) _)))
          · have d5 : (y == -z) = false := by simpa using heq
            have HE := Lib.hid heq; clear heq
            go_wp2_with fail
            go_quiet (fail)
            clear e1 e2 e5
            go_wp2
            go_roundw
            case rel => exact ⟨j + 1, by omega, by omega, by go_num, HN.out.succ (by omega) HZZ.out HY.out HE.out, HK.out.trans (Kept.drewN (Kept.refl _) _)⟩
            case measure => simp [intOf]; omega
        · have hjk' : ¬ (j : Int) < (k : Int) := by omega
          have HRES : Hid (CleanRes L (some K)) := by
            refine clean_yes HC1.out HC2.out HR.out.mem HR.out.adj ?_
            rw [HI.out.len]
            intro i x y hi hx hy
            exact HN.out i x y (by omega) hx hy
          go_wp2
          go_ret2
          exact ⟨HK1.out.trans HK.out, Or.inr ⟨a, k, c', K, HRES.out, rfl, HI.out.kept HK.out, HF.out, HR.out.len, HNW.out⟩⟩
end Go.Proofs.YtlikokeknfhejaaGreatDoor
