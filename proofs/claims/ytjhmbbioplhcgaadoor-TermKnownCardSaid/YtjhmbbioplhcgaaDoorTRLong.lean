/-
  Layer 2: contracts of the reference's Long and Text.
-/
import Derived.Test.YtjhmbbioplhcgaaDoorTRText
namespace Go.Proofs.YtjhmbbioplhcgaaDoor
open Go Go.RowKit

set_option maxHeartbeats 4000000 in
theorem rlong3w {h r c len k : Nat} {n a o x y ly : Int} {w : World} {A N : ByteArray} (hC : NodeCells w h r c len k ⟨3, n, a, o, x, y⟩)
    (hA : Makes 51 #[.int .i64 a] w A) (hN : Makes 50 #[.int .i64 n, .int .i64 10] w N) (hT : MakesI 41 #[.pointer (some ⟨h, 0, none⟩), .int .i64 y] w ly)
    (sA : (A.size : Int) ≤ 30) (sN : (N.size : Int) ≤ 30) (l0 : 0 ≤ ly) (l1 : ly ≤ 100000) :
    Calls Tryd.prog 41 #[.pointer (some ⟨h, 0, none⟩), .int .i64 (k : Int)] w fun e w' => e = .returned (.int .i64 (min 100000 (4 + (A.size : Int) + (N.size : Int) + ly))) ∧ Kept w w' := by
  obtain ⟨g0, m0, m1, m2, m3, m4, m5, hk, hl⟩ := hC
  simp only at *
  have k0 : (0 : Int) ≤ (k : Int) := Int.natCast_nonneg _
  have k1 : (k : Int) < (len : Int) := by omega
  have a0 : (0 : Int) ≤ (A.size : Int) := Int.natCast_nonneg _
  have n0 : (0 : Int) ≤ (N.size : Int) := Int.natCast_nonneg _
  have HQ := Lib.hid ((Kept.refl w).alloc (refObj ⟨3, n, a, o, x, y⟩))
  have HBX := Lib.hid ((MapKept.heap_alloc w (refObj ⟨3, n, a, o, x, y⟩)).1)
  go_enter Tryd.func41, Tryd.ntmps41
  go_wp2_with fail
  change Code.wp _ _ _ _ (w.alloc (refObj ⟨3, n, a, o, x, y⟩))
  generalize w.alloc (refObj ⟨3, n, a, o, x, y⟩) = w1 at *
  clear g0 m0 m1 m2 m3 m4 m5
  generalize w.heap.size = b at *
  have HA := Lib.hid (hA.at' HQ.out); have HN := Lib.hid (hN.at' HQ.out); have HT := Lib.hid (hT.at' HQ.out)
  clear hA hN hT
  have SK : Hid (∀ w', Kept w1 w' → Kept w1 w' ∧ w'.cell? ⟨b, 1, none⟩ = some (.int .i64 n) ∧ w'.cell? ⟨b, 2, none⟩ = some (.int .i64 a) ∧ w'.cell? ⟨b, 5, none⟩ = some (.int .i64 y)) := fun w' hk => by
    obtain ⟨_, b1, b2, _, _, b5⟩ := rbox_facts HBX.out hk
    exact ⟨hk, b1, b2, b5⟩
  go_region_held3 (fun w' => Kept w1 w' ∧ w'.cell? ⟨b, 1, none⟩ = some (.int .i64 n) ∧ w'.cell? ⟨b, 2, none⟩ = some (.int .i64 a) ∧ w'.cell? ⟨b, 5, none⟩ = some (.int .i64 y))
    (first | exact SK.out _ (Kept.refl _) | exact SK.out _ (Kept.drew (Kept.refl _)) | assumption | exact SK.out _ (by assumption))
    ((first
      | (go_at_call 51; refine (makes_held HA.out (And.left ‹Kept w1 _ ∧ _›)).mono ?_; rintro e w7 ⟨rfl, hk7⟩)
      | (go_at_call 50; refine (makes_held HN.out (And.left ‹Kept w1 _ ∧ _›)).mono ?_; rintro e w7 ⟨rfl, hk7⟩)
      | (go_at_call 41; refine (makesI_held HT.out (And.left ‹Kept w1 _ ∧ _›)).mono ?_; rintro e w7 ⟨rfl, hk7⟩)))
  all_goals
    go_wp2
    go_ret
    exact ⟨ret_i (by rw [show IntKind.i64.wrap (4 + (A.size : Int)) = 4 + (A.size : Int) from IntWalk.i64_in _ (by omega), show IntKind.i64.wrap (4 + (A.size : Int) + (N.size : Int)) = 4 + (A.size : Int) + (N.size : Int) from IntWalk.i64_in _ (by omega), show IntKind.i64.wrap (4 + (A.size : Int) + (N.size : Int) + ly) = 4 + (A.size : Int) + (N.size : Int) + ly from IntWalk.i64_in _ (by omega)]), HQ.out.trans (And.left ‹Kept w1 _ ∧ _›)⟩
set_option maxHeartbeats 4000000 in
theorem rlong4w {h r c len k : Nat} {n a o x y lx ly : Int} {w : World} {G : ByteArray} (hC : NodeCells w h r c len k ⟨4, n, a, o, x, y⟩)
    (hG : Makes 52 #[.int .u8 o] w G) (hX : MakesI 41 #[.pointer (some ⟨h, 0, none⟩), .int .i64 x] w lx) (hT : MakesI 41 #[.pointer (some ⟨h, 0, none⟩), .int .i64 y] w ly)
    (sG : (G.size : Int) ≤ 30) (l0 : 0 ≤ ly) (l1 : ly ≤ 100000) (j0 : 0 ≤ lx) (j1 : lx ≤ 100000) :
    Calls Tryd.prog 41 #[.pointer (some ⟨h, 0, none⟩), .int .i64 (k : Int)] w fun e w' => e = .returned (.int .i64 (min 100000 (4 + (G.size : Int) + lx + ly))) ∧ Kept w w' := by
  obtain ⟨g0, m0, m1, m2, m3, m4, m5, hk, hl⟩ := hC
  simp only at *
  have k0 : (0 : Int) ≤ (k : Int) := Int.natCast_nonneg _
  have k1 : (k : Int) < (len : Int) := by omega
  have a0 : (0 : Int) ≤ (G.size : Int) := Int.natCast_nonneg _
  have HQ := Lib.hid ((Kept.refl w).alloc (refObj ⟨4, n, a, o, x, y⟩))
  have HBX := Lib.hid ((MapKept.heap_alloc w (refObj ⟨4, n, a, o, x, y⟩)).1)
  go_enter Tryd.func41, Tryd.ntmps41
  go_wp2_with fail
  change Code.wp _ _ _ _ (w.alloc (refObj ⟨4, n, a, o, x, y⟩))
  generalize w.alloc (refObj ⟨4, n, a, o, x, y⟩) = w1 at *
  clear g0 m0 m1 m2 m3 m4 m5
  generalize w.heap.size = b at *
  have HG := Lib.hid (hG.at' HQ.out); have HX := Lib.hid (hX.at' HQ.out); have HT := Lib.hid (hT.at' HQ.out)
  clear hG hX hT
  have SK : Hid (∀ w', Kept w1 w' → Kept w1 w' ∧ w'.cell? ⟨b, 3, none⟩ = some (.int .u8 o) ∧ w'.cell? ⟨b, 4, none⟩ = some (.int .i64 x) ∧ w'.cell? ⟨b, 5, none⟩ = some (.int .i64 y)) := fun w' hk => by
    obtain ⟨_, _, _, b3, b4, b5⟩ := rbox_facts HBX.out hk
    exact ⟨hk, b3, b4, b5⟩
  go_region_held3 (fun w' => Kept w1 w' ∧ w'.cell? ⟨b, 3, none⟩ = some (.int .u8 o) ∧ w'.cell? ⟨b, 4, none⟩ = some (.int .i64 x) ∧ w'.cell? ⟨b, 5, none⟩ = some (.int .i64 y))
    (first | exact SK.out _ (Kept.refl _) | exact SK.out _ (Kept.drew (Kept.refl _)) | assumption | exact SK.out _ (by assumption))
    ((first
      | (go_at_call 52; refine (makes_held HG.out (And.left ‹Kept w1 _ ∧ _›)).mono ?_; rintro e w7 ⟨rfl, hk7⟩)
      | (go_at_call_of 41 x; refine (makesI_held HX.out (And.left ‹Kept w1 _ ∧ _›)).mono ?_; rintro e w7 ⟨rfl, hk7⟩)
      | (go_at_call_of 41 y; refine (makesI_held HT.out (And.left ‹Kept w1 _ ∧ _›)).mono ?_; rintro e w7 ⟨rfl, hk7⟩)))
  all_goals
    go_wp2
    go_ret
    exact ⟨ret_i (by rw [show IntKind.i64.wrap (4 + (G.size : Int)) = 4 + (G.size : Int) from IntWalk.i64_in _ (by omega), show IntKind.i64.wrap (4 + (G.size : Int) + lx) = 4 + (G.size : Int) + lx from IntWalk.i64_in _ (by omega), show IntKind.i64.wrap (4 + (G.size : Int) + lx + ly) = 4 + (G.size : Int) + lx + ly from IntWalk.i64_in _ (by omega)]), HQ.out.trans (And.left ‹Kept w1 _ ∧ _›)⟩
set_option maxHeartbeats 4000000 in
theorem rlong0w {h r c len k : Nat} {kd n a o x y : Int} {w : World} {T : ByteArray} (hC : NodeCells w h r c len k ⟨kd, n, a, o, x, y⟩) (h3 : (kd == 3) = false) (h4 : (kd == 4) = false)
    (hT : Makes 42 #[.pointer (some ⟨h, 0, none⟩), .int .i64 (k : Int)] w T) :
    Calls Tryd.prog 41 #[.pointer (some ⟨h, 0, none⟩), .int .i64 (k : Int)] w fun e w' => e = .returned (.int .i64 (T.size : Int)) ∧ Kept w w' := by
  obtain ⟨g0, m0, m1, m2, m3, m4, m5, hk, hl⟩ := hC
  simp only at *
  have k0 : (0 : Int) ≤ (k : Int) := Int.natCast_nonneg _
  have k1 : (k : Int) < (len : Int) := by omega
  have HQ := Lib.hid ((Kept.refl w).alloc (refObj ⟨kd, n, a, o, x, y⟩))
  have HT := Lib.hid hT; clear hT
  go_enter Tryd.func41, Tryd.ntmps41
  go_wp2_with fail
  refine (HT.out _ (by exact HQ.out)).mono ?_
  rintro e w1 ⟨rfl, hk'⟩
  go_wp2
  go_ret
  exact ⟨rfl, HQ.out.trans hk'⟩
theorem rlong_has {N h c : Nat} {a : Option Addr} {L : List Nd} (hG : Good L) (hl : L.length ≤ 900) (n : Nat) :
    ∀ (i : Int) (w : World), i < n → hasB L.length i = true → RefAt N w h a c L → Laid w →
      Calls Tryd.prog 41 #[.pointer (some ⟨h, 0, none⟩), .int .i64 i] w fun e w' => e = .returned (.int .i64 (longR L i)) ∧ Kept w w' := by
  induction n with
  | zero =>
    intro i w hi hb _
    have := ((hasB_iff _ _).1 hb).1
    omega
  | succ n ih =>
    intro i w hi hb hR hL
    obtain ⟨h0, h1⟩ := (hasB_iff _ _).1 hb
    obtain ⟨k, rfl⟩ : ∃ k : Nat, i = k := ⟨i.toNat, by omega⟩
    have hk : k < L.length := by omega
    obtain ⟨r, rfl, hC⟩ := hR.nodeCells hl hk
    have hok := hG.ok L[k] (List.getElem_mem hk)
    have hmay := hG.may k hk
    have hp : ∀ p ∈ partsOf L[k], p < n ∧ hasB L.length p = true := fun p hp => by
      have := part_lt hG hb (p := p) (by rw [ndAt_get hk]; exact hp)
      exact ⟨by omega, this.2.2⟩
    have t1 := textOf_k1 hG hk
    have t2 := textOf_k2 hG hk
    have t3 := textOf_k3 hG hk
    have t4 := textOf_k4 hG hk
    obtain ⟨hk0, hn, ha, ho, hx, hy⟩ := hok
    have ln := itoa_le hn
    have la := itoa_le ha
    have MN : Makes 50 #[.int .i64 L[k].n, .int .i64 10] w ⟨(Lib.itoa L[k].n).toArray⟩ := fun w' h => fmt_any L[k].n w' hn (hL.kept h)
    have MA : Makes 51 #[.int .i64 L[k].a] w ⟨(Lib.itoa L[k].a).toArray⟩ := fun w' h => itoa_any L[k].a w' ha (hL.kept h)
    have MT : (textOf L (k : Int)).length ≤ 100000 → Makes 42 #[.pointer (some ⟨h, 0, none⟩), .int .i64 (k : Int)] w ⟨(textOf L (k : Int)).toArray⟩ := fun hlp w' hkw =>
      rtext_has hG hl (k + 1) k w' (by omega) hb (hR.kept hkw) (hL.kept hkw) hlp
    have ML : ∀ p ∈ partsOf L[k], MakesI 41 #[.pointer (some ⟨h, 0, none⟩), .int .i64 p] w (longR L p) := fun p hpp w' hkw =>
      ih p w' (hp p hpp).1 (hp p hpp).2 (hR.kept hkw) (hL.kept hkw)
    have hop := may_op hmay
    have hkind := may_kind hmay
    generalize L[k] = d at *
    obtain ⟨dk, dn, da, dp, dx, dy⟩ := d
    simp only at *
    rcases hkind with h | h | h | h <;> subst h
    · have e := t1 rfl
      have hlt : (textOf L (k : Int)).length ≤ 21 := by rw [e]; exact ln
      refine (rlong0w hC (by decide) (by decide) (MT (by omega))).mono fun e' w' hh => ⟨hh.1.trans (ret_i ?_), hh.2⟩
      show ((textOf L (k : Int)).toArray.size : Int) = _
      unfold longR
      simp
      omega
    · have e := t2 rfl
      have hlt : (textOf L (k : Int)).length ≤ 22 := by rw [e]; simp; omega
      refine (rlong0w hC (by decide) (by decide) (MT (by omega))).mono fun e' w' hh => ⟨hh.1.trans (ret_i ?_), hh.2⟩
      show ((textOf L (k : Int)).toArray.size : Int) = _
      unfold longR
      simp
      omega
    · have e := t3 rfl
      have b := longR_nat L dy
      refine (rlong3w hC MA MN (ML dy (by simp [partsOf])) (show (((Lib.itoa da).toArray.size : Nat) : Int) ≤ 30 by simp; omega) (show (((Lib.itoa dn).toArray.size : Nat) : Int) ≤ 30 by simp; omega) b.1 b.2).mono fun e' w' hh => ⟨hh.1.trans (ret_i ?_), hh.2⟩
      show min 100000 (4 + (((Lib.itoa da).toArray.size : Nat) : Int) + (((Lib.itoa dn).toArray.size : Nat) : Int) + longR L dy) = _
      unfold longR
      rw [e]
      simp
      omega
    · have e := t4 rfl
      have bx := longR_nat L dx
      have by_ := longR_nat L dy
      obtain ⟨o1, o2⟩ := hop rfl
      obtain ⟨o', rfl⟩ : ∃ o' : Nat, dp = o' := ⟨dp.toNat, by omega⟩
      have MG : Makes 52 #[.int .u8 (o' : Int)] w ⟨(signN o').toArray⟩ := fun w' _ => sign_any o' w' (by omega) (by omega)
      have hls := signN_le o'
      refine (rlong4w hC MG (ML dx (by simp [partsOf])) (ML dy (by simp [partsOf])) (show (((signN o').toArray.size : Nat) : Int) ≤ 30 by simp; omega) by_.1 by_.2 bx.1 bx.2).mono fun e' w' hh => ⟨hh.1.trans (ret_i ?_), hh.2⟩
      show min 100000 (4 + (((signN o').toArray.size : Nat) : Int) + longR L dx + longR L dy) = _
      unfold longR
      rw [e, signOf_nat]
      simp
      omega
set_option maxHeartbeats 2000000 in
theorem rtext_any {N h c : Nat} {a : Option Addr} {L : List Nd} {w : World} (hR : RefAt N w h a c L) (hG : Good L) (hl : L.length ≤ 900) (hL : Laid w) (i : Int) :
    Calls Tryd.prog 22 #[.pointer (some ⟨h, 0, none⟩), .int .i64 i] w fun e w' => e = .returned (str (textI L i)) ∧ Kept w w' := by
  have g0 := hR.cell0
  by_cases hb : hasB L.length i = true
  · have HB := Lib.hid hb
    have HR := Lib.hid hR
    have HL := Lib.hid hL
    have HG := Lib.hid hG
    have ML : ∀ w', Kept w w' → Calls Tryd.prog 41 #[.pointer (some ⟨h, 0, none⟩), .int .i64 i] w' fun e w'' => e = .returned (.int .i64 (longR L i)) ∧ Kept w' w'' := fun w' k => rlong_has hG hl (i.toNat + 1) i w' (by omega) hb (hR.kept k) (hL.kept k)
    have HML := Lib.hid ML
    by_cases ht : (textOf L i).length ≤ 65536
    · have hq : decide (65536 < longR L i) = false := decide_eq_false (by unfold longR; omega)
      have hq2 : ¬ (65536 < longR L i) := by unfold longR; omega
      have HT := Lib.hid ht
      have E : Hid (textI L i = textOf L i) := by show _ = _; unfold textI; rw [if_pos hb, if_pos ht]
      clear hb hR hL hG ML ht
      go_enter Tryd.func22, Tryd.ntmps22
      go_wp2_with fail
      refine (refhas_any _ _ _).mono ?_
      rintro e w' ⟨rfl, rfl⟩
      rw [HB.out]
      go_wp2_with fail
      refine (HML.out _ (Kept.refl _)).mono ?_
      rintro e w1 ⟨rfl, hk1⟩
      go_wp2_with fail
      refine (rtext_has HG.out hl (i.toNat + 1) i w1 (by omega) HB.out (HR.out.kept hk1) (HL.out.kept hk1) (by have := HT.out; omega)).mono ?_
      rintro e w2 ⟨rfl, hk2⟩
      go_wp2
      go_ret
      exact ⟨ret_s E.out.symm, hk1.trans hk2⟩
    · have hq : decide (65536 < longR L i) = true := decide_eq_true (by unfold longR; omega)
      have hq2 : 65536 < longR L i := by unfold longR; omega
      have E : Hid (textI L i = []) := by show _ = _; unfold textI; rw [if_pos hb, if_neg ht]
      clear hb hR hL hG ML ht
      go_enter Tryd.func22, Tryd.ntmps22
      go_wp2_with fail
      refine (refhas_any _ _ _).mono ?_
      rintro e w' ⟨rfl, rfl⟩
      rw [HB.out]
      go_wp2_with fail
      refine (HML.out _ (Kept.refl _)).mono ?_
      rintro e w1 ⟨rfl, hk1⟩
      go_wp2
      go_ret
      exact ⟨ret_s E.out.symm, hk1⟩
  · have hb' : hasB L.length i = false := by simpa using hb
    have HB := Lib.hid hb'
    have E : Hid (textI L i = []) := by show _ = _; unfold textI; rw [if_neg hb]
    clear hb hb' hR hL hG
    go_enter Tryd.func22, Tryd.ntmps22
    go_wp2_with fail
    refine (refhas_any _ _ _).mono ?_
    rintro e w' ⟨rfl, rfl⟩
    rw [HB.out]
    go_wp2
    go_ret
    exact ⟨ret_s E.out.symm, Kept.refl _⟩
end Go.Proofs.YtjhmbbioplhcgaaDoor
