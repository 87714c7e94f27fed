/-
  Layer 2: contracts of the reference's text, Long and Text.
-/
import Derived.Test.YtjhmbbioplhcgaaDoorTRTell
namespace Go.Proofs.YtjhmbbioplhcgaaDoor
open Go Go.RowKit

/-- A call that makes a number, and writes nothing that was there. -/
def MakesI (f : Nat) (args : Array Value) (w : World) (n : Int) : Prop := ∀ w', Kept w w' → Calls Tryd.prog f args w' fun e w'' => e = .returned (.int .i64 n) ∧ Kept w' w''
theorem makesI_held {f : Nat} {args : Array Value} {W w : World} {n : Int} (h : MakesI f args W n) (hk : Kept W w) :
    Calls Tryd.prog f args w fun e w'' => e = .returned (.int .i64 n) ∧ Kept W w'' :=
  (h w hk).mono fun _ _ hh => ⟨hh.1, hk.trans hh.2⟩
theorem Makes.at' {f : Nat} {args : Array Value} {W W' : World} {s : ByteArray} (h : Makes f args W s) (hk : Kept W W') : Makes f args W' s := fun w' k => h w' (hk.trans k)
theorem MakesI.at' {f : Nat} {args : Array Value} {W W' : World} {n : Int} (h : MakesI f args W n) (hk : Kept W W') : MakesI f args W' n := fun w' k => h w' (hk.trans k)

/-- The cells of the node numbered k of a row. -/
structure NodeCells (w : World) (h : Nat) (r c len k : Nat) (d : Nd) : Prop where
  g0 : w.cell? ⟨h, 0, none⟩ = some (.slice (some ⟨r, 0, none⟩) len c)
  m0 : w.cell? ⟨r, k * 6, none⟩ = some (.int .u8 d.k)
  m1 : w.cell? ⟨r, k * 6 + 1, none⟩ = some (.int .i64 d.n)
  m2 : w.cell? ⟨r, k * 6 + 2, none⟩ = some (.int .i64 d.a)
  m3 : w.cell? ⟨r, k * 6 + 3, none⟩ = some (.int .u8 d.o)
  m4 : w.cell? ⟨r, k * 6 + 4, none⟩ = some (.int .i64 d.x)
  m5 : w.cell? ⟨r, k * 6 + 5, none⟩ = some (.int .i64 d.y)
  lt : k < len
  le : len ≤ 900
theorem RefAt.nodeCells {N h c : Nat} {a : Option Addr} {L : List Nd} {w : World} (hR : RefAt N w h a c L) (hl : L.length ≤ 900) {k : Nat} (hk : k < L.length) : ∃ r, a = some ⟨r, 0, none⟩ ∧ NodeCells w h r c L.length k L[k] := by
  obtain ⟨r, rfl, hrl, hcap, hmx, hcell⟩ := hR.rowAt (by omega)
  have hq := hcell k L[k] (List.getElem?_eq_getElem hk)
  have m0 := hq 0 _ rfl
  simp only [Nat.add_zero] at m0
  exact ⟨r, rfl, hR.cell0, m0, hq 1 _ rfl, hq 2 _ rfl, hq 3 _ rfl, hq 4 _ rfl, hq 5 _ rfl, hk, hl⟩

set_option maxHeartbeats 1000000 in
theorem rtext1w {h r c len k : Nat} {n a o x y : Int} {w : World} {N : ByteArray} (hC : NodeCells w h r c len k ⟨1, n, a, o, x, y⟩) (hN : Makes 50 #[.int .i64 n, .int .i64 10] w N) :
    Calls Tryd.prog 42 #[.pointer (some ⟨h, 0, none⟩), .int .i64 (k : Int)] w fun e w' => e = .returned (.string N) ∧ Kept w w' := by
  obtain ⟨g0, m0, m1, m2, m3, m4, m5, hk, hl⟩ := hC
  simp only at *
  have k0 : (0 : Int) ≤ (k : Int) := Int.natCast_nonneg _
  have k1 : (k : Int) < (len : Int) := by omega
  have hQ := (Kept.refl w).alloc (refObj ⟨1, n, a, o, x, y⟩)
  have HBX := Lib.hid ((MapKept.heap_alloc w (refObj ⟨1, n, a, o, x, y⟩)).1)
  go_enter Tryd.func42, Tryd.ntmps42
  go_wp2_with fail
  refine (hN _ (by exact hQ)).mono ?_
  rintro e w' ⟨rfl, hk'⟩
  obtain ⟨b0, b1, b2, b3, b4, b5⟩ := rbox_facts HBX.out (by exact hk')
  go_wp2
  go_ret
  exact ⟨rfl, hQ.trans hk'⟩
set_option maxHeartbeats 1000000 in
theorem rtext2w {h r c len k : Nat} {n a o x y : Int} {w : World} {N S : ByteArray} (hC : NodeCells w h r c len k ⟨2, n, a, o, x, y⟩) (hN : Makes 50 #[.int .i64 n, .int .i64 10] w N) (hS : Adds { data := #[115] } N S) :
    Calls Tryd.prog 42 #[.pointer (some ⟨h, 0, none⟩), .int .i64 (k : Int)] w fun e w' => e = .returned (.string S) ∧ Kept w w' := by
  obtain ⟨g0, m0, m1, m2, m3, m4, m5, hk, hl⟩ := hC
  simp only at *
  unfold Adds at hS
  have k0 : (0 : Int) ≤ (k : Int) := Int.natCast_nonneg _
  have k1 : (k : Int) < (len : Int) := by omega
  have hQ := (Kept.refl w).alloc (refObj ⟨2, n, a, o, x, y⟩)
  have HBX := Lib.hid ((MapKept.heap_alloc w (refObj ⟨2, n, a, o, x, y⟩)).1)
  go_enter Tryd.func42, Tryd.ntmps42
  go_wp2_with fail
  refine (hN _ (by exact hQ)).mono ?_
  rintro e w' ⟨rfl, hk'⟩
  obtain ⟨b0, b1, b2, b3, b4, b5⟩ := rbox_facts HBX.out (by exact hk')
  go_wp2
  go_ret
  exact ⟨rfl, hQ.trans hk'⟩
set_option maxHeartbeats 4000000 in
theorem rtext3w {h r c len k : Nat} {n a o x y : Int} {w : World} {A N T S1 S2 S3 S4 S5 S6 : ByteArray} (hC : NodeCells w h r c len k ⟨3, n, a, o, x, y⟩)
    (hA : Makes 51 #[.int .i64 a] w A) (hN : Makes 50 #[.int .i64 n, .int .i64 10] w N) (hT : Makes 42 #[.pointer (some ⟨h, 0, none⟩), .int .i64 y] w T)
    (hS1 : Adds { data := #[97] } A S1) (hS2 : Adds S1 { data := #[118] } S2) (hS3 : Adds S2 N S3) (hS4 : Adds S3 { data := #[91] } S4) (hS5 : Adds S4 T S5) (hS6 : Adds S5 { data := #[93] } S6) :
    Calls Tryd.prog 42 #[.pointer (some ⟨h, 0, none⟩), .int .i64 (k : Int)] w fun e w' => e = .returned (.string S6) ∧ Kept w w' := by
  obtain ⟨g0, m0, m1, m2, m3, m4, m5, hk, hl⟩ := hC
  simp only at *
  unfold Adds at hS1 hS2 hS3 hS4 hS5 hS6
  have k0 : (0 : Int) ≤ (k : Int) := Int.natCast_nonneg _
  have k1 : (k : Int) < (len : Int) := by omega
  have HQ := Lib.hid ((Kept.refl w).alloc (refObj ⟨3, n, a, o, x, y⟩))
  have HBX := Lib.hid ((MapKept.heap_alloc w (refObj ⟨3, n, a, o, x, y⟩)).1)
  go_enter Tryd.func42, Tryd.ntmps42
  go_wp2_with fail
  refine (hN _ (by exact HQ.out)).mono ?_
  rintro e w1 ⟨rfl, hk'⟩
  have HK1 := Lib.hid (HQ.out.trans hk')
  have HB1 := Lib.hid (hk'.row HBX.out)
  clear hk' g0 m0 m1 m2 m3 m4 m5
  generalize w.heap.size = b at *
  obtain ⟨b0, b1, b2, b3, b4, b5⟩ := rbox_facts HB1.out (Kept.refl w1)
  have HA := Lib.hid (hA.at' HK1.out); have HT := Lib.hid (hT.at' HK1.out)
  clear hA hN hT
  go_wp2_with fail
  clear b0 b1 b2 b3 b4 b5
  have SK : Hid (∀ w', Kept w1 w' → Kept w1 w' ∧ w'.cell? ⟨b, 2, none⟩ = some (.int .i64 a) ∧ w'.cell? ⟨b, 5, none⟩ = some (.int .i64 y)) := fun w' hk => by
    obtain ⟨_, _, b2, _, _, b5⟩ := rbox_facts HB1.out hk
    exact ⟨hk, b2, b5⟩
  go_region_held3 (fun w' => Kept w1 w' ∧ w'.cell? ⟨b, 2, none⟩ = some (.int .i64 a) ∧ w'.cell? ⟨b, 5, none⟩ = some (.int .i64 y))
    (first | exact SK.out _ (Kept.refl _) | exact SK.out _ (Kept.drew (Kept.refl _)) | assumption | exact SK.out _ (by assumption))
    ((first
      | (go_at_call 51; refine (makes_held HA.out (And.left ‹Kept w1 _ ∧ _›)).mono ?_; rintro e w7 ⟨rfl, hk7⟩)
      | (go_at_call 42; refine (makes_held HT.out (And.left ‹Kept w1 _ ∧ _›)).mono ?_; rintro e w7 ⟨rfl, hk7⟩)))
  all_goals
    go_wp2
    go_ret
    exact ⟨rfl, HK1.out.trans (And.left ‹Kept w1 _ ∧ _›)⟩
set_option maxHeartbeats 4000000 in
theorem rtext4w {h r c len k : Nat} {kd n a x y : Int} {o : Int} {w : World} {N G X T S1 S2 S3 S4 S5 S6 : ByteArray} (hC : NodeCells w h r c len k ⟨kd, n, a, o, x, y⟩) (h1 : (kd == 1) = false) (h2 : (kd == 2) = false) (h3 : (kd == 3) = false)
    (hN : Makes 50 #[.int .i64 n, .int .i64 10] w N) (hG : Makes 52 #[.int .u8 o] w G) (hX : Makes 42 #[.pointer (some ⟨h, 0, none⟩), .int .i64 x] w X) (hT : Makes 42 #[.pointer (some ⟨h, 0, none⟩), .int .i64 y] w T)
    (hS1 : Adds { data := #[40] } X S1) (hS2 : Adds S1 { data := #[32] } S2) (hS3 : Adds S2 G S3) (hS4 : Adds S3 { data := #[32] } S4) (hS5 : Adds S4 T S5) (hS6 : Adds S5 { data := #[41] } S6) :
    Calls Tryd.prog 42 #[.pointer (some ⟨h, 0, none⟩), .int .i64 (k : Int)] w fun e w' => e = .returned (.string S6) ∧ Kept w w' := by
  obtain ⟨g0, m0, m1, m2, m3, m4, m5, hk, hl⟩ := hC
  simp only at *
  unfold Adds at hS1 hS2 hS3 hS4 hS5 hS6
  have k0 : (0 : Int) ≤ (k : Int) := Int.natCast_nonneg _
  have k1 : (k : Int) < (len : Int) := by omega
  have HQ := Lib.hid ((Kept.refl w).alloc (refObj ⟨kd, n, a, o, x, y⟩))
  have HBX := Lib.hid ((MapKept.heap_alloc w (refObj ⟨kd, n, a, o, x, y⟩)).1)
  go_enter Tryd.func42, Tryd.ntmps42
  go_wp2_with fail
  refine (hN _ (by exact HQ.out)).mono ?_
  rintro e w1 ⟨rfl, hk'⟩
  have HK1 := Lib.hid (HQ.out.trans hk')
  have HB1 := Lib.hid (hk'.row HBX.out)
  clear hk' g0 m0 m1 m2 m3 m4 m5
  generalize w.heap.size = b at *
  obtain ⟨b0, b1, b2, b3, b4, b5⟩ := rbox_facts HB1.out (Kept.refl w1)
  have HG := Lib.hid (hG.at' HK1.out); have HX := Lib.hid (hX.at' HK1.out); have HT := Lib.hid (hT.at' HK1.out)
  clear hG hN hX hT
  go_wp2_with fail
  clear b0 b1 b2 b3 b4 b5
  have SK : Hid (∀ w', Kept w1 w' → Kept w1 w' ∧ w'.cell? ⟨b, 3, none⟩ = some (.int .u8 o) ∧ w'.cell? ⟨b, 4, none⟩ = some (.int .i64 x) ∧ w'.cell? ⟨b, 5, none⟩ = some (.int .i64 y)) := fun w' hk => by
    obtain ⟨_, _, _, b3, b4, b5⟩ := rbox_facts HB1.out hk
    exact ⟨hk, b3, b4, b5⟩
  go_region_held3 (fun w' => Kept w1 w' ∧ w'.cell? ⟨b, 3, none⟩ = some (.int .u8 o) ∧ w'.cell? ⟨b, 4, none⟩ = some (.int .i64 x) ∧ w'.cell? ⟨b, 5, none⟩ = some (.int .i64 y))
    (first | exact SK.out _ (Kept.refl _) | exact SK.out _ (Kept.drew (Kept.refl _)) | assumption | exact SK.out _ (by assumption))
    ((first
      | (go_at_call 52; refine (makes_held HG.out (And.left ‹Kept w1 _ ∧ _›)).mono ?_; rintro e w7 ⟨rfl, hk7⟩)
      | (go_at_call_of 42 x; refine (makes_held HX.out (And.left ‹Kept w1 _ ∧ _›)).mono ?_; rintro e w7 ⟨rfl, hk7⟩)
      | (go_at_call_of 42 y; refine (makes_held HT.out (And.left ‹Kept w1 _ ∧ _›)).mono ?_; rintro e w7 ⟨rfl, hk7⟩)))
  all_goals
    go_wp2
    go_ret
    exact ⟨rfl, HK1.out.trans (And.left ‹Kept w1 _ ∧ _›)⟩

theorem itoa_le {n : Int} (h : InR n) : (Lib.itoa n).length ≤ 21 := Lib.itoa_length_le n h.1 h.2
theorem rtext_has {N h c : Nat} {a : Option Addr} {L : List Nd} (hG : Good L) (hl : L.length ≤ 900) (n : Nat) :
    ∀ (i : Int) (w : World), i < n → hasB L.length i = true → RefAt N w h a c L → Laid w → (textOf L i).length ≤ 100000 →
      Calls Tryd.prog 42 #[.pointer (some ⟨h, 0, none⟩), .int .i64 i] w fun e w' => e = .returned (str (textOf L i)) ∧ Kept w w' := by
  induction n with
  | zero =>
    intro i w hi hb _
    have := ((hasB_iff _ _).1 hb).1
    omega
  | succ n ih =>
    intro i w hi hb hR hL hT
    obtain ⟨h0, h1⟩ := (hasB_iff _ _).1 hb
    obtain ⟨k, rfl⟩ : ∃ k : Nat, i = k := ⟨i.toNat, by omega⟩
    have hk : k < L.length := by omega
    obtain ⟨r, rfl, hC⟩ := hR.nodeCells hl hk
    have hok := hG.ok L[k] (List.getElem_mem hk)
    have hmay := hG.may k hk
    have hp : ∀ p ∈ partsOf L[k], p < n ∧ hasB L.length p = true := fun p hp => by
      have := part_lt hG hb (p := p) (by rw [ndAt_get hk]; exact hp)
      exact ⟨by omega, this.2.2⟩
    have t1 := textOf_k1 hG hk
    have t2 := textOf_k2 hG hk
    have t3 := textOf_k3 hG hk
    have t4 := textOf_k4 hG hk
    obtain ⟨hk0, hn, ha, ho, hx, hy⟩ := hok
    have ln := itoa_le hn
    have la := itoa_le ha
    have MN : Makes 50 #[.int .i64 L[k].n, .int .i64 10] w ⟨(Lib.itoa L[k].n).toArray⟩ := fun w' h => fmt_any L[k].n w' hn (hL.kept h)
    have MA : Makes 51 #[.int .i64 L[k].a] w ⟨(Lib.itoa L[k].a).toArray⟩ := fun w' h => itoa_any L[k].a w' ha (hL.kept h)
    have MT : ∀ p ∈ partsOf L[k], (textOf L p).length ≤ 100000 → Makes 42 #[.pointer (some ⟨h, 0, none⟩), .int .i64 p] w ⟨(textOf L p).toArray⟩ := fun p hpp hlp w' hkw =>
      ih p w' (hp p hpp).1 (hp p hpp).2 (hR.kept hkw) (hL.kept hkw) hlp
    have hop := may_op hmay
    have hkind := may_kind hmay
    generalize L[k] = d at *
    obtain ⟨dk, dn, da, dp, dx, dy⟩ := d
    simp only at *
    rcases hkind with h | h | h | h <;> subst h
    · rw [t1 rfl]
      exact rtext1w hC MN
    · rw [t2 rfl]
      exact rtext2w hC MN (adds_mk [115] _ (by simp) (by omega))
    · have e := t3 rfl
      have hTy := MT dy (by simp [partsOf]) (by rw [e] at hT; simp at hT; omega)
      have hly : (textOf L dy).length ≤ 100000 := by rw [e] at hT; simp at hT; omega
      rw [e]
      exact rtext3w hC MA MN hTy (adds_mk [97] _ (by simp) (by omega)) (adds_mk _ [118] (by simp; omega) (by simp)) (adds_mk _ _ (by simp; omega) (by omega)) (adds_mk _ [91] (by simp; omega) (by simp)) (adds_mk _ _ (by simp; omega) (by omega)) (adds_mk _ [93] (by simp; omega) (by simp))
    · have e := t4 rfl
      have hlx : (textOf L dx).length ≤ 100000 := by rw [e] at hT; simp at hT; omega
      have hly : (textOf L dy).length ≤ 100000 := by rw [e] at hT; simp at hT; omega
      have hTx := MT dx (by simp [partsOf]) hlx
      have hTy := MT dy (by simp [partsOf]) hly
      obtain ⟨o1, o2⟩ := hop rfl
      obtain ⟨o', rfl⟩ : ∃ o' : Nat, dp = o' := ⟨dp.toNat, by omega⟩
      have MG : Makes 52 #[.int .u8 (o' : Int)] w ⟨(signN o').toArray⟩ := fun w' _ => sign_any o' w' (by omega) (by omega)
      have hls := signN_le o'
      rw [e, signOf_nat]
      exact rtext4w hC (by decide) (by decide) (by decide) MN MG hTx hTy (adds_mk [40] _ (by simp) (by omega)) (adds_mk _ [32] (by simp; omega) (by simp)) (adds_mk _ _ (by simp; omega) (by omega)) (adds_mk _ [32] (by simp; omega) (by simp)) (adds_mk _ _ (by simp; omega) (by omega)) (adds_mk _ [41] (by simp; omega) (by simp))
end Go.Proofs.YtjhmbbioplhcgaaDoor
