/-
  Layer 4: the contract of norm.Bin, by that of next; of norm.Not, by that of Bin of Eq.
-/
import Derived.Test.YtgkjdmojbndicaaGreatDoorMI
import Derived.Test.YtgkjdmojbndicaaGreatDoorME
import Derived.Deep.LoopGhost
namespace Go.Proofs.YtgkjdmojbndicaaGreatDoor
open Go Go.RowKit

/-- What is asked of next: of forms whose operation meets P. -/
def NextC (P : Int → Prop) (B g m : Nat) : Prop := ∀ (a : Option Addr) (c : Nat) (L : List Nd) (w : World) (f : Fm), GraphAt B w g m a c L → LaidN B w → Fw L f → L.length + mu L f ≤ 999999999 → P f.o →
  Calls Tryz.prog 44 #[.pointer (some ⟨g, 0, none⟩), formV f] w fun e w' => ∃ f' L' a1 c1, e = .returned (formV f') ∧ GTo B g m a w w' a1 c1 L' ∧ Nxt L L' f f'
def BinQ (B g m : Nat) (a : Option Addr) (L : List Nd) (f : Fm) (w : World) (e : Ending) (w' : World) : Prop := ∃ i L' a1 c1, e = .returned (.int .i64 i) ∧ GTo B g m a w w' a1 c1 L' ∧ Bd L L' f i
/-- The head of Bin's loop. -/
def BinR (P : Int → Prop) (B g m : Nat) (sa : Option Addr) (L : List Nd) (f0 : Fm) (w : World) (b k : Nat) (wr : World) : Prop :=
  ∃ a c L1 f, GTo B g m sa w wr a c L1 ∧ wr.heap[b]? = some (formO f.o f.x f.y) ∧ ¬ Takes g m a b ∧ Chain L L1 f0 f ∧ P f.o ∧ k = mu L1 f
theorem known_is {op : Int} (h1 : 1 ≤ op) (h2 : op ≤ 16) : knownB op = true := by unfold knownB; simp [h1, h2]
set_option maxRecDepth 100000 in
set_option maxHeartbeats 8000000 in
theorem bin_walk {P : Int → Prop} (hP : ∀ o, o ≠ 15 → P o) {B g m c : Nat} {sa : Option Addr} {L : List Nd} {w : World} (hN : NextC P B g m) (h : GraphAt B w g m sa c L) (op x y : Int) (hf : Fw L ⟨op, x, y⟩) (hp : P op) (hL : LaidN B w) (hlen : L.length + mu L ⟨op, x, y⟩ ≤ 999999999) :
    Calls Tryz.prog 13 #[.pointer (some ⟨g, 0, none⟩), .int .u8 op, .int .i64 x, .int .i64 y] w (BinQ B g m sa L ⟨op, x, y⟩ w) := by
  have HG := Lib.hid h
  have HF := Lib.hid hf
  have HL := Lib.hid hL
  have HN := Lib.hid hN
  have HLEN := Lib.hid hlen
  have HPO := Lib.hid hP
  have HP := Lib.hid hp
  have HK := Lib.hid (known_is hf.lo hf.hi)
  have HA : Hid (allB L.length [x, y] = true) := by
    show _ = _
    unfold allB
    simp
    exact ⟨hf.x, hf.y⟩
  have HIX : Hid (∀ z ∈ [x, y], InR z) := fun z hz => by
    have hll : L.length ≤ 9000000000000000000 := by omega
    simp at hz
    rcases hz with rfl | rfl
    · exact has_in hll hf.x
    · exact has_in hll hf.y
  clear h hf hL hN hlen hP hp
  go_enter Tryz.func13, Tryz.ntmps13
  go_wp2_with fail
  refine (known_any op _).mono ?_
  rintro e w' ⟨rfl, rfl⟩
  rw [HK.out]
  go_wp2_with fail
  refine (area_any (HG.out.kept ((Kept.refl _).alloc _)) _ _ _ [x, y] (roots_at rfl rfl rfl HIX.out) (Nat.le_of_ble_eq_true rfl)).mono ?_
  rintro e w2 ⟨rfl, hk2⟩
  rw [HA.out]
  have HK2 := Lib.hid (((Kept.refl w).alloc _).trans hk2)
  clear hk2
  go_wp2
  have HB := Lib.hid (MapKept.heap_alloc w2 (formO op x y)).1
  have HK3 := Lib.hid (HK2.out.trans ((Kept.refl w2).alloc (formO op x y)))
  change Code.wp _ _ _ _ (w2.alloc (formO op x y))
  generalize w2.alloc (formO op x y) = W at *
  obtain ⟨b, hb⟩ : ∃ b : Nat, b = w2.heap.size := ⟨_, rfl⟩
  have HBW : Hid (w.heap.size ≤ b) := by have h1 := HK2.out.size; show _ ≤ _; omega
  rw [← hb] at HB ⊢
  clear hb
  have HOFF := Lib.hid (HG.out.not_new HBW.out)
  have HS := Lib.hid (Array.getElem?_eq_some_iff.1 HB.out).1
  go_loopg [] (mu L ⟨op, x, y⟩) (fun k wr => BinR P B g m sa L ⟨op, x, y⟩ w b k wr)
  case atStart => exact ⟨sa, c, L, ⟨op, x, y⟩, GTo.kept HG.out HK3.out, HB.out, HOFF.out, Chain.refl HG.out.good HF.out, HP.out, rfl⟩
  case round =>
    obtain ⟨a1, c1, L1, ⟨fo, fx, fy⟩, hT, hr, hno, hC, hp, hk⟩ := hrel
    have HT := Lib.hid hT
    have HRW := Lib.hid hr
    have HNO := Lib.hid hno
    have HC := Lib.hid hC
    have HPF := Lib.hid hp
    have HMU := Lib.hid hk
    clear hT hr hno hC hp hk
    have gg := form_facts HRW.out
    have k0 := gg.1
    have k1 := gg.2.1
    have k2 := gg.2.2.1
    clear gg
    by_cases h0 : fo = 0
    · have m0 : (fo != 0) = false := by rw [h0]; rfl
      have H0 := Lib.hid h0
      clear h0
      go_wp2
      go_ret
      exact ⟨fx, L1, a1, c1, rfl, HT.out, HC.out.bd H0.out⟩
    · have m0 : (fo != 0) = true := bne_iff_ne.2 h0
      have HFW : Hid (Fw L1 ⟨fo, fx, fy⟩) := by
        rcases HC.out.fw with e | e
        · exact absurd e.1 h0
        · exact e
      clear h0
      go_wp2_with fail
      refine (HN.out a1 c1 L1 _ ⟨fo, fx, fy⟩ HT.out.gr (HL.out.gto HG.out HT.out) HFW.out (Nat.le_trans HC.out.pot HLEN.out) HPF.out).mono ?_
      rintro e w3 ⟨⟨go, gx, gy⟩, L2, a2, c2, rfl, hT2, hX⟩
      simp only [formV]
      have HT2 := Lib.hid hT2
      have HX := Lib.hid hX
      have HF2 := Lib.hid (HT2.out.row HRW.out HNO.out)
      have HN2 := Lib.hid (HT2.out.not (Array.getElem?_eq_some_iff.1 HRW.out).1 HNO.out)
      clear hT2 hX k0 k1 k2 m0
      obtain ⟨k0, k1, k2, z0, z1, z2, ks⟩ := form_facts HF2.out
      go_wp2
      go_roundg (mu L2 ⟨go, gx, gy⟩)
      case rel => exact ⟨a2, c2, L2, ⟨go, gx, gy⟩, (HT.out.trans HT2.out).put3 ⟨go, gx, gy⟩ HBW.out HN2.out, put3_row HF2.out ⟨go, gx, gy⟩, HN2.out, HC.out.step HX.out, HPO.out _ HX.out.no15, rfl⟩
      case measure => have h1 := HX.out.less; have h2 := HMU.out; omega
/-- Bin of what is no operation, or no terms. -/
theorem bin_bad {B g m c : Nat} {sa : Option Addr} {L : List Nd} {w : World} (h : GraphAt B w g m sa c L) (op x y : Int) (hx : InR x) (hy : InR y) (hb : knownB op = false ∨ hasB L.length x = false ∨ hasB L.length y = false) :
    Calls Tryz.prog 13 #[.pointer (some ⟨g, 0, none⟩), .int .u8 op, .int .i64 x, .int .i64 y] w fun e w' => e = .returned (.int .i64 (-1)) ∧ Kept w w' := by
  have HG := Lib.hid h
  have HIX : Hid (∀ z ∈ [x, y], InR z) := fun z hz => by
    simp at hz
    rcases hz with rfl | rfl
    · exact hx
    · exact hy
  clear h
  cases hk : knownB op with
  | false =>
    have HK := Lib.hid hk
    clear hk hb
    go_enter Tryz.func13, Tryz.ntmps13
    go_wp2_with fail
    refine (known_any op _).mono ?_
    rintro e w' ⟨rfl, rfl⟩
    rw [HK.out]
    go_wp2
    go_ret
    exact ⟨rfl, Kept.refl _⟩
  | true =>
    have HA : Hid (allB L.length [x, y] = false) := by
      show _ = _
      rcases hb with e | e | e
      · rw [hk] at e; cases e
      · unfold allB; simp [e]
      · unfold allB; simp [e]
    have HK := Lib.hid hk
    clear hk hb
    go_enter Tryz.func13, Tryz.ntmps13
    go_wp2_with fail
    refine (known_any op _).mono ?_
    rintro e w' ⟨rfl, rfl⟩
    rw [HK.out]
    go_wp2_with fail
    refine (area_any (HG.out.kept ((Kept.refl _).alloc _)) _ _ _ [x, y] (roots_at rfl rfl rfl HIX.out) (Nat.le_of_ble_eq_true rfl)).mono ?_
    rintro e w2 ⟨rfl, hk2⟩
    rw [HA.out]
    have HK2 := Lib.hid (((Kept.refl w).alloc _).trans hk2)
    clear hk2
    go_wp2
    go_ret
    exact ⟨rfl, HK2.out⟩
set_option maxHeartbeats 2000000 in
theorem not_bad {B g m c : Nat} {sa : Option Addr} {L : List Nd} {w : World} (h : GraphAt B w g m sa c L) (x : Int) (hx : InR x) (hb : hasB L.length x = false) :
    Calls Tryz.prog 14 #[.pointer (some ⟨g, 0, none⟩), .int .i64 x] w fun e w' => e = .returned (.int .i64 (-1)) ∧ Kept w w' := by
  have HG := Lib.hid h
  have HIX : Hid (∀ z ∈ [x], InR z) := fun z hz => by simp at hz; rw [hz]; exact hx
  have HA : Hid (allB L.length [x] = false) := by show _ = _; unfold allB; simp [hb]
  clear h hb
  go_enter Tryz.func14, Tryz.ntmps14
  go_wp2_with fail
  refine (area_any (HG.out.kept ((Kept.refl _).alloc _)) _ _ _ [x] (roots_at rfl rfl rfl HIX.out) (Nat.le_of_ble_eq_true rfl)).mono ?_
  rintro e w2 ⟨rfl, hk2⟩
  rw [HA.out]
  have HK2 := Lib.hid (((Kept.refl w).alloc _).trans hk2)
  clear hk2
  go_wp2
  go_ret
  exact ⟨rfl, HK2.out⟩
set_option maxHeartbeats 4000000 in
theorem not_walk {B g m c : Nat} {sa : Option Addr} {L : List Nd} {w : World} (hN : NextC (fun o => o ≠ 15) B g m) (h : GraphAt B w g m sa c L) (y : Int) (hy : hasB L.length y = true) (hL : LaidN B w) (hlen : L.length + 4 * max (dN L y) 1 + 5 ≤ 999999999) :
    Calls Tryz.prog 14 #[.pointer (some ⟨g, 0, none⟩), .int .i64 y] w fun e w' => ∃ t L1 a1 c1, e = .returned (.int .i64 t) ∧ GTo B g m sa w w' a1 c1 L1 ∧ NotB L L1 y t := by
  have HG := Lib.hid h
  have HL := Lib.hid hL
  have HN := Lib.hid hN
  have HLEN := Lib.hid hlen
  have HY := Lib.hid hy
  have HIX : Hid (∀ z ∈ [y], InR z) := fun z hz => by simp at hz; rw [hz]; exact has_in (by omega) hy
  have HA : Hid (allB L.length [y] = true) := by show _ = _; unfold allB; simp [hy]
  clear h hL hN hlen hy
  go_enter Tryz.func14, Tryz.ntmps14
  go_wp2_with fail
  refine (area_any (HG.out.kept ((Kept.refl _).alloc _)) _ _ _ [y] (roots_at rfl rfl rfl HIX.out) (Nat.le_of_ble_eq_true rfl)).mono ?_
  rintro e w2 ⟨rfl, hk2⟩
  rw [HA.out]
  have HK2 := Lib.hid (((Kept.refl w).alloc _).trans hk2)
  clear hk2
  go_wp2_with fail
  refine (const_any (HG.out.kept HK2.out) 0 in0 (HL.out.kept HK2.out) (by have := HLEN.out; omega)).mono ?_
  rintro e w3 ⟨rfl, a1, c1, hT⟩
  have HT := Lib.hid (hT.pre HK2.out)
  clear hT
  go_wp2_with fail
  have hfw : Fw (addL L (kN 0)) ⟨16, y, addR L (kN 0)⟩ := fw16 ((Ext.add L _).has HY.out) (add_con L 0).1
  have hml : (addL L (kN 0)).length + mu (addL L (kN 0)) ⟨16, y, addR L (kN 0)⟩ ≤ 999999999 := by
    have h1 := mu_16 (L := addL L (kN 0)) (f := ⟨16, y, addR L (kN 0)⟩) (by show (16 : Int) ≠ 0; decide) (by show (16 : Int) ≠ 15; decide)
    have h2 : dF (addL L (kN 0)) ⟨16, y, addR L (kN 0)⟩ = max (dN (addL L (kN 0)) y) (dN (addL L (kN 0)) (addR L (kN 0))) := rfl
    rw [dN_ext (Ext.add L _) HY.out, dN_cn (HG.out.good.add (ok_con in0)) (add_con L 0)] at h2
    have h3 := add_len L (kN 0)
    have h4 := HLEN.out
    omega
  refine (bin_walk (fun _ h => h) HN.out HT.out.gr 16 y (addR L (kN 0)) hfw (by show (16 : Int) ≠ 15; decide) (HL.out.gto HG.out HT.out) hml).mono ?_
  rintro e w4 ⟨i, L4, a4, c4, rfl, hT4, hB⟩
  have HQ := Lib.hid (show GTo B g m sa w w4 a4 c4 L4 ∧ NotB L L4 y i from ⟨HT.out.trans hT4, not_bd HG.out.good HY.out hB⟩)
  clear hT4 hB hfw hml
  go_wp2
  go_ret
  exact ⟨i, L4, a4, c4, rfl, HQ.out.1, HQ.out.2⟩
end Go.Proofs.YtgkjdmojbndicaaGreatDoor
