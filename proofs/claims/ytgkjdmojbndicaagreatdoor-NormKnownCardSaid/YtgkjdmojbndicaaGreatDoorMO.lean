/-
  Several texts in one: NLink: Layer 4: the contracts of norm.next, norm.Bin and norm.Not, of any terms.; NOf: Layer 4: the contracts of norm.Sym, norm.Cell and norm.Of.; NSes: Layer 4: norm's contracts as a law's walk takes them: a graph of the law's own, and blocks of its own beside it..
-/
import Derived.Test.YtgkjdmojbndicaaGreatDoorMU
import Derived.Test.YtgkjdmojbndicaaGreatDoorMV
import Derived.Test.YtgkjdmojbndicaaGreatDoorMJA
import Derived.Test.YtgkjdmojbndicaaGreatDoorMJD
import Derived.Test.YtgkjdmojbndicaaGreatDoorMJC
import Derived.Test.YtgkjdmojbndicaaGreatDoorMJB
import Derived.Test.YtgkjdmojbndicaaGreatDoorMW
import Derived.Test.YtgkjdmojbndicaaGreatDoorME
import Derived.Test.YtgkjdmojbndicaaGreatDoorML
namespace Go.Proofs.YtgkjdmojbndicaaGreatDoor
open Go Go.RowKit

theorem lk_of {L : List Nd} (hG : Good L) {i : Int} (hi : hasB L.length i = true) : Lk L (ndAt L i) := fun h4 => ⟨(nd_4 hG hi h4).1, (nd_4 hG hi h4).2.1⟩
theorem rules_all_of {Bx : List Nd → Int → List Nd → Int → Int → Prop} {B g m : Nat} {a : Option Addr} {L : List Nd} (hG : Good L) (o x y : Int) (hf : Fw L ⟨o, x, y⟩) (hlen : L.length ≤ 1000000000)
    (h12 : RuleC Bx B g m a L 111 12 o x y (ndAt L x) (ndAt L y)) : RulesC Bx B g m a L o x y (ndAt L x) (ndAt L y) where
   r0 := fun _ _ h hL => rule0_any h o x y _ _ (lk_of hG hf.x) (nd_ok hG hf.y) (nd_ok hG hf.x) hL hlen
   r1 := fun _ _ h hL => rule1_any h o x y _ _ (lk_of hG hf.x) (nd_ok hG hf.y) (nd_ok hG hf.x) hL hlen
   r2 := fun _ _ h hL => rule2_any h o x y _ _ (lk_of hG hf.x) (nd_ok hG hf.y) (nd_ok hG hf.x) hL hlen
   r3 := fun _ _ h hL => rule3_any h o x y _ _ (lk_of hG hf.x) (nd_ok hG hf.y) (nd_ok hG hf.x) hL hlen
   r4 := fun _ _ h hL => rule4_any h o x y _ _ (lk_of hG hf.x) (nd_ok hG hf.y) (nd_ok hG hf.x) hL hlen
   r5 := fun _ _ h hL => rule5_any h o x y _ _ (lk_of hG hf.x) (nd_ok hG hf.y) (nd_ok hG hf.x) hL hlen
   r6 := fun _ _ h hL => rule6_any h o x y _ _ (lk_of hG hf.x) (nd_ok hG hf.y) (nd_ok hG hf.x) hL hlen
   r7 := fun _ _ h hL => rule7_any h o x y _ _ (lk_of hG hf.x) (nd_ok hG hf.y) (nd_ok hG hf.x) hL hlen
   r8 := fun _ _ h hL => rule8_any h o x y _ _ (lk_of hG hf.x) (nd_ok hG hf.y) (nd_ok hG hf.x) hL hlen
   r9 := fun _ _ h hL => rule9_any h o x y _ _ (lk_of hG hf.x) (nd_ok hG hf.y) (nd_ok hG hf.x) hL hlen
   r10 := fun _ _ h hL => rule10_any h o x y _ _ (lk_of hG hf.x) (nd_ok hG hf.y) (nd_ok hG hf.x) hL hlen
   r11 := fun _ _ h hL => rule11_any h o x y _ _ (lk_of hG hf.x) (nd_ok hG hf.y) (nd_ok hG hf.x) hL hlen
   r12 := h12
   r13 := fun _ _ h hL => rule13_any h o x y _ _ (lk_of hG hf.x) (nd_ok hG hf.y) (nd_ok hG hf.x) hL hlen
   r14 := fun _ _ h hL => rule14_any h o x y _ _ (lk_of hG hf.x) (nd_ok hG hf.y) (nd_ok hG hf.x) hL hlen
   r15 := fun _ _ h hL => rule15_any h o x y _ _ (lk_of hG hf.x) (nd_ok hG hf.y) (nd_ok hG hf.x) hL hlen
theorem nxt_of {Bx : List Nd → Int → List Nd → Int → Int → Prop} {L L' : List Nd} {f f' : Fm} (hG : Good L) (hf : Fw L f) (hl : L.length ≤ 9000000000000000000) (hB : ∀ y t z, Bx L y L' t z → ∃ L1, NotB L L1 y t ∧ L' = addL L1 (kN 0) ∧ z = addR L1 (kN 0))
    (h : RzA Bx L L' f f' (nx L f)) : Nxt L L' f f' := by
  cases e : nx L f with
  | is x => rw [e] at h; obtain ⟨h1, h2⟩ := h; subst h1; subst h2; exact nxt_is hG hf e
  | con n => rw [e] at h; obtain ⟨h1, h2⟩ := h; subst h1; subst h2; exact nxt_con hG hf e
  | two o x y => rw [e] at h; obtain ⟨h1, h2⟩ := h; subst h1; subst h2; exact nxt_two hG hf e
  | num o x n => rw [e] at h; obtain ⟨h1, h2⟩ := h; subst h1; subst h2; exact nxt_num hG hf e
  | nn y =>
    rw [e] at h
    obtain ⟨t, z, hb, h2⟩ := h
    obtain ⟨L1, h3, h4, h5⟩ := hB y t z hb
    subst h2; subst h4; subst h5
    exact nxt_nn hG hf e h3
  | add => rw [e] at h; obtain ⟨h1, h2⟩ := h; subst h1; subst h2; exact nxt_add hG hf hl e
theorem next_no15 {B g m : Nat} : NextC (fun o => o ≠ 15) B g m := by
  intro a c L w f h hL hf hlen hp
  have hG := h.good
  obtain ⟨o, x, y⟩ := f
  have hp' : (o == 15) = false := beq_eq_false_iff_ne.2 hp
  refine (next_walk (Bx := fun _ _ _ _ _ => False) h o x y hf hL (by omega) (rules_all_of hG o x y hf (by omega) (fun _ _ h hL => rule12_no h o x y _ _ (lk_of hG hf.x) (nd_ok hG hf.y) (nd_ok hG hf.x) hL (by omega) hp'))).mono ?_
  rintro e w' ⟨f', L', he, ⟨a1, c1, hT⟩, hz⟩
  exact ⟨f', L', a1, c1, he, hT, nxt_of hG hf (by omega) (fun _ _ _ h => h.elim) hz⟩
theorem not_any {B g m c : Nat} {sa : Option Addr} {L : List Nd} {w : World} (h : GraphAt B w g m sa c L) (y : Int) (hy : hasB L.length y = true) (hL : LaidN B w) (hlen : L.length + 4 * max (dN L y) 1 + 5 ≤ 999999999) :
    Calls Tryz.prog 14 #[.pointer (some ⟨g, 0, none⟩), .int .i64 y] w fun e w' => ∃ t L1 a1 c1, e = .returned (.int .i64 t) ∧ GTo B g m sa w w' a1 c1 L1 ∧ NotB L L1 y t := not_walk next_no15 h y hy hL hlen
theorem next_any {B g m : Nat} : NextC (fun _ => True) B g m := by
  intro a c L w f h hL hf hlen _
  by_cases h15 : f.o = 15
  · have hG := h.good
    obtain ⟨o, x, y⟩ := f
    have h15' : o = 15 := h15
    subst h15'
    have hmu := mu_15 (L := L) (f := ⟨15, x, y⟩) rfl
    have hdy : dN L y ≤ dF L ⟨15, x, y⟩ := Nat.le_max_right _ _
    have hd1 := dN_pos hG hf.y
    have hnot : NotC (fun L y L1 t => NotB L L1 y t) B g m a L y := fun c w h hL =>
      (not_any h y hf.y hL (by omega)).mono fun e w' hh => by
        obtain ⟨t, L1, a1, c1, he, hT, hN⟩ := hh
        exact ⟨t, L1, a1, c1, he, hT, hN, by have := hN.len; omega⟩
    refine (next_walk (Bx := BxN (fun L y L1 t => NotB L L1 y t)) h 15 x y hf hL (by omega) (rules_all_of hG 15 x y hf (by omega) (fun _ _ h hL => rule12_yes h x y _ _ (lk_of hG hf.x) (nd_ok hG hf.y) (nd_ok hG hf.x) hL (by omega) hnot))).mono ?_
    rintro e w' ⟨f', L', he, ⟨a1, c1, hT⟩, hz⟩
    exact ⟨f', L', a1, c1, he, hT, nxt_of hG hf (by omega) (fun y t z h => h) hz⟩
  · exact next_no15 a c L w f h hL hf hlen h15
theorem bin_any {B g m c : Nat} {sa : Option Addr} {L : List Nd} {w : World} (h : GraphAt B w g m sa c L) (op x y : Int) (hf : Fw L ⟨op, x, y⟩) (hL : LaidN B w) (hlen : L.length + mu L ⟨op, x, y⟩ ≤ 999999999) :
    Calls Tryz.prog 13 #[.pointer (some ⟨g, 0, none⟩), .int .u8 op, .int .i64 x, .int .i64 y] w (BinQ B g m sa L ⟨op, x, y⟩ w) := bin_walk (fun _ _ => trivial) next_any h op x y hf trivial hL hlen
end Go.Proofs.YtgkjdmojbndicaaGreatDoor

namespace Go.Proofs.YtgkjdmojbndicaaGreatDoor
open Go Go.RowKit Go.ChangeMaps Go.MapKept Go.WideMaps
open Go.Maps (Keyed)

theorem ok_sym {n : Int} (h : InR n) : (⟨2, n, 0, 0, 0, 0⟩ : Nd).Ok := ⟨⟨by show (0 : Int) ≤ 2; decide, by show (2 : Int) ≤ 255; decide⟩, h, in0, inb0, in0, in0⟩
theorem ok_cell {a n q : Int} (ha : InR a) (hn : InR n) (hq : InR q) : (cN a n q).Ok := ⟨⟨by show (0 : Int) ≤ 3; decide, by show (3 : Int) ≤ 255; decide⟩, hn, ha, inb0, in0, hq⟩
set_option maxHeartbeats 1000000 in
theorem sym_new {B g m c : Nat} {a : Option Addr} {L : List Nd} {w : World} (h : GraphAt B w g m a c L) (n : Int) (hn : InR n) (hL : LaidN B w) (hlen : L.length ≤ 1000000000) :
    Calls Tryz.prog 38 #[.pointer (some ⟨g, 0, none⟩), .int .i64 n] w fun e w' => e = .returned (.int .i64 (addR L ⟨2, n, 0, 0, 0, 0⟩)) ∧ GEx B g m a w w' (addL L ⟨2, n, 0, 0, 0, 0⟩) := by
  have HA := Lib.hid (add_any h ⟨2, n, 0, 0, 0, 0⟩ (ok_sym hn) hL.laid hlen)
  clear h hn hL
  go_enter Tryz.func38, Tryz.ntmps38
  go_wp2_with fail
  refine HA.out.mono ?_
  rintro e w' ⟨rfl, a', c', h1, h2, h3⟩
  have H := Lib.hid (show GEx B g m a w w' (addL L ⟨2, n, 0, 0, 0, 0⟩) from ⟨a', c', h1, h2, h3⟩)
  clear h1 h2 h3
  go_wp2
  go_ret
  exact ⟨rfl, H.out⟩
set_option maxHeartbeats 1000000 in
theorem cell_new {B g m c : Nat} {a : Option Addr} {L : List Nd} {w : World} (h : GraphAt B w g m a c L) (ar n q : Int) (ha : InR ar) (hn : InR n) (hq : InR q) (hL : LaidN B w) (hlen : L.length ≤ 1000000000) :
    Calls Tryz.prog 40 #[.pointer (some ⟨g, 0, none⟩), .int .i64 ar, .int .i64 n, .int .i64 q] w fun e w' => e = .returned (.int .i64 (addR L (cN ar n q))) ∧ GEx B g m a w w' (addL L (cN ar n q)) := by
  have HA := Lib.hid (add_any h (cN ar n q) (ok_cell ha hn hq) hL.laid hlen)
  clear h hn hL ha hq
  go_enter Tryz.func40, Tryz.ntmps40
  go_wp2_with fail
  refine HA.out.mono ?_
  rintro e w' ⟨rfl, a', c', h1, h2, h3⟩
  have H := Lib.hid (show GEx B g m a w w' (addL L (cN ar n q)) from ⟨a', c', h1, h2, h3⟩)
  clear h1 h2 h3
  go_wp2
  go_ret
  exact ⟨rfl, H.out⟩

theorem GTo.turn {B g m c1 : Nat} {a a1 : Option Addr} {w w1 w2 : World} {L1 : List Nd} {T : Nat → Prop} (h : GTo B g m a w w1 a1 c1 L1) (k : Turned T w1 w2) (hT : ∀ q, T q → w.heap.size ≤ q ∧ ¬ Takes g m a1 q) : GTo B g m a w w2 a1 c1 L1 := by
  refine ⟨h.gr.turned k fun q hq e => (hT q e).2 hq, ⟨k.os.trans h.tu.os, k.tape.trans h.tu.tape, k.output.trans h.tu.output, Nat.le_trans h.tu.size k.size, fun q hq hn => ?_⟩, h.nw⟩
  refine (k.block q (Nat.lt_of_lt_of_le hq h.tu.size) fun e => ?_).trans (h.tu.block q hq hn)
  have := (hT q e).1
  omega
theorem ids_look {D : DataW Unit} {f : Int → Int} {w : World} {mv n : Nat} (h : w.ownsMap Tryz.prog 35 (plainElem Tryz.prog 35) mv n D) (hV : ValIs D f) {x : Int} (hx : InR x) :
    (Instr.lookup 96 (.map (some mv)) (.int .i64 x) false).run Tryz.prog w = .ok (.int .i64 (f x)) w := by
  have hz : (zeroValue 35).run Tryz.prog w = .ok (.int .i64 0) w := by kernel_rfl
  obtain ⟨c, hrun, hat, _⟩ := h.lookup_int lawId Tryz.underlying96 Tryz.underlying35 hz (Maps.keyOf_int_mk Tryz.underlying35 (wf_i64 hx))
  rw [hV.at_ x] at hat
  have : f x = c := by simpa using hat
  rw [this]; exact hrun
theorem of_bad {B g m c : Nat} {sa : Option Addr} {L : List Nd} {w : World} (h : GraphAt B w g m sa c L) (i : Int) (hi : InR i) (hb : hasB L.length i = false) :
    Calls Tryz.prog 24 #[.pointer (some ⟨g, 0, none⟩), .int .i64 i] w fun e w' => e = .returned (.int .i64 (-1)) ∧ Kept w w' := by
  have HG := Lib.hid h
  have HIX : Hid (∀ z ∈ [i], InR z) := fun z hz => by simp at hz; rw [hz]; exact hi
  have HA : Hid (allB L.length [i] = false) := by show _ = _; unfold allB; simp [hb]
  clear h hb
  go_enter Tryz.func24, Tryz.ntmps24
  go_wp2_with fail
  refine (area_any (HG.out.kept ((Kept.refl _).alloc _)) _ _ _ [i] (roots_at rfl rfl rfl HIX.out) (Nat.le_of_ble_eq_true rfl)).mono ?_
  rintro e w2 ⟨rfl, hk2⟩
  rw [HA.out]
  have HK2 := Lib.hid (((Kept.refl w).alloc _).trans hk2)
  clear hk2
  go_wp2
  go_ret
  exact ⟨rfl, HK2.out⟩
/-- What Of comes to. -/
structure OfB (L L' : List Nd) (i j : Int) (n : Nat) : Prop where
  ext : Ext L L'
  good : Good L'
  rel : OfR L' i j
  len : L'.length ≤ L.length + n
  still : Pl L i → L' = L
/-- The graph and the map have turned alone. -/
structure OfW (B g m : Nat) (sa : Option Addr) (w4 : World) (mv : Nat) (wr : World) (a : Option Addr) (c : Nat) (Lt : List Nd) : Prop where
  gr : GraphAt B wr g m a c Lt
  tu : Turned (fun k => Takes g m sa k ∨ k = mv) w4 wr
  nw : ∀ q, Takes g m a q → Takes g m sa q ∨ w4.heap.size ≤ q
section
variable {B g m mv c c1 c2 : Nat} {sa a a1 : Option Addr} {w w4 wr w1 : World} {L Lt L1 : List Nd}
theorem OfW.not (h : OfW B g m sa w4 mv wr a c Lt) (hm : mv < w4.heap.size) (hn : ¬ Takes g m sa mv) : ¬ Takes g m a mv := fun e => by
  rcases h.nw mv e with e | e
  · exact hn e
  · omega
theorem OfW.kept (h : OfW B g m sa w4 mv wr a c Lt) (k : Kept wr w1) : OfW B g m sa w4 mv w1 a c Lt := ⟨h.gr.kept k, h.tu.trans (k.turned _), h.nw⟩
theorem OfW.put (h : OfW B g m sa w4 mv wr a c Lt) (hm : mv < w4.heap.size) (hn : ¬ Takes g m sa mv) (k : Turned (fun q => q = mv) wr w1) : OfW B g m sa w4 mv w1 a c Lt :=
  ⟨h.gr.turned k fun q hq e => h.not hm hn (by rw [← show q = mv from e]; exact hq), h.tu.trans (k.mono fun q _ e => Or.inr e), h.nw⟩
theorem OfW.gto (h : OfW B g m sa w4 mv wr a c Lt) (k : GTo B g m a wr w1 a1 c1 L1) : OfW B g m sa w4 mv w1 a1 c1 L1 := by
  have hs := h.tu.size
  refine ⟨k.gr, ⟨k.tu.os.trans h.tu.os, k.tu.tape.trans h.tu.tape, k.tu.output.trans h.tu.output, Nat.le_trans hs k.tu.size, fun q hq hT => ?_⟩, fun q hq => ?_⟩
  · refine (k.tu.block q (Nat.lt_of_lt_of_le hq hs) fun e => ?_).trans (h.tu.block q hq hT)
    rcases h.nw q e with e | e
    · exact hT (Or.inl e)
    · omega
  · rcases k.nw q hq with e | e
    · exact h.nw q e
    · exact Or.inr (Nat.le_trans hs e)
theorem OfW.start (h : GraphAt B w4 g m sa c L) : OfW B g m sa w4 mv w4 sa c L := ⟨h, Turned.refl _ _, fun _ h => Or.inl h⟩
theorem OfW.to (h : OfW B g m sa w4 mv wr a c Lt) (hk : Kept w w4) (hm : w.heap.size ≤ mv) : GTo B g m sa w wr a c Lt := by
  refine ⟨h.gr, ⟨h.tu.os.trans hk.os, h.tu.tape.trans hk.tape, h.tu.output.trans hk.output, Nat.le_trans hk.size h.tu.size, fun q hq hT => ?_⟩, fun q hq => ?_⟩
  · refine (h.tu.block q (Nat.lt_of_lt_of_le hq hk.size) fun e => ?_).trans (hk.block q hq)
    rcases e with e | e
    · exact hT e
    · omega
  · rcases h.nw q hq with e | e
    · exact Or.inl e
    · exact Or.inr (Nat.le_trans hk.size e)
theorem OfW.roots (h : OfW B g m sa w4 mv wr a c Lt) {ra : Option Addr} {n : Nat} {U : List Int} (hr : RootsAt w4 ra n U) (hoff : ∀ x, ra = some x → ¬ Takes g m sa x.block ∧ x.block ≠ mv) : RootsAt wr ra n U :=
  ⟨hr.len, hr.inr, fun hn => by
    obtain ⟨b, off, hb, hc⟩ := hr.at_ hn
    refine ⟨b, off, hb, fun j x hx => ?_⟩
    have h1 := hoff _ hb
    exact h.tu.cell (hc j x hx) (fun e => by
      rcases e with e | e
      · exact h1.1 e
      · exact h1.2 e)⟩
end
/-- The head of Of's loop. -/
structure OfL (B g m : Nat) (sa : Option Addr) (L : List Nd) (id : Int) (U : List Int) (G : Nat) (w4 : World) (mv : Nat) (t : Nat) (wr : World) (a : Option Addr) (c : Nat) (Lt : List Nd) (φ : Int → Int) : Prop where
  ow : OfW B g m sa w4 mv wr a c Lt
  map : ∃ n D, wr.ownsMap Tryz.prog 35 (plainElem Tryz.prog 35) mv n D ∧ n ≤ 2 * t ∧ ValIs D φ
  ext : Ext L Lt
  rel : ∀ p ∈ U.take t, OfR Lt p (φ p)
  len : Lt.length ≤ L.length + t * G
  still : Pl L id → Lt = L
theorem pl_reach {L : List Nd} {i u : Int} (h : Reach L i u) : Pl L i → Pl L u := by
  induction h with
  | refl _ => intro h; exact h
  | @step r p i hp _ ih =>
    intro h
    refine ih ?_
    unfold partsOf at hp
    by_cases h3 : (ndAt L r).k = 3
    · rw [if_pos h3] at hp
      simp at hp
      rw [hp]; exact h.place h3
    · rw [if_neg h3] at hp
      by_cases h4 : (ndAt L r).k = 4
      · rw [if_pos h4] at hp
        simp at hp
        rcases hp with hp | hp <;> rw [hp]
        · exact (h.part h4).1
        · exact (h.part h4).2.1
      · rw [if_neg h4] at hp
        simp at hp
def upd (φ : Int → Int) (u v : Int) : Int → Int := fun x => if x = u then v else φ x
theorem upd_at (φ : Int → Int) (u v : Int) : upd φ u v u = v := if_pos rfl
theorem upd_ne (φ : Int → Int) {u v x : Int} (h : x ≠ u) : upd φ u v x = φ x := if_neg h
theorem upd_upd (φ : Int → Int) (u v t : Int) : upd (upd φ u v) u t = upd φ u t := by
  funext x
  unfold upd
  split <;> rfl
/-- .. of the round's end: one more part is done. -/
theorem OfL.next {B g m : Nat} {sa : Option Addr} {L : List Nd} {id : Int} {U : List Int} {G : Nat} {w4 : World} {mv t : Nat} {wr w9 : World} {a a9 : Option Addr} {c c9 : Nat} {Lt L9 : List Nd} {φ : Int → Int} {u j : Int} (h : OfL B g m sa L id U G w4 mv t wr a c Lt φ) (hG : Good Lt) (hu : U.take (t + 1) = U.take t ++ [u])
    (ow : OfW B g m sa w4 mv w9 a9 c9 L9) (e : Ext Lt L9) (hr : OfR L9 u j) (hnew : ∀ p ∈ U.take t, p ≠ u) (map : ∃ n D, w9.ownsMap Tryz.prog 35 (plainElem Tryz.prog 35) mv n D ∧ n ≤ 2 * (t + 1) ∧ ValIs D (upd φ u j))
    (len : L9.length ≤ Lt.length + G) (still : Pl L id → L9 = Lt) : OfL B g m sa L id U G w4 mv (t + 1) w9 a9 c9 L9 (upd φ u j) := by
  refine ⟨ow, map, h.ext.trans e, fun p hp => ?_, ?_, fun hp => (still hp).trans (h.still hp)⟩
  · rw [hu] at hp
    rcases List.mem_append.1 hp with hp | hp
    · rw [upd_ne φ (hnew p hp)]
      exact (h.rel p hp).ext hG e
    · rw [List.mem_singleton.1 hp, upd_at]
      exact hr
  · have := h.len
    rw [Nat.add_mul, Nat.one_mul]
    omega
set_option maxRecDepth 100000 in
set_option maxHeartbeats 16000000 in
theorem of_walk {B g m c : Nat} {sa : Option Addr} {L : List Nd} {w : World} (h : GraphAt B w g m sa c L) (id : Nat) (hi : hasB L.length (id : Int) = true) (hL : LaidN B w) (G : Nat) (hG : Pl L id ∧ G = 0 ∨ G = 16 * dN L id + 20) (hlen : L.length + (id + 1) * G + 16 * dN L id + 20 ≤ 999999999) :
    Calls Tryz.prog 24 #[.pointer (some ⟨g, 0, none⟩), .int .i64 (id : Int)] w fun e w' => ∃ j L' a1 c1, e = .returned (.int .i64 j) ∧ GTo B g m sa w w' a1 c1 L' ∧ OfB L L' id j ((id + 1) * G) := by
  have hgood := h.good
  have HG := Lib.hid h
  have HL := Lib.hid hL
  have HLEN := Lib.hid hlen
  have HGR := Lib.hid hG
  have HI := Lib.hid hi
  have HGD := Lib.hid hgood
  have hll : L.length ≤ 1000000000 := by omega
  have HLL := Lib.hid hll
  have HIX : Hid (∀ z ∈ [(id : Int)], InR z) := fun z hz => by simp at hz; rw [hz]; exact has_in (by omega) hi
  have HA : Hid (allB L.length [(id : Int)] = true) := by show _ = _; unfold allB; simp [hi]
  clear h hL hG hlen hi hgood hll
  have hmm := @run_makeMap Tryz.prog
  go_enter Tryz.func24, Tryz.ntmps24
  go_wp2_with fail
  refine (area_any (HG.out.kept ((Kept.refl _).alloc _)) _ _ _ [(id : Int)] (roots_at rfl rfl rfl HIX.out) (Nat.le_of_ble_eq_true rfl)).mono ?_
  rintro e w2 ⟨rfl, hk2⟩
  rw [HA.out]
  have HK2 := Lib.hid (((Kept.refl w).alloc _).trans hk2)
  clear hk2
  go_upto_region 4 with (fail)
  have HM0 := Lib.hid (World.ownsMap_made w2 Tryz.prog 35 (plainElem (H := Unit) Tryz.prog 35))
  have HK3 := Lib.hid (HK2.out.trans ((Kept.refl w2).alloc (.map #[] 0)))
  change Code.wp _ _ _ _ (w2.alloc (.map #[] 0))
  generalize w2.alloc (.map #[] 0) = w3 at *
  obtain ⟨mv, hmv⟩ : ∃ mv : Nat, mv = w2.heap.size := ⟨_, rfl⟩
  have HMW : Hid (w.heap.size ≤ mv) := by have h1 := HK2.out.size; show _ ≤ _; omega
  rw [← hmv] at HM0 ⊢
  clear hmv hmm
  have HOFF := Lib.hid (HG.out.not_new HMW.out)
  go_wp2_with fail
  refine (uses_any (HG.out.kept (HK3.out.alloc _)) HLL.out _ _ _ [(id : Int)] (roots_at rfl rfl rfl HIX.out) (Nat.le_of_ble_eq_true rfl)).mono ?_
  rintro e w4 ⟨a4, c4, U, rfl, hU, hrow, hk4⟩
  have HU := Lib.hid hU
  have HUH : Hid (∀ u ∈ U, hasB L.length u = true ∧ u ≤ id ∧ Reach L id u) := fun u hu => by
    obtain ⟨r, hr, hrb, hrr⟩ := (hU.2 u).1 hu
    have hr' : r = (id : Int) := by simpa using hr
    subst hr'
    exact ⟨(hrr.le HGD.out hrb).2, (hrr.le HGD.out hrb).1, hrr⟩
  have HUR : Hid (∀ u ∈ U, InR u) := fun u hu => has_inR (HUH.out u hu).1 HLL.out
  have HUL : Hid (U.length ≤ id + 1) := by
    have h5 := nodup_len (id + 1) (U.map Int.toNat) (by
      unfold List.Nodup
      rw [List.pairwise_map]
      refine List.Pairwise.imp_of_mem (fun {a b} ha hb hab => ?_) hU.1
      have h6 := ((hasB_iff _ _).1 (HUH.out a ha).1).1
      have h7 := ((hasB_iff _ _).1 (HUH.out b hb).1).1
      omega) (fun x hx => by
      obtain ⟨v, hv, rfl⟩ := List.mem_map.1 hx
      have h6 := (HUH.out v hv).2.1
      have h7 := ((hasB_iff _ _).1 (HUH.out v hv).1).1
      omega)
    have h6 : U.length ≤ id + 1 := by simpa using h5
    exact h6
  have HIDU : Hid ((id : Int) ∈ U) := (hU.2 _).2 ⟨id, by simp, HI.out, .refl _⟩
  have HRT : Hid (RootsAt w4 a4 U.length U) := roots_of_row hrow rfl HUR.out
  have HK34 := Lib.hid (((Kept.refl w3).alloc _).trans hk4)
  have HK4 := Lib.hid (HK3.out.trans HK34.out)
  have HM4 : Hid (w4.ownsMap Tryz.prog 35 (plainElem Tryz.prog 35) mv 0 (.map [])) := ownsMap_block HM0.out (HK34.out.block mv HM0.out.lt)
  have HRNG : Hid (∀ x, a4 = some x → w.heap.size ≤ x.block ∧ x.block ≠ mv) := fun x hx => by
    have h1 := (hrow.lt x.block (by rw [hx]; rfl)).1
    have h2 := HM0.out.lt
    have h3 := HK3.out.size
    simp at h1
    exact ⟨by omega, by omega⟩
  have HOFR : Hid (∀ x, a4 = some x → ¬ Takes g m sa x.block ∧ x.block ≠ mv) := fun x hx => ⟨HG.out.not_new (HRNG.out x hx).1, (HRNG.out x hx).2⟩
  have HMS : Hid (mv < w4.heap.size) := HM4.out.lt
  clear hU hrow hk4
  obtain ⟨q, hq⟩ : ∃ q : Nat, q = U.length := ⟨_, rfl⟩
  have HQ := Lib.hid hq
  have hqi := HUL.out
  rw [← hq] at HRT hqi ⊢
  clear hq
  have HQI := Lib.hid hqi
  have hqm : q ≤ 9223372036854775807 := by have := HLL.out; have := ((hasB_iff _ _).1 HI.out).2; omega
  clear hqi
  go_wp2
  go_loopw [21] (fun i wr => ∃ t : Nat, t ≤ q ∧ i = .int .i64 t ∧ ∃ a c Lt φ, OfL B g m sa L id U G w4 mv t wr a c Lt φ) (fun i _ => q - (intOf i).toNat)
  case atStart => exact ⟨0, Nat.zero_le _, rfl, sa, c, L, fun _ => 0, OfW.start (HG.out.kept HK4.out), ⟨0, _, HM4.out, Nat.zero_le _, ValIs.nil⟩, Ext.refl L, (fun p hp => by simp at hp), by omega, fun _ => rfl⟩
  case round =>
    obtain ⟨t, ht, rfl, a, c1, Lt, φ, hO⟩ := hrel
    have HO := Lib.hid hO
    clear hO
    have t0 : (0 : Int) ≤ (t : Int) := Int.natCast_nonneg _
    have HRR := Lib.hid (HO.out.ow.roots HRT.out HOFR.out)
    by_cases htq : t < q
    · have t1 : (t : Int) < (q : Int) := by omega
      obtain ⟨ub, uo, rfl, hcu⟩ := HRR.out.at_ (by omega)
      have htl : t < U.length := by have := HQ.out; omega
      obtain ⟨u, hu⟩ : ∃ u, U[t]? = some u := ⟨_, List.getElem?_eq_getElem htl⟩
      have x0 := hcu t u hu
      have hum : u ∈ U := List.mem_of_getElem? hu
      have HBU := Lib.hid (HUH.out u hum)
      have HINU := Lib.hid (HUR.out u hum)
      have HTK : Hid (U.take (t + 1) = U.take t ++ [u]) := by
        show _ = _
        rw [List.take_succ_eq_append_getElem htl, (List.getElem?_eq_some_iff.1 hu).2]
      have HNEW : Hid (∀ p ∈ U.take t, p ≠ u) := fun p hp e => by
        have hs := HU.out.1
        have h1 : U = U.take t ++ u :: U.drop (t + 1) := by
          have := List.take_append_drop t U
          rw [List.drop_eq_getElem_cons htl, (List.getElem?_eq_some_iff.1 hu).2] at this
          exact this.symm
        rw [h1, List.pairwise_append] at hs
        have := hs.2.2 p hp u (by simp)
        omega
      have HPT : Hid (∀ p ∈ partsOf (ndAt L u), p ∈ U.take t ∧ InR p ∧ p < u) := fun p hp => by
        obtain ⟨p0, p1, p2⟩ := part_lt HGD.out HBU.out.1 hp
        have hpU : p ∈ U := (HU.out.2 p).2 ⟨id, by simp, HI.out, HBU.out.2.2.snoc hp⟩
        exact ⟨take_mem HU.out.1 hu hpU p1, has_inR p2 HLL.out, p1⟩
      have HNT : Hid (nodeAt Lt u = ndAt L u) := by
        show _ = _
        rw [nodeAt_has (HO.out.ext.has HBU.out.1), HO.out.ext.nd HBU.out.1]
      clear hcu hu hum htl
      obtain ⟨nm, D, hM, hnm, hV⟩ := HO.out.map
      have htl2 : t ≤ 1000000001 := by have := HLL.out; have := HQI.out; have := ((hasB_iff _ _).1 HI.out).2; omega
      obtain ⟨w5, hrun, hmap5, hgrow5⟩ := hM.update lawId Tryz.underlying96 (by unfold maxLen; omega) (Maps.keyOf_int_mk Tryz.underlying35 (wf_i64 HINU.out)) (plainElem_int Tryz.underlying35 (wf_i64 HINU.out))
      have HM5 := Lib.hid hmap5
      have HV5 := Lib.hid (hV.put (u := u) (v := u) (upd_at φ u u) (fun x hx => upd_ne φ hx))
      have HOW5 := Lib.hid (HO.out.ow.put HMS.out HOFF.out (Turned.grown (T := fun q => q = mv) hgrow5 (fun k hk => by simpa using hk.symm)))
      have HNM := Lib.hid hnm
      clear hM hnm hV hmap5 hgrow5
      go_wp2_with fail
      refine (node_any HOW5.out.gr u).mono ?_
      rintro e w6 ⟨rfl, hk6⟩
      rw [HNT.out]
      obtain ⟨d, hd⟩ : ∃ d, ndAt L u = d := ⟨_, rfl⟩
      have HD := Lib.hid hd
      rw [hd] at HPT ⊢
      clear hd hrun
      simp only [Nd.val]
      have HK6 := Lib.hid hk6
      clear hk6
      go_upto_region 9 with (fail)
      have HBN := Lib.hid (MapKept.heap_alloc w6 (nodeObj d)).1
      have HK7 := Lib.hid (HK6.out.trans ((Kept.refl w6).alloc (nodeObj d)))
      change Code.wp _ _ _ _ (w6.alloc (nodeObj d))
      generalize w6.alloc (nodeObj d) = w7 at *
      generalize w6.heap.size = bn at *
      have HOW7 := Lib.hid (HOW5.out.kept HK7.out)
      have HM7 := Lib.hid (ownsMap_block HM5.out (HK7.out.block mv HM5.out.lt))
      obtain ⟨f0, f1, f2, f3, f4, f5⟩ := box_facts HBN.out (Kept.refl w7)
      have HGT := Lib.hid HO.out.ow.gr.good
      have HHU := Lib.hid (HO.out.ext.has HBU.out.1)
      have HNU : Hid (ndAt Lt u = d) := (HO.out.ext.nd HBU.out.1).trans HD.out
      have HLEN7 : Hid (Lt.length + 16 * dN L id + 20 ≤ 999999999) := by
        have h1 := HO.out.len
        have h2 : t * G ≤ (id + 1) * G := Nat.mul_le_mul_right G (by have := HQI.out; omega)
        have h3 := HLEN.out
        show _ ≤ _
        omega
      have HTO7 := Lib.hid (HOW7.out.to HK4.out HMW.out)
      have HNF := Lib.hid (HOW7.out.not HMS.out HOFF.out)
      have HKD : Hid (d.k = 1 ∨ d.k = 2 ∨ d.k = 3 ∨ d.k = 4) := by
        have := nd_kind HGD.out HBU.out.1
        rw [HD.out] at this
        exact this
      have HOKD : Hid d.Ok := by
        have := nd_ok HGD.out HBU.out.1
        rw [HD.out] at this
        exact this
      by_cases k3 : d.k = 3
      · have m3 : (d.k == 3) = true := beq_iff_eq.2 k3
        have HK3D := Lib.hid k3
        have hpy := HPT.out d.y (by unfold partsOf; rw [if_pos k3]; simp)
        have HY := Lib.hid hpy
        have hl := ids_look HM7.out HV5.out hpy.2.1
        rw [upd_ne φ (by omega)] at hl
        have HRY := Lib.hid (HO.out.rel _ hpy.1)
        clear hpy k3
        have HYB := Lib.hid (HRY.out.both HGT.out).2
        have hyr : InR (φ d.y) := has_in (by have := HLEN7.out; omega) HYB.out
        have HMAY : Hid (mayB Lt.length (cN d.a d.n (φ d.y)) = true) := by
          obtain ⟨k, hk, e1, e2⟩ := nd_of HBU.out.1
          have hm := HGD.out.may k hk
          rw [← e2, HD.out] at hm
          simp only [mayB, HK3D.out] at hm
          simp at hm
          show mayB Lt.length (cN d.a d.n (φ d.y)) = true
          simp [mayB, cN, HYB.out]
          exact ⟨decide_eq_true hm.1.1.2, decide_eq_true hm.1.2⟩
        go_wp2_with fail
        refine (cell_new HOW7.out.gr d.a d.n (φ d.y) HOKD.out.2.2.1 HOKD.out.2.1 hyr (HL.out.gto HG.out HTO7.out) (by have := HLEN7.out; omega)).mono ?_
        rintro e w8 ⟨rfl, a8, c8, hT8⟩
        have HT8 := Lib.hid hT8
        have HM8 := Lib.hid (ownsMap_block HM7.out (hT8.tu.block mv HM7.out.lt HNF.out))
        have HAH := Lib.hid (add_here HMAY.out)
        have hjr : InR (addR Lt (cN d.a d.n (φ d.y))) := has_in (by have := HLEN7.out; have := add_len Lt (cN d.a d.n (φ d.y)); omega) HAH.out.1
        clear hT8 hl
        obtain ⟨w9, hrun, hmap9, hgrow9⟩ := HM8.out.update lawId Tryz.underlying96 (by have := HNM.out; unfold maxLen; omega) (Maps.keyOf_int_mk Tryz.underlying35 (wf_i64 HINU.out)) (plainElem_int Tryz.underlying35 (wf_i64 hjr))
        have HM9 := Lib.hid hmap9
        have HV9 := Lib.hid (HV5.out.put (u := u) (v := addR Lt (cN d.a d.n (φ d.y))) (upd_at (upd φ u u) u _) (fun x hx => upd_ne (upd φ u u) hx))
        have HOW9 := Lib.hid ((HOW7.out.gto HT8.out).put HMS.out HOFF.out (Turned.grown (T := fun q => q = mv) hgrow9 (fun k hk => by simpa using hk.symm)))
        clear hmap9 hgrow9 f0 f1 f2 f3 f4 f5 hyr hjr
        go_wp2
        go_roundw
        case rel =>
          have hE := Ext.add Lt (cN d.a d.n (φ d.y))
          have hV9 := HV9.out
          rw [upd_upd] at hV9
          refine ⟨t + 1, by omega, by go_num, a8, c8, _, _, HO.out.next HGT.out HTK.out HOW9.out hE (.cell (hE.has HHU.out) (by rw [hE.nd HHU.out, HNU.out]; exact HK3D.out) (by rw [hE.nd HHU.out, HNU.out]; exact HRY.out.ext HGT.out hE) HAH.out.1 (by rw [hE.nd HHU.out, HNU.out]; exact HAH.out.2)) HNEW.out ⟨_, _, HM9.out, by have := HNM.out; omega, hV9⟩ ?_ ?_⟩
          · have h1 := add_len Lt (cN d.a d.n (φ d.y))
            rcases HGR.out with ⟨h2, h3⟩ | h2
            · have h4 := HO.out.still h2
              subst h4
              have hp := pl_reach HBU.out.2.2 h2
              have hq2 := HRY.out.eq HGT.out (by have := (hp.place (by rw [HD.out]; exact HK3D.out)).of HGT.out; rw [HD.out] at this; exact this)
              have h6 := add_there HGT.out (d := cN d.a d.n (φ d.y)) HBU.out.1 (by have h0 := nd_3 HGT.out HBU.out.1 (by rw [HD.out]; exact HK3D.out); rw [HD.out] at h0; rw [HD.out, hq2]; exact h0) HMAY.out
              rw [h6.1]; omega
            · omega
          · intro h2
            have h4 := HO.out.still h2
            subst h4
            have hp := pl_reach HBU.out.2.2 h2
            have hq2 := HRY.out.eq HGT.out (by have := (hp.place (by rw [HD.out]; exact HK3D.out)).of HGT.out; rw [HD.out] at this; exact this)
            exact (add_there HGT.out (d := cN d.a d.n (φ d.y)) HBU.out.1 (by have h0 := nd_3 HGT.out HBU.out.1 (by rw [HD.out]; exact HK3D.out); rw [HD.out] at h0; rw [HD.out, hq2]; exact h0) HMAY.out).1
        case measure => simp [intOf]; omega
      · have m3 : (d.k == 3) = false := beq_eq_false_iff_ne.2 k3
        by_cases k4 : d.k = 4
        · have m4 : (d.k == 4) = true := beq_iff_eq.2 k4
          have HK4D : Hid ((ndAt L u).k = 4) := by show _ = _; rw [HD.out]; exact k4
          have hpx := HPT.out d.x (by unfold partsOf; rw [if_neg k3, if_pos k4]; simp)
          have hpy := HPT.out d.y (by unfold partsOf; rw [if_neg k3, if_pos k4]; simp)
          have hl := ids_look HM7.out HV5.out hpy.2.1
          have hlx := ids_look HM7.out HV5.out hpx.2.1
          rw [upd_ne φ (by omega)] at hl hlx
          have HRY := Lib.hid (HO.out.rel _ hpy.1)
          have HRX := Lib.hid (HO.out.rel _ hpx.1)
          clear hpx hpy k3 k4
          have HNU4 : Hid ((ndAt Lt u).k = 4) := by show _ = _; rw [HO.out.ext.nd HBU.out.1]; exact HK4D.out
          have HFW : Hid (Fw Lt ⟨d.o, φ d.x, φ d.y⟩) := by
            have h1 := OfR.fw HGT.out HHU.out HNU4.out (p := φ d.x) (q := φ d.y) (by rw [HNU.out]; exact HRX.out) (by rw [HNU.out]; exact HRY.out)
            rw [HNU.out] at h1
            exact h1
          have HMU : Hid (mu Lt ⟨d.o, φ d.x, φ d.y⟩ ≤ 16 * dN L id + 20) := by
            have h1 := mu_le (L := Lt) ⟨d.o, φ d.x, φ d.y⟩
            have h2 : dF Lt ⟨d.o, φ d.x, φ d.y⟩ = max (dN Lt (φ d.x)) (dN Lt (φ d.y)) := rfl
            have h3 := HRX.out.deep HGT.out
            have h4 := HRY.out.deep HGT.out
            have h5 := dN_4 HGT.out HHU.out HNU4.out
            rw [HNU.out] at h5
            have h6 := dN_ext HO.out.ext HBU.out.1
            have h7 := reach_deep HGD.out HBU.out.2.2 HI.out
            have h8 : dN L u ≤ dN L id := by unfold dN; omega
            show _ ≤ _
            omega
          go_wp2_with fail
          refine (bin_any HOW7.out.gr d.o (φ d.x) (φ d.y) HFW.out (HL.out.gto HG.out HTO7.out) (by have := HLEN7.out; have := HMU.out; omega)).mono ?_
          rintro e w8 ⟨j, L8, a8, c8, rfl, hT8, hB8⟩
          have HT8 := Lib.hid hT8
          have HB8 := Lib.hid hB8
          have HM8 := Lib.hid (ownsMap_block HM7.out (hT8.tu.block mv HM7.out.lt HNF.out))
          have hjr : InR j := has_in (by have := HLEN7.out; have := hB8.len; have := HMU.out; omega) hB8.has
          clear hT8 hB8 hl hlx
          obtain ⟨w9, hrun, hmap9, hgrow9⟩ := HM8.out.update lawId Tryz.underlying96 (by have := HNM.out; unfold maxLen; omega) (Maps.keyOf_int_mk Tryz.underlying35 (wf_i64 HINU.out)) (plainElem_int Tryz.underlying35 (wf_i64 hjr))
          have HM9 := Lib.hid hmap9
          have HV9 := Lib.hid (HV5.out.put (u := u) (v := j) (upd_at (upd φ u u) u _) (fun x hx => upd_ne (upd φ u u) hx))
          have HOW9 := Lib.hid ((HOW7.out.gto HT8.out).put HMS.out HOFF.out (Turned.grown (T := fun q => q = mv) hgrow9 (fun k hk => by simpa using hk.symm)))
          clear hmap9 hgrow9 f0 f1 f2 f3 f4 f5 hjr
          have HSTILL : Hid (Pl L id → L8 = Lt) := fun h2 => by
            have h4 := HO.out.still h2
            subst h4
            have hp := pl_reach HBU.out.2.2 h2
            have hpp := hp.part HK4D.out
            have ex := HRX.out.eq HGT.out (by have := hpp.1.of HGT.out; rw [HD.out] at this; exact this)
            have ey := HRY.out.eq HGT.out (by have := hpp.2.1.of HGT.out; rw [HD.out] at this; exact this)
            have hr := hp.run HK4D.out HGT.out
            rw [HD.out] at hr
            have hb := HB8.out.still
            rw [ex, ey] at hb
            exact (hb u hr).1
          go_wp2
          go_roundw
          case rel =>
            have hE := HB8.out.ext
            have hV9 := HV9.out
            rw [upd_upd] at hV9
            refine ⟨t + 1, by omega, by go_num, a8, c8, _, _, HO.out.next HGT.out HTK.out HOW9.out hE (.bin (p := φ d.x) (q := φ d.y) (hE.has HHU.out) (by rw [hE.nd HHU.out]; exact HNU4.out) (by rw [hE.nd HHU.out, HNU.out]; exact HRX.out.ext HGT.out hE) (by rw [hE.nd HHU.out, HNU.out]; exact HRY.out.ext HGT.out hE) (by rw [hE.nd HHU.out, HNU.out]; exact HB8.out.run)) HNEW.out ⟨_, _, HM9.out, by have := HNM.out; omega, hV9⟩ ?_ HSTILL.out⟩
            rcases HGR.out with ⟨h2, h3⟩ | h2
            · rw [HSTILL.out h2]; omega
            · have h5 := HB8.out.len
              have h6 := HMU.out
              omega
          case measure => simp [intOf]; omega
        · have m4 : (d.k == 4) = false := beq_eq_false_iff_ne.2 k4
          have HK12 : Hid (d.k = 1 ∨ d.k = 2) := by have := HKD.out; show _ ∨ _; omega
          clear k3 k4
          go_wp2
          go_roundw
          case rel => exact ⟨t + 1, by omega, by go_num, a, c1, Lt, _, HO.out.next HGT.out HTK.out HOW7.out (Ext.refl Lt) (.leaf HHU.out (by rw [HNU.out]; exact HK12.out)) HNEW.out ⟨_, _, HM7.out, by have := HNM.out; omega, HV5.out⟩ (by omega) (fun _ => rfl)⟩
          case measure => simp [intOf]; omega
    · obtain rfl : t = q := by omega
      obtain ⟨nm, D, hM, hnm, hV⟩ := HO.out.map
      have hl := ids_look hM hV (HIX.out (id : Int) (List.mem_singleton.2 rfl))
      have HTA : Hid (U.take t = U) := by show _ = _; rw [HQ.out, List.take_length]
      clear hM hnm hV
      go_wp2
      go_ret
      exact ⟨φ id, Lt, a, c1, rfl, HO.out.ow.to HK4.out HMW.out, ⟨HO.out.ext, HO.out.ow.gr.good, HO.out.rel _ (by rw [HTA.out]; exact HIDU.out), Nat.le_trans HO.out.len (Nat.add_le_add_left (Nat.mul_le_mul_right G HQI.out) _), HO.out.still⟩⟩
end Go.Proofs.YtgkjdmojbndicaaGreatDoor

namespace Go.Proofs.YtgkjdmojbndicaaGreatDoor
open Go Go.RowKit

structure Ses (w0 : World) (B g m : Nat) (P : List (Nat × Obj)) (w : World) (L : List Nd) : Prop where
  gr : ∃ a c, GraphAt B w g m a c L ∧ ∀ q ∈ P, w.heap[q.1]? = some q.2 ∧ ¬ Takes g m a q.1
  kept : Kept w0 w
  low : w0.heap.size ≤ B
  laid : Laid w0 ∧ Tab w0
section
variable {w0 w w1 : World} {B g m : Nat} {P : List (Nat × Obj)} {L L1 : List Nd}
theorem Ses.good (h : Ses w0 B g m P w L) : Good L := by obtain ⟨_, _, h, _⟩ := h.gr; exact h.good
theorem Ses.laidN (h : Ses w0 B g m P w L) : LaidN B w := ⟨h.laid.1.kept h.kept, h.laid.2.below h.kept, w0, h.laid.1, h.laid.2, h.kept, h.low⟩
theorem Ses.then (h : Ses w0 B g m P w L) (k : Kept w w1) : Ses w0 B g m P w1 L := by
  obtain ⟨a, c, hG, hP⟩ := h.gr
  exact ⟨⟨a, c, hG.kept k, fun q hq => ⟨k.row (hP q hq).1, (hP q hq).2⟩⟩, h.kept.trans k, h.low, h.laid⟩
theorem Ses.gto (h : Ses w0 B g m P w L) {a : Option Addr} {c : Nat} (hG : GraphAt B w g m a c L) (hP : ∀ q ∈ P, w.heap[q.1]? = some q.2 ∧ ¬ Takes g m a q.1) {a1 : Option Addr} {c1 : Nat} (k : GTo B g m a w w1 a1 c1 L1) : Ses w0 B g m P w1 L1 :=
  ⟨⟨a1, c1, k.gr, fun q hq => ⟨k.row (hP q hq).1 (hP q hq).2, k.not (Array.getElem?_eq_some_iff.1 (hP q hq).1).1 (hP q hq).2⟩⟩, k.below hG h.kept h.low, h.low, h.laid⟩
theorem Ses.new (h : Ses w0 B g m P w L) (o : Obj) : Ses w0 B g m ((w.heap.size, o) :: P) (w.alloc o) L := by
  obtain ⟨a, c, hG, hP⟩ := h.gr
  have k := (Kept.refl w).alloc o
  refine ⟨⟨a, c, hG.kept k, fun q hq => ?_⟩, h.kept.trans k, h.low, h.laid⟩
  rcases List.mem_cons.1 hq with e | e
  · rw [e]; exact ⟨(MapKept.heap_alloc w o).1, hG.not_new (Nat.le_refl _)⟩
  · exact ⟨k.row (hP q e).1, (hP q e).2⟩
theorem Ses.block (h : Ses w0 B g m P w L) {b : Nat} {o : Obj} (hb : (b, o) ∈ P) : w.heap[b]? = some o := by
  obtain ⟨a, c, hG, hP⟩ := h.gr
  exact (hP _ hb).1
theorem const_ses (h : Ses w0 B g m P w L) (n : Int) (hn : InR n) (hlen : L.length ≤ 1000000000) :
    Calls Tryz.prog 26 #[.pointer (some ⟨g, 0, none⟩), .int .i64 n] w fun e w' => ∃ i L', e = .returned (.int .i64 i) ∧ Ses w0 B g m P w' L' ∧ Ext L L' ∧ CN L' n i ∧ L'.length ≤ L.length + 1 := by
  obtain ⟨a, c, hG, hP⟩ := h.gr
  refine (const_any hG n hn h.laidN hlen).mono ?_
  rintro e w' ⟨he, a1, c1, hT⟩
  exact ⟨_, _, he, h.gto hG hP hT, Ext.add L _, add_con L n, add_len L _⟩
theorem sym_ses (h : Ses w0 B g m P w L) (n : Int) (hn : InR n) (h0 : 0 ≤ n) (hlen : L.length ≤ 1000000000) :
    Calls Tryz.prog 38 #[.pointer (some ⟨g, 0, none⟩), .int .i64 n] w fun e w' => ∃ i L', e = .returned (.int .i64 i) ∧ Ses w0 B g m P w' L' ∧ Ext L L' ∧ (hasB L'.length i = true ∧ ndAt L' i = ⟨2, n, 0, 0, 0, 0⟩) ∧ L'.length ≤ L.length + 1 := by
  obtain ⟨a, c, hG, hP⟩ := h.gr
  refine (sym_new hG n hn h.laidN hlen).mono ?_
  rintro e w' ⟨he, a1, c1, hT⟩
  exact ⟨_, _, he, h.gto hG hP hT, Ext.add L _, add_here (by simp [mayB, h0]), add_len L _⟩
theorem cell_ses (h : Ses w0 B g m P w L) (ar n q : Int) (ha : InR ar) (hn : InR n) (hq : hasB L.length q = true) (h1 : 0 ≤ ar) (h2 : 0 ≤ n) (hlen : L.length ≤ 1000000000) :
    Calls Tryz.prog 40 #[.pointer (some ⟨g, 0, none⟩), .int .i64 ar, .int .i64 n, .int .i64 q] w fun e w' => ∃ i L', e = .returned (.int .i64 i) ∧ Ses w0 B g m P w' L' ∧ Ext L L' ∧ (hasB L'.length i = true ∧ ndAt L' i = cN ar n q) ∧ L'.length ≤ L.length + 1 := by
  obtain ⟨a, c, hG, hP⟩ := h.gr
  refine (cell_new hG ar n q ha hn (has_in (by omega) hq) h.laidN hlen).mono ?_
  rintro e w' ⟨he, a1, c1, hT⟩
  exact ⟨_, _, he, h.gto hG hP hT, Ext.add L _, add_here (by simp [mayB, cN, h1, h2, hq]), add_len L _⟩
def Know (L : List Nd) (i : Int) (d : Nat) : Prop := hasB L.length i = true ∧ dN L i ≤ d
theorem Know.ext {L L' : List Nd} {i : Int} {d : Nat} (h : Know L i d) (e : Ext L L') : Know L' i d := ⟨e.has h.1, by rw [dN_ext e h.1]; exact h.2⟩
theorem know_cn {L : List Nd} (hG : Good L) {n i : Int} (h : CN L n i) : Know L i 1 := ⟨h.1, by rw [dN_cn hG h]; exact Nat.le_refl _⟩
/-- What Bin answers: the term, in the graph L'. -/
structure Ans4 (L L' : List Nd) (f : Fm) (i : Int) : Prop where
  ext : Ext L L'
  has : hasB L'.length i = true
  run : ∀ L'', Ext L' L'' → Run L'' f i
theorem bin_ses (h : Ses w0 B g m P w L) (op x y : Int) (h1 : 1 ≤ op) (h2 : op ≤ 16) (hx : hasB L.length x = true) (hy : hasB L.length y = true) (n D : Nat) (hn : L.length ≤ n) (dx : dN L x ≤ D) (dy : dN L y ≤ D) (hlen : n + 8 * D + 20 ≤ 999999999) :
    Calls Tryz.prog 13 #[.pointer (some ⟨g, 0, none⟩), .int .u8 op, .int .i64 x, .int .i64 y] w fun e w' => ∃ i L', e = .returned (.int .i64 i) ∧ Ses w0 B g m P w' L' ∧ Ans4 L L' ⟨op, x, y⟩ i ∧ L'.length ≤ n + 8 * D + 20 ∧ dN L' i ≤ D + 2 := by
  obtain ⟨a, c, hG, hP⟩ := h.gr
  have hf : Fw L ⟨op, x, y⟩ := ⟨h1, h2, hx, hy⟩
  have hm := mu_le (L := L) ⟨op, x, y⟩
  have hd : dF L ⟨op, x, y⟩ = max (dN L x) (dN L y) := rfl
  refine (bin_any hG op x y hf h.laidN (by omega)).mono ?_
  rintro e w' ⟨i, L', a1, c1, he, hT, hB⟩
  refine ⟨i, L', he, h.gto hG hP hT, ⟨hB.ext, hB.has, fun L'' e2 => run_ext hB.good e2 hB.run (hf.ext hB.ext)⟩, by have := hB.len; omega, ?_⟩
  have h3 := run_deep hB.good hB.run (hf.ext hB.ext)
  have h4 : dF L' ⟨op, x, y⟩ = max (dN L' x) (dN L' y) := rfl
  rw [dN_ext hB.ext hx, dN_ext hB.ext hy] at h4
  split at h3 <;> omega
theorem not_ses (h : Ses w0 B g m P w L) (y : Int) (hy : hasB L.length y = true) (n D : Nat) (hn : L.length ≤ n) (dy : dN L y ≤ D) (hlen : n + 8 * D + 20 ≤ 999999999) :
    Calls Tryz.prog 14 #[.pointer (some ⟨g, 0, none⟩), .int .i64 y] w fun e w' => ∃ i L', e = .returned (.int .i64 i) ∧ Ses w0 B g m P w' L' ∧ Ext L L' ∧ hasB L'.length i = true ∧ (∀ L'', Ext L' L'' → ∃ z, CN L'' 0 z ∧ Run L'' ⟨16, y, z⟩ i) ∧ L'.length ≤ n + 8 * D + 20 ∧ dN L' i ≤ D + 2 := by
  obtain ⟨a, c, hG, hP⟩ := h.gr
  have hp := dN_pos hG.good hy
  refine (not_any hG y hy h.laidN (by omega)).mono ?_
  rintro e w' ⟨t, L1, a1, c1, he, hT, hN⟩
  obtain ⟨z, hz, hr⟩ := hN.zero
  have fw := fw16 (hN.ext.has hy) hz.1
  have h3 := run_deep hN.good hr fw
  have h4 : dF L1 ⟨16, y, z⟩ = max (dN L1 y) (dN L1 z) := rfl
  rw [dN_ext hN.ext hy, dN_cn hN.good hz] at h4
  have h5 := hN.len
  rw [if_neg (by show ¬ (16 : Int) = 15; decide)] at h3
  exact ⟨t, L1, he, h.gto hG hP hT, hN.ext, run_has hN.good hr fw, (fun L'' e2 => ⟨z, hz.ext e2, run_ext hN.good e2 hr fw⟩), by omega, by omega⟩
theorem of_ses (h : Ses w0 B g m P w L) (id : Int) (hi : hasB L.length id = true) (n D U : Nat) (hn : L.length ≤ n) (hD : dN L id ≤ D) (hU : id < U) (hlen : n + (U + 1) * (16 * D + 20) ≤ 999999999) :
    Calls Tryz.prog 24 #[.pointer (some ⟨g, 0, none⟩), .int .i64 id] w fun e w' => ∃ j L', e = .returned (.int .i64 j) ∧ Ses w0 B g m P w' L' ∧ Ext L L' ∧ (∀ L'', Ext L' L'' → OfR L'' id j) ∧ hasB L'.length j = true ∧ L'.length ≤ n + U * (16 * D + 20) ∧ dN L' j ≤ 2 * D := by
  obtain ⟨a, c, hG, hP⟩ := h.gr
  obtain ⟨h0, h1⟩ := (hasB_iff _ _).1 hi
  obtain ⟨k, rfl⟩ : ∃ k : Nat, id = k := ⟨id.toNat, by omega⟩
  have m1 : (k + 1) * (16 * dN L k + 20) ≤ U * (16 * D + 20) := Nat.mul_le_mul (by omega) (by omega)
  have m2 : (U + 1) * (16 * D + 20) = U * (16 * D + 20) + (16 * D + 20) := by rw [Nat.add_mul, Nat.one_mul]
  refine (of_walk hG k hi h.laidN (16 * dN L k + 20) (Or.inr rfl) (by omega)).mono ?_
  rintro e w' ⟨j, L', a1, c1, he, hT, hO⟩
  refine ⟨j, L', he, h.gto hG hP hT, hO.ext, (fun L'' e2 => hO.rel.ext hO.good e2), (hO.rel.both hO.good).2, by have := hO.len; omega, ?_⟩
  have := hO.rel.deep hO.good
  rw [dN_ext hO.ext hi] at this
  omega
/-- Of a plain term: itself, and nothing is added. -/
theorem of_plain (h : Ses w0 B g m P w L) (id : Int) (hp : Pl L id) (hlen : L.length + 16 * dN L id + 20 ≤ 999999999) :
    Calls Tryz.prog 24 #[.pointer (some ⟨g, 0, none⟩), .int .i64 id] w fun e w' => e = .returned (.int .i64 id) ∧ Ses w0 B g m P w' L := by
  obtain ⟨a, c, hG, hP⟩ := h.gr
  obtain ⟨h0, h1⟩ := (hasB_iff _ _).1 hp.has
  obtain ⟨k, rfl⟩ : ∃ k : Nat, id = k := ⟨id.toNat, by omega⟩
  refine (of_walk hG k hp.has h.laidN 0 (Or.inl ⟨hp, rfl⟩) (by omega)).mono ?_
  rintro e w' ⟨j, L', a1, c1, he, hT, hO⟩
  have e1 := hO.still hp
  subst e1
  have e2 := hO.rel.eq hO.good (hp.of hO.good)
  subst e2
  exact ⟨he, h.gto hG hP hT⟩
end
end Go.Proofs.YtgkjdmojbndicaaGreatDoor
