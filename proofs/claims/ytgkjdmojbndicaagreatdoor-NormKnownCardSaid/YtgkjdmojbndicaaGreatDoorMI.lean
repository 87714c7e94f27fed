/-
  Several texts in one: NOps: Layer 4: contracts of slices.Index and slices.Contains of operations, of norm.among.; NAsk: Layer 4: contracts of what norm asks of a form: of, ofNumber, ofJust, leftOf; of isTruth.; NHelp: Layer 4: contracts of norm.Number, norm.Bool, behind, opposite, norm.is, norm.Const, number, to; worlds between which a graph alone has grown.; NGrow: Layer 4: worlds between which a graph alone has grown; contracts of norm.Const, norm.is, number, to.; NOwn: Layer 4: contracts of norm's rules (what all of them share).; NArea: Layer 4: the contract of norm.areTerms.; NNextA: Layer 4: the contracts of norm's rows of rules; the beginning of norm.next..
-/
import Derived.Test.YtgkjdmojbndicaaGreatDoorMB
import Derived.Test.YtgkjdmojbndicaaGreatDoorME
import Derived.Test.YtgkjdmojbndicaaGreatDoorMF
import Derived.Test.YtgkjdmojbndicaaGreatDoorMG
import Derived.Test.YtgkjdmojbndicaaGreatDoorMD
namespace Go.Proofs.YtgkjdmojbndicaaGreatDoor
open Go Go.RowKit

/-- A slice of operations. -/
structure OpsAt (w : World) (s : Option Addr) (n : Nat) (os : List Int) : Prop where
  len : os.length = n
  few : n ≤ 1000
  at_ : 0 < n → ∃ b off, s = some ⟨b, off, none⟩ ∧ ∀ j x, os[j]? = some x → w.cell? ⟨b, off + j, none⟩ = some (.int .u8 x)
theorem OpsAt.kept {w w' : World} {s : Option Addr} {n : Nat} {os : List Int} (h : OpsAt w s n os) (k : Kept w w') : OpsAt w' s n os :=
  ⟨h.len, h.few, fun hn => by
    obtain ⟨b, off, hl, hc⟩ := h.at_ hn
    exact ⟨b, off, hl, fun j x hx => k.cell (hc j x hx)⟩⟩
def memO (os : List Int) (v : Int) : Bool := os.any fun x => v == x
/-- Index's answer: -1 just if it is none of them. -/
def IdxI (os : List Int) (v : Int) (w : World) (e : Ending) (w' : World) : Prop := ∃ r : Int, e = .returned (.int .i64 r) ∧ -1 ≤ r ∧ r ≤ 1000 ∧ (decide (0 ≤ r) = memO os v) ∧ w = w'
theorem memO_no {os : List Int} {v : Int} (h : ∀ (j : Nat) (x : Int), os[j]? = some x → ¬ x = v) : memO os v = false := by
  unfold memO
  rw [List.any_eq_false]
  intro x hx
  obtain ⟨j, hj⟩ := List.getElem?_of_mem hx
  simpa using fun e => h j x hj e.symm
theorem memO_yes {os : List Int} {v : Int} {j : Nat} (h : os[j]? = some v) : memO os v = true := by
  unfold memO
  rw [List.any_eq_true]
  exact ⟨v, List.mem_of_getElem? h, by simp⟩
set_option maxHeartbeats 1000000 in
theorem index_any (s : Option Addr) (n c : Nat) (os : List Int) (v : Int) (w : World) (h : OpsAt w s n os) :
    Calls Tryz.prog 130 #[.slice s n c, .int .u8 v] w (IdxI os v w) := by
  have hlen := h.len
  have hfew := h.few
  have H := Lib.hid h
  have HL := Lib.hid hlen
  clear h hlen
  go_enter Tryz.func130, Tryz.ntmps130
  go_wp2
  go_loop [8] (fun i => ∃ k : Nat, k ≤ n ∧ i = .int .i64 k ∧ Hid (∀ (j : Nat) (x : Int), j < k → os[j]? = some x → ¬ x = v)) (fun i => n - (intOf i).toNat)
  case atStart => exact ⟨0, Nat.zero_le _, rfl, fun j x hj => absurd hj (Nat.not_lt_zero _)⟩
  case round =>
    obtain ⟨k, hk, rfl, HN⟩ := hrel
    by_cases hkn : k < n
    · obtain ⟨b, off, rfl, hc⟩ := H.out.at_ (by omega)
      obtain ⟨x, hx⟩ : ∃ x, os[k]? = some x := ⟨_, List.getElem?_eq_getElem (by rw [HL.out]; exact hkn)⟩
      have x0 := hc k x hx
      have HX := Lib.hid hx
      clear hc hx
      by_cases hv : v = x
      · subst hv
        have HE := Lib.hid (memO_yes HX.out)
        go_wp2
        go_ret
        exact ⟨k, rfl, by omega, by omega, by rw [HE.out]; exact decide_eq_true (by omega), rfl⟩
      · have hb : (v == x) = false := beq_eq_false_iff_ne.2 hv
        have HV := Lib.hid hv
        clear hv
        go_wp2
        go_round
        case rel =>
          refine ⟨k + 1, by omega, by go_num, fun j y hj hy => ?_⟩
          by_cases hjk : j = k
          · subst hjk
            have h3 := HX.out
            rw [hy] at h3
            have : y = x := by simpa using h3
            rw [this]
            exact fun e => HV.out e.symm
          · exact HN.out j y (by omega) hy
        case measure => simp [intOf]; omega
    · have hkn' : k = n := by omega
      subst hkn'
      have HE := Lib.hid (memO_no (os := os) (v := v) fun j x hx => HN.out j x (by have := (List.getElem?_eq_some_iff.1 hx).1; rw [HL.out] at this; exact this) hx)
      go_wp2
      go_ret
      exact ⟨-1, rfl, by omega, by omega, by rw [HE.out]; rfl, rfl⟩
set_option maxHeartbeats 400000 in
theorem contains_any (s : Option Addr) (n c : Nat) (os : List Int) (v : Int) (w : World) (h : OpsAt w s n os) :
    Calls Tryz.prog 120 #[.slice s n c, .int .u8 v] w fun e w' => e = .returned (.bool (memO os v)) ∧ w = w' := by
  have H := Lib.hid h
  clear h
  go_enter Tryz.func120, Tryz.ntmps120
  go_wp2_with fail
  refine (index_any _ _ _ os _ _ H.out).mono ?_
  rintro e w' ⟨r, rfl, h1, h2, h3, rfl⟩
  have H3 := Lib.hid h3
  clear h3
  go_wp2
  go_ret
  exact ⟨congrArg (fun b => Ending.returned (Value.bool b)) H3.out, rfl⟩
set_option maxHeartbeats 400000 in
theorem among_any (s : Option Addr) (n c : Nat) (os : List Int) (v : Int) (w : World) (h : OpsAt w s n os) :
    Calls Tryz.prog 68 #[.int .u8 v, .slice s n c] w fun e w' => e = .returned (.bool (memO os v)) ∧ w = w' := by
  have H := Lib.hid h
  clear h
  go_enter Tryz.func68, Tryz.ntmps68
  go_wp2_with fail
  refine (contains_any _ _ _ os _ _ H.out).mono ?_
  rintro e w' ⟨rfl, rfl⟩
  go_wp2
  go_ret
  exact ⟨rfl, rfl⟩
end Go.Proofs.YtgkjdmojbndicaaGreatDoor

namespace Go.Proofs.YtgkjdmojbndicaaGreatDoor
open Go Go.RowKit

/-- What is asked for. -/
def askV (o x y : Int) (g : Nat) (l r : Nd) : Value := .agg #[.int .u8 o, .int .i64 x, .int .i64 y, .pointer (some ⟨g, 0, none⟩), .int .u8 l.k, .int .i64 l.n, .int .i64 l.a, .int .u8 l.o, .int .i64 l.x, .int .i64 l.y, .int .u8 r.k, .int .i64 r.n, .int .i64 r.a, .int .u8 r.o, .int .i64 r.x, .int .i64 r.y]
def askO (o x y : Int) (g : Nat) (l r : Nd) : Obj := .cells #[.int .u8 o, .int .i64 x, .int .i64 y, .pointer (some ⟨g, 0, none⟩), .int .u8 l.k, .int .i64 l.n, .int .i64 l.a, .int .u8 l.o, .int .i64 l.x, .int .i64 l.y, .int .u8 r.k, .int .i64 r.n, .int .i64 r.a, .int .u8 r.o, .int .i64 r.x, .int .i64 r.y] 108
theorem beq_iff {a b : Int} {c : Bool} (h : decide (a = b) = c) : (a == b) = c := by rw [← h]; rfl
set_option maxHeartbeats 400000 in
theorem of_any' (o x y : Int) (g : Nat) (l r : Nd) (s : Option Addr) (n c : Nat) (os : List Int) (w : World) (h : OpsAt w s n os) :
    Calls Tryz.prog 102 #[askV o x y g l r, .slice s n c] w fun e w' => e = .returned (.bool (memO os o)) ∧ Kept w w' := by
  have H := Lib.hid h
  clear h
  simp only [askV]
  go_enter Tryz.func102, Tryz.ntmps102
  go_wp2_with ((go_at_call 68; refine (among_any _ _ _ os _ _ (H.out.kept ((Kept.refl _).alloc _))).mono ?_; rintro e w' ⟨rfl, rfl⟩))
  go_ret
  exact ⟨rfl, (Kept.refl _).alloc _⟩
set_option maxHeartbeats 400000 in
theorem ofnum_any (o x y : Int) (g : Nat) (l r : Nd) (s : Option Addr) (n c : Nat) (os : List Int) (w : World) (h : OpsAt w s n os) :
    Calls Tryz.prog 97 #[askV o x y g l r, .slice s n c] w fun e w' => e = .returned (.bool (isC r && memO os o)) ∧ Kept w w' := by
  have H := Lib.hid h
  clear h
  have K1 := Lib.hid ((Kept.refl w).alloc (askO o x y g l r))
  simp only [askV]
  by_cases hk : r.k = 1
  · have hb : (r.k == 1) = true := beq_iff_eq.2 hk
    have HE := Lib.hid (show isC r = true from hb)
    clear hk
    go_enter Tryz.func97, Tryz.ntmps97
    go_wp2_with fail
    refine (of_any' o x y g l r _ _ _ os _ (H.out.kept ((Kept.refl _).alloc _))).mono ?_
    rintro e w2 ⟨rfl, hk2⟩
    have HK2 := Lib.hid hk2
    clear hk2
    go_wp2
    go_ret
    exact ⟨by rw [HE.out]; rfl, K1.out.trans HK2.out⟩
  · have hb : (r.k == 1) = false := beq_eq_false_iff_ne.2 hk
    have HE := Lib.hid (show isC r = false from hb)
    clear hk
    go_enter Tryz.func97, Tryz.ntmps97
    go_wp2
    go_ret
    exact ⟨by rw [HE.out]; rfl, K1.out⟩
set_option maxHeartbeats 400000 in
theorem ofjust_any (o x y : Int) (g : Nat) (l r : Nd) (v : Int) (s : Option Addr) (n c : Nat) (os : List Int) (w : World) (h : OpsAt w s n os) :
    Calls Tryz.prog 100 #[askV o x y g l r, .int .i64 v, .slice s n c] w fun e w' => e = .returned (.bool (isC r && memO os o && r.n == v)) ∧ Kept w w' := by
  have HB := Lib.hid ((MapKept.heap_alloc w (askO o x y g l r)).1)
  have H := Lib.hid (h.kept ((Kept.refl w).alloc (askO o x y g l r)))
  clear h
  have K1 := Lib.hid ((Kept.refl w).alloc (askO o x y g l r))
  simp only [askV]
  go_enter Tryz.func100, Tryz.ntmps100
  go_wp2_with fail
  change Calls _ _ #[askV o x y g l r, _] (w.alloc (askO o x y g l r)) _
  generalize w.alloc (askO o x y g l r) = W at *
  refine (ofnum_any o x y g l r _ _ _ os _ H.out).mono ?_
  rintro e w2 ⟨rfl, hk2⟩
  have q : w2.cell? ⟨w.heap.size, 11, none⟩ = some (.int .i64 r.n) := by rw [cell_of_row _ _ _ _ _ _ (hk2.row HB.out)]; rfl
  have HK2 := Lib.hid (K1.out.trans hk2)
  clear hk2
  cases hb : (isC r && memO os o) with
  | true =>
    have HE := Lib.hid hb
    clear hb
    go_wp2
    go_ret
    exact ⟨by rw [HE.out]; rfl, HK2.out⟩
  | false =>
    have HE := Lib.hid hb
    clear hb
    go_wp2
    go_ret
    exact ⟨by rw [HE.out]; rfl, HK2.out⟩
set_option maxHeartbeats 400000 in
theorem leftof_any (o x y : Int) (g : Nat) (l r : Nd) (s : Option Addr) (n c : Nat) (os : List Int) (w : World) (h : OpsAt w s n os) :
    Calls Tryz.prog 113 #[askV o x y g l r, .slice s n c] w fun e w' => e = .returned (.bool (l.k == 4 && memO os l.o)) ∧ Kept w w' := by
  have H := Lib.hid h
  clear h
  simp only [askV]
  by_cases hk : l.k = 4
  · have hb : (l.k == 4) = true := beq_iff_eq.2 hk
    have HE := Lib.hid hb
    clear hk
    go_enter Tryz.func113, Tryz.ntmps113
    go_wp2_with ((go_at_call 68; refine (among_any _ _ _ os _ _ (H.out.kept ((Kept.refl _).alloc _))).mono ?_; rintro e w' ⟨rfl, rfl⟩))
    go_ret
    exact ⟨by rw [HE.out]; rfl, (Kept.refl _).alloc _⟩
  · have hb : (l.k == 4) = false := beq_eq_false_iff_ne.2 hk
    have HE := Lib.hid hb
    clear hk
    go_enter Tryz.func113, Tryz.ntmps113
    go_wp2
    go_ret
    exact ⟨by rw [HE.out]; rfl, (Kept.refl _).alloc _⟩
/-- A slice of operations that was made just now. -/
theorem ops_new (w : World) (b : Nat) (vs : Array Value) (t : TypeId) (fr : Nat × Nat) (os : List Int) (h : w.heap[b]? = some (.cells vs t fr)) (hv : vs.toList = os.map (Value.int .u8)) (hn : os.length ≤ 1000) : OpsAt w (some ⟨b, 0, none⟩) os.length os :=
  ⟨rfl, hn, fun _ => ⟨b, 0, rfl, fun j x hx => by
    rw [cell_of_row _ _ _ _ _ _ h]
    have : vs.toList[j]? = some (.int .u8 x) := by rw [hv, List.getElem?_map, hx]; rfl
    simpa using this⟩⟩
theorem ops_at {w : World} {b n : Nat} {vs : Array Value} {t : TypeId} {os : List Int} (hb : b = w.heap.size) (hv : vs.toList = os.map (Value.int .u8)) (hn : n = os.length) (h1 : n ≤ 1000) : OpsAt (w.alloc (.cells vs t)) (some ⟨b, 0, none⟩) n os := by
  subst hb; subst hn
  exact ops_new _ _ vs t (0, 0) os (MapKept.heap_alloc w (.cells vs t)).1 hv h1
set_option maxRecDepth 100000 in
set_option maxHeartbeats 1000000 in
theorem istruth_any (d : Nd) (w : World) :
    Calls Tryz.prog 47 #[d.val] w fun e w' => e = .returned (.bool (truthN d)) ∧ Kept w w' := by
  simp only [Nd.val]
  by_cases h1 : d.k = 1
  · have b1 : (d.k == 1) = true := beq_iff_eq.2 h1
    have b4 : (d.k == 4) = false := beq_eq_false_iff_ne.2 (by omega)
    have HE : Hid (truthN d = (d.n == 0 || d.n == 1)) := by
      show _ = _
      unfold truthN
      rw [b1, b4]; simp
    clear h1
    by_cases n0 : d.n = 0
    · have m0 : (d.n == 0) = true := beq_iff_eq.2 n0
      clear n0
      go_enter Tryz.func47, Tryz.ntmps47
      go_wp2
      go_ret
      exact ⟨by rw [HE.out, m0]; rfl, (Kept.refl _).alloc _⟩
    · have m0 : (d.n == 0) = false := beq_eq_false_iff_ne.2 n0
      clear n0
      go_enter Tryz.func47, Tryz.ntmps47
      go_wp2
      go_ret
      exact ⟨by rw [HE.out, m0]; rfl, (Kept.refl _).alloc _⟩
  · have b1 : (d.k == 1) = false := beq_eq_false_iff_ne.2 h1
    clear h1
    by_cases h4 : d.k = 4
    · have b4 : (d.k == 4) = true := beq_iff_eq.2 h4
      have HE : Hid (truthN d = memO [14, 15, 16] d.o) := by
        show _ = _
        unfold truthN memO
        rw [b1, b4]
        simp [Bool.or_assoc]
      clear h4
      go_enter Tryz.func47, Tryz.ntmps47
      go_wp2_with ((go_at_call 68; refine (among_any _ _ _ [14, 15, 16] _ _ (ops_at (by simp) rfl rfl (by decide))).mono ?_; rintro e w' ⟨rfl, rfl⟩))
      go_ret
      exact ⟨by rw [HE.out]; rfl, ((Kept.refl _).alloc _).alloc _⟩
    · have b4 : (d.k == 4) = false := beq_eq_false_iff_ne.2 h4
      have HE : Hid (truthN d = false) := by
        show _ = _
        unfold truthN
        rw [b1, b4]; rfl
      clear h4
      go_enter Tryz.func47, Tryz.ntmps47
      go_wp2
      go_ret
      exact ⟨by rw [HE.out]; rfl, (Kept.refl _).alloc _⟩
end Go.Proofs.YtgkjdmojbndicaaGreatDoor

namespace Go.Proofs.YtgkjdmojbndicaaGreatDoor
open Go Go.RowKit

def numN (d : Nd) : Int := if isC d then d.n else 0
set_option maxHeartbeats 1000000 in
theorem number_any {B g m c : Nat} {a : Option Addr} {L : List Nd} {w : World} (h : GraphAt B w g m a c L) (i : Int) :
    Calls Tryz.prog 18 #[.pointer (some ⟨g, 0, none⟩), .int .i64 i] w fun e w' => e = .returned (.tuple #[.int .i64 (numN (nodeAt L i)), .bool (isC (nodeAt L i))]) ∧ Kept w w' := by
  have HN := Lib.hid (node_any h i)
  clear h
  obtain ⟨d, hd⟩ : ∃ d, nodeAt L i = d := ⟨_, rfl⟩
  rw [hd] at HN ⊢
  generalize hasB L.length i = bb at HN
  clear hd
  by_cases hk : d.k = 1
  · have hb : (d.k == 1) = true := beq_iff_eq.2 hk
    have HE := Lib.hid (show isC d = true from hb)
    clear hk
    go_enter Tryz.func18, Tryz.ntmps18
    go_wp2_with fail
    refine HN.out.mono ?_
    rintro e w' ⟨rfl, hk⟩
    simp only [Nd.val]
    have HK := Lib.hid hk
    clear hk
    go_wp2
    go_ret2
    exact ⟨by unfold numN; rw [HE.out]; rfl, HK.out.alloc _⟩
  · have hb : (d.k == 1) = false := beq_eq_false_iff_ne.2 hk
    have HE := Lib.hid (show isC d = false from hb)
    clear hk
    go_enter Tryz.func18, Tryz.ntmps18
    go_wp2_with fail
    refine HN.out.mono ?_
    rintro e w' ⟨rfl, hk⟩
    simp only [Nd.val]
    have HK := Lib.hid hk
    clear hk
    go_wp2
    go_ret2
    exact ⟨by unfold numN; rw [HE.out]; rfl, HK.out.alloc _⟩
set_option maxHeartbeats 1000000 in
theorem bool_any {B g m c : Nat} {a : Option Addr} {L : List Nd} {w : World} (h : GraphAt B w g m a c L) (i : Int) :
    Calls Tryz.prog 19 #[.pointer (some ⟨g, 0, none⟩), .int .i64 i] w fun e w' => e = .returned (.bool (truthN (nodeAt L i))) ∧ Kept w w' := by
  have HN := Lib.hid (node_any h i)
  clear h
  obtain ⟨d, hd⟩ : ∃ d, nodeAt L i = d := ⟨_, rfl⟩
  rw [hd] at HN ⊢
  generalize hasB L.length i = bb at HN
  clear hd
  go_enter Tryz.func19, Tryz.ntmps19
  go_wp2_with fail
  refine HN.out.mono ?_
  rintro e w' ⟨rfl, hk⟩
  simp only [Nd.val]
  have HK := Lib.hid hk
  clear hk
  go_wp2_with fail
  refine (istruth_any d _).mono ?_
  rintro e w2 ⟨rfl, hk⟩
  have HK2 := Lib.hid ((HK.out.alloc _).trans hk)
  clear hk
  go_wp2
  go_ret
  exact ⟨rfl, HK2.out⟩

/-- What a left part's own parts are. -/
def Lk (L : List Nd) (l : Nd) : Prop := l.k = 4 → hasB L.length l.x = true ∧ hasB L.length l.y = true
theorem nodeAt_has {L : List Nd} {i : Int} (h : hasB L.length i = true) : nodeAt L i = ndAt L i := by
  unfold nodeAt ndAt nd0
  rw [if_pos h]
def behO (L : List Nd) (l : Nd) (os : List Int) : Bool := (l.k == 4 && memO os l.o) && isC (ndAt L l.y)
def behV (L : List Nd) (l : Nd) (os : List Int) : Int := if behO L l os then behN L l else 0
set_option maxHeartbeats 1000000 in
theorem behind_any {B g m c : Nat} {sa : Option Addr} {L : List Nd} {w : World} (h : GraphAt B w g m sa c L) (o x y : Int) (l r : Nd) (hl : Lk L l) (s : Option Addr) (n sc : Nat) (os : List Int) (hs : OpsAt w s n os) :
    Calls Tryz.prog 96 #[askV o x y g l r, .slice s n sc] w fun e w' => e = .returned (.tuple #[.int .i64 (behV L l os), .bool (behO L l os)]) ∧ Kept w w' := by
  have HB := Lib.hid ((MapKept.heap_alloc w (askO o x y g l r)).1)
  have H := Lib.hid (hs.kept ((Kept.refl w).alloc (askO o x y g l r)))
  have HG := Lib.hid (h.kept ((Kept.refl w).alloc (askO o x y g l r)))
  clear h hs
  have K1 := Lib.hid ((Kept.refl w).alloc (askO o x y g l r))
  have HL := Lib.hid hl
  clear hl
  simp only [askV]
  go_enter Tryz.func96, Tryz.ntmps96
  go_wp2_with fail
  change Calls _ _ #[askV o x y g l r, _] (w.alloc (askO o x y g l r)) _
  generalize w.alloc (askO o x y g l r) = W at *
  refine (leftof_any o x y g l r _ _ _ os _ H.out).mono ?_
  rintro e w2 ⟨rfl, hk2⟩
  have q0 : w2.cell? ⟨w.heap.size, 3, none⟩ = some (.pointer (some ⟨g, 0, none⟩)) := by rw [cell_of_row _ _ _ _ _ _ (hk2.row HB.out)]; rfl
  have q1 : w2.cell? ⟨w.heap.size, 9, none⟩ = some (.int .i64 l.y) := by rw [cell_of_row _ _ _ _ _ _ (hk2.row HB.out)]; rfl
  have HG2 := Lib.hid (HG.out.kept hk2)
  have HK2 := Lib.hid (K1.out.trans hk2)
  clear hk2
  cases hb : (l.k == 4 && memO os l.o) with
  | false =>
    have HE : Hid (behO L l os = false) := by show _ = _; unfold behO; rw [hb]; rfl
    clear hb
    go_wp2
    go_ret2
    exact ⟨by unfold behV; rw [HE.out]; rfl, HK2.out⟩
  | true =>
    have h4 : l.k = 4 := by
      rw [Bool.and_eq_true] at hb
      exact beq_iff_eq.1 hb.1
    have HE : Hid (behO L l os = isC (nodeAt L l.y)) := by
      show _ = _
      unfold behO
      rw [hb, nodeAt_has (HL.out h4).2]; rfl
    have HV : Hid (behV L l os = numN (nodeAt L l.y)) := by
      show _ = _
      unfold behV numN behN
      rw [HE.out, nodeAt_has (HL.out h4).2]
    clear hb h4
    go_wp2_with fail
    refine (number_any HG2.out l.y).mono ?_
    rintro e w3 ⟨rfl, hk3⟩
    have HK3 := Lib.hid (HK2.out.trans hk3)
    clear hk3
    go_wp2
    go_ret2
    exact ⟨by rw [HE.out, HV.out]; rfl, HK3.out⟩
def oppX (L : List Nd) (l : Nd) : Int := if oppB L l then l.x else -1
theorem behO_one (L : List Nd) (l : Nd) (o : Int) : behO L l [o] = behB L l o := by
  unfold behO behB isB memO
  simp
theorem behO_two (L : List Nd) (l : Nd) (o p : Int) : behO L l [o, p] = (behB L l o || behB L l p) := by
  unfold behO behB isB memO
  simp only [List.any_cons, List.any_nil, Bool.or_false]
  cases l.k == 4 <;> cases l.o == o <;> cases l.o == p <;> cases isC (ndAt L l.y) <;> rfl
set_option maxRecDepth 100000 in
set_option maxHeartbeats 2000000 in
theorem opposite_any {B g m c : Nat} {sa : Option Addr} {L : List Nd} {w : World} (h : GraphAt B w g m sa c L) (o x y : Int) (l r : Nd) (hl : Lk L l) :
    Calls Tryz.prog 127 #[askV o x y g l r] w fun e w' => e = .returned (.tuple #[.int .i64 (oppX L l), .bool (oppB L l)]) ∧ Kept w w' := by
  have HB := Lib.hid ((MapKept.heap_alloc w (askO o x y g l r)).1)
  have HG := Lib.hid (h.kept ((Kept.refl w).alloc (askO o x y g l r)))
  clear h
  have K1 := Lib.hid ((Kept.refl w).alloc (askO o x y g l r))
  have HL := Lib.hid hl
  clear hl
  simp only [askV]
  go_enter Tryz.func127, Tryz.ntmps127
  go_wp2_with fail
  change Calls _ _ #[askV o x y g l r, _] ((w.alloc (askO o x y g l r)).alloc (.cells #[.int .u8 16] 27)) _
  have HS := Lib.hid (show (w.alloc (askO o x y g l r)).heap.size = w.heap.size + 1 by simp)
  generalize w.alloc (askO o x y g l r) = W at *
  have HG1 := Lib.hid (HG.out.kept ((Kept.refl W).alloc (.cells #[.int .u8 16] 27)))
  refine (behind_any HG1.out o x y l r HL.out _ _ _ [16] (ops_at HS.out.symm rfl rfl (by decide))).mono ?_
  rintro e w2 ⟨rfl, hk2⟩
  rw [behO_one]
  have HK2' := Lib.hid (((Kept.refl W).alloc (.cells #[.int .u8 16] 27)).trans hk2)
  have q0 : w2.cell? ⟨w.heap.size, 3, none⟩ = some (.pointer (some ⟨g, 0, none⟩)) := by rw [cell_of_row _ _ _ _ _ _ (HK2'.out.row HB.out)]; rfl
  have q1 : w2.cell? ⟨w.heap.size, 8, none⟩ = some (.int .i64 l.x) := by rw [cell_of_row _ _ _ _ _ _ (HK2'.out.row HB.out)]; rfl
  have HG2 := Lib.hid (HG.out.kept HK2'.out)
  have HK2 := Lib.hid (K1.out.trans HK2'.out)
  have HR2 := Lib.hid (HK2'.out.row HB.out)
  clear hk2
  cases hb : behB L l 16 with
  | false =>
    have HE : Hid (oppB L l = false) := by show _ = _; unfold oppB; rw [hb]; rfl
    clear hb
    go_wp2
    go_ret2
    exact ⟨by unfold oppX; rw [HE.out]; rfl, HK2.out⟩
  | true =>
    have hv : behV L l [16] = behN L l := by unfold behV; rw [behO_one, hb]; rfl
    rw [hv]
    have h4 : l.k = 4 := ((behB_iff _ _ _).1 hb).1.1
    clear hv
    by_cases hz : behN L l = 0
    · have hz' : (behN L l != 0) = false := by rw [hz]; rfl
      have HE : Hid (oppB L l = truthN (nodeAt L l.x)) := by
        show _ = _
        unfold oppB
        rw [hb, hz, nodeAt_has (HL.out h4).1]; rfl
      clear hz hb h4
      go_wp2_with fail
      refine (bool_any HG2.out l.x).mono ?_
      rintro e w3 ⟨rfl, hk3⟩
      have q2 : w3.cell? ⟨w.heap.size, 8, none⟩ = some (.int .i64 l.x) := by rw [cell_of_row _ _ _ _ _ _ (hk3.row HR2.out)]; rfl
      have HK3 := Lib.hid (HK2.out.trans hk3)
      clear hk3
      cases ht : truthN (nodeAt L l.x) with
      | true =>
        rw [ht] at HE
        clear ht
        go_wp2
        go_ret2
        exact ⟨by unfold oppX; rw [HE.out]; rfl, HK3.out⟩
      | false =>
        rw [ht] at HE
        clear ht
        go_wp2
        go_ret2
        exact ⟨by unfold oppX; rw [HE.out]; rfl, HK3.out⟩
    · have hz' : (behN L l != 0) = true := bne_iff_ne.2 hz
      have HE : Hid (oppB L l = false) := by
        show _ = _
        unfold oppB
        rw [beq_eq_false_iff_ne.2 hz]; simp
      clear hz hb h4
      go_wp2
      go_ret2
      exact ⟨by unfold oppX; rw [HE.out]; rfl, HK2.out⟩
end Go.Proofs.YtgkjdmojbndicaaGreatDoor

namespace Go.Proofs.YtgkjdmojbndicaaGreatDoor
open Go Go.RowKit

/-- From w to w' nothing that was there has turned but the graph, which is that of the nodes L' now. -/
structure GTo (B g m : Nat) (a : Option Addr) (w w' : World) (a' : Option Addr) (c' : Nat) (L' : List Nd) : Prop where
  gr : GraphAt B w' g m a' c' L'
  tu : Turned (Takes g m a) w w'
  nw : ∀ q, Takes g m a' q → Takes g m a q ∨ w.heap.size ≤ q
def GEx (B g m : Nat) (a : Option Addr) (w w' : World) (L' : List Nd) : Prop := ∃ a' c', GTo B g m a w w' a' c' L'
section
variable {B g m c c1 c2 : Nat} {a a1 a2 : Option Addr} {w w0 w1 w2 : World} {L L1 L2 : List Nd}
theorem GraphAt.not_new (h : GraphAt B w g m a c L) {b : Nat} (hb : w.heap.size ≤ b) : ¬ Takes g m a b := fun e => by
  have := (h.takes b e).2; omega
theorem GTo.kept (h : GraphAt B w g m a c L) (k : Kept w w1) : GTo B g m a w w1 a c L := ⟨h.kept k, k.turned _, fun _ h => Or.inl h⟩
theorem GTo.trans (h : GTo B g m a w w1 a1 c1 L1) (k : GTo B g m a1 w1 w2 a2 c2 L2) : GTo B g m a w w2 a2 c2 L2 := by
  have hs := h.tu.size
  refine ⟨k.gr, ⟨k.tu.os.trans h.tu.os, k.tu.tape.trans h.tu.tape, k.tu.output.trans h.tu.output, Nat.le_trans hs k.tu.size, fun q hq hT => ?_⟩, fun q hq => ?_⟩
  · refine (k.tu.block q (Nat.lt_of_lt_of_le hq hs) fun e => ?_).trans (h.tu.block q hq hT)
    rcases h.nw q e with e | e
    · exact hT e
    · omega
  · rcases k.nw q hq with e | e
    · exact h.nw q e
    · exact Or.inr (Nat.le_trans hs e)
theorem GTo.thenKept (h : GTo B g m a w w1 a1 c1 L1) (k : Kept w1 w2) : GTo B g m a w w2 a1 c1 L1 := h.trans (GTo.kept h.gr k)
theorem GTo.pre (k : Kept w0 w) (h : GTo B g m a w w1 a1 c1 L1) : GTo B g m a w0 w1 a1 c1 L1 := by
  have hs := k.size
  refine ⟨h.gr, (k.turned _).trans h.tu, fun q hq => ?_⟩
  rcases h.nw q hq with e | e
  · exact Or.inl e
  · exact Or.inr (Nat.le_trans hs e)
theorem GTo.row (h : GTo B g m a w w1 a1 c1 L1) {b : Nat} {o : Obj} (hb : w.heap[b]? = some o) (hn : ¬ Takes g m a b) : w1.heap[b]? = some o :=
  (h.tu.block b (Array.getElem?_eq_some_iff.1 hb).1 hn).trans hb
theorem GTo.not (h : GTo B g m a w w1 a1 c1 L1) {b : Nat} (hb : b < w.heap.size) (hn : ¬ Takes g m a b) : ¬ Takes g m a1 b := fun e => by
  rcases h.nw b e with e | e
  · exact hn e
  · omega
theorem GraphAt.set (h : GraphAt B w g m a c L) {p : Addr} {v : Value} (hn : ¬ Takes g m a p.block) : GraphAt B (w.setCell p v) g m a c L :=
  h.turned (Turned.setCell (T := fun k => k = p.block) w p v rfl) fun b hb e => hn (by rw [← show b = p.block from e]; exact hb)
theorem GTo.set (h : GTo B g m a w w1 a1 c1 L1) {p : Addr} {v : Value} (hp : w.heap.size ≤ p.block) (hn : ¬ Takes g m a1 p.block) : GTo B g m a w (w1.setCell p v) a1 c1 L1 := by
  refine ⟨h.gr.set hn, ⟨h.tu.os, h.tu.tape, h.tu.output, ?_, fun q hq hT => ?_⟩, h.nw⟩
  · have := h.tu.size; simpa [World.setCell] using this
  · rw [Below.heap_setCell _ _ _ _ (by omega)]
    exact h.tu.block q hq hT
/-- What a caller's memory keeps: all but what lies from B on. -/
theorem GTo.below (h : GTo B g m a w w1 a1 c1 L1) (hG : GraphAt B w g m a c L) {v : World} (hv : Kept v w) (hB : v.heap.size ≤ B) : Kept v w1 := by
  refine ⟨h.tu.os.trans hv.os, h.tu.tape.trans hv.tape, h.tu.output.trans hv.output, Nat.le_trans hv.size h.tu.size, fun q hq => ?_⟩
  refine (h.tu.block q (Nat.lt_of_lt_of_le hq hv.size) fun e => ?_).trans (hv.block q hq)
  have := (hG.takes q e).1
  omega
end
/-- The tables. -/
structure LaidN (B : Nat) (w : World) : Prop where
  laid : Laid w
  tab : Tab w
  base : ∃ v, Laid v ∧ Tab v ∧ Kept v w ∧ v.heap.size ≤ B
theorem LaidN.kept {B : Nat} {w w' : World} (h : LaidN B w) (k : Kept w w') : LaidN B w' := by
  obtain ⟨v, h1, h2, h3, h4⟩ := h.base
  exact ⟨h.laid.kept k, h.tab.below k, v, h1, h2, h3.trans k, h4⟩
theorem LaidN.gto {B g m c c1 : Nat} {a a1 : Option Addr} {w w1 : World} {L L1 : List Nd} (h : LaidN B w) (hG : GraphAt B w g m a c L) (k : GTo B g m a w w1 a1 c1 L1) : LaidN B w1 := by
  obtain ⟨v, h1, h2, h3, h4⟩ := h.base
  have hk := k.below hG h3 h4
  exact ⟨h1.kept hk, h2.below hk, v, h1, h2, hk, h4⟩
theorem LaidN.start {w : World} (h1 : Laid w) (h2 : Tab w) : LaidN w.heap.size w := ⟨h1, h2, w, h1, h2, Kept.refl w, Nat.le_refl _⟩

def formV (f : Fm) : Value := .agg #[.int .u8 f.o, .int .i64 f.x, .int .i64 f.y]
def formO (o x y : Int) : Obj := .cells #[.int .u8 o, .int .i64 x, .int .i64 y] 81
theorem form_facts {w : World} {b : Nat} {o x y : Int} (h : w.heap[b]? = some (formO o x y)) :
    w.cell? ⟨b, 0, none⟩ = some (.int .u8 o) ∧ w.cell? ⟨b, 1, none⟩ = some (.int .i64 x) ∧ w.cell? ⟨b, 2, none⟩ = some (.int .i64 y) ∧ w.frozen? ⟨b, 0, none⟩ = false ∧ w.frozen? ⟨b, 1, none⟩ = false ∧ w.frozen? ⟨b, 2, none⟩ = false ∧ b < w.heap.size := by
  have fr : ∀ k, w.frozen? ⟨b, k, none⟩ = false := fun k => by
    unfold World.frozen?
    rw [h]
    simp [formO]
  refine ⟨?_, ?_, ?_, fr 0, fr 1, fr 2, (Array.getElem?_eq_some_iff.1 h).1⟩ <;> (rw [cell_of_row _ _ _ _ _ _ h]; rfl)
/-- A form stored into its block. -/
def put3 (w : World) (b : Nat) (f : Fm) : World := ((w.setCell ⟨b, 0, none⟩ (.int .u8 f.o)).setCell ⟨b, 1, none⟩ (.int .i64 f.x)).setCell ⟨b, 2, none⟩ (.int .i64 f.y)
theorem put3_row {w : World} {b : Nat} {o x y : Int} (h : w.heap[b]? = some (formO o x y)) (f : Fm) : (put3 w b f).heap[b]? = some (formO f.o f.x f.y) :=
  setCell_row (setCell_row (setCell_row h 0 _) 1 _) 2 _
theorem GTo.put3 {B g m c1 : Nat} {a a1 : Option Addr} {w w1 : World} {L1 : List Nd} (h : GTo B g m a w w1 a1 c1 L1) {b : Nat} (f : Fm) (hp : w.heap.size ≤ b) (hn : ¬ Takes g m a1 b) : GTo B g m a w (put3 w1 b f) a1 c1 L1 :=
  ((h.set (p := ⟨b, 0, none⟩) hp hn).set (p := ⟨b, 1, none⟩) hp hn).set (p := ⟨b, 2, none⟩) hp hn
theorem kept_put3 {w w1 : World} (h : Kept w w1) {b : Nat} (f : Fm) (hp : w.heap.size ≤ b) : Kept w (put3 w1 b f) :=
  ((h.setCell (p := ⟨b, 0, none⟩) hp _).setCell (p := ⟨b, 1, none⟩) hp _).setCell (p := ⟨b, 2, none⟩) hp _
set_option maxHeartbeats 1000000 in
theorem const_any {B g m c : Nat} {a : Option Addr} {L : List Nd} {w : World} (h : GraphAt B w g m a c L) (n : Int) (hn : InR n) (hL : LaidN B w) (hlen : L.length ≤ 1000000000) :
    Calls Tryz.prog 26 #[.pointer (some ⟨g, 0, none⟩), .int .i64 n] w fun e w' => e = .returned (.int .i64 (addR L (kN n))) ∧ GEx B g m a w w' (addL L (kN n)) := by
  have HA := Lib.hid (add_any h (kN n) (ok_con hn) hL.laid hlen)
  clear h hn hL
  go_enter Tryz.func26, Tryz.ntmps26
  go_wp2_with fail
  refine HA.out.mono ?_
  rintro e w' ⟨rfl, a', c', h1, h2, h3⟩
  have H := Lib.hid (show GEx B g m a w w' (addL L (kN n)) from ⟨a', c', h1, h2, h3⟩)
  clear h1 h2 h3
  go_wp2
  go_ret
  exact ⟨rfl, H.out⟩
set_option maxHeartbeats 1000000 in
theorem is_any (x : Int) (w : World) :
    Calls Tryz.prog 66 #[.int .i64 x] w fun e w' => e = .returned (formV ⟨0, x, 0⟩) ∧ Kept w w' := by
  go_enter Tryz.func66, Tryz.ntmps66
  go_wp2
  exact bodyPost_ret (v := formV ⟨0, x, 0⟩) (by simp [results, Tryz.results66, go_sem, formV]) rfl ⟨rfl, (Kept.refl _).alloc _⟩
set_option maxHeartbeats 1000000 in
theorem num_any {B g m c : Nat} {sa : Option Addr} {L : List Nd} {w : World} (h : GraphAt B w g m sa c L) (o x y : Int) (l r : Nd) (n : Int) (hn : InR n) (hL : LaidN B w) (hlen : L.length ≤ 1000000000) :
    Calls Tryz.prog 93 #[askV o x y g l r, .int .i64 n] w fun e w' => e = .returned (formV ⟨0, addR L (kN n), 0⟩) ∧ GEx B g m sa w w' (addL L (kN n)) := by
  have HK := Lib.hid (((Kept.refl w).alloc (askO o x y g l r)).alloc (formO 0 0 0))
  have HC := Lib.hid (const_any (h.kept HK.out) n hn (hL.kept HK.out) hlen)
  have HN := Lib.hid (show ¬ Takes g m sa (w.heap.size + 1) from h.not_new (Nat.le_succ _))
  have HB : Hid (((w.alloc (askO o x y g l r)).alloc (formO 0 0 0)).heap[w.heap.size + 1]? = some (formO 0 0 0)) := by
    have h1 := (MapKept.heap_alloc (w.alloc (askO o x y g l r)) (formO 0 0 0)).1
    have h2 : (w.alloc (askO o x y g l r)).heap.size = w.heap.size + 1 := by simp
    rw [h2] at h1
    exact h1
  have HS : Hid (w.heap.size + 1 < ((w.alloc (askO o x y g l r)).alloc (formO 0 0 0)).heap.size) := by show _ < _; simp
  clear h hn hL
  simp only [askV]
  go_enter Tryz.func93, Tryz.ntmps93
  go_wp2_with fail
  change Calls _ _ _ ((w.alloc (askO o x y g l r)).alloc (formO 0 0 0)) _
  generalize (w.alloc (askO o x y g l r)).alloc (formO 0 0 0) = W at *
  refine HC.out.mono ?_
  rintro e w1 ⟨rfl, a1, c1, hT⟩
  have HT := Lib.hid hT
  clear hT
  go_wp2_with fail
  refine (is_any _ _).mono ?_
  rintro e w2 ⟨rfl, hk⟩
  simp only [formV]
  have HT2 := Lib.hid (HT.out.thenKept hk)
  have HB2 := Lib.hid (HT2.out.row HB.out HN.out)
  clear hk
  obtain ⟨k0, k1, k2, z0, z1, z2, ks⟩ := form_facts HB2.out
  go_wp2
  have HR := Lib.hid (put3_row HB2.out ⟨0, addR L (kN n), 0⟩)
  have HT3 := Lib.hid (((HT2.out.pre HK.out).put3 ⟨0, addR L (kN n), 0⟩ (Nat.le_succ w.heap.size) (HT2.out.not HS.out HN.out)))
  clear k0 k1 k2 z0 z1 z2 ks
  change bodyPost _ _ _ _ _ (put3 w2 (w.heap.size + 1) ⟨0, addR L (kN n), 0⟩)
  generalize put3 w2 (w.heap.size + 1) ⟨0, addR L (kN n), 0⟩ = w3 at *
  obtain ⟨k0, k1, k2, _, _, _, ks⟩ := form_facts HR.out
  exact bodyPost_ret (v := formV ⟨0, addR L (kN n), 0⟩) (by simp [results, Tryz.results93, go_sem, formV, k0, k1, k2]) rfl ⟨rfl, _, _, HT3.out⟩
set_option maxHeartbeats 1000000 in
theorem to_any {B g m c : Nat} {sa : Option Addr} {L : List Nd} {w : World} (h : GraphAt B w g m sa c L) (o x y : Int) (l r : Nd) (p q n : Int) (hn : InR n) (hL : LaidN B w) (hlen : L.length ≤ 1000000000) :
    Calls Tryz.prog 98 #[askV o x y g l r, .int .u8 p, .int .i64 q, .int .i64 n] w fun e w' => e = .returned (formV ⟨p, q, addR L (kN n)⟩) ∧ GEx B g m sa w w' (addL L (kN n)) := by
  have HK := Lib.hid (((Kept.refl w).alloc (askO o x y g l r)).alloc (formO 0 0 0))
  have HC := Lib.hid (const_any (h.kept HK.out) n hn (hL.kept HK.out) hlen)
  have HN := Lib.hid (show ¬ Takes g m sa (w.heap.size + 1) from h.not_new (Nat.le_succ _))
  have HB : Hid (((w.alloc (askO o x y g l r)).alloc (formO 0 0 0)).heap[w.heap.size + 1]? = some (formO 0 0 0)) := by
    have h1 := (MapKept.heap_alloc (w.alloc (askO o x y g l r)) (formO 0 0 0)).1
    have h2 : (w.alloc (askO o x y g l r)).heap.size = w.heap.size + 1 := by simp
    rw [h2] at h1
    exact h1
  have HS : Hid (w.heap.size + 1 < ((w.alloc (askO o x y g l r)).alloc (formO 0 0 0)).heap.size) := by show _ < _; simp
  clear h hn hL
  simp only [askV]
  go_enter Tryz.func98, Tryz.ntmps98
  go_wp2_with fail
  change Calls _ _ _ ((w.alloc (askO o x y g l r)).alloc (formO 0 0 0)) _
  generalize (w.alloc (askO o x y g l r)).alloc (formO 0 0 0) = W at *
  refine HC.out.mono ?_
  rintro e w1 ⟨rfl, a1, c1, hT⟩
  have HT := Lib.hid hT
  clear hT
  have HT2 := HT
  have HB2 := Lib.hid (HT2.out.row HB.out HN.out)
  obtain ⟨k0, k1, k2, z0, z1, z2, ks⟩ := form_facts HB2.out
  go_wp2
  have HR := Lib.hid (put3_row HB2.out ⟨p, q, addR L (kN n)⟩)
  have HT3 := Lib.hid (((HT2.out.pre HK.out).put3 ⟨p, q, addR L (kN n)⟩ (Nat.le_succ w.heap.size) (HT2.out.not HS.out HN.out)))
  clear k0 k1 k2 z0 z1 z2 ks
  change bodyPost _ _ _ _ _ (put3 w1 (w.heap.size + 1) ⟨p, q, addR L (kN n)⟩)
  generalize put3 w1 (w.heap.size + 1) ⟨p, q, addR L (kN n)⟩ = w3 at *
  obtain ⟨k0, k1, k2, _, _, _, ks⟩ := form_facts HR.out
  exact bodyPost_ret (v := formV ⟨p, q, addR L (kN n)⟩) (by simp [results, Tryz.results98, go_sem, formV, k0, k1, k2]) rfl ⟨rfl, _, _, HT3.out⟩

/-! ### What a rule does -/
/-- What a rule that applies makes of the graph L. -/
def Rz (Bx : List Nd → Int → List Nd → Int → Int → Prop) (L L' : List Nd) : Out → Fm → Prop
  | .is x, f => L' = L ∧ f = ⟨0, x, 0⟩
  | .con n, f => L' = addL L (kN n) ∧ f = ⟨0, addR L (kN n), 0⟩
  | .two o x y, f => L' = L ∧ f = ⟨o, x, y⟩
  | .num o x n, f => L' = addL L (kN n) ∧ f = ⟨o, x, addR L (kN n)⟩
  | .nn y, f => ∃ t z, Bx L y L' t z ∧ f = ⟨16, t, z⟩
  | .add, _ => False
/-- What a call of a rule comes to: the form, and whether it applies. -/
def RuleQ (Bx : List Nd → Int → List Nd → Int → Int → Prop) (B g m : Nat) (a : Option Addr) (L : List Nd) (out : Out) (b : Bool) (w : World) (e : Ending) (w' : World) : Prop :=
  ∃ f : Fm, e = .returned (.tuple #[formV f, .bool b]) ∧ (b = false → Kept w w') ∧ (b = true → ∃ L', GEx B g m a w w' L' ∧ Rz Bx L L' out f)
theorem rule_no {Bx : List Nd → Int → List Nd → Int → Int → Prop} {B g m : Nat} {a : Option Addr} {L : List Nd} {out : Out} {w w' : World} {e : Ending} {b : Bool} (hb : b = false) (f : Fm) (he : e = .returned (.tuple #[formV f, .bool false])) (h : Kept w w') : RuleQ Bx B g m a L out b w e w' := by
  subst hb
  exact ⟨f, he, fun _ => h, (fun h => by cases h)⟩
theorem rule_yes {Bx : List Nd → Int → List Nd → Int → Int → Prop} {B g m : Nat} {a : Option Addr} {L L' : List Nd} {out : Out} {w w' : World} {e : Ending} {b : Bool} (hb : b = true) (f : Fm) (he : e = .returned (.tuple #[formV f, .bool true])) (h : GEx B g m a w w' L') (hz : Rz Bx L L' out f) : RuleQ Bx B g m a L out b w e w' := by
  subst hb
  exact ⟨f, he, (fun h => by cases h), fun _ => ⟨L', h, hz⟩⟩
end Go.Proofs.YtgkjdmojbndicaaGreatDoor

namespace Go.Proofs.YtgkjdmojbndicaaGreatDoor
open Go Go.RowKit

theorem ask_facts {w : World} {b : Nat} {o x y : Int} {g : Nat} {l r : Nd} (h : w.heap[b]? = some (askO o x y g l r)) :
    w.cell? ⟨b, 0, none⟩ = some (.int .u8 o) ∧ w.cell? ⟨b, 1, none⟩ = some (.int .i64 x) ∧ w.cell? ⟨b, 2, none⟩ = some (.int .i64 y) ∧ w.cell? ⟨b, 3, none⟩ = some (.pointer (some ⟨g, 0, none⟩)) ∧
    w.cell? ⟨b, 4, none⟩ = some (.int .u8 l.k) ∧ w.cell? ⟨b, 5, none⟩ = some (.int .i64 l.n) ∧ w.cell? ⟨b, 6, none⟩ = some (.int .i64 l.a) ∧ w.cell? ⟨b, 7, none⟩ = some (.int .u8 l.o) ∧ w.cell? ⟨b, 8, none⟩ = some (.int .i64 l.x) ∧ w.cell? ⟨b, 9, none⟩ = some (.int .i64 l.y) ∧
    w.cell? ⟨b, 10, none⟩ = some (.int .u8 r.k) ∧ w.cell? ⟨b, 11, none⟩ = some (.int .i64 r.n) ∧ w.cell? ⟨b, 12, none⟩ = some (.int .i64 r.a) ∧ w.cell? ⟨b, 13, none⟩ = some (.int .u8 r.o) ∧ w.cell? ⟨b, 14, none⟩ = some (.int .i64 r.x) ∧ w.cell? ⟨b, 15, none⟩ = some (.int .i64 r.y) := by
  refine ⟨?_, ?_, ?_, ?_, ?_, ?_, ?_, ?_, ?_, ?_, ?_, ?_, ?_, ?_, ?_, ?_⟩ <;> (rw [cell_of_row _ _ _ _ _ _ h]; rfl)
/-- A rule's own two boxes: what it was asked, and what it answers. -/
structure Own (B g m : Nat) (sa : Option Addr) (c : Nat) (L : List Nd) (w W : World) (b : Nat) (o x y : Int) (l r : Nd) : Prop where
  size : w.heap.size = b
  kept : Kept w W
  gr : GraphAt B W g m sa c L
  ask : W.heap[b]? = some (askO o x y g l r)
  frm : W.heap[b + 1]? = some (formO 0 0 0)
  off : ¬ Takes g m sa b ∧ ¬ Takes g m sa (b + 1)
  laid : LaidN B W
theorem own_start {B g m c : Nat} {sa : Option Addr} {L : List Nd} {w : World} (h : GraphAt B w g m sa c L) (hL : LaidN B w) (o x y : Int) (l r : Nd) : Own B g m sa c L w ((w.alloc (askO o x y g l r)).alloc (formO 0 0 0)) w.heap.size o x y l r := by
  have hk := ((Kept.refl w).alloc (askO o x y g l r)).alloc (formO 0 0 0)
  have h1 := (MapKept.heap_alloc (w.alloc (askO o x y g l r)) (formO 0 0 0)).1
  have h2 : (w.alloc (askO o x y g l r)).heap.size = w.heap.size + 1 := by simp
  rw [h2] at h1
  exact ⟨rfl, hk, h.kept hk, Kept.row ((Kept.refl _).alloc _) (MapKept.heap_alloc w (askO o x y g l r)).1, h1, ⟨h.not_new (Nat.le_refl _), h.not_new (Nat.le_succ _)⟩, hL.kept hk⟩
section
variable {B g m c : Nat} {sa : Option Addr} {L : List Nd} {w W W' : World} {b : Nat} {o x y : Int} {l r : Nd}
theorem Own.then (h : Own B g m sa c L w W b o x y l r) (k : Kept W W') : Own B g m sa c L w W' b o x y l r :=
  ⟨h.size, h.kept.trans k, h.gr.kept k, k.row h.ask, k.row h.frm, h.off, h.laid.kept k⟩
theorem Own.le (h : Own B g m sa c L w W b o x y l r) : w.heap.size ≤ b + 1 := by have := h.size; omega
theorem Own.lt (h : Own B g m sa c L w W b o x y l r) : b + 1 < W.heap.size := (Array.getElem?_eq_some_iff.1 h.frm).1
/-- The end of a rule that doesn't apply, or takes a term that is there. -/
theorem Own.end1 (h : Own B g m sa c L w W b o x y l r) (f : Fm) : Kept w (put3 W (b + 1) f) ∧ GTo B g m sa w (put3 W (b + 1) f) sa c L :=
  ⟨kept_put3 h.kept f h.le, by
    have h1 : GTo B g m sa W W sa c L := GTo.kept h.gr (Kept.refl W)
    exact (h1.pre h.kept).put3 f h.le h.off.2⟩
theorem Own.end2 (h : Own B g m sa c L w W b o x y l r) {a1 : Option Addr} {c1 : Nat} {L1 : List Nd} (k : GTo B g m sa W W' a1 c1 L1) (f : Fm) : GEx B g m sa w (put3 W' (b + 1) f) L1 :=
  ⟨a1, c1, (k.pre h.kept).put3 f h.le (k.not h.lt h.off.2)⟩
end
theorem put3_ask {w : World} {b : Nat} {ob : Obj} (h : w.heap[b]? = some ob) (u v t : Value) : (((w.setCell ⟨b + 1, 0, none⟩ u).setCell ⟨b + 1, 1, none⟩ v).setCell ⟨b + 1, 2, none⟩ t).heap[b]? = some ob := by
  rw [Below.heap_setCell _ _ _ _ (by simp), Below.heap_setCell _ _ _ _ (by simp), Below.heap_setCell _ _ _ _ (by simp)]
  exact h
theorem neg_op0 (n : Int) : wrap64 (-n) = opI 2 0 n := by
  show _ = (0#64 - bv n).toInt
  rw [wrap64_bv, bv_neg, BitVec.zero_sub]
theorem sub_op1 (n k : Int) : wrap64 (n - k) = opI 2 n k := by
  show _ = (bv n - bv k).toInt
  rw [wrap64_bv, bv_sub]
end Go.Proofs.YtgkjdmojbndicaaGreatDoor

namespace Go.Proofs.YtgkjdmojbndicaaGreatDoor
open Go Go.RowKit

def allB (s : Nat) (zs : List Int) : Bool := zs.all fun x => hasB s x
set_option maxRecDepth 100000 in
set_option maxHeartbeats 4000000 in
theorem area_any {B g m c : Nat} {sa : Option Addr} {L : List Nd} {w : World} (h : GraphAt B w g m sa c L) (ra : Option Addr) (n rc : Nat) (zs : List Int) (hz : RootsAt w ra n zs) (hn : n ≤ 1000) :
    Calls Tryz.prog 43 #[.pointer (some ⟨g, 0, none⟩), .slice ra n rc] w fun e w' => e = .returned (.bool (allB L.length zs)) ∧ Kept w w' := by
  have H := Lib.hid h
  have HZ := Lib.hid hz
  clear h hz
  go_enter Tryz.func43, Tryz.ntmps43
  go_wp2
  go_loopw [11] (fun i wr => ∃ j : Nat, j ≤ n ∧ i = .int .i64 j ∧ Kept w wr ∧ Hid (∀ (q : Nat) (v : Int), q < j → zs[q]? = some v → hasB L.length v = true)) (fun i _ => n - (intOf i).toNat)
  case atStart => exact ⟨0, Nat.zero_le _, rfl, Kept.refl _, fun q v hq => absurd hq (Nat.not_lt_zero _)⟩
  case round =>
    obtain ⟨j, hj, rfl, hK, HA⟩ := hrel
    by_cases hlt : j < n
    · obtain ⟨b, off, rfl, hc⟩ := HZ.out.at_ (by omega)
      obtain ⟨v, hv⟩ : ∃ v, zs[j]? = some v := ⟨_, List.getElem?_eq_getElem (by rw [HZ.out.len]; exact hlt)⟩
      have x0 := hK.cell (hc j v hv)
      have HV := Lib.hid hv
      have HK := Lib.hid hK
      clear hc hv hK
      go_wp2_with fail
      refine (node_any (H.out.kept HK.out) v).mono ?_
      rintro e w2 ⟨rfl, hk2⟩
      simp only [Nd.val]
      have HK2 := Lib.hid (HK.out.trans hk2)
      clear hk2 x0
      cases hb : hasB L.length v with
      | true =>
        have HB := Lib.hid hb
        clear hb
        go_wp2
        go_roundw
        case rel =>
          refine ⟨j + 1, by omega, by go_num, HK2.out.alloc _, fun q u hq hu => ?_⟩
          by_cases e : q = j
          · subst e
            have h3 := HV.out
            rw [hu] at h3
            have : u = v := by simpa using h3
            rw [this]; exact HB.out
          · exact HA.out q u (by omega) hu
        case measure => simp [intOf]; omega
      | false =>
        have HB : Hid (allB L.length zs = false) := by
          show _ = _
          unfold allB
          rw [List.all_eq_false]
          exact ⟨v, List.mem_of_getElem? HV.out, by rw [hb]; decide⟩
        clear hb
        go_wp2
        go_ret
        exact ⟨by rw [HB.out]; rfl, HK2.out.alloc _⟩
    · obtain rfl : j = n := by omega
      have HB : Hid (allB L.length zs = true) := by
        show _ = _
        unfold allB
        rw [List.all_eq_true]
        intro v hv
        obtain ⟨q, hq⟩ := List.getElem?_of_mem hv
        exact HA.out q v (by have := (List.getElem?_eq_some_iff.1 hq).1; rw [HZ.out.len] at this; exact this) hq
      have HK := Lib.hid hK
      clear hK
      go_wp2
      go_ret
      exact ⟨by rw [HB.out]; rfl, HK.out⟩
/-- A slice of numbers that was made just now. -/
theorem roots_at {w : World} {b n : Nat} {vs : Array Value} {t : TypeId} {zs : List Int} (hb : b = w.heap.size) (hv : vs.toList = zs.map (Value.int .i64)) (hn : n = zs.length) (hz : ∀ x ∈ zs, InR x) : RootsAt (w.alloc (.cells vs t)) (some ⟨b, 0, none⟩) n zs := by
  subst hb; subst hn
  refine ⟨rfl, hz, fun _ => ⟨w.heap.size, 0, rfl, fun j x hx => ?_⟩⟩
  rw [cell_of_row _ _ _ _ _ _ (MapKept.heap_alloc w (.cells vs t)).1]
  have : vs.toList[j]? = some (.int .i64 x) := by rw [hv, List.getElem?_map, hx]; rfl
  simpa using this
end Go.Proofs.YtgkjdmojbndicaaGreatDoor

namespace Go.Proofs.YtgkjdmojbndicaaGreatDoor
open Go Go.RowKit

def fnV (k : Nat) : Value := .func (.func k) #[] #[]
def rowOf (ks : List Nat) : Obj := .cells (ks.map fnV).toArray 113
theorem rows_all (w : World) : Calls Tryz.prog 63 #[] w fun e w' => ∃ b, e = .returned (.slice (some ⟨b, 0, none⟩) 6 6) ∧ w'.heap[b]? = some (rowOf [92, 94, 95, 99, 101, 103]) ∧ w.heap.size ≤ b ∧ Kept w w' := by
  go_enter Tryz.func63, Tryz.ntmps63
  go_wp2
  go_ret
  exact ⟨w.heap.size, rfl, (MapKept.heap_alloc w _).1, Nat.le_refl _, (Kept.refl w).alloc _⟩
theorem rows_num (w : World) : Calls Tryz.prog 64 #[] w fun e w' => ∃ b, e = .returned (.slice (some ⟨b, 0, none⟩) 5 5) ∧ w'.heap[b]? = some (rowOf [104, 105, 106, 107, 109]) ∧ w.heap.size ≤ b ∧ Kept w w' := by
  go_enter Tryz.func64, Tryz.ntmps64
  go_wp2
  go_ret
  exact ⟨w.heap.size, rfl, (MapKept.heap_alloc w _).1, Nat.le_refl _, (Kept.refl w).alloc _⟩
theorem rows_tru (w : World) : Calls Tryz.prog 65 #[] w fun e w' => ∃ b, e = .returned (.slice (some ⟨b, 0, none⟩) 5 5) ∧ w'.heap[b]? = some (rowOf [110, 111, 112, 114, 115]) ∧ w.heap.size ≤ b ∧ Kept w w' := by
  go_enter Tryz.func65, Tryz.ntmps65
  go_wp2
  go_ret
  exact ⟨w.heap.size, rfl, (MapKept.heap_alloc w _).1, Nat.le_refl _, (Kept.refl w).alloc _⟩

def put6 (w : World) (b k : Nat) (d : Nd) : World := (((((w.setCell ⟨b, k, none⟩ (.int .u8 d.k)).setCell ⟨b, k + 1, none⟩ (.int .i64 d.n)).setCell ⟨b, k + 2, none⟩ (.int .i64 d.a)).setCell ⟨b, k + 3, none⟩ (.int .u8 d.o)).setCell ⟨b, k + 4, none⟩ (.int .i64 d.x)).setCell ⟨b, k + 5, none⟩ (.int .i64 d.y)
theorem kept_put6 {w w1 : World} (h : Kept w w1) {b : Nat} (k : Nat) (d : Nd) (hp : w.heap.size ≤ b) : Kept w (put6 w1 b k d) :=
  (((((h.setCell (p := ⟨b, k, none⟩) hp _).setCell (p := ⟨b, k + 1, none⟩) hp _).setCell (p := ⟨b, k + 2, none⟩) hp _).setCell (p := ⟨b, k + 3, none⟩) hp _).setCell (p := ⟨b, k + 4, none⟩) hp _).setCell (p := ⟨b, k + 5, none⟩) hp _
theorem put6_far {w : World} {b q k : Nat} {o : Obj} (h : w.heap[q]? = some o) (d : Nd) (hn : q ≠ b) : (put6 w b k d).heap[q]? = some o := by
  unfold put6
  rw [Below.heap_setCell _ _ _ _ hn, Below.heap_setCell _ _ _ _ hn, Below.heap_setCell _ _ _ _ hn, Below.heap_setCell _ _ _ _ hn, Below.heap_setCell _ _ _ _ hn, Below.heap_setCell _ _ _ _ hn]
  exact h
theorem put6_left {w : World} {b : Nat} {o x y : Int} {g : Nat} {l r : Nd} (h : w.heap[b]? = some (askO o x y g l r)) (d : Nd) : (put6 w b 4 d).heap[b]? = some (askO o x y g d r) :=
  setCell_row (setCell_row (setCell_row (setCell_row (setCell_row (setCell_row h 4 _) 5 _) 6 _) 7 _) 8 _) 9 _
theorem put6_right {w : World} {b : Nat} {o x y : Int} {g : Nat} {l r : Nd} (h : w.heap[b]? = some (askO o x y g l r)) (d : Nd) : (put6 w b 10 d).heap[b]? = some (askO o x y g l d) :=
  setCell_row (setCell_row (setCell_row (setCell_row (setCell_row (setCell_row h 10 _) 11 _) 12 _) 13 _) 14 _) 15 _
theorem put6_graph {B g m c : Nat} {sa : Option Addr} {L : List Nd} {w : World} {b : Nat} (h : GraphAt B w g m sa c L) (k : Nat) (d : Nd) (hn : ¬ Takes g m sa b) : GraphAt B (put6 w b k d) g m sa c L :=
  (((((h.set (p := ⟨b, k, none⟩) hn).set (p := ⟨b, k + 1, none⟩) hn).set (p := ⟨b, k + 2, none⟩) hn).set (p := ⟨b, k + 3, none⟩) hn).set (p := ⟨b, k + 4, none⟩) hn).set (p := ⟨b, k + 5, none⟩) hn
theorem ask_free {w : World} {b : Nat} {o x y : Int} {g : Nat} {l r : Nd} (h : w.heap[b]? = some (askO o x y g l r)) (k : Nat) : w.frozen? ⟨b, k, none⟩ = false := by
  unfold World.frozen?
  rw [h]
  simp [askO]

/-- next's own three boxes: the form, what it answers, what is asked. -/
structure Nown (B g m : Nat) (sa : Option Addr) (c : Nat) (L : List Nd) (w W : World) (b : Nat) (o x y : Int) (l r : Nd) : Prop where
  size : w.heap.size = b
  kept : Kept w W
  gr : GraphAt B W g m sa c L
  box : W.heap[b]? = some (formO o x y)
  frm : W.heap[b + 1]? = some (formO 0 0 0)
  ask : W.heap[b + 2]? = some (askO o x y g l r)
  off : ¬ Takes g m sa b ∧ ¬ Takes g m sa (b + 1) ∧ ¬ Takes g m sa (b + 2)
  laid0 : LaidN B w
section
variable {B g m c : Nat} {sa : Option Addr} {L : List Nd} {w W W' : World} {b : Nat} {o x y : Int} {l r : Nd}
theorem Nown.laid (h : Nown B g m sa c L w W b o x y l r) : LaidN B W := h.laid0.kept h.kept
theorem Nown.then (h : Nown B g m sa c L w W b o x y l r) (k : Kept W W') : Nown B g m sa c L w W' b o x y l r :=
  ⟨h.size, h.kept.trans k, h.gr.kept k, k.row h.box, k.row h.frm, k.row h.ask, h.off, h.laid0⟩
theorem Nown.left (h : Nown B g m sa c L w W b o x y l r) (d : Nd) : Nown B g m sa c L w (put6 W (b + 2) 4 d) b o x y d r :=
  ⟨h.size, kept_put6 h.kept 4 d (by have := h.size; omega), put6_graph h.gr 4 d h.off.2.2, put6_far h.box d (by omega), put6_far h.frm d (by omega), put6_left h.ask d, h.off, h.laid0⟩
theorem Nown.right (h : Nown B g m sa c L w W b o x y l r) (d : Nd) : Nown B g m sa c L w (put6 W (b + 2) 10 d) b o x y l d :=
  ⟨h.size, kept_put6 h.kept 10 d (by have := h.size; omega), put6_graph h.gr 10 d h.off.2.2, put6_far h.box d (by omega), put6_far h.frm d (by omega), put6_right h.ask d, h.off, h.laid0⟩
theorem Nown.le (h : Nown B g m sa c L w W b o x y l r) : w.heap.size ≤ b + 1 := by have := h.size; omega
theorem Nown.lt (h : Nown B g m sa c L w W b o x y l r) : b + 1 < W.heap.size := (Array.getElem?_eq_some_iff.1 h.frm).1
theorem Nown.end2 (h : Nown B g m sa c L w W b o x y l r) {a1 : Option Addr} {c1 : Nat} {L1 : List Nd} (k : GTo B g m sa W W' a1 c1 L1) (f : Fm) : GEx B g m sa w (put3 W' (b + 1) f) L1 :=
  ⟨a1, c1, (k.pre h.kept).put3 f h.le (k.not h.lt h.off.2.1)⟩
theorem nown_start (h : GraphAt B w g m sa c L) (hL : LaidN B w) (o x y : Int) : Nown B g m sa c L w (((w.alloc (formO o x y)).alloc (formO 0 0 0)).alloc (askO o x y g nd0 nd0)) w.heap.size o x y nd0 nd0 := by
  have hk := (((Kept.refl w).alloc (formO o x y)).alloc (formO 0 0 0)).alloc (askO o x y g nd0 nd0)
  have s1 : (w.alloc (formO o x y)).heap.size = w.heap.size + 1 := by simp
  have s2 : ((w.alloc (formO o x y)).alloc (formO 0 0 0)).heap.size = w.heap.size + 2 := by simp
  have h0 := (MapKept.heap_alloc w (formO o x y)).1
  have h1 := (MapKept.heap_alloc (w.alloc (formO o x y)) (formO 0 0 0)).1
  have h2 := (MapKept.heap_alloc ((w.alloc (formO o x y)).alloc (formO 0 0 0)) (askO o x y g nd0 nd0)).1
  rw [s1] at h1
  rw [s2] at h2
  have k1 : Kept (w.alloc (formO o x y)) (((w.alloc (formO o x y)).alloc (formO 0 0 0)).alloc (askO o x y g nd0 nd0)) := ((Kept.refl _).alloc _).alloc _
  have k2 : Kept ((w.alloc (formO o x y)).alloc (formO 0 0 0)) (((w.alloc (formO o x y)).alloc (formO 0 0 0)).alloc (askO o x y g nd0 nd0)) := (Kept.refl _).alloc _
  exact ⟨rfl, hk, h.kept hk, k1.row h0, k2.row h1, h2, ⟨h.not_new (Nat.le_refl _), h.not_new (Nat.le_succ _), h.not_new (by omega)⟩, hL⟩
end
end Go.Proofs.YtgkjdmojbndicaaGreatDoor
