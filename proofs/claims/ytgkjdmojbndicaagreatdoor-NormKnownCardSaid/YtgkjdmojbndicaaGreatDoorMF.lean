/-
  Several texts in one: TParts: Layer 2: the contract of parts; what the laid tables give; the contract of marks.; TMeas: Layer 2: the contract of measured: a node with how deep and how long its term is.; TAdd: Layer 2: the contract of Add, at a node that may not be, and at one that is there already..
-/
import Derived.Test.YtgkjdmojbndicaaGreatDoorMB
import Derived.Test.YtgkjdmojbndicaaGreatDoorMS
import Derived.Lib.AppendIntMem
import Derived.BigRegion
namespace Go.Proofs.YtgkjdmojbndicaaGreatDoor
open Go Go.RowKit

set_option maxHeartbeats 1000000 in
theorem parts3 (n a o x y : Int) (w : World) :
    Calls Tryz.prog 60 #[.agg #[.int .u8 3, .int .i64 n, .int .i64 a, .int .u8 o, .int .i64 x, .int .i64 y]] w fun e w' => ∃ b, e = .returned (.slice (some ⟨b, 0, none⟩) 1 1) ∧ Kept w w' ∧ w.heap.size ≤ b ∧ w'.cell? ⟨b, 0, none⟩ = some (.int .i64 y) := by
  go_enter Tryz.func60, Tryz.ntmps60
  go_wp2
  go_ret
  refine ⟨_, rfl, ((Kept.refl _).alloc _).alloc _, ?_, ?_⟩
  · omega
  · simp
set_option maxHeartbeats 1000000 in
theorem parts4 (n a o x y : Int) (w : World) :
    Calls Tryz.prog 60 #[.agg #[.int .u8 4, .int .i64 n, .int .i64 a, .int .u8 o, .int .i64 x, .int .i64 y]] w fun e w' => ∃ b, e = .returned (.slice (some ⟨b, 0, none⟩) 2 2) ∧ Kept w w' ∧ w.heap.size ≤ b ∧ w'.cell? ⟨b, 0, none⟩ = some (.int .i64 x) ∧ w'.cell? ⟨b, 1, none⟩ = some (.int .i64 y) := by
  go_enter Tryz.func60, Tryz.ntmps60
  go_wp2
  go_ret
  refine ⟨_, rfl, ((Kept.refl _).alloc _).alloc _, ?_, ?_, ?_⟩
  · omega
  · simp
  · simp
set_option maxHeartbeats 1000000 in
theorem parts0 (k n a o x y : Int) (w : World) (h3 : (k == 3) = false) (h4 : (k == 4) = false) :
    Calls Tryz.prog 60 #[.agg #[.int .u8 k, .int .i64 n, .int .i64 a, .int .u8 o, .int .i64 x, .int .i64 y]] w fun e w' => e = .returned (.slice none 0 0) ∧ Kept w w' := by
  go_enter Tryz.func60, Tryz.ntmps60
  go_wp2
  go_ret
  exact ⟨rfl, (Kept.refl _).alloc _⟩

/-- Of a world that makes memory: old cells and old marks read as before (rules for the walk). -/
theorem bcell {W w1 : World} (hb : Kept W w1) : (∀ b o, b < W.heap.size → w1.cell? ⟨b, o, none⟩ = W.cell? ⟨b, o, none⟩) ∧ (∀ b o, b < W.heap.size → w1.frozen? ⟨b, o, none⟩ = W.frozen? ⟨b, o, none⟩) :=
  ⟨fun b o h => Below.cell hb (p := ⟨b, o, none⟩) h, fun b o h => Below.frozen hb (p := ⟨b, o, none⟩) h⟩

/-! ### The tables -/
def signN : Nat → List UInt8
  | 1 => [43] | 2 => [45] | 3 => [42] | 4 => [47] | 5 => [37] | 6 => [47, 117] | 7 => [37, 117] | 8 => [38] | 9 => [124] | 10 => [94]
  | 11 => [60, 60] | 12 => [62, 62, 117] | 13 => [62, 62] | 14 => [60] | 15 => [60, 117] | 16 => [61, 61] | _ => []
abbrev str (l : List UInt8) : Value := .string ⟨l.toArray⟩
/-- The tables that the program's text lays. -/
structure Laid (w : World) : Prop where
  pow : Lib.TabIs Tryz.prog w "internal/strconv.uint64pow10" .u64 Lib.pow10Tab
  signs : ∀ j, j < 17 → w.cell? ⟨0, j, none⟩ = some (str (signN j))
theorem Laid.kept {w w' : World} (h : Laid w) (k : Kept w w') : Laid w' :=
  ⟨Lib.tabBelow_of_tabIs h.pow _ k, fun j hj => k.cell (h.signs j hj)⟩
theorem fmt_any (n : Int) (w : World) (hn : InR n) (hL : Laid w) :
    Calls Tryz.prog 90 #[.int .i64 n, .int .i64 10] w fun e w' => e = .returned (str (Lib.itoa n)) ∧ Kept w w' :=
  (Tryz.strconv_FormatInt_10 n hn.1 hn.2 w hL.pow).mono fun _ _ h => ⟨h.1, by obtain ⟨_, _, _, hw⟩ := h; exact Kept.grow hw⟩
theorem itoa_any (n : Int) (w : World) (hn : InR n) (hL : Laid w) :
    Calls Tryz.prog 91 #[.int .i64 n] w fun e w' => e = .returned (str (Lib.itoa n)) ∧ Kept w w' :=
  (Tryz.strconv_Itoa n hn.1 hn.2 w hL.pow).mono fun _ _ h => ⟨h.1, by obtain ⟨_, _, _, hw⟩ := h; exact Kept.grow hw⟩

/-- A call that makes a text, and writes nothing that was there. -/
def Makes (f : Nat) (args : Array Value) (w : World) (s : ByteArray) : Prop := ∀ w', Kept w w' → Calls Tryz.prog f args w' fun e w'' => e = .returned (.string s) ∧ Kept w' w''
/-- The sum of two texts. -/
def Adds (x y s : ByteArray) : Prop := ∀ w, (Op.stringOp .add x y).run Tryz.prog w = .ok (.string s) w
theorem adds_mk (x y : List UInt8) (hx : x.length ≤ 1000000) (hy : y.length ≤ 1000000) : Adds ⟨x.toArray⟩ ⟨y.toArray⟩ ⟨(x ++ y).toArray⟩ := fun w =>
  run_string_add_lists w x y (by omega) (by omega)

set_option maxHeartbeats 1000000 in
theorem marks1w (n a o x y : Int) (w : World) (N : ByteArray) (hN : Makes 90 #[.int .i64 n, .int .i64 10] w N) :
    Calls Tryz.prog 59 #[.agg #[.int .u8 1, .int .i64 n, .int .i64 a, .int .u8 o, .int .i64 x, .int .i64 y]] w fun e w' => e = .returned (.agg #[.string N, str [], str []]) ∧ Kept w w' := by
  have hQ := ((Kept.refl w).alloc (.cells #[.int .u8 1, .int .i64 n, .int .i64 a, .int .u8 o, .int .i64 x, .int .i64 y] 42)).alloc (.cells #[str [], str [], str []] 102)
  go_enter Tryz.func59, Tryz.ntmps59
  go_wp2_with ((go_at_call 90; refine (hN _ hQ).mono ?_; rintro e w' ⟨rfl, hk⟩; obtain ⟨hc', hf'⟩ := bcell hk; have hs := hk.size; simp at hs))
  exact bodyPost_ret (v := .agg #[.string N, str [], str []]) (by simp [results, Tryz.results59, go_sem, hc']) rfl ⟨rfl, (((hQ.trans hk).setCell (Nat.le_succ _) _).setCell (Nat.le_succ _) _).setCell (Nat.le_succ _) _⟩
set_option maxHeartbeats 1000000 in
theorem marks2w (n a o x y : Int) (w : World) (N S : ByteArray) (hN : Makes 90 #[.int .i64 n, .int .i64 10] w N) (hS : Adds { data := #[115] } N S) :
    Calls Tryz.prog 59 #[.agg #[.int .u8 2, .int .i64 n, .int .i64 a, .int .u8 o, .int .i64 x, .int .i64 y]] w fun e w' => e = .returned (.agg #[.string S, str [], str []]) ∧ Kept w w' := by
  have hQ := ((Kept.refl w).alloc (.cells #[.int .u8 2, .int .i64 n, .int .i64 a, .int .u8 o, .int .i64 x, .int .i64 y] 42)).alloc (.cells #[str [], str [], str []] 102)
  unfold Adds at hS
  go_enter Tryz.func59, Tryz.ntmps59
  go_wp2_with ((go_at_call 90; refine (hN _ hQ).mono ?_; rintro e w' ⟨rfl, hk⟩; obtain ⟨hc', hf'⟩ := bcell hk; have hs := hk.size; simp at hs))
  exact bodyPost_ret (v := .agg #[.string S, str [], str []]) (by simp [results, Tryz.results59, go_sem, hc']) rfl ⟨rfl, (((hQ.trans hk).setCell (Nat.le_succ _) _).setCell (Nat.le_succ _) _).setCell (Nat.le_succ _) _⟩
set_option maxHeartbeats 1000000 in
theorem marks4w (k n a x y : Int) (o : Nat) (w : World) (G S1 S2 : ByteArray) (h1 : (k == 1) = false) (h2 : (k == 2) = false) (h3 : (k == 3) = false) (ho : o < 17)
    (hg : w.cell? ⟨0, o, none⟩ = some (.string G)) (hS1 : Adds { data := #[32] } G S1) (hS2 : Adds S1 { data := #[32] } S2) :
    Calls Tryz.prog 59 #[.agg #[.int .u8 k, .int .i64 n, .int .i64 a, .int .u8 o, .int .i64 x, .int .i64 y]] w fun e w' => e = .returned (.agg #[str [40], .string S2, str [41]]) ∧ Kept w w' := by
  have hQ := ((Kept.refl w).alloc (.cells #[.int .u8 k, .int .i64 n, .int .i64 a, .int .u8 o, .int .i64 x, .int .i64 y] 42)).alloc (.cells #[str [], str [], str []] 102)
  unfold Adds at hS1 hS2
  have hne : (0 : Nat) < w.heap.size := World.block_lt_of_cell? w _ hg
  have hne' : (0 : Nat) ≠ w.heap.size := Nat.ne_of_lt hne
  go_enter Tryz.func59, Tryz.ntmps59
  go_wp2
  exact bodyPost_ret (v := .agg #[str [40], .string S2, str [41]]) (by simp [results, Tryz.results59, go_sem]) rfl ⟨rfl, ((Kept.refl _).alloc _).alloc _⟩
theorem makes_held {f : Nat} {args : Array Value} {W w : World} {s : ByteArray} (h : Makes f args W s) (hk : Kept W w) :
    Calls Tryz.prog f args w fun e w'' => e = .returned (.string s) ∧ Kept W w'' :=
  (h w hk).mono fun _ _ hh => ⟨hh.1, hk.trans hh.2⟩
theorem frozen_of_row {w : World} {b : Nat} {cs : Array Value} {t : TypeId} (h : w.heap[b]? = some (.cells cs t (0, 0))) (o : Nat) : w.frozen? ⟨b, o, none⟩ = false := by
  unfold World.frozen?
  rw [h]
  simp
theorem Kept.row {W w : World} (hk : Kept W w) {b : Nat} {o : Obj} (h : W.heap[b]? = some o) : w.heap[b]? = some o :=
  (hk.block b (Array.getElem?_eq_some_iff.1 h).1).trans h
set_option maxHeartbeats 2000000 in
theorem marks3w (n a o x y : Int) (w : World) (A N S1 S2 S3 S4 : ByteArray) (hA : Makes 91 #[.int .i64 a] w A) (hN : Makes 90 #[.int .i64 n, .int .i64 10] w N)
    (hS1 : Adds { data := #[97] } A S1) (hS2 : Adds S1 { data := #[118] } S2) (hS3 : Adds S2 N S3) (hS4 : Adds S3 { data := #[91] } S4) :
    Calls Tryz.prog 59 #[.agg #[.int .u8 3, .int .i64 n, .int .i64 a, .int .u8 o, .int .i64 x, .int .i64 y]] w fun e w' => e = .returned (.agg #[.string S4, str [93], str []]) ∧ Kept w w' := by
  have hQ := ((Kept.refl w).alloc (.cells #[.int .u8 3, .int .i64 n, .int .i64 a, .int .u8 o, .int .i64 x, .int .i64 y] 42)).alloc (.cells #[str [], str [], str []] 102)
  have c1 : ((w.alloc (.cells #[.int .u8 3, .int .i64 n, .int .i64 a, .int .u8 o, .int .i64 x, .int .i64 y] 42)).alloc (.cells #[str [], str [], str []] 102)).cell? ⟨w.heap.size, 1, none⟩ = some (.int .i64 n) := by simp
  have c2 : ((w.alloc (.cells #[.int .u8 3, .int .i64 n, .int .i64 a, .int .u8 o, .int .i64 x, .int .i64 y] 42)).alloc (.cells #[str [], str [], str []] 102)).cell? ⟨w.heap.size, 2, none⟩ = some (.int .i64 a) := by simp
  have r0 : ((w.alloc (.cells #[.int .u8 3, .int .i64 n, .int .i64 a, .int .u8 o, .int .i64 x, .int .i64 y] 42)).alloc (.cells #[str [], str [], str []] 102)).heap[w.heap.size + 1]? = some (.cells #[str [], str [], str []] 102) := by
    have hb := (MapKept.heap_alloc (w.alloc (.cells #[.int .u8 3, .int .i64 n, .int .i64 a, .int .u8 o, .int .i64 x, .int .i64 y] 42)) (.cells #[str [], str [], str []] 102)).1
    simpa using hb
  unfold Adds at hS1 hS2 hS3 hS4
  have HA : Makes 91 #[.int .i64 a] ((w.alloc (.cells #[.int .u8 3, .int .i64 n, .int .i64 a, .int .u8 o, .int .i64 x, .int .i64 y] 42)).alloc (.cells #[str [], str [], str []] 102)) A := fun w' hk => hA w' (hQ.trans hk)
  have HN : Makes 90 #[.int .i64 n, .int .i64 10] ((w.alloc (.cells #[.int .u8 3, .int .i64 n, .int .i64 a, .int .u8 o, .int .i64 x, .int .i64 y] 42)).alloc (.cells #[str [], str [], str []] 102)) N := fun w' hk => hN w' (hQ.trans hk)
  have HC1 := Lib.hid c1; clear c1
  have HC2 := Lib.hid c2; clear c2
  have HR := Lib.hid r0; clear r0
  clear hA hN
  have HQ := Lib.hid hQ; clear hQ
  go_enter Tryz.func59, Tryz.ntmps59
  go_wp2_with fail
  change Code.wp _ _ _ _ ((w.alloc (.cells #[.int .u8 3, .int .i64 n, .int .i64 a, .int .u8 o, .int .i64 x, .int .i64 y] 42)).alloc (.cells #[str [], str [], str []] 102))
  have hlow : w.heap.size ≤ w.heap.size + 1 := Nat.le_succ _
  generalize (w.alloc (.cells #[.int .u8 3, .int .i64 n, .int .i64 a, .int .u8 o, .int .i64 x, .int .i64 y] 42)).alloc (.cells #[str [], str [], str []] 102) = W at *
  have hK := Kept.refl W
  have SK : Hid (∀ w', Kept W w' → Kept W w' ∧ w'.cell? ⟨w.heap.size, 1, none⟩ = some (.int .i64 n) ∧ w'.cell? ⟨w.heap.size, 2, none⟩ = some (.int .i64 a) ∧
      w'.cell? ⟨w.heap.size + 1, 0, none⟩ = some (str []) ∧ w'.cell? ⟨w.heap.size + 1, 1, none⟩ = some (str []) ∧ w'.cell? ⟨w.heap.size + 1, 2, none⟩ = some (str []) ∧
      w'.frozen? ⟨w.heap.size + 1, 0, none⟩ = false ∧ w'.frozen? ⟨w.heap.size + 1, 1, none⟩ = false ∧ w'.frozen? ⟨w.heap.size + 1, 2, none⟩ = false) := fun w' hk =>
    have hb := hk.row HR.out
    ⟨hk, hk.cell HC1.out, hk.cell HC2.out, by rw [cell_of_row _ _ _ _ _ _ hb]; rfl, by rw [cell_of_row _ _ _ _ _ _ hb]; rfl, by rw [cell_of_row _ _ _ _ _ _ hb]; rfl, frozen_of_row hb 0, frozen_of_row hb 1, frozen_of_row hb 2⟩
  obtain ⟨_, g1, g2, g3, g4, g5, g6, g7, g8⟩ := SK.out _ (Kept.refl W)
  go_region_with (first
      | (go_at_call 91; refine (makes_held HA (by first | exact Kept.drew hK | assumption)).mono ?_; rintro e w' ⟨rfl, hk⟩; obtain ⟨_, l1, l2, l3, l4, l5, l6, l7, l8⟩ := SK.out _ hk)
      | (go_at_call 90; refine (makes_held HN (by first | exact Kept.drew hK | assumption)).mono ?_; rintro e w' ⟨rfl, hk⟩; obtain ⟨_, l1, l2, l3, l4, l5, l6, l7, l8⟩ := SK.out _ hk))
  all_goals
    go_wp2
    exact bodyPost_ret (v := .agg #[.string S4, str [93], str []]) (by simp [results, Tryz.results59, go_sem, *]) rfl ⟨rfl, (((HQ.out.trans (by assumption)).setCell hlow _).setCell hlow _).setCell hlow _⟩

theorem signOf_nat (o : Nat) : signOf (o : Int) = signN o := by unfold signOf; rw [Int.toNat_natCast]; rfl
theorem signN_le (j : Nat) : (signN j).length ≤ 3 := by unfold signN; split <;> simp

/-- marks: the three marks of a node that may be. -/
theorem marks_any (d : Nd) (w : World) (s : Nat) (hd : d.Ok) (hm : mayB s d = true) (hL : Laid w) :
    Calls Tryz.prog 59 #[d.val] w fun e w' => e = .returned (.agg #[str (mark0 d), str (mark1 d), str (mark2 d)]) ∧ Kept w w' := by
  obtain ⟨k, n, a, o, x, y⟩ := d
  obtain ⟨hk, hn, ha, ho, hx, hy⟩ := hd
  have MN : Makes 90 #[.int .i64 n, .int .i64 10] w ⟨(Lib.itoa n).toArray⟩ := fun w' h => fmt_any n w' hn (hL.kept h)
  have MA : Makes 91 #[.int .i64 a] w ⟨(Lib.itoa a).toArray⟩ := fun w' h => itoa_any a w' ha (hL.kept h)
  have ln := Lib.itoa_length_le n hn.1 hn.2
  have la := Lib.itoa_length_le a ha.1 ha.2
  rcases may_kind hm with h | h | h | h <;> simp only at h <;> subst h
  · exact marks1w n a o x y w _ MN
  · refine marks2w n a o x y w _ _ MN (adds_mk [115] _ (by simp) (by omega))
  · have e := marks3w n a o x y w _ _ _ _ _ _ MA MN (adds_mk [97] _ (by simp) (by omega)) (adds_mk _ [118] (by simp; omega) (by simp)) (adds_mk _ _ (by simp; omega) (by omega)) (adds_mk _ [91] (by simp; omega) (by simp))
    refine e.mono fun e w' h => ⟨?_, h.2⟩
    rw [h.1]
    simp [mark0, mark1, mark2]
  · obtain ⟨h1, h2⟩ := may_op hm rfl
    simp only at h1 h2
    obtain ⟨o', rfl⟩ : ∃ o' : Nat, o = o' := ⟨o.toNat, by omega⟩
    have hl := signN_le o'
    have e := marks4w 4 n a x y o' w _ _ _ (by decide) (by decide) (by decide) (by omega) (hL.signs o' (by omega)) (adds_mk [32] _ (by simp) (by omega)) (adds_mk _ [32] (by simp; omega) (by simp))
    refine e.mono fun e w' h => ⟨?_, h.2⟩
    rw [h.1]
    simp [mark0, mark1, mark2, signOf_nat]
end Go.Proofs.YtgkjdmojbndicaaGreatDoor

namespace Go.Proofs.YtgkjdmojbndicaaGreatDoor
open Go Go.RowKit

/-- A call that answers three marks, and writes nothing that was there. -/
def Marks (v : Value) (w : World) (M0 M1 M2 : ByteArray) : Prop := ∀ w', Kept w w' → Calls Tryz.prog 59 #[v] w' fun e w'' => e = .returned (.agg #[.string M0, .string M1, .string M2]) ∧ Kept w' w''

theorem setCell_row {w : World} {b : Nat} {cs : Array Value} {t : TypeId} {fr : Nat × Nat} (h : w.heap[b]? = some (.cells cs t fr)) (o : Nat) (v : Value) : (w.setCell ⟨b, o, none⟩ v).heap[b]? = some (.cells (cs.setIfInBounds o v) t fr) := by
  simp only [World.setCell, Array.getElem?_modify, if_true, h]
  rfl

/-- The world in the midst of measured: W: the world in which its three blocks were laid; block b has the node, b + 1 the result, b + 1 + 1 what is measured. -/
structure KB (W w : World) (b : Nat) (k n a o x y D T : Int) : Prop where
  turned : Turned (fun i => i = b + 1 + 1) W w
  row : w.heap[b + 1 + 1]? = some (.cells #[.int .u8 k, .int .i64 n, .int .i64 a, .int .u8 o, .int .i64 x, .int .i64 y, .int .i64 D, .int .i64 T] 87 (0, 0))
  box : W.heap[b]? = some (.cells #[.int .u8 k, .int .i64 n, .int .i64 a, .int .u8 o, .int .i64 x, .int .i64 y] 42 (0, 0))
  res : W.heap[b + 1]? = some (.cells #[.int .u8 0, .int .i64 0, .int .i64 0, .int .u8 0, .int .i64 0, .int .i64 0, .int .i64 0, .int .i64 0] 87 (0, 0))
section
variable {W w w' : World} {b : Nat} {k n a o x y D T : Int}
theorem KB.set6 (h : KB W w b k n a o x y D T) (v : Int) : KB W (w.setCell ⟨b + 1 + 1, 6, none⟩ (.int .i64 v)) b k n a o x y v T :=
  ⟨h.turned.trans (Turned.setCell _ _ _ rfl), setCell_row h.row 6 _, h.box, h.res⟩
theorem KB.set7 (h : KB W w b k n a o x y D T) (v : Int) : KB W (w.setCell ⟨b + 1 + 1, 7, none⟩ (.int .i64 v)) b k n a o x y D v :=
  ⟨h.turned.trans (Turned.setCell _ _ _ rfl), setCell_row h.row 7 _, h.box, h.res⟩
theorem KB.kept (h : KB W w b k n a o x y D T) (hk : Kept w w') : KB W w' b k n a o x y D T :=
  ⟨h.turned.trans (hk.turned _), hk.row h.row, h.box, h.res⟩
theorem KB.boxNow (h : KB W w b k n a o x y D T) : w.heap[b]? = some (.cells #[.int .u8 k, .int .i64 n, .int .i64 a, .int .u8 o, .int .i64 x, .int .i64 y] 42 (0, 0)) :=
  (h.turned.block b (Array.getElem?_eq_some_iff.1 h.box).1 (by omega)).trans h.box
theorem KB.resNow (h : KB W w b k n a o x y D T) : w.heap[b + 1]? = some (.cells #[.int .u8 0, .int .i64 0, .int .i64 0, .int .u8 0, .int .i64 0, .int .i64 0, .int .i64 0, .int .i64 0] 87 (0, 0)) :=
  (h.turned.block (b + 1) (Array.getElem?_eq_some_iff.1 h.res).1 (by omega)).trans h.res
theorem KB.old {w0 : World} (h : KB W w b k n a o x y D T) (hW : Kept w0 W) (hb : w0.heap.size = b) {p : Addr} {v : Value} (hc : w0.cell? p = some v) : w.cell? p = some v :=
  h.turned.cell (hW.cell hc) (by have := World.block_lt_of_cell? w0 _ hc; show ¬ p.block = b + 1 + 1; omega)
theorem KB.drew (h : KB W w b k n a o x y D T) : KB W w.drew b k n a o x y D T := h.kept (Kept.drew (Kept.refl _))
theorem cell_far {w : World} {p a : Addr} {u v : Value} (hc : w.cell? p = some v) (hne : p.block ≠ a.block) : ((w.setCell a u).drew).cell? p = some v :=
  (Turned.setCell (T := fun i => i = a.block) w a u rfl).cell hc hne
/-- What the walk asks of it. -/
theorem KB.facts (h : KB W w b k n a o x y D T) :
    w.cell? ⟨b, 0, none⟩ = some (.int .u8 k) ∧ w.cell? ⟨b, 1, none⟩ = some (.int .i64 n) ∧ w.cell? ⟨b, 2, none⟩ = some (.int .i64 a) ∧ w.cell? ⟨b, 3, none⟩ = some (.int .u8 o) ∧ w.cell? ⟨b, 4, none⟩ = some (.int .i64 x) ∧ w.cell? ⟨b, 5, none⟩ = some (.int .i64 y) ∧
    w.cell? ⟨b + 1 + 1, 6, none⟩ = some (.int .i64 D) ∧ w.cell? ⟨b + 1 + 1, 7, none⟩ = some (.int .i64 T) ∧ w.frozen? ⟨b + 1 + 1, 6, none⟩ = false ∧ w.frozen? ⟨b + 1 + 1, 7, none⟩ = false := by
  have h1 := h.boxNow
  have h2 := h.row
  refine ⟨?_, ?_, ?_, ?_, ?_, ?_, ?_, ?_, frozen_of_row h2 6, frozen_of_row h2 7⟩ <;> (first | (rw [cell_of_row _ _ _ _ _ _ h1]; rfl) | (rw [cell_of_row _ _ _ _ _ _ h2]; rfl))
/-- .. and at the end. -/
theorem KB.last (h : KB W w b k n a o x y D T) :
    w.cell? ⟨b + 1 + 1, 0, none⟩ = some (.int .u8 k) ∧ w.cell? ⟨b + 1 + 1, 1, none⟩ = some (.int .i64 n) ∧ w.cell? ⟨b + 1 + 1, 2, none⟩ = some (.int .i64 a) ∧ w.cell? ⟨b + 1 + 1, 3, none⟩ = some (.int .u8 o) ∧ w.cell? ⟨b + 1 + 1, 4, none⟩ = some (.int .i64 x) ∧ w.cell? ⟨b + 1 + 1, 5, none⟩ = some (.int .i64 y) ∧
    w.cell? ⟨b + 1, 0, none⟩ = some (.int .u8 0) ∧ w.cell? ⟨b + 1, 1, none⟩ = some (.int .i64 0) ∧ w.cell? ⟨b + 1, 2, none⟩ = some (.int .i64 0) ∧ w.cell? ⟨b + 1, 3, none⟩ = some (.int .u8 0) ∧ w.cell? ⟨b + 1, 4, none⟩ = some (.int .i64 0) ∧ w.cell? ⟨b + 1, 5, none⟩ = some (.int .i64 0) ∧ w.cell? ⟨b + 1, 6, none⟩ = some (.int .i64 0) ∧ w.cell? ⟨b + 1, 7, none⟩ = some (.int .i64 0) ∧
    w.frozen? ⟨b + 1, 0, none⟩ = false ∧ w.frozen? ⟨b + 1, 1, none⟩ = false ∧ w.frozen? ⟨b + 1, 2, none⟩ = false ∧ w.frozen? ⟨b + 1, 3, none⟩ = false ∧ w.frozen? ⟨b + 1, 4, none⟩ = false ∧ w.frozen? ⟨b + 1, 5, none⟩ = false ∧ w.frozen? ⟨b + 1, 6, none⟩ = false ∧ w.frozen? ⟨b + 1, 7, none⟩ = false := by
  have h1 := h.resNow
  have h2 := h.row
  refine ⟨?_, ?_, ?_, ?_, ?_, ?_, ?_, ?_, ?_, ?_, ?_, ?_, ?_, ?_, frozen_of_row h1 0, frozen_of_row h1 1, frozen_of_row h1 2, frozen_of_row h1 3, frozen_of_row h1 4, frozen_of_row h1 5, frozen_of_row h1 6, frozen_of_row h1 7⟩ <;> (first | (rw [cell_of_row _ _ _ _ _ _ h1]; rfl) | (rw [cell_of_row _ _ _ _ _ _ h2]; rfl))
/-- The world in which the three blocks are laid. -/
def laid3 (w : World) (k n a o x y : Int) : World := ((w.alloc (.cells #[.int .u8 k, .int .i64 n, .int .i64 a, .int .u8 o, .int .i64 x, .int .i64 y] 42)).alloc (.cells #[.int .u8 0, .int .i64 0, .int .i64 0, .int .u8 0, .int .i64 0, .int .i64 0, .int .i64 0, .int .i64 0] 87)).alloc (.cells #[.int .u8 k, .int .i64 n, .int .i64 a, .int .u8 o, .int .i64 x, .int .i64 y, .int .i64 0, .int .i64 0] 87)
theorem laid3_kept (w : World) (k n a o x y : Int) : Kept w (laid3 w k n a o x y) := (((Kept.refl w).alloc _).alloc _).alloc _
theorem laid3_KB (w : World) (k n a o x y : Int) : KB (laid3 w k n a o x y) (laid3 w k n a o x y) w.heap.size k n a o x y 0 0 := by
  have e1 := (MapKept.heap_alloc w (.cells #[.int .u8 k, .int .i64 n, .int .i64 a, .int .u8 o, .int .i64 x, .int .i64 y] 42)).1
  have e2 := (MapKept.heap_alloc (w.alloc (.cells #[.int .u8 k, .int .i64 n, .int .i64 a, .int .u8 o, .int .i64 x, .int .i64 y] 42)) (.cells #[.int .u8 0, .int .i64 0, .int .i64 0, .int .u8 0, .int .i64 0, .int .i64 0, .int .i64 0, .int .i64 0] 87)).1
  have e3 := (MapKept.heap_alloc ((w.alloc (.cells #[.int .u8 k, .int .i64 n, .int .i64 a, .int .u8 o, .int .i64 x, .int .i64 y] 42)).alloc (.cells #[.int .u8 0, .int .i64 0, .int .i64 0, .int .u8 0, .int .i64 0, .int .i64 0, .int .i64 0, .int .i64 0] 87)) (.cells #[.int .u8 k, .int .i64 n, .int .i64 a, .int .u8 o, .int .i64 x, .int .i64 y, .int .i64 0, .int .i64 0] 87)).1
  have s1 : (w.alloc (.cells #[.int .u8 k, .int .i64 n, .int .i64 a, .int .u8 o, .int .i64 x, .int .i64 y] 42)).heap.size = w.heap.size + 1 := by simp
  have s2 : ((w.alloc (.cells #[.int .u8 k, .int .i64 n, .int .i64 a, .int .u8 o, .int .i64 x, .int .i64 y] 42)).alloc (.cells #[.int .u8 0, .int .i64 0, .int .i64 0, .int .u8 0, .int .i64 0, .int .i64 0, .int .i64 0, .int .i64 0] 87)).heap.size = w.heap.size + 1 + 1 := by simp
  rw [s1] at e2
  rw [s2] at e3
  refine ⟨Turned.refl _ _, e3, ?_, ?_⟩
  · exact Kept.row (((Kept.refl _).alloc _).alloc _) e1
  · exact Kept.row ((Kept.refl _).alloc _) e2
end

set_option maxRecDepth 100000 in
set_option maxHeartbeats 8000000 in
theorem measured0w (g : Option Addr) (k n a o x y : Int) (w : World) (M0 M1 M2 : ByteArray) (hM : Marks (.agg #[.int .u8 k, .int .i64 n, .int .i64 a, .int .u8 o, .int .i64 x, .int .i64 y]) w M0 M1 M2)
    (h0 : M0.size ≤ 1000) (h1 : M1.size ≤ 1000) (h2 : M2.size ≤ 1000) (k3 : (k == 3) = false) (k4 : (k == 4) = false) :
    Calls Tryz.prog 62 #[.pointer g, .agg #[.int .u8 k, .int .i64 n, .int .i64 a, .int .u8 o, .int .i64 x, .int .i64 y]] w fun e w' => e = .returned (.agg #[.int .u8 k, .int .i64 n, .int .i64 a, .int .u8 o, .int .i64 x, .int .i64 y, .int .i64 (1), .int .i64 (min ((M0.size : Int) + M1.size + M2.size) 65537)]) ∧ Kept w w' := by
  have i0 : ∀ w, (Instr.index 102 (.agg #[.string M0, .string M1, .string M2]) (.int .i64 0)).run Tryz.prog w = .ok (.string M0) w := fun _ => by kernel_rfl
  have i1 : ∀ w, (Instr.index 102 (.agg #[.string M0, .string M1, .string M2]) (.int .i64 1)).run Tryz.prog w = .ok (.string M1) w := fun _ => by kernel_rfl
  have i2 : ∀ w, (Instr.index 102 (.agg #[.string M0, .string M1, .string M2]) (.int .i64 2)).run Tryz.prog w = .ok (.string M2) w := fun _ => by kernel_rfl
  have HL := Lib.hid (laid3_KB w k n a o x y)
  have HW := Lib.hid (laid3_kept w k n a o x y)
  have HM := Lib.hid hM; clear hM
  go_enter Tryz.func62, Tryz.ntmps62
  go_wp2_with fail
  change Calls _ _ _ (laid3 w k n a o x y) _
  generalize laid3 w k n a o x y = W at *
  generalize hb : w.heap.size = b at *
  have HB := Lib.hid hb; clear hb
  refine (HM.out _ HW.out).mono ?_
  rintro e w1 ⟨rfl, hk⟩
  have K1 := Lib.hid (HL.out.kept hk); clear hk HL
  obtain ⟨f0, f1, f2, f3, f4, f5, f6, f7, f8, f9⟩ := K1.out.facts
  go_wp2
  refine wp_loop_rounds 4 ?_
  rw [rounds_succ]
  go_wp2
  have K2 := Lib.hid (K1.out.set7 (M0.size : Int))
  generalize w1.setCell ⟨b + 1 + 1, 7, none⟩ (.int .i64 (M0.size : Int)) = w2 at *
  clear f0 f1 f2 f3 f4 f5 f6 f7 f8 f9 K1
  obtain ⟨f0, f1, f2, f3, f4, f5, f6, f7, f8, f9⟩ := K2.out.facts
  rw [rounds_succ]
  go_wp2
  have K3 := Lib.hid (K2.out.set7 ((M0.size : Int) + M1.size))
  generalize w2.setCell ⟨b + 1 + 1, 7, none⟩ (.int .i64 ((M0.size : Int) + M1.size)) = w3 at *
  clear f0 f1 f2 f3 f4 f5 f6 f7 f8 f9 K2
  obtain ⟨f0, f1, f2, f3, f4, f5, f6, f7, f8, f9⟩ := K3.out.facts
  rw [rounds_succ]
  go_wp2
  have K4 := Lib.hid (K3.out.set7 ((M0.size : Int) + M1.size + M2.size))
  generalize w3.setCell ⟨b + 1 + 1, 7, none⟩ (.int .i64 ((M0.size : Int) + M1.size + M2.size)) = w4 at *
  clear f0 f1 f2 f3 f4 f5 f6 f7 f8 f9 K3
  obtain ⟨f0, f1, f2, f3, f4, f5, f6, f7, f8, f9⟩ := K4.out.facts
  rw [rounds_succ]
  go_wp2_with fail
  refine (parts0 _ _ _ _ _ _ _ k3 k4).mono ?_
  rintro e w5 ⟨rfl, hk⟩
  have K5 := Lib.hid (K4.out.kept hk); clear hk
  clear f0 f1 f2 f3 f4 f5 f6 f7 f8 f9 K4
  obtain ⟨f0, f1, f2, f3, f4, f5, f6, f7, f8, f9⟩ := K5.out.facts
  go_wp2
  refine wp_loop_rounds 1 ?_
  rw [rounds_succ]
  go_upto_region 14 with (fail)
  have K6 := Lib.hid (K5.out.set6 1)
  generalize w5.setCell ⟨b + 1 + 1, 6, none⟩ (.int .i64 1) = w6 at *
  clear f0 f1 f2 f3 f4 f5 f6 f7 f8 f9 K5
  obtain ⟨f0, f1, f2, f3, f4, f5, f6, f7, f8, f9⟩ := K6.out.facts
  go_upto_region 15 with (fail)
  have K7 := Lib.hid (K6.out.set7 (min ((M0.size : Int) + M1.size + M2.size) 65537))
  generalize w6.setCell ⟨b + 1 + 1, 7, none⟩ (.int .i64 (min ((M0.size : Int) + M1.size + M2.size) 65537)) = wz at *
  clear f0 f1 f2 f3 f4 f5 f6 f7 f8 f9 K6
  obtain ⟨f0, f1, f2, f3, f4, f5, e0, e1, e2, e3, e4, e5, e6, e7, z0, z1, z2, z3, z4, z5, z6, z7⟩ := K7.out.last
  obtain ⟨_, _, _, _, _, _, l6, l7, _, _⟩ := K7.out.facts
  go_wp2
  have hfin : w.heap.size ≤ b + 1 := by have := HB.out; omega
  have HT : Kept w wz := ⟨K7.out.turned.os.trans HW.out.os, K7.out.turned.tape.trans HW.out.tape, K7.out.turned.output.trans HW.out.output, Nat.le_trans HW.out.size K7.out.turned.size, fun q hq => (K7.out.turned.block q (Nat.lt_of_lt_of_le hq HW.out.size) (by omega)).trans (HW.out.block q hq)⟩
  exact bodyPost_ret (v := .agg #[.int .u8 k, .int .i64 n, .int .i64 a, .int .u8 o, .int .i64 x, .int .i64 y, .int .i64 (1), .int .i64 (min ((M0.size : Int) + M1.size + M2.size) 65537)]) (by simp [results, Tryz.results62, go_sem, *]) rfl ⟨rfl, (((((((HT.setCell hfin _).setCell hfin _).setCell hfin _).setCell hfin _).setCell hfin _).setCell hfin _).setCell hfin _).setCell hfin _⟩

set_option maxRecDepth 100000 in
set_option maxHeartbeats 8000000 in
theorem measured1w (g : Nat) (n a o x y : Int) (w : World) (M0 M1 M2 : ByteArray) (hM : Marks (.agg #[.int .u8 3, .int .i64 n, .int .i64 a, .int .u8 o, .int .i64 x, .int .i64 y]) w M0 M1 M2)
    (h0 : M0.size ≤ 1000) (h1 : M1.size ≤ 1000) (h2 : M2.size ≤ 1000) (r len cap j : Nat) (de lo : Nat) (hy : y = (j : Int)) (hj : j < len) (_hle : len ≤ 1000000000) (hg : w.cell? ⟨g, 0, none⟩ = some (.slice (some ⟨r, 0, none⟩) len cap)) (hd : w.cell? ⟨r, j * 8 + 6, none⟩ = some (.int .i64 (de : Int))) (hl : w.cell? ⟨r, j * 8 + 7, none⟩ = some (.int .i64 (lo : Int))) (bd : de ≤ 1000000000) (bl : lo ≤ 1000000000) :
    Calls Tryz.prog 62 #[.pointer (some ⟨g, 0, none⟩), .agg #[.int .u8 3, .int .i64 n, .int .i64 a, .int .u8 o, .int .i64 x, .int .i64 y]] w fun e w' => e = .returned (.agg #[.int .u8 3, .int .i64 n, .int .i64 a, .int .u8 o, .int .i64 x, .int .i64 y, .int .i64 ((de : Int) + 1), .int .i64 (min ((M0.size : Int) + M1.size + M2.size + lo) 65537)]) ∧ Kept w w' := by
  subst hy
  have i0 : ∀ w, (Instr.index 102 (.agg #[.string M0, .string M1, .string M2]) (.int .i64 0)).run Tryz.prog w = .ok (.string M0) w := fun _ => by kernel_rfl
  have i1 : ∀ w, (Instr.index 102 (.agg #[.string M0, .string M1, .string M2]) (.int .i64 1)).run Tryz.prog w = .ok (.string M1) w := fun _ => by kernel_rfl
  have i2 : ∀ w, (Instr.index 102 (.agg #[.string M0, .string M1, .string M2]) (.int .i64 2)).run Tryz.prog w = .ok (.string M2) w := fun _ => by kernel_rfl
  have HL := Lib.hid (laid3_KB w 3 n a o x (j : Int))
  have HW := Lib.hid (laid3_kept w 3 n a o x (j : Int))
  have HM := Lib.hid hM; clear hM
  have HG' := Lib.hid hg; clear hg
  have HD' := Lib.hid hd; clear hd
  have HL' := Lib.hid hl; clear hl
  have j0 : (0 : Int) ≤ (j : Int) := Int.natCast_nonneg _
  have j1 : (j : Int) < (len : Int) := by omega
  go_enter Tryz.func62, Tryz.ntmps62
  go_wp2_with fail
  change Calls _ _ _ (laid3 w 3 n a o x (j : Int)) _
  generalize laid3 w 3 n a o x (j : Int) = W at *
  generalize hb : w.heap.size = b at *
  have HB := Lib.hid hb; clear hb
  refine (HM.out _ HW.out).mono ?_
  rintro e w1 ⟨rfl, hk⟩
  have K1 := Lib.hid (HL.out.kept hk); clear hk HL
  obtain ⟨f0, f1, f2, f3, f4, f5, f6, f7, f8, f9⟩ := K1.out.facts
  go_wp2
  refine wp_loop_rounds 4 ?_
  rw [rounds_succ]
  go_wp2
  have K2 := Lib.hid (K1.out.set7 (M0.size : Int))
  generalize w1.setCell ⟨b + 1 + 1, 7, none⟩ (.int .i64 (M0.size : Int)) = w2 at *
  clear f0 f1 f2 f3 f4 f5 f6 f7 f8 f9 K1
  obtain ⟨f0, f1, f2, f3, f4, f5, f6, f7, f8, f9⟩ := K2.out.facts
  rw [rounds_succ]
  go_wp2
  have K3 := Lib.hid (K2.out.set7 ((M0.size : Int) + M1.size))
  generalize w2.setCell ⟨b + 1 + 1, 7, none⟩ (.int .i64 ((M0.size : Int) + M1.size)) = w3 at *
  clear f0 f1 f2 f3 f4 f5 f6 f7 f8 f9 K2
  obtain ⟨f0, f1, f2, f3, f4, f5, f6, f7, f8, f9⟩ := K3.out.facts
  rw [rounds_succ]
  go_wp2
  have K4 := Lib.hid (K3.out.set7 ((M0.size : Int) + M1.size + M2.size))
  generalize w3.setCell ⟨b + 1 + 1, 7, none⟩ (.int .i64 ((M0.size : Int) + M1.size + M2.size)) = w4 at *
  clear f0 f1 f2 f3 f4 f5 f6 f7 f8 f9 K3
  obtain ⟨f0, f1, f2, f3, f4, f5, f6, f7, f8, f9⟩ := K4.out.facts
  rw [rounds_succ]
  go_wp2_with fail
  refine (parts3 _ _ _ _ _ _).mono ?_
  rintro e w5 ⟨pb, rfl, hk, hpb, p0⟩
  have HPB : Hid (pb ≠ b + 1 + 1) := fun e => by have := World.block_lt_of_cell? w4 _ f6; simp only at this; omega
  clear hpb
  have K5 := Lib.hid (K4.out.kept hk); clear hk
  clear f0 f1 f2 f3 f4 f5 f6 f7 f8 f9 K4
  obtain ⟨f0, f1, f2, f3, f4, f5, f6, f7, f8, f9⟩ := K5.out.facts
  clear f0 f1 f2 f3 f4 f5
  have g0 := K5.out.old HW.out HB.out HG'.out
  have g1 := K5.out.old HW.out HB.out HD'.out
  have g2 := K5.out.old HW.out HB.out HL'.out
  go_wp2
  refine wp_loop_rounds 2 ?_
  rw [rounds_succ]
  go_wp2
  go_region
  go_upto_region 11 with (fail)
  have K6 := Lib.hid (K5.out.set7 ((M0.size : Int) + M1.size + M2.size + lo)).drew
  skip
  generalize (w5.setCell ⟨b + 1 + 1, 7, none⟩ (.int .i64 ((M0.size : Int) + M1.size + M2.size + lo))).drew = w6 at *
  clear f6 f7 f8 f9 K5 g0 g1 g2
  skip
  obtain ⟨f0, f1, f2, f3, f4, f5, f6, f7, f8, f9⟩ := K6.out.facts
  clear f0 f1 f2 f3 f4 f5
  have g0 := K6.out.old HW.out HB.out HG'.out
  have g1 := K6.out.old HW.out HB.out HD'.out
  have g2 := K6.out.old HW.out HB.out HL'.out
  go_region
  go_upto_region 8 with (fail)
  have K7 := Lib.hid (K6.out.set6 ((de : Int))).drew
  skip
  generalize (w6.setCell ⟨b + 1 + 1, 6, none⟩ (.int .i64 ((de : Int)))).drew = w7 at *
  clear f6 f7 f8 f9 K6 g0 g1 g2
  skip
  obtain ⟨f0, f1, f2, f3, f4, f5, f6, f7, f8, f9⟩ := K7.out.facts
  clear f0 f1 f2 f3 f4 f5
  rw [rounds_succ]
  go_upto_region 14 with (fail)
  have K8 := Lib.hid (K7.out.set6 ((de : Int) + 1))
  generalize w7.setCell ⟨b + 1 + 1, 6, none⟩ (.int .i64 ((de : Int) + 1)) = w8 at *
  clear f6 f7 f8 f9 K7
  obtain ⟨f0, f1, f2, f3, f4, f5, f6, f7, f8, f9⟩ := K8.out.facts
  go_upto_region 15 with (fail)
  have K9 := Lib.hid (K8.out.set7 (min ((M0.size : Int) + M1.size + M2.size + lo) 65537))
  generalize w8.setCell ⟨b + 1 + 1, 7, none⟩ (.int .i64 (min ((M0.size : Int) + M1.size + M2.size + lo) 65537)) = wz at *
  clear f0 f1 f2 f3 f4 f5 f6 f7 f8 f9 K8
  obtain ⟨f0, f1, f2, f3, f4, f5, e0, e1, e2, e3, e4, e5, e6, e7, z0, z1, z2, z3, z4, z5, z6, z7⟩ := K9.out.last
  obtain ⟨_, _, _, _, _, _, l6, l7, _, _⟩ := K9.out.facts
  go_wp2
  have hfin : w.heap.size ≤ b + 1 := by have := HB.out; omega
  have HT : Kept w wz := ⟨K9.out.turned.os.trans HW.out.os, K9.out.turned.tape.trans HW.out.tape, K9.out.turned.output.trans HW.out.output, Nat.le_trans HW.out.size K9.out.turned.size, fun q hq => (K9.out.turned.block q (Nat.lt_of_lt_of_le hq HW.out.size) (by omega)).trans (HW.out.block q hq)⟩
  exact bodyPost_ret (v := .agg #[.int .u8 3, .int .i64 n, .int .i64 a, .int .u8 o, .int .i64 x, .int .i64 (j : Int), .int .i64 ((de : Int) + 1), .int .i64 (min ((M0.size : Int) + M1.size + M2.size + lo) 65537)]) (by simp [results, Tryz.results62, go_sem, *]) rfl ⟨rfl, (((((((HT.setCell hfin _).setCell hfin _).setCell hfin _).setCell hfin _).setCell hfin _).setCell hfin _).setCell hfin _).setCell hfin _⟩

set_option maxRecDepth 100000 in
set_option maxHeartbeats 8000000 in
theorem measured2w (g : Nat) (n a o x y : Int) (w : World) (M0 M1 M2 : ByteArray) (hM : Marks (.agg #[.int .u8 4, .int .i64 n, .int .i64 a, .int .u8 o, .int .i64 x, .int .i64 y]) w M0 M1 M2)
    (h0 : M0.size ≤ 1000) (h1 : M1.size ≤ 1000) (h2 : M2.size ≤ 1000) (r len cap i j : Nat) (de lo de2 lo2 : Nat) (hx : x = (i : Int)) (hy : y = (j : Int)) (hi : i < len) (hj : j < len) (_hle : len ≤ 1000000000) (hg : w.cell? ⟨g, 0, none⟩ = some (.slice (some ⟨r, 0, none⟩) len cap)) (hd : w.cell? ⟨r, i * 8 + 6, none⟩ = some (.int .i64 (de : Int))) (hl : w.cell? ⟨r, i * 8 + 7, none⟩ = some (.int .i64 (lo : Int))) (hd2 : w.cell? ⟨r, j * 8 + 6, none⟩ = some (.int .i64 (de2 : Int))) (hl2 : w.cell? ⟨r, j * 8 + 7, none⟩ = some (.int .i64 (lo2 : Int))) (bd : de ≤ 1000000000) (bl : lo ≤ 1000000000) (bd2 : de2 ≤ 1000000000) (bl2 : lo2 ≤ 1000000000) :
    Calls Tryz.prog 62 #[.pointer (some ⟨g, 0, none⟩), .agg #[.int .u8 4, .int .i64 n, .int .i64 a, .int .u8 o, .int .i64 x, .int .i64 y]] w fun e w' => e = .returned (.agg #[.int .u8 4, .int .i64 n, .int .i64 a, .int .u8 o, .int .i64 x, .int .i64 y, .int .i64 (max (de : Int) (de2 : Int) + 1), .int .i64 (min ((M0.size : Int) + M1.size + M2.size + lo + lo2) 65537)]) ∧ Kept w w' := by
  subst hy
  subst hx
  have i0 : ∀ w, (Instr.index 102 (.agg #[.string M0, .string M1, .string M2]) (.int .i64 0)).run Tryz.prog w = .ok (.string M0) w := fun _ => by kernel_rfl
  have i1 : ∀ w, (Instr.index 102 (.agg #[.string M0, .string M1, .string M2]) (.int .i64 1)).run Tryz.prog w = .ok (.string M1) w := fun _ => by kernel_rfl
  have i2 : ∀ w, (Instr.index 102 (.agg #[.string M0, .string M1, .string M2]) (.int .i64 2)).run Tryz.prog w = .ok (.string M2) w := fun _ => by kernel_rfl
  have HL := Lib.hid (laid3_KB w 4 n a o (i : Int) (j : Int))
  have HW := Lib.hid (laid3_kept w 4 n a o (i : Int) (j : Int))
  have HM := Lib.hid hM; clear hM
  have HG' := Lib.hid hg; clear hg
  have HD' := Lib.hid hd; clear hd
  have HL' := Lib.hid hl; clear hl
  have HD2' := Lib.hid hd2; clear hd2
  have HL2' := Lib.hid hl2; clear hl2
  have j0 : (0 : Int) ≤ (j : Int) := Int.natCast_nonneg _
  have j1 : (j : Int) < (len : Int) := by omega
  have q0 : (0 : Int) ≤ (i : Int) := Int.natCast_nonneg _
  have q1 : (i : Int) < (len : Int) := by omega
  go_enter Tryz.func62, Tryz.ntmps62
  go_wp2_with fail
  change Calls _ _ _ (laid3 w 4 n a o (i : Int) (j : Int)) _
  generalize laid3 w 4 n a o (i : Int) (j : Int) = W at *
  generalize hb : w.heap.size = b at *
  have HB := Lib.hid hb; clear hb
  refine (HM.out _ HW.out).mono ?_
  rintro e w1 ⟨rfl, hk⟩
  have K1 := Lib.hid (HL.out.kept hk); clear hk HL
  obtain ⟨f0, f1, f2, f3, f4, f5, f6, f7, f8, f9⟩ := K1.out.facts
  go_wp2
  refine wp_loop_rounds 4 ?_
  rw [rounds_succ]
  go_wp2
  have K2 := Lib.hid (K1.out.set7 (M0.size : Int))
  generalize w1.setCell ⟨b + 1 + 1, 7, none⟩ (.int .i64 (M0.size : Int)) = w2 at *
  clear f0 f1 f2 f3 f4 f5 f6 f7 f8 f9 K1
  obtain ⟨f0, f1, f2, f3, f4, f5, f6, f7, f8, f9⟩ := K2.out.facts
  rw [rounds_succ]
  go_wp2
  have K3 := Lib.hid (K2.out.set7 ((M0.size : Int) + M1.size))
  generalize w2.setCell ⟨b + 1 + 1, 7, none⟩ (.int .i64 ((M0.size : Int) + M1.size)) = w3 at *
  clear f0 f1 f2 f3 f4 f5 f6 f7 f8 f9 K2
  obtain ⟨f0, f1, f2, f3, f4, f5, f6, f7, f8, f9⟩ := K3.out.facts
  rw [rounds_succ]
  go_wp2
  have K4 := Lib.hid (K3.out.set7 ((M0.size : Int) + M1.size + M2.size))
  generalize w3.setCell ⟨b + 1 + 1, 7, none⟩ (.int .i64 ((M0.size : Int) + M1.size + M2.size)) = w4 at *
  clear f0 f1 f2 f3 f4 f5 f6 f7 f8 f9 K3
  obtain ⟨f0, f1, f2, f3, f4, f5, f6, f7, f8, f9⟩ := K4.out.facts
  rw [rounds_succ]
  go_wp2_with fail
  refine (parts4 _ _ _ _ _ _).mono ?_
  rintro e w5 ⟨pb, rfl, hk, hpb, p0, p1⟩
  have HPB : Hid (pb ≠ b + 1 + 1) := fun e => by have := World.block_lt_of_cell? w4 _ f6; simp only at this; omega
  clear hpb
  have K5 := Lib.hid (K4.out.kept hk); clear hk
  clear f0 f1 f2 f3 f4 f5 f6 f7 f8 f9 K4
  obtain ⟨f0, f1, f2, f3, f4, f5, f6, f7, f8, f9⟩ := K5.out.facts
  clear f0 f1 f2 f3 f4 f5
  have g0 := K5.out.old HW.out HB.out HG'.out
  have g1 := K5.out.old HW.out HB.out HD'.out
  have g2 := K5.out.old HW.out HB.out HL'.out
  go_wp2
  refine wp_loop_rounds 3 ?_
  rw [rounds_succ]
  go_wp2
  go_region
  go_upto_region 11 with (fail)
  have K6 := Lib.hid (K5.out.set7 ((M0.size : Int) + M1.size + M2.size + lo)).drew
  have p1x := cell_far (a := ⟨b + 1 + 1, 7, none⟩) (u := .int .i64 ((M0.size : Int) + M1.size + M2.size + lo)) p1 HPB.out
  generalize (w5.setCell ⟨b + 1 + 1, 7, none⟩ (.int .i64 ((M0.size : Int) + M1.size + M2.size + lo))).drew = w6 at *
  clear f6 f7 f8 f9 K5 g0 g1 g2
  clear p1; have p1 := p1x; clear p1x
  obtain ⟨f0, f1, f2, f3, f4, f5, f6, f7, f8, f9⟩ := K6.out.facts
  clear f0 f1 f2 f3 f4 f5
  have g0 := K6.out.old HW.out HB.out HG'.out
  have g1 := K6.out.old HW.out HB.out HD'.out
  have g2 := K6.out.old HW.out HB.out HL'.out
  go_region
  go_upto_region 8 with (fail)
  have K7 := Lib.hid (K6.out.set6 ((de : Int))).drew
  have p1x := cell_far (a := ⟨b + 1 + 1, 6, none⟩) (u := .int .i64 ((de : Int))) p1 HPB.out
  generalize (w6.setCell ⟨b + 1 + 1, 6, none⟩ (.int .i64 ((de : Int)))).drew = w7 at *
  clear f6 f7 f8 f9 K6 g0 g1 g2
  clear p1; have p1 := p1x; clear p1x
  obtain ⟨f0, f1, f2, f3, f4, f5, f6, f7, f8, f9⟩ := K7.out.facts
  clear f0 f1 f2 f3 f4 f5
  have g0 := K7.out.old HW.out HB.out HG'.out
  have g1 := K7.out.old HW.out HB.out HD2'.out
  have g2 := K7.out.old HW.out HB.out HL2'.out
  rw [rounds_succ]
  go_wp2
  go_region
  go_upto_region 11 with (fail)
  have K8 := Lib.hid (K7.out.set7 ((M0.size : Int) + M1.size + M2.size + lo + lo2)).drew
  skip
  generalize (w7.setCell ⟨b + 1 + 1, 7, none⟩ (.int .i64 ((M0.size : Int) + M1.size + M2.size + lo + lo2))).drew = w8 at *
  clear f6 f7 f8 f9 K7 g0 g1 g2
  skip
  obtain ⟨f0, f1, f2, f3, f4, f5, f6, f7, f8, f9⟩ := K8.out.facts
  clear f0 f1 f2 f3 f4 f5
  have g0 := K8.out.old HW.out HB.out HG'.out
  have g1 := K8.out.old HW.out HB.out HD2'.out
  have g2 := K8.out.old HW.out HB.out HL2'.out
  go_region
  go_upto_region 8 with (fail)
  have K9 := Lib.hid (K8.out.set6 (max (de : Int) (de2 : Int))).drew
  skip
  generalize (w8.setCell ⟨b + 1 + 1, 6, none⟩ (.int .i64 (max (de : Int) (de2 : Int)))).drew = w9 at *
  clear f6 f7 f8 f9 K8 g0 g1 g2
  skip
  obtain ⟨f0, f1, f2, f3, f4, f5, f6, f7, f8, f9⟩ := K9.out.facts
  clear f0 f1 f2 f3 f4 f5
  rw [rounds_succ]
  go_upto_region 14 with (fail)
  have K10 := Lib.hid (K9.out.set6 (max (de : Int) (de2 : Int) + 1))
  generalize w9.setCell ⟨b + 1 + 1, 6, none⟩ (.int .i64 (max (de : Int) (de2 : Int) + 1)) = w10 at *
  clear f6 f7 f8 f9 K9
  obtain ⟨f0, f1, f2, f3, f4, f5, f6, f7, f8, f9⟩ := K10.out.facts
  go_upto_region 15 with (fail)
  have K11 := Lib.hid (K10.out.set7 (min ((M0.size : Int) + M1.size + M2.size + lo + lo2) 65537))
  generalize w10.setCell ⟨b + 1 + 1, 7, none⟩ (.int .i64 (min ((M0.size : Int) + M1.size + M2.size + lo + lo2) 65537)) = wz at *
  clear f0 f1 f2 f3 f4 f5 f6 f7 f8 f9 K10
  obtain ⟨f0, f1, f2, f3, f4, f5, e0, e1, e2, e3, e4, e5, e6, e7, z0, z1, z2, z3, z4, z5, z6, z7⟩ := K11.out.last
  obtain ⟨_, _, _, _, _, _, l6, l7, _, _⟩ := K11.out.facts
  go_wp2
  have hfin : w.heap.size ≤ b + 1 := by have := HB.out; omega
  have HT : Kept w wz := ⟨K11.out.turned.os.trans HW.out.os, K11.out.turned.tape.trans HW.out.tape, K11.out.turned.output.trans HW.out.output, Nat.le_trans HW.out.size K11.out.turned.size, fun q hq => (K11.out.turned.block q (Nat.lt_of_lt_of_le hq HW.out.size) (by omega)).trans (HW.out.block q hq)⟩
  exact bodyPost_ret (v := .agg #[.int .u8 4, .int .i64 n, .int .i64 a, .int .u8 o, .int .i64 (i : Int), .int .i64 (j : Int), .int .i64 (max (de : Int) (de2 : Int) + 1), .int .i64 (min ((M0.size : Int) + M1.size + M2.size + lo + lo2) 65537)]) (by simp [results, Tryz.results62, go_sem, *]) rfl ⟨rfl, (((((((HT.setCell hfin _).setCell hfin _).setCell hfin _).setCell hfin _).setCell hfin _).setCell hfin _).setCell hfin _).setCell hfin _⟩

/-! ### measured, of any node that may be -/
theorem deep1_le {K : List Kp} {d : Nd} {n : Nat} (h : ∀ q ∈ K, q.deep ≤ n) : deep1 K d ≤ n + 1 := by
  have hk : ∀ i, (kAt K i).deep ≤ n := by
    intro i
    unfold kAt
    rw [List.getD_eq_getElem?_getD]
    cases hh : K[i.toNat]? with
    | none => exact Nat.zero_le _
    | some q => exact h q (List.mem_of_getElem? hh)
  unfold deep1 partsOf
  split
  · have := hk d.y; simp; omega
  · split
    · have := hk d.x; have := hk d.y; simp; omega
    · simp
theorem kps_deep_le : ∀ (L : List Nd), ∀ q ∈ kps L, q.deep ≤ L.length := by
  refine fun L => snocInd (p := fun L => ∀ q ∈ kps L, q.deep ≤ L.length) (fun q h => by cases h) (fun L d ih q hq => ?_) L
  rw [kps_snoc, List.mem_append] at hq
  rw [List.length_append]
  rcases hq with hq | hq
  · have := ih q hq; omega
  · rw [List.mem_singleton.1 hq]
    exact deep1_le ih
theorem kps_long_le : ∀ (L : List Nd), ∀ q ∈ kps L, q.long ≤ 65537 := by
  refine fun L => snocInd (p := fun L => ∀ q ∈ kps L, q.long ≤ 65537) (fun q h => by cases h) (fun L d ih q hq => ?_) L
  rw [kps_snoc, List.mem_append] at hq
  rcases hq with hq | hq
  · exact ih q hq
  · rw [List.mem_singleton.1 hq]
    exact Nat.min_le_right _ _
theorem kAt_mem {L : List Nd} {k : Nat} (h : k < L.length) : kAt (kps L) (k : Int) ∈ kps L := List.mem_of_getElem? (kAt_get h)
theorem mark_sizes (d : Nd) (hd : d.Ok) : (mark0 d).length ≤ 1000 ∧ (mark1 d).length ≤ 1000 ∧ (mark2 d).length ≤ 1000 := by
  have ln := Lib.itoa_length_le d.n hd.2.1.1 hd.2.1.2
  have la := Lib.itoa_length_le d.a hd.2.2.1.1 hd.2.2.1.2
  have ls : (signOf d.o).length ≤ 3 := by
    have := signN_le d.o.toNat
    exact this
  refine ⟨?_, ?_, ?_⟩
  · unfold mark0; split
    · omega
    · split
      · simp; omega
      · split
        · simp; omega
        · simp
  · unfold mark1; split
    · simp
    · split
      · simp
      · split
        · simp
        · simp; omega
  · unfold mark2; split
    · simp
    · split
      · simp
      · split <;> simp

theorem measured_any {B g m c : Nat} {sa : Option Addr} {L : List Nd} {w : World} (h : GraphAt B w g m sa c L) (d : Nd) (hd : d.Ok) (hm : mayB L.length d = true) (hL : Laid w) (hlen : L.length ≤ 1000000000) :
    Calls Tryz.prog 62 #[.pointer (some ⟨g, 0, none⟩), d.val] w fun e w' => e = .returned (.agg (kept1 (kps L) d).cells.toArray) ∧ Kept w w' := by
  have hc := h.cell0
  obtain ⟨s0, s1, s2⟩ := mark_sizes d hd
  have M : Marks d.val w ⟨(mark0 d).toArray⟩ ⟨(mark1 d).toArray⟩ ⟨(mark2 d).toArray⟩ := fun w' hk => marks_any d w' _ hd hm (hL.kept hk)
  have hp := may_parts hm
  obtain ⟨k, n, a, o, x, y⟩ := d
  have z0 : (⟨(mark0 ⟨k, n, a, o, x, y⟩).toArray⟩ : ByteArray).size = (mark0 ⟨k, n, a, o, x, y⟩).length := rfl
  have z1 : (⟨(mark1 ⟨k, n, a, o, x, y⟩).toArray⟩ : ByteArray).size = (mark1 ⟨k, n, a, o, x, y⟩).length := rfl
  have z2 : (⟨(mark2 ⟨k, n, a, o, x, y⟩).toArray⟩ : ByteArray).size = (mark2 ⟨k, n, a, o, x, y⟩).length := rfl
  by_cases k3 : k = 3
  · subst k3
    obtain ⟨hy0, hy1⟩ := hp y (by simp [partsOf])
    obtain ⟨j, rfl⟩ : ∃ j : Nat, y = j := ⟨y.toNat, by omega⟩
    have hj : j < L.length := by omega
    obtain ⟨r, rfl, _, _, _, _, _, hcell⟩ := h.rowAt (by omega)
    have bd := kps_deep_le L _ (kAt_mem hj)
    have bl := kps_long_le L _ (kAt_mem hj)
    refine (measured1w g n a o x j w _ _ _ M s0 s1 s2 r L.length c j _ _ rfl hj (by omega) hc (hcell j _ (kAt_get hj) 6 _ rfl) (hcell j _ (kAt_get hj) 7 _ rfl) (by omega) (by omega)).mono fun e w' hh => ⟨?_, hh.2⟩
    rw [hh.1, z0, z1, z2]
    simp only [kept1, Kp.cells, Nd.cells, deep1, long1, longSum, partsOf, marksLen, if_true, List.foldl_cons, List.foldl_nil]
    simp
    omega
  · by_cases k4 : k = 4
    · subst k4
      obtain ⟨hx0, hx1⟩ := hp x (by simp [partsOf])
      obtain ⟨hy0, hy1⟩ := hp y (by simp [partsOf])
      obtain ⟨i, rfl⟩ : ∃ i : Nat, x = i := ⟨x.toNat, by omega⟩
      obtain ⟨j, rfl⟩ : ∃ j : Nat, y = j := ⟨y.toNat, by omega⟩
      have hi : i < L.length := by omega
      have hj : j < L.length := by omega
      obtain ⟨r, rfl, _, _, _, _, _, hcell⟩ := h.rowAt (by omega)
      have bd := kps_deep_le L _ (kAt_mem hj)
      have bl := kps_long_le L _ (kAt_mem hj)
      have bd' := kps_deep_le L _ (kAt_mem hi)
      have bl' := kps_long_le L _ (kAt_mem hi)
      refine (measured2w g n a o i j w _ _ _ M s0 s1 s2 r L.length c i j _ _ _ _ rfl rfl hi hj (by omega) hc (hcell i _ (kAt_get hi) 6 _ rfl) (hcell i _ (kAt_get hi) 7 _ rfl) (hcell j _ (kAt_get hj) 6 _ rfl) (hcell j _ (kAt_get hj) 7 _ rfl) (by omega) (by omega) (by omega) (by omega)).mono fun e w' hh => ⟨?_, hh.2⟩
      rw [hh.1, z0, z1, z2]
      simp [kept1, Kp.cells, Nd.cells, deep1, long1, longSum, partsOf, marksLen]
      omega
    · refine (measured0w _ k n a o x y w _ _ _ M s0 s1 s2 (by simpa using k3) (by simpa using k4)).mono fun e w' hh => ⟨?_, hh.2⟩
      rw [hh.1, z0, z1, z2]
      simp [kept1, Kp.cells, Nd.cells, deep1, long1, longSum, partsOf, marksLen, k3, k4]
      omega
end Go.Proofs.YtgkjdmojbndicaaGreatDoor

namespace Go.Proofs.YtgkjdmojbndicaaGreatDoor
open Go Go.RowKit

def nodeObj (d : Nd) : Obj := .cells #[.int .u8 d.k, .int .i64 d.n, .int .i64 d.a, .int .u8 d.o, .int .i64 d.x, .int .i64 d.y] 42
theorem box_facts {W w : World} {b : Nat} {d : Nd} (h : W.heap[b]? = some (nodeObj d)) (hk : Kept W w) :
    w.cell? ⟨b, 0, none⟩ = some (.int .u8 d.k) ∧ w.cell? ⟨b, 1, none⟩ = some (.int .i64 d.n) ∧ w.cell? ⟨b, 2, none⟩ = some (.int .i64 d.a) ∧ w.cell? ⟨b, 3, none⟩ = some (.int .u8 d.o) ∧ w.cell? ⟨b, 4, none⟩ = some (.int .i64 d.x) ∧ w.cell? ⟨b, 5, none⟩ = some (.int .i64 d.y) := by
  have h1 := hk.row h
  refine ⟨?_, ?_, ?_, ?_, ?_, ?_⟩ <;> (rw [cell_of_row _ _ _ _ _ _ h1]; rfl)

set_option maxHeartbeats 2000000 in
theorem add_bad {B g m c : Nat} {sa : Option Addr} {L : List Nd} {w : World} (h : GraphAt B w g m sa c L) (d : Nd) (hm : mayB L.length d = false) :
    Calls Tryz.prog 41 #[.pointer (some ⟨g, 0, none⟩), d.val] w fun e w' => e = .returned (.int .i64 (-1)) ∧ Kept w w' := by
  have HG := Lib.hid (h.kept ((Kept.refl w).alloc (nodeObj d)))
  have HB := Lib.hid ((MapKept.heap_alloc w (nodeObj d)).1)
  have HQ := Lib.hid ((Kept.refl w).alloc (nodeObj d))
  have HM := Lib.hid hm
  clear h hm
  simp only [Nd.val]
  go_enter Tryz.func41, Tryz.ntmps41
  go_wp2_with fail
  change Calls _ _ #[_, d.val] (w.alloc (nodeObj d)) _
  generalize w.alloc (nodeObj d) = W at *
  refine (may_any HG.out d).mono ?_
  rintro e w1 ⟨rfl, hk⟩
  rw [HM.out]
  have HK := Lib.hid (HQ.out.trans hk); clear hk
  go_wp2
  go_ret
  exact ⟨rfl, HK.out⟩

set_option maxHeartbeats 2000000 in
theorem add_old {B g m c : Nat} {sa : Option Addr} {L : List Nd} {w : World} (h : GraphAt B w g m sa c L) (d : Nd) (hd : d.Ok) (hm : mayB L.length d = true) (hi : inL L d = true) :
    Calls Tryz.prog 41 #[.pointer (some ⟨g, 0, none⟩), d.val] w fun e w' => e = .returned (.int .i64 (idx L d)) ∧ Kept w w' := by
  have HG := Lib.hid (h.kept ((Kept.refl w).alloc (nodeObj d)))
  have HB := Lib.hid ((MapKept.heap_alloc w (nodeObj d)).1)
  have HQ := Lib.hid ((Kept.refl w).alloc (nodeObj d))
  have HM := Lib.hid hm
  have HI := Lib.hid hi
  have HD := Lib.hid hd
  clear h hm hi hd
  simp only [Nd.val]
  go_enter Tryz.func41, Tryz.ntmps41
  go_wp2_with fail
  change Calls _ _ #[_, d.val] (w.alloc (nodeObj d)) _
  generalize w.alloc (nodeObj d) = W at *
  generalize w.heap.size = b at *
  refine (may_any HG.out d).mono ?_
  rintro e w1 ⟨rfl, hk⟩
  rw [HM.out]
  have HK := Lib.hid (HQ.out.trans hk)
  obtain ⟨f0, f1, f2, f3, f4, f5⟩ := box_facts HB.out hk
  have HG1 := Lib.hid (HG.out.kept hk); clear hk
  have HF := Lib.hid (⟨f0, f1, f2, f3, f4, f5⟩ : _ ∧ _ ∧ _ ∧ _ ∧ _ ∧ _)
  clear f0 f1 f2 f3 f4 f5
  have SK : Hid (∀ w', Kept w1 w' → w'.cell? ⟨g, 1, none⟩ = some (.map (some m)) ∧
      w'.cell? ⟨b, 0, none⟩ = some (.int .u8 d.k) ∧ w'.cell? ⟨b, 1, none⟩ = some (.int .i64 d.n) ∧ w'.cell? ⟨b, 2, none⟩ = some (.int .i64 d.a) ∧ w'.cell? ⟨b, 3, none⟩ = some (.int .u8 d.o) ∧ w'.cell? ⟨b, 4, none⟩ = some (.int .i64 d.x) ∧ w'.cell? ⟨b, 5, none⟩ = some (.int .i64 d.y) ∧
      (Instr.lookup 76 (.map (some m)) (.agg #[.int .u8 d.k, .int .i64 d.n, .int .i64 d.a, .int .u8 d.o, .int .i64 d.x, .int .i64 d.y]) true).run Tryz.prog w' = .ok (.tuple #[.int .i64 (idx L d : Int), .bool true]) w') := fun w' hk =>
    ⟨hk.cell HG1.out.cell1, hk.cell HF.out.1, hk.cell HF.out.2.1, hk.cell HF.out.2.2.1, hk.cell HF.out.2.2.2.1, hk.cell HF.out.2.2.2.2.1, hk.cell HF.out.2.2.2.2.2, by
      have l := (HG1.out.kept hk).look HD.out
      rw [if_pos HI.out, HI.out] at l
      exact l⟩
  go_wp2
  go_region_held3 (fun w' => w'.cell? ⟨g, 1, none⟩ = some (.map (some m)) ∧
      w'.cell? ⟨b, 0, none⟩ = some (.int .u8 d.k) ∧ w'.cell? ⟨b, 1, none⟩ = some (.int .i64 d.n) ∧ w'.cell? ⟨b, 2, none⟩ = some (.int .i64 d.a) ∧ w'.cell? ⟨b, 3, none⟩ = some (.int .u8 d.o) ∧ w'.cell? ⟨b, 4, none⟩ = some (.int .i64 d.x) ∧ w'.cell? ⟨b, 5, none⟩ = some (.int .i64 d.y) ∧
      (Instr.lookup 76 (.map (some m)) (.agg #[.int .u8 d.k, .int .i64 d.n, .int .i64 d.a, .int .u8 d.o, .int .i64 d.x, .int .i64 d.y]) true).run Tryz.prog w' = .ok (.tuple #[.int .i64 (idx L d : Int), .bool true]) w')
    (first | exact SK.out _ (Kept.refl _) | exact SK.out _ (Kept.drew (Kept.refl _)))
    (fail)
  go_wp2
  go_ret
  exact ⟨rfl, HK.out.drew⟩
theorem ownsRow_block {w w' : World} {B e k : Nat} {v : Value} {n : Nat} {xs : List Value} (h : w.ownsRow B e k v n xs) (hb : ∀ b, v.ownBlock = some b → w'.heap[b]? = w.heap[b]?) : w'.ownsRow B e k v n xs := by
  obtain ⟨h1, h2⟩ := h
  refine ⟨h1, ?_⟩
  rcases h2 with h2 | ⟨b, cap, cur, hv, hB, hblk, hr⟩
  · exact Or.inl h2
  · exact Or.inr ⟨b, cap, cur, hv, hB, (hb b (by rw [hv]; rfl)).trans hblk, hr⟩
theorem ownsMap_block {w w' : World} {P : Program} {k : TypeId} {R : Value → Option (DataW Unit × List MemPlace)} {b n : Nat} {D : DataW Unit} (h : w.ownsMap P k R b n D) (hb : w'.heap[b]? = w.heap[b]?) : w'.ownsMap P k R b n D := by
  obtain ⟨es, clock, h1, h2⟩ := h
  exact ⟨es, clock, hb.trans h1, h2⟩
/-- Behind the append and its store: the graph but for the map. -/
structure Mid (B : Nat) (w w2 w5 : World) (g m : Nat) (sa : Option Addr) (gg cap : Nat) (L : List Nd) (d : Nd) : Prop where
  blk : w5.heap[g]? = some (.cells #[.slice (some ⟨gg, 0, none⟩) (L.length + 1) cap, .map (some m)] 78 (0, 0))
  row : w5.ownsRow B 87 8 (.slice (some ⟨gg, 0, none⟩) (L.length + 1) cap) (L.length + 1) (keptCells (kps (L ++ [d])))
  map : w5.ownsMap Tryz.prog 42 (plainElem Tryz.prog 35) m L.length (Dm L)
  turned : Turned (Takes g m sa) w w5
  turned2 : Turned (Takes g m sa) w2 w5
  at_ : sa = some ⟨gg, 0, none⟩ ∨ w.heap.size ≤ gg
  ne : gg ≠ g ∧ gg ≠ m
theorem mid_of {B g m c : Nat} {sa : Option Addr} {L : List Nd} {w w2 w3 w4 : World} {d : Nd} {gg cap : Nat} {o : Obj} (HG : GraphAt B w2 g m sa c L) (hK : Kept w w2) (hk3 : Kept w2 w3)
    (hw : sa = none ∨ ∃ x, sa = some x ∧ x.block < w.heap.size)
    (hown : w4.ownsRow B 87 8 (.slice (some ⟨gg, 0, none⟩) (L.length + 1) cap) (L.length + 1) (keptCells (kps L) ++ (kept1 (kps L) d).cells))
    (hgrow : (w3.alloc o).grownBy w4 (Value.slice sa L.length c).ownBlock) (hat : (Value.slice sa L.length c).ownBlock = some gg ∨ gg = w3.heap.size + 1) :
    Mid B w w2 (w4.setCell ⟨g, 0, none⟩ (.slice (some ⟨gg, 0, none⟩) (L.length + 1) cap)) g m sa gg cap L d := by
  have hG3 := (HG.kept hk3).kept (Kept.alloc (Kept.refl w3) o)
  have hsz := hk3.size
  have hszw := hK.size
  have hg3 : g < (w3.alloc o).heap.size := hG3.gLt
  have hm3 : m < (w3.alloc o).heap.size := hG3.mLt
  have hga : ∀ q, (Value.slice sa L.length c).ownBlock = some q → q ≠ g ∧ q ≠ m ∧ q < w2.heap.size := by
    intro q hq
    cases sa with
    | none => cases hq
    | some x =>
      have hx : x.block = q := by simpa [Value.ownBlock] using hq
      refine ⟨fun e => HG.apart x rfl (hx.trans e), ?_, ?_⟩
      · intro e
        obtain ⟨es, clock, hb, _⟩ := HG.map
        rcases HG.row.2 with ⟨h1, _⟩ | ⟨r, _, cur, hv, _, hblk, _⟩
        · cases h1
        · have : x = ⟨r, 0, none⟩ := by injection hv with h1 _ _; injection h1
          subst this
          simp only at hx
          rw [hx, e, hb] at hblk
          cases hblk
      · have := (HG.row.lt q hq).2
        exact this
  have hgg : gg ≠ g ∧ gg ≠ m := by
    rcases hat with h | h
    · exact ⟨(hga gg h).1, (hga gg h).2.1⟩
    · have := HG.gLt; have := HG.mLt
      exact ⟨by omega, by omega⟩
  have hb4 : ∀ q, q < (w3.alloc o).heap.size → some q ≠ (Value.slice sa L.length c).ownBlock → w4.heap[q]? = (w3.alloc o).heap[q]? := fun q hq hn => hgrow.block q hq hn
  have hg4 : w4.heap[g]? = some (.cells #[.slice sa L.length c, .map (some m)] 78 (0, 0)) := (hb4 g hg3 (fun e => (hga g e.symm).1 rfl)).trans hG3.blk
  have t2 : Turned (Takes g m sa) (w3.alloc o) w4 := Turned.grown hgrow fun k hk => by
      cases sa with
      | none => cases hk
      | some x => exact Or.inr (Or.inr ⟨x, rfl, by simpa [Value.ownBlock] using hk.symm⟩)
  refine ⟨setCell_row hg4 0 _, ?_, ?_, ?_, (((hk3.alloc o).turned _).trans t2).trans (Turned.setCell _ _ _ (Or.inl rfl)), ?_, hgg⟩
  · have hkc : keptCells (kps (L ++ [d])) = keptCells (kps L) ++ (kept1 (kps L) d).cells := by
      rw [kps_snoc]; simp [keptCells]
    rw [hkc]
    refine ownsRow_block hown fun q hq => ?_
    have : gg = q := by simpa [Value.ownBlock] using hq
    subst this
    exact Below.heap_setCell _ _ _ _ hgg.1
  · refine ownsMap_block hG3.map ?_
    have hmg : m ≠ g := by
      intro e
      obtain ⟨es, clock, hb, _⟩ := hG3.map
      rw [e, hG3.blk] at hb
      cases hb
    rw [Below.heap_setCell _ _ _ _ hmg]
    exact hb4 m hm3 (fun e => (hga m e.symm).2.1 rfl)
  · have t1 : Turned (Takes g m sa) w (w3.alloc o) := (hK.trans (hk3.alloc o)).turned _
    exact (t1.trans t2).trans (Turned.setCell _ _ _ (Or.inl rfl))
  · rcases hat with h | h
    · left
      cases sa with
      | none => cases h
      | some x =>
        rcases HG.row.2 with ⟨h1, _⟩ | ⟨r, _, cur, hv, _, hblk, _⟩
        · cases h1
        · have hx : x = ⟨r, 0, none⟩ := by injection hv with h1 _ _; injection h1
          have hx2 : x.block = gg := by simpa [Value.ownBlock] using h
          subst hx
          simp only at hx2
          rw [hx2]
    · right; omega
/-- .. and behind the store into the map: the graph with the node. -/
theorem add_end {B g m : Nat} {sa : Option Addr} {L : List Nd} {w w2 w5 w6 : World} {d : Nd} {gg cap : Nat} (hM : Mid B w w2 w5 g m sa gg cap L d) (hG : Good (L ++ [d])) (hlow : B ≤ g ∧ B ≤ m)
    (hmap : w6.ownsMap Tryz.prog 42 (plainElem Tryz.prog 35) m (L.length + 1) ((Dm L).put (litOf d) (.lit (.int .i64 (L.length : Int))))) (hgrow : w5.grownBy w6 (some m)) :
    GraphAt B w6 g m (some ⟨gg, 0, none⟩) cap (L ++ [d]) ∧ Turned (Takes g m sa) w w6 ∧ (∀ q, Takes g m (some ⟨gg, 0, none⟩) q → Takes g m sa q ∨ w.heap.size ≤ q) := by
  have hlen : (L ++ [d]).length = L.length + 1 := by simp
  have hgl : g < w5.heap.size := (Array.getElem?_eq_some_iff.1 hM.blk).1
  have hgm : g ≠ m := by
    intro e
    obtain ⟨es, clock, hb, _⟩ := hM.map
    rw [← e, hM.blk] at hb
    cases hb
  have hb6 : ∀ q, q < w5.heap.size → q ≠ m → w6.heap[q]? = w5.heap[q]? := fun q hq hn => hgrow.block q hq (by simpa using hn)
  refine ⟨⟨?_, ?_, ?_, ?_, hlow, hG⟩, hM.turned.trans (Turned.grown hgrow fun k hk => Or.inr (Or.inl (by simpa using hk.symm))), ?_⟩
  · rw [hlen]; exact (hb6 g hgl hgm).trans hM.blk
  · rw [hlen]
    refine ownsRow_block hM.row fun q hq => ?_
    have : gg = q := by simpa [Value.ownBlock] using hq
    subst this
    exact hb6 gg (hM.row.lt gg rfl).2 hM.ne.2
  · rw [hlen, Dm_snoc]; exact hmap
  · intro x hx
    have : x = ⟨gg, 0, none⟩ := by simpa using hx.symm
    rw [this]
    exact hM.ne.1
  · rintro q (rfl | rfl | ⟨x, hx, rfl⟩)
    · exact Or.inl (Or.inl rfl)
    · exact Or.inl (Or.inr (Or.inl rfl))
    · have hx' : x = ⟨gg, 0, none⟩ := by simpa using hx.symm
      subst hx'
      rcases hM.at_ with h | h
      · exact Or.inl (Or.inr (Or.inr ⟨_, h, rfl⟩))
      · exact Or.inr h
theorem infoKept : (Tryz.prog.info? 87).map (fun i => (i.zero, i.size, i.bytes)) = some (some (.agg #[.int .u8 0, .int .i64 0, .int .i64 0, .int .u8 0, .int .i64 0, .int .i64 0, .int .i64 0, .int .i64 0]), 8, 64) := by kernel_rfl
set_option maxRecDepth 100000 in
set_option maxHeartbeats 8000000 in
theorem add_new {B g m c : Nat} {sa : Option Addr} {L : List Nd} {w : World} (h : GraphAt B w g m sa c L) (d : Nd) (hd : d.Ok) (hm : mayB L.length d = true) (hi : inL L d = false) (hL : Laid w) (hlen : L.length ≤ 1000000000) :
    Calls Tryz.prog 41 #[.pointer (some ⟨g, 0, none⟩), d.val] w fun e w' => e = .returned (.int .i64 L.length) ∧ ∃ a' c', GraphAt B w' g m a' c' (L ++ [d]) ∧ Turned (Takes g m sa) w w' ∧ (∀ q, Takes g m a' q → Takes g m sa q ∨ w.heap.size ≤ q) := by
  obtain ⟨ik, hik, hz0, hz1, hz2⟩ := info_parts infoKept
  have HIK := Lib.hid (And.intro hik (And.intro hz0 (And.intro hz1 hz2))); clear hik hz0 hz1 hz2
  have hnil := fun w => run_eql_map_nil (P := Tryz.prog) w 76 _ _ (some m) Tryz.underlying76
  have HG := Lib.hid (h.kept ((Kept.refl w).alloc (nodeObj d)))
  have HB := Lib.hid ((MapKept.heap_alloc w (nodeObj d)).1)
  have HQ := Lib.hid ((Kept.refl w).alloc (nodeObj d))
  have HM := Lib.hid hm
  have HI := Lib.hid hi
  have HD := Lib.hid hd
  have HLd := Lib.hid hL
  have HH := Lib.hid h
  have HSA : Hid (sa = none ∨ ∃ x, sa = some x ∧ x.block < w.heap.size) := by
    cases sa with
    | none => exact Or.inl rfl
    | some x => exact Or.inr ⟨x, rfl, (h.row.lt x.block rfl).2⟩
  have HNB : Hid (¬ Takes g m sa w.heap.size) := by
    rintro (e | e | ⟨x, e, e2⟩)
    · exact Nat.ne_of_gt h.gLt e
    · exact Nat.ne_of_gt h.mLt e
    · exact Nat.ne_of_gt (h.row.lt x.block (by rw [e]; rfl)).2 e2
  clear h hm hi hd hL
  have hlen1 : L.length ≤ 9223372036854775807 := by omega
  simp only [Nd.val]
  go_enter Tryz.func41, Tryz.ntmps41
  go_wp2_with fail
  change Calls _ _ #[_, d.val] (w.alloc (nodeObj d)) _
  generalize w.alloc (nodeObj d) = W at *
  generalize hbb : w.heap.size = b at *
  have HBB := Lib.hid hbb; clear hbb
  refine (may_any HG.out d).mono ?_
  rintro e w1 ⟨rfl, hk⟩
  rw [HM.out]
  have HK := Lib.hid (HQ.out.trans hk)
  have HF := Lib.hid (box_facts HB.out hk)
  have HBX := Lib.hid (hk.row HB.out)
  have HG1 := Lib.hid (HG.out.kept hk); clear hk
  have SK : Hid (∀ w', Kept w1 w' → w'.cell? ⟨g, 1, none⟩ = some (.map (some m)) ∧
      w'.cell? ⟨b, 0, none⟩ = some (.int .u8 d.k) ∧ w'.cell? ⟨b, 1, none⟩ = some (.int .i64 d.n) ∧ w'.cell? ⟨b, 2, none⟩ = some (.int .i64 d.a) ∧ w'.cell? ⟨b, 3, none⟩ = some (.int .u8 d.o) ∧ w'.cell? ⟨b, 4, none⟩ = some (.int .i64 d.x) ∧ w'.cell? ⟨b, 5, none⟩ = some (.int .i64 d.y) ∧
      (Instr.lookup 76 (.map (some m)) (.agg #[.int .u8 d.k, .int .i64 d.n, .int .i64 d.a, .int .u8 d.o, .int .i64 d.x, .int .i64 d.y]) true).run Tryz.prog w' = .ok (.tuple #[.int .i64 0, .bool false]) w') := fun w' hk =>
    ⟨hk.cell HG1.out.cell1, hk.cell HF.out.1, hk.cell HF.out.2.1, hk.cell HF.out.2.2.1, hk.cell HF.out.2.2.2.1, hk.cell HF.out.2.2.2.2.1, hk.cell HF.out.2.2.2.2.2, by
      have l := (HG1.out.kept hk).look HD.out
      rw [HI.out] at l
      exact l⟩
  go_wp2
  go_region_held3 (fun w' => w'.cell? ⟨g, 1, none⟩ = some (.map (some m)) ∧
      w'.cell? ⟨b, 0, none⟩ = some (.int .u8 d.k) ∧ w'.cell? ⟨b, 1, none⟩ = some (.int .i64 d.n) ∧ w'.cell? ⟨b, 2, none⟩ = some (.int .i64 d.a) ∧ w'.cell? ⟨b, 3, none⟩ = some (.int .u8 d.o) ∧ w'.cell? ⟨b, 4, none⟩ = some (.int .i64 d.x) ∧ w'.cell? ⟨b, 5, none⟩ = some (.int .i64 d.y) ∧
      (Instr.lookup 76 (.map (some m)) (.agg #[.int .u8 d.k, .int .i64 d.n, .int .i64 d.a, .int .u8 d.o, .int .i64 d.x, .int .i64 d.y]) true).run Tryz.prog w' = .ok (.tuple #[.int .i64 0, .bool false]) w')
    (first | exact SK.out _ (Kept.refl _) | exact SK.out _ (Kept.drew (Kept.refl _)))
    (fail)
  have g0 := (HG1.out.kept (Kept.drew (Kept.refl w1))).cell0
  have g1 := (HG1.out.kept (Kept.drew (Kept.refl w1))).cell1
  change Exit.then _ _ _ _ w1.drew
  have HG2 := Lib.hid (HG1.out.kept (Kept.drew (Kept.refl w1)))
  have HK2 := Lib.hid (HK.out.drew)
  have HF2 := Lib.hid (box_facts HBX.out (Kept.drew (Kept.refl w1)))
  have HBX2 := Lib.hid ((Kept.drew (Kept.refl w1)).row HBX.out)
  generalize w1.drew = w2 at *
  clear SK HG1 HF HK HG HB HBX
  go_upto_region 9 with (fail)
  obtain ⟨D, hD⟩ : ∃ D : Nat, D = (kept1 (kps L) d).deep := ⟨_, rfl⟩
  obtain ⟨T, hT⟩ : ∃ T : Nat, T = (kept1 (kps L) d).long := ⟨_, rfl⟩
  have HCELLS : Hid ((kept1 (kps L) d).cells = [.int .u8 d.k, .int .i64 d.n, .int .i64 d.a, .int .u8 d.o, .int .i64 d.x, .int .i64 d.y, .int .i64 (D : Int), .int .i64 (T : Int)]) := by rw [hD, hT]; rfl
  clear hD hT
  have MEAS : Hid (∀ w', Kept w2 w' → Calls Tryz.prog 62 #[.pointer (some ⟨g, 0, none⟩), .agg #[.int .u8 d.k, .int .i64 d.n, .int .i64 d.a, .int .u8 d.o, .int .i64 d.x, .int .i64 d.y]] w' fun e w'' => e = .returned (.agg #[.int .u8 d.k, .int .i64 d.n, .int .i64 d.a, .int .u8 d.o, .int .i64 d.x, .int .i64 d.y, .int .i64 (D : Int), .int .i64 (T : Int)]) ∧ Kept w2 w'') := fun w' hk => by
    refine (measured_any (HG2.out.kept hk) d HD.out HM.out (HLd.out.kept (HK2.out.trans hk)) (by omega)).mono fun e w'' hh => ⟨?_, hk.trans hh.2⟩
    rw [hh.1, HCELLS.out]
  have HV : Hid ((Value.slice sa L.length c).ownBlock ≠ some g) := by
    intro e
    cases sa with
    | none => cases e
    | some x => exact HG2.out.apart x rfl (by simpa [Value.ownBlock] using e)
  have HZ : Hid (∀ w', Kept w2 w' → w'.cell? ⟨g, 0, none⟩ = some (.slice sa L.length c) ∧ w'.frozen? ⟨g, 0, none⟩ = false ∧ g < w'.heap.size ∧ g ≠ w'.heap.size) := fun w' hk =>
    ⟨(HG2.out.kept hk).cell0, (HG2.out.kept hk).free 0, (HG2.out.kept hk).gLt, Nat.ne_of_lt (HG2.out.kept hk).gLt⟩
  have hK0 := Kept.refl w2
  obtain ⟨f0, f1, f2, f3, f4, f5⟩ := HF2.out
  go_region_law ((first
    | (refine step_append_lies _ (by rfl) _ _ _ (by rfl) B 87 ik _ 8 64 Tryz.underlying75 HIK.out.1 HIK.out.2.1 HIK.out.2.2.1 HIK.out.2.2.2 rfl (by omega) (.slice sa L.length c) L.length (keptCells (kps L)) (by rfl) ((HG2.out.kept hk3).row.alloc _)
        ⟨w3.heap.size, 0, none⟩ 1 1 [.int .u8 d.k, .int .i64 d.n, .int .i64 d.a, .int .u8 d.o, .int .i64 d.x, .int .i64 d.y, .int .i64 (D : Int), .int .i64 (T : Int)] (by rfl) (by rfl) (World.news_of_block (cs := #[.int .u8 d.k, .int .i64 d.n, .int .i64 d.a, .int .u8 d.o, .int .i64 d.x, .int .i64 d.y, .int .i64 (D : Int), .int .i64 (T : Int)]) (t := 87) (fr := (0, 0)) (heap_alloc_new w3 _)) (by simp [Value.oneCell'])
        (by omega) (by unfold maxLen; omega) (by omega) (by have := HG2.out.low; have := HG2.out.gLt; have := hk3.size; simp; omega) (w3.heap.size + 1) (by simp) ?_; intro gg cap w4 hown4 hgrow4 hat4 hlt4
       have hz4 := HZ.out _ (hk3.alloc (.cells #[.int .u8 d.k, .int .i64 d.n, .int .i64 d.a, .int .u8 d.o, .int .i64 d.x, .int .i64 d.y, .int .i64 (D : Int), .int .i64 (T : Int)] 87))
       have c4 : w4.cell? ⟨g, 0, none⟩ = some (.slice sa L.length c) := (hgrow4.cell_far ⟨g, 0, none⟩ hz4.2.2.1 (Ne.symm HV.out)).trans hz4.1
       have z4 : w4.frozen? ⟨g, 0, none⟩ = false := (hgrow4.frozen_far ⟨g, 0, none⟩ hz4.2.2.1 (Ne.symm HV.out)).trans hz4.2.1
       have HGR := Lib.hid hgrow4; have HOW := Lib.hid hown4; have HAT := Lib.hid hat4; have HLT := Lib.hid hlt4; have HK3 := Lib.hid hk3
       clear hgrow4 hown4 hat4 hlt4 hk3 hz4 q0 q1 q2 q3)
    | (go_simp; go_at_call 62; refine (MEAS.out _ (by first | exact hK0 | exact Kept.drew hK0)).mono ?_; rintro e w3 ⟨rfl, hk3⟩; obtain ⟨q0, q1, q2, q3⟩ := HZ.out w3 hk3)))
  all_goals
    have HM5 := Lib.hid (mid_of (d := d) HG2.out HK2.out HK3.out (by rw [HBB.out]; exact HSA.out) (HCELLS.out ▸ HOW.out) HGR.out HAT.out)
    clear c4 z4 HGR HOW HAT HLT HK3
    generalize w4.setCell ⟨g, 0, none⟩ (.slice (some ⟨gg, 0, none⟩) (L.length + 1) cap) = w5 at *
    have HBX5 := Lib.hid ((HM5.out.turned2.block b (Array.getElem?_eq_some_iff.1 HBX2.out).1 HNB.out).trans HBX2.out)
    clear f0 f1 f2 f3 f4 f5
    obtain ⟨f0, f1, f2, f3, f4, f5⟩ := box_facts HBX5.out (Kept.refl w5)
    have g1 : w5.cell? ⟨g, 1, none⟩ = some (.map (some m)) := by rw [cell_of_row _ _ _ _ _ _ HM5.out.blk]; rfl
    obtain ⟨w6, hrun, hmap6, hgrow6⟩ := (World.ownsMap.drew HM5.out.map).update lawNode Tryz.underlying76 (by unfold maxLen; omega) (keyOf_node d HD.out) (plainElem_int Tryz.underlying35 (wf_i64 (show InR (L.length : Int) from ⟨by omega, by omega⟩)))
    have HMP := Lib.hid hmap6; have HGR6 := Lib.hid hgrow6; clear hmap6 hgrow6
    simp only [Nd.val] at hrun
    go_wp2
    go_region
    go_wp2
    go_ret
    have hE := add_end HM5.out (Good.snoc (HG2.out).good HD.out HM.out HI.out) HG2.out.low HMP.out ⟨HGR6.out.os, HGR6.out.tape, HGR6.out.output, HGR6.out.size, HGR6.out.block⟩
    exact ⟨rfl, _, _, hE⟩

/-- Add, of any node. -/
theorem add_any {B g m c : Nat} {sa : Option Addr} {L : List Nd} {w : World} (h : GraphAt B w g m sa c L) (d : Nd) (hd : d.Ok) (hL : Laid w) (hlen : L.length ≤ 1000000000) :
    Calls Tryz.prog 41 #[.pointer (some ⟨g, 0, none⟩), d.val] w fun e w' => e = .returned (.int .i64 (addR L d)) ∧ ∃ a' c', GraphAt B w' g m a' c' (addL L d) ∧ Turned (Takes g m sa) w w' ∧ (∀ q, Takes g m a' q → Takes g m sa q ∨ w.heap.size ≤ q) := by
  unfold addR addL
  cases hm : mayB L.length d with
  | false =>
    refine (add_bad h d hm).mono fun e w' hh => ⟨by rw [hh.1]; rfl, sa, c, ?_, hh.2.turned _, fun q hq => Or.inl hq⟩
    exact h.kept hh.2
  | true =>
    cases hi : inL L d with
    | true =>
      refine (add_old h d hd hm hi).mono fun e w' hh => ⟨by rw [hh.1]; rfl, sa, c, ?_, hh.2.turned _, fun q hq => Or.inl hq⟩
      exact h.kept hh.2
    | false =>
      refine (add_new h d hd hm hi hL hlen).mono fun e w' hh => ⟨?_, hh.2⟩
      rw [hh.1, idx_none hi]
      rfl
end Go.Proofs.YtgkjdmojbndicaaGreatDoor
