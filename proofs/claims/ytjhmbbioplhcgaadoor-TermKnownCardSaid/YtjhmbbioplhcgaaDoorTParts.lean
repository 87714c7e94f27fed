/-
  Layer 2: the contract of parts; what the laid tables give; the contract of marks.
-/
import Derived.Test.YtjhmbbioplhcgaaDoorTMayBe
import Derived.Test.YtjhmbbioplhcgaaDoorShelf
import Derived.Lib.AppendIntMem
namespace Go.Proofs.YtjhmbbioplhcgaaDoor
open Go Go.RowKit

set_option maxHeartbeats 1000000 in
theorem parts3 (n a o x y : Int) (w : World) :
    Calls Tryd.prog 40 #[.agg #[.int .u8 3, .int .i64 n, .int .i64 a, .int .u8 o, .int .i64 x, .int .i64 y]] w fun e w' => ∃ b, e = .returned (.slice (some ⟨b, 0, none⟩) 1 1) ∧ Kept w w' ∧ w.heap.size ≤ b ∧ w'.cell? ⟨b, 0, none⟩ = some (.int .i64 y) := by
  go_enter Tryd.func40, Tryd.ntmps40
  go_wp2
  go_ret
  refine ⟨_, rfl, ((Kept.refl _).alloc _).alloc _, ?_, ?_⟩
  · omega
  · simp
set_option maxHeartbeats 1000000 in
theorem parts4 (n a o x y : Int) (w : World) :
    Calls Tryd.prog 40 #[.agg #[.int .u8 4, .int .i64 n, .int .i64 a, .int .u8 o, .int .i64 x, .int .i64 y]] w fun e w' => ∃ b, e = .returned (.slice (some ⟨b, 0, none⟩) 2 2) ∧ Kept w w' ∧ w.heap.size ≤ b ∧ w'.cell? ⟨b, 0, none⟩ = some (.int .i64 x) ∧ w'.cell? ⟨b, 1, none⟩ = some (.int .i64 y) := by
  go_enter Tryd.func40, Tryd.ntmps40
  go_wp2
  go_ret
  refine ⟨_, rfl, ((Kept.refl _).alloc _).alloc _, ?_, ?_, ?_⟩
  · omega
  · simp
  · simp
set_option maxHeartbeats 1000000 in
theorem parts0 (k n a o x y : Int) (w : World) (h3 : (k == 3) = false) (h4 : (k == 4) = false) :
    Calls Tryd.prog 40 #[.agg #[.int .u8 k, .int .i64 n, .int .i64 a, .int .u8 o, .int .i64 x, .int .i64 y]] w fun e w' => e = .returned (.slice none 0 0) ∧ Kept w w' := by
  go_enter Tryd.func40, Tryd.ntmps40
  go_wp2
  go_ret
  exact ⟨rfl, (Kept.refl _).alloc _⟩

/-- Of a world that makes memory: old cells and old marks read as before (rules for the walk). -/
theorem bcell {W w1 : World} (hb : Kept W w1) : (∀ b o, b < W.heap.size → w1.cell? ⟨b, o, none⟩ = W.cell? ⟨b, o, none⟩) ∧ (∀ b o, b < W.heap.size → w1.frozen? ⟨b, o, none⟩ = W.frozen? ⟨b, o, none⟩) :=
  ⟨fun b o h => Below.cell hb (p := ⟨b, o, none⟩) h, fun b o h => Below.frozen hb (p := ⟨b, o, none⟩) h⟩

/-! ### The tables -/
def signN : Nat → List UInt8
  | 1 => [43] | 2 => [45] | 3 => [42] | 4 => [47] | 5 => [37] | 6 => [47, 117] | 7 => [37, 117] | 8 => [38] | 9 => [124] | 10 => [94]
  | 11 => [60, 60] | 12 => [62, 62, 117] | 13 => [62, 62] | 14 => [60] | 15 => [60, 117] | 16 => [61, 61] | _ => []
abbrev str (l : List UInt8) : Value := .string ⟨l.toArray⟩
/-- The tables that the program's text lays. -/
structure Laid (w : World) : Prop where
  pow : Lib.TabIs Tryd.prog w "internal/strconv.uint64pow10" .u64 Lib.pow10Tab
  signs : ∀ j, j < 17 → w.cell? ⟨0, j, none⟩ = some (str (signN j))
theorem Laid.kept {w w' : World} (h : Laid w) (k : Kept w w') : Laid w' :=
  ⟨Lib.tabBelow_of_tabIs h.pow _ k, fun j hj => k.cell (h.signs j hj)⟩
theorem fmt_any (n : Int) (w : World) (hn : InR n) (hL : Laid w) :
    Calls Tryd.prog 50 #[.int .i64 n, .int .i64 10] w fun e w' => e = .returned (str (Lib.itoa n)) ∧ Kept w w' :=
  (Tryd.strconv_FormatInt_10 n hn.1 hn.2 w hL.pow).mono fun _ _ h => ⟨h.1, by obtain ⟨_, _, _, hw⟩ := h; exact Kept.grow hw⟩
theorem itoa_any (n : Int) (w : World) (hn : InR n) (hL : Laid w) :
    Calls Tryd.prog 51 #[.int .i64 n] w fun e w' => e = .returned (str (Lib.itoa n)) ∧ Kept w w' :=
  (Tryd.strconv_Itoa n hn.1 hn.2 w hL.pow).mono fun _ _ h => ⟨h.1, by obtain ⟨_, _, _, hw⟩ := h; exact Kept.grow hw⟩

/-- A call that makes a text, and writes nothing that was there. -/
def Makes (f : Nat) (args : Array Value) (w : World) (s : ByteArray) : Prop := ∀ w', Kept w w' → Calls Tryd.prog f args w' fun e w'' => e = .returned (.string s) ∧ Kept w' w''
/-- The sum of two texts. -/
def Adds (x y s : ByteArray) : Prop := ∀ w, (Op.stringOp .add x y).run Tryd.prog w = .ok (.string s) w
theorem adds_mk (x y : List UInt8) (hx : x.length ≤ 1000000) (hy : y.length ≤ 1000000) : Adds ⟨x.toArray⟩ ⟨y.toArray⟩ ⟨(x ++ y).toArray⟩ := fun w =>
  run_string_add_lists w x y (by omega) (by omega)

set_option maxHeartbeats 1000000 in
theorem marks1w (n a o x y : Int) (w : World) (N : ByteArray) (hN : Makes 50 #[.int .i64 n, .int .i64 10] w N) :
    Calls Tryd.prog 39 #[.agg #[.int .u8 1, .int .i64 n, .int .i64 a, .int .u8 o, .int .i64 x, .int .i64 y]] w fun e w' => e = .returned (.agg #[.string N, str [], str []]) ∧ Kept w w' := by
  have hQ := ((Kept.refl w).alloc (.cells #[.int .u8 1, .int .i64 n, .int .i64 a, .int .u8 o, .int .i64 x, .int .i64 y] 34)).alloc (.cells #[str [], str [], str []] 87)
  go_enter Tryd.func39, Tryd.ntmps39
  go_wp2_with ((go_at_call 50; refine (hN _ hQ).mono ?_; rintro e w' ⟨rfl, hk⟩; obtain ⟨hc', hf'⟩ := bcell hk; have hs := hk.size; simp at hs))
  exact bodyPost_ret (v := .agg #[.string N, str [], str []]) (by simp [results, Tryd.results39, go_sem, hc']) rfl ⟨rfl, (((hQ.trans hk).setCell (Nat.le_succ _) _).setCell (Nat.le_succ _) _).setCell (Nat.le_succ _) _⟩
set_option maxHeartbeats 1000000 in
theorem marks2w (n a o x y : Int) (w : World) (N S : ByteArray) (hN : Makes 50 #[.int .i64 n, .int .i64 10] w N) (hS : Adds { data := #[115] } N S) :
    Calls Tryd.prog 39 #[.agg #[.int .u8 2, .int .i64 n, .int .i64 a, .int .u8 o, .int .i64 x, .int .i64 y]] w fun e w' => e = .returned (.agg #[.string S, str [], str []]) ∧ Kept w w' := by
  have hQ := ((Kept.refl w).alloc (.cells #[.int .u8 2, .int .i64 n, .int .i64 a, .int .u8 o, .int .i64 x, .int .i64 y] 34)).alloc (.cells #[str [], str [], str []] 87)
  unfold Adds at hS
  go_enter Tryd.func39, Tryd.ntmps39
  go_wp2_with ((go_at_call 50; refine (hN _ hQ).mono ?_; rintro e w' ⟨rfl, hk⟩; obtain ⟨hc', hf'⟩ := bcell hk; have hs := hk.size; simp at hs))
  exact bodyPost_ret (v := .agg #[.string S, str [], str []]) (by simp [results, Tryd.results39, go_sem, hc']) rfl ⟨rfl, (((hQ.trans hk).setCell (Nat.le_succ _) _).setCell (Nat.le_succ _) _).setCell (Nat.le_succ _) _⟩
set_option maxHeartbeats 1000000 in
theorem marks4w (k n a x y : Int) (o : Nat) (w : World) (G S1 S2 : ByteArray) (h1 : (k == 1) = false) (h2 : (k == 2) = false) (h3 : (k == 3) = false) (ho : o < 17)
    (hg : w.cell? ⟨0, o, none⟩ = some (.string G)) (hS1 : Adds { data := #[32] } G S1) (hS2 : Adds S1 { data := #[32] } S2) :
    Calls Tryd.prog 39 #[.agg #[.int .u8 k, .int .i64 n, .int .i64 a, .int .u8 o, .int .i64 x, .int .i64 y]] w fun e w' => e = .returned (.agg #[str [40], .string S2, str [41]]) ∧ Kept w w' := by
  have hQ := ((Kept.refl w).alloc (.cells #[.int .u8 k, .int .i64 n, .int .i64 a, .int .u8 o, .int .i64 x, .int .i64 y] 34)).alloc (.cells #[str [], str [], str []] 87)
  unfold Adds at hS1 hS2
  have hne : (0 : Nat) < w.heap.size := World.block_lt_of_cell? w _ hg
  have hne' : (0 : Nat) ≠ w.heap.size := Nat.ne_of_lt hne
  go_enter Tryd.func39, Tryd.ntmps39
  go_wp2
  exact bodyPost_ret (v := .agg #[str [40], .string S2, str [41]]) (by simp [results, Tryd.results39, go_sem]) rfl ⟨rfl, ((Kept.refl _).alloc _).alloc _⟩
theorem makes_held {f : Nat} {args : Array Value} {W w : World} {s : ByteArray} (h : Makes f args W s) (hk : Kept W w) :
    Calls Tryd.prog f args w fun e w'' => e = .returned (.string s) ∧ Kept W w'' :=
  (h w hk).mono fun _ _ hh => ⟨hh.1, hk.trans hh.2⟩
theorem frozen_of_row {w : World} {b : Nat} {cs : Array Value} {t : TypeId} (h : w.heap[b]? = some (.cells cs t (0, 0))) (o : Nat) : w.frozen? ⟨b, o, none⟩ = false := by
  unfold World.frozen?
  rw [h]
  simp
theorem Kept.row {W w : World} (hk : Kept W w) {b : Nat} {o : Obj} (h : W.heap[b]? = some o) : w.heap[b]? = some o :=
  (hk.block b (Array.getElem?_eq_some_iff.1 h).1).trans h
set_option maxHeartbeats 2000000 in
theorem marks3w (n a o x y : Int) (w : World) (A N S1 S2 S3 S4 : ByteArray) (hA : Makes 51 #[.int .i64 a] w A) (hN : Makes 50 #[.int .i64 n, .int .i64 10] w N)
    (hS1 : Adds { data := #[97] } A S1) (hS2 : Adds S1 { data := #[118] } S2) (hS3 : Adds S2 N S3) (hS4 : Adds S3 { data := #[91] } S4) :
    Calls Tryd.prog 39 #[.agg #[.int .u8 3, .int .i64 n, .int .i64 a, .int .u8 o, .int .i64 x, .int .i64 y]] w fun e w' => e = .returned (.agg #[.string S4, str [93], str []]) ∧ Kept w w' := by
  have hQ := ((Kept.refl w).alloc (.cells #[.int .u8 3, .int .i64 n, .int .i64 a, .int .u8 o, .int .i64 x, .int .i64 y] 34)).alloc (.cells #[str [], str [], str []] 87)
  have c1 : ((w.alloc (.cells #[.int .u8 3, .int .i64 n, .int .i64 a, .int .u8 o, .int .i64 x, .int .i64 y] 34)).alloc (.cells #[str [], str [], str []] 87)).cell? ⟨w.heap.size, 1, none⟩ = some (.int .i64 n) := by simp
  have c2 : ((w.alloc (.cells #[.int .u8 3, .int .i64 n, .int .i64 a, .int .u8 o, .int .i64 x, .int .i64 y] 34)).alloc (.cells #[str [], str [], str []] 87)).cell? ⟨w.heap.size, 2, none⟩ = some (.int .i64 a) := by simp
  have r0 : ((w.alloc (.cells #[.int .u8 3, .int .i64 n, .int .i64 a, .int .u8 o, .int .i64 x, .int .i64 y] 34)).alloc (.cells #[str [], str [], str []] 87)).heap[w.heap.size + 1]? = some (.cells #[str [], str [], str []] 87) := by
    have hb := (MapKept.heap_alloc (w.alloc (.cells #[.int .u8 3, .int .i64 n, .int .i64 a, .int .u8 o, .int .i64 x, .int .i64 y] 34)) (.cells #[str [], str [], str []] 87)).1
    simpa using hb
  unfold Adds at hS1 hS2 hS3 hS4
  have HA : Makes 51 #[.int .i64 a] ((w.alloc (.cells #[.int .u8 3, .int .i64 n, .int .i64 a, .int .u8 o, .int .i64 x, .int .i64 y] 34)).alloc (.cells #[str [], str [], str []] 87)) A := fun w' hk => hA w' (hQ.trans hk)
  have HN : Makes 50 #[.int .i64 n, .int .i64 10] ((w.alloc (.cells #[.int .u8 3, .int .i64 n, .int .i64 a, .int .u8 o, .int .i64 x, .int .i64 y] 34)).alloc (.cells #[str [], str [], str []] 87)) N := fun w' hk => hN w' (hQ.trans hk)
  have HC1 := Lib.hid c1; clear c1
  have HC2 := Lib.hid c2; clear c2
  have HR := Lib.hid r0; clear r0
  clear hA hN
  have HQ := Lib.hid hQ; clear hQ
  go_enter Tryd.func39, Tryd.ntmps39
  go_wp2_with fail
  change Code.wp _ _ _ _ ((w.alloc (.cells #[.int .u8 3, .int .i64 n, .int .i64 a, .int .u8 o, .int .i64 x, .int .i64 y] 34)).alloc (.cells #[str [], str [], str []] 87))
  have hlow : w.heap.size ≤ w.heap.size + 1 := Nat.le_succ _
  generalize (w.alloc (.cells #[.int .u8 3, .int .i64 n, .int .i64 a, .int .u8 o, .int .i64 x, .int .i64 y] 34)).alloc (.cells #[str [], str [], str []] 87) = W at *
  have hK := Kept.refl W
  have SK : Hid (∀ w', Kept W w' → Kept W w' ∧ w'.cell? ⟨w.heap.size, 1, none⟩ = some (.int .i64 n) ∧ w'.cell? ⟨w.heap.size, 2, none⟩ = some (.int .i64 a) ∧
      w'.cell? ⟨w.heap.size + 1, 0, none⟩ = some (str []) ∧ w'.cell? ⟨w.heap.size + 1, 1, none⟩ = some (str []) ∧ w'.cell? ⟨w.heap.size + 1, 2, none⟩ = some (str []) ∧
      w'.frozen? ⟨w.heap.size + 1, 0, none⟩ = false ∧ w'.frozen? ⟨w.heap.size + 1, 1, none⟩ = false ∧ w'.frozen? ⟨w.heap.size + 1, 2, none⟩ = false) := fun w' hk =>
    have hb := hk.row HR.out
    ⟨hk, hk.cell HC1.out, hk.cell HC2.out, by rw [cell_of_row _ _ _ _ _ _ hb]; rfl, by rw [cell_of_row _ _ _ _ _ _ hb]; rfl, by rw [cell_of_row _ _ _ _ _ _ hb]; rfl, frozen_of_row hb 0, frozen_of_row hb 1, frozen_of_row hb 2⟩
  obtain ⟨_, g1, g2, g3, g4, g5, g6, g7, g8⟩ := SK.out _ (Kept.refl W)
  go_region_with (first
      | (go_at_call 51; refine (makes_held HA (by first | exact Kept.drew hK | assumption)).mono ?_; rintro e w' ⟨rfl, hk⟩; obtain ⟨_, l1, l2, l3, l4, l5, l6, l7, l8⟩ := SK.out _ hk)
      | (go_at_call 50; refine (makes_held HN (by first | exact Kept.drew hK | assumption)).mono ?_; rintro e w' ⟨rfl, hk⟩; obtain ⟨_, l1, l2, l3, l4, l5, l6, l7, l8⟩ := SK.out _ hk))
  all_goals
    go_wp2
    exact bodyPost_ret (v := .agg #[.string S4, str [93], str []]) (by simp [results, Tryd.results39, go_sem, *]) rfl ⟨rfl, (((HQ.out.trans (by assumption)).setCell hlow _).setCell hlow _).setCell hlow _⟩

theorem signOf_nat (o : Nat) : signOf (o : Int) = signN o := by unfold signOf; rw [Int.toNat_natCast]; rfl
theorem signN_le (j : Nat) : (signN j).length ≤ 3 := by unfold signN; split <;> simp

/-- marks: the three marks of a node that may be. -/
theorem marks_any (d : Nd) (w : World) (s : Nat) (hd : d.Ok) (hm : mayB s d = true) (hL : Laid w) :
    Calls Tryd.prog 39 #[d.val] w fun e w' => e = .returned (.agg #[str (mark0 d), str (mark1 d), str (mark2 d)]) ∧ Kept w w' := by
  obtain ⟨k, n, a, o, x, y⟩ := d
  obtain ⟨hk, hn, ha, ho, hx, hy⟩ := hd
  have MN : Makes 50 #[.int .i64 n, .int .i64 10] w ⟨(Lib.itoa n).toArray⟩ := fun w' h => fmt_any n w' hn (hL.kept h)
  have MA : Makes 51 #[.int .i64 a] w ⟨(Lib.itoa a).toArray⟩ := fun w' h => itoa_any a w' ha (hL.kept h)
  have ln := Lib.itoa_length_le n hn.1 hn.2
  have la := Lib.itoa_length_le a ha.1 ha.2
  rcases may_kind hm with h | h | h | h <;> simp only at h <;> subst h
  · exact marks1w n a o x y w _ MN
  · refine marks2w n a o x y w _ _ MN (adds_mk [115] _ (by simp) (by omega))
  · have e := marks3w n a o x y w _ _ _ _ _ _ MA MN (adds_mk [97] _ (by simp) (by omega)) (adds_mk _ [118] (by simp; omega) (by simp)) (adds_mk _ _ (by simp; omega) (by omega)) (adds_mk _ [91] (by simp; omega) (by simp))
    refine e.mono fun e w' h => ⟨?_, h.2⟩
    rw [h.1]
    simp [mark0, mark1, mark2]
  · obtain ⟨h1, h2⟩ := may_op hm rfl
    simp only at h1 h2
    obtain ⟨o', rfl⟩ : ∃ o' : Nat, o = o' := ⟨o.toNat, by omega⟩
    have hl := signN_le o'
    have e := marks4w 4 n a x y o' w _ _ _ (by decide) (by decide) (by decide) (by omega) (hL.signs o' (by omega)) (adds_mk [32] _ (by simp) (by omega)) (adds_mk _ [32] (by simp; omega) (by simp))
    refine e.mono fun e w' h => ⟨?_, h.2⟩
    rw [h.1]
    simp [mark0, mark1, mark2, signOf_nat]
end Go.Proofs.YtjhmbbioplhcgaaDoor
