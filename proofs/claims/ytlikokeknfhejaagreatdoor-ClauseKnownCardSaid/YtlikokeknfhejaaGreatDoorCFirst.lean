/-
  Layer 5: strconv.AppendInt of a number below 100 to a text that is just laid, and full.
-/
import Derived.Test.YtlikokeknfhejaaGreatDoorCText
import Derived.Lib.AppendStr
import Derived.Lib.SlBytesConst
import Derived.Shelf.Strconv.Itoa1
namespace Go.Proofs.YtlikokeknfhejaaGreatDoor
open Go Go.RowKit Go.Lib

set_option maxRecDepth 100000 in
/-- append(text, string ..) where there is no room. -/
theorem wpList_append_grows_string {w : World} {ops : Array Oper} {rest : List Oper} {o : Oper} {a : Act} {Q : Exit → Act → World → Prop} (hgd : o.guard = none) (sl x : Operand)
    (ho : o.op = .call { callee := .builtin .append, args := #[sl, x], argTypes := #[26, 9] })
    (b : Addr) (n : Nat) (L : List UInt8) (hl : L.length = n) (hs : a.eval sl = .slice (some b) n n) (holds : ∀ j v, (byteCells L)[j]? = some v → w.cell? (b.add j) = some v) (D : List UInt8) (hD : 0 < D.length) (hx : a.eval x = .string ⟨D.toArray⟩) (hb : n + D.length ≤ 1000000)
    (h : ∀ a' c' w' L', L' = L ++ D → TextAt w w' a' c' L' → wpList Tryz.prog ops Q rest (a.put o.dst (.slice a' L'.length c')) w') : wpList Tryz.prog ops Q (o :: rest) a w := by
  obtain ⟨iu, hi, hz0, hz1, hz2⟩ := info_parts infoU8
  have hsz : (⟨D.toArray⟩ : ByteArray).size = D.length := by simp [ByteArray.size]
  refine wpList_plain hgd fun K hK => ?_
  have hr := run_append_grow_string (P := Tryz.prog) w 26 9 o.type 5 iu (.int .u8 0) Tryz.underlying26 Tryz.underlying9 hi hz0 b n n (byteCells L) (by rw [hz1, byteCells_length, hl]; omega) holds ⟨D.toArray⟩ (by rw [hsz]; omega) (by rw [hsz]; omega) (by rw [hz2, hsz]; exact growslice_fits (by omega) (by omega))
  rw [hsz] at hr
  unfold Oper.wp execOp
  simp only [ho, resolve, invoke, builtin, Sem.run_bind, Sem.run_pure, Result.andThen_ok, List.map_toArray, List.map_cons, List.map_nil, hs, hx, hr]
  have hge := grownCap_ge w (n + D.length) n 5
  have hcm : grownCap w (n + D.length) n 5 ≤ maxLen := grownCap_le_maxLen w (n + D.length) n 5 (by unfold maxLen; omega)
  have hll : (L ++ D).length = n + D.length := by rw [List.length_append, hl]
  have hcl : (byteCells (L ++ D)).length = n + D.length := by rw [byteCells_length, hll]
  refine hK _ _ ?_
  have hT : TextAt w (w.drew.alloc (.cells ((byteCells L).toArray ++ (strCells ⟨D.toArray⟩).toArray ++ Builtin.zeroCells (Value.int .u8 0).cells (grownCap w (n + D.length) n 5 - (n + D.length))) 5)) (some ⟨w.heap.size, 0, none⟩) (grownCap w (n + D.length) n 5) (L ++ D) := by
    refine ⟨⟨by rw [hcl, hll]; omega, .inr ⟨w.heap.size, _, _, rfl, Nat.le_refl _, heap_alloc_new w.drew _, by rw [hll]; exact hge, hcm, ?_, ?_⟩⟩, (Kept.drew (Kept.refl w)).alloc _⟩
    · have hz1 : (Value.int IntKind.u8 0).cells.size = 1 := rfl
      simp only [Array.size_append, List.size_toArray, size_zeroCells, hz1, byteCells_length, strCells_length, hl, hsz]
      omega
    · have e : strCells ⟨D.toArray⟩ = byteCells D := by rw [strCells_eq]
      simp only [Array.toList_append, List.append_assoc]
      rw [← List.append_assoc, e, ← byteCells_append, hll, Nat.mul_one, ← hcl]
      exact List.take_left
  have := h _ _ _ _ rfl hT
  rw [hll] at this
  exact this
set_option maxHeartbeats 2000000 in
set_option maxRecDepth 100000 in
theorem first_uint (u : Nat) (hu : u < 100) (b : Nat) (n : Nat) (L : List UInt8) (hl : L.length = n) (hn : n ≤ 1000) (w : World) (holds : ∀ j v, (byteCells L)[j]? = some v → w.cell? ⟨b, j, none⟩ = some v) :
    Calls Tryz.prog 114 #[.slice (some ⟨b, 0, none⟩) n n, .int .u64 u, .int .i64 10] w fun e w' => ∃ a' c' L', L' = L ++ Lib.itoa u ∧ e = .returned (.slice a' L'.length c') ∧ TextAt w w' a' c' L' := by
  have hpos : 0 < (Lib.decDigits u).length := by
    rw [Lib.decDigits_length]
    by_cases h10 : u < 10
    · rw [Lib.nDigits_small h10]; omega
    · rw [Lib.nDigits_big (by omega)]; omega
  have hle : (Lib.decDigits u).length ≤ 20 := by
    rw [Lib.decDigits_length]
    by_cases h10 : u < 10
    · rw [Lib.nDigits_small h10]; omega
    · rw [Lib.nDigits_big (by omega), Lib.nDigits_small (show u / 10 < 10 by omega)]; omega
  have iu : (u : Int) < 100 := by omega
  have iu0 : (0 : Int) ≤ (u : Int) := by omega
  have HS := Lib.hid (Tryz.internal_strconv_small u hu)
  have hitoa : Lib.itoa (u : Int) = Lib.decDigits u := Lib.itoa_nonneg u
  rw [hitoa]
  have HH := Lib.hid holds; have HL := Lib.hid hl
  clear holds hl hitoa
  go_enter Tryz.func114, Tryz.ntmps114
  go_wp2_with fail
  refine (HS.out _).mono ?_
  rintro e w' ⟨rfl, rfl⟩
  go_wp2_with (at_builtin; refine wpList_append_grows_string rfl _ _ rfl ⟨b, 0, none⟩ n L HL.out rfl (fun j v hj => by rw [Addr.add_lit]; simpa using HH.out j v hj) (Lib.decDigits u) hpos rfl (by omega) ?_; intro a' c' w2 L' hLL ht2; have HT2 := Lib.hid ht2; have HLL := Lib.hid hLL; clear ht2 hLL)
  go_wp2
  go_ret
  exact ⟨a', c', L', HLL.out, rfl, HT2.out⟩
set_option maxHeartbeats 1000000 in
theorem first_int' (u : Nat) (hu : u < 100) (b : Nat) (n : Nat) (L : List UInt8) (hl : L.length = n) (hn : n ≤ 1000) (w : World) (holds : ∀ j v, (byteCells L)[j]? = some v → w.cell? ⟨b, j, none⟩ = some v) :
    Calls Tryz.prog 77 #[.slice (some ⟨b, 0, none⟩) n n, .int .i64 u, .int .i64 10] w fun e w' => ∃ a' c' L', L' = L ++ Lib.itoa u ∧ e = .returned (.slice a' L'.length c') ∧ TextAt w w' a' c' L' := by
  have HC := Lib.hid (first_uint u hu b n L hl hn w holds)
  have iu : (u : Int) < 100 := by omega
  have iu0 : (0 : Int) ≤ (u : Int) := by omega
  clear holds hl
  go_enter Tryz.func77, Tryz.ntmps77
  go_wp2_with fail
  refine HC.out.mono ?_
  rintro e w' ⟨a', c', L', hL, rfl, hT⟩
  have HL := Lib.hid hL; have HT := Lib.hid hT; clear hL hT
  go_wp2
  go_ret
  exact ⟨a', c', L', HL.out, rfl, HT.out⟩
set_option maxHeartbeats 1000000 in
theorem first_int (u : Nat) (hu : u < 100) (b : Nat) (n : Nat) (L : List UInt8) (hl : L.length = n) (hn : n ≤ 1000) (w : World) (holds : ∀ j v, (byteCells L)[j]? = some v → w.cell? ⟨b, j, none⟩ = some v) :
    Calls Tryz.prog 34 #[.slice (some ⟨b, 0, none⟩) n n, .int .i64 u, .int .i64 10] w fun e w' => ∃ a' c' L', L' = L ++ Lib.itoa u ∧ e = .returned (.slice a' L'.length c') ∧ TextAt w w' a' c' L' := by
  have HC := Lib.hid (first_int' u hu b n L hl hn w holds)
  clear holds hl
  go_enter Tryz.func34, Tryz.ntmps34
  go_wp2_with fail
  refine HC.out.mono ?_
  rintro e w' ⟨a', c', L', hL, rfl, hT⟩
  have HL := Lib.hid hL; have HT := Lib.hid hT; clear hL hT
  go_wp2
  go_ret
  exact ⟨a', c', L', HL.out, rfl, HT.out⟩
end Go.Proofs.YtlikokeknfhejaaGreatDoor
