/-
  Layer 2: the contract of mayBe: it answers mayB, and writes nothing that was there.
-/
import Derived.Test.YtjhmbbioplhcgaaDoorTMay
namespace Go.Proofs.YtjhmbbioplhcgaaDoor
open Go Go.RowKit

set_option maxHeartbeats 1000000 in
theorem may1 (g s c : Nat) (sa : Option Addr) (n a o x y : Int) (w : World) (_hc : w.cell? ⟨g, 0, none⟩ = some (.slice sa s c)) (b : Bool) (hq : ∀ w, (binOp .eql 34 (.agg #[.int .u8 1, .int .i64 n, .int .i64 a, .int .u8 o, .int .i64 x, .int .i64 y]) (.agg #[.int .u8 1, .int .i64 n, .int .i64 0, .int .u8 0, .int .i64 0, .int .i64 0])).run Tryd.prog w = .ok (.bool b) w) :
    Calls Tryd.prog 33 #[.pointer (some ⟨g, 0, none⟩), .agg #[.int .u8 1, .int .i64 n, .int .i64 a, .int .u8 o, .int .i64 x, .int .i64 y]] w fun e w' => e = .returned (.bool b) ∧ Kept w w' := by
  have hgu := guardNode
  go_enter Tryd.func33, Tryd.ntmps33
  go_wp2
  go_ret
  exact ⟨rfl, (Kept.refl _).alloc _⟩
set_option maxHeartbeats 1000000 in
theorem may2f (g s c : Nat) (sa : Option Addr) (n a o x y : Int) (w : World) (_hc : w.cell? ⟨g, 0, none⟩ = some (.slice sa s c)) (hq : ∀ w, (binOp .eql 34 (.agg #[.int .u8 2, .int .i64 n, .int .i64 a, .int .u8 o, .int .i64 x, .int .i64 y]) (.agg #[.int .u8 2, .int .i64 n, .int .i64 0, .int .u8 0, .int .i64 0, .int .i64 0])).run Tryd.prog w = .ok (.bool false) w) :
    Calls Tryd.prog 33 #[.pointer (some ⟨g, 0, none⟩), .agg #[.int .u8 2, .int .i64 n, .int .i64 a, .int .u8 o, .int .i64 x, .int .i64 y]] w fun e w' => e = .returned (.bool false) ∧ Kept w w' := by
  have hgu := guardNode
  go_enter Tryd.func33, Tryd.ntmps33
  go_wp2
  go_ret
  exact ⟨rfl, (Kept.refl _).alloc _⟩
set_option maxHeartbeats 1000000 in
theorem may2 (g s c : Nat) (sa : Option Addr) (n a o x y : Int) (w : World) (_hc : w.cell? ⟨g, 0, none⟩ = some (.slice sa s c)) (hq : ∀ w, (binOp .eql 34 (.agg #[.int .u8 2, .int .i64 n, .int .i64 a, .int .u8 o, .int .i64 x, .int .i64 y]) (.agg #[.int .u8 2, .int .i64 n, .int .i64 0, .int .u8 0, .int .i64 0, .int .i64 0])).run Tryd.prog w = .ok (.bool true) w) (r : Bool) (hr : decide (0 ≤ n) = r) :
    Calls Tryd.prog 33 #[.pointer (some ⟨g, 0, none⟩), .agg #[.int .u8 2, .int .i64 n, .int .i64 a, .int .u8 o, .int .i64 x, .int .i64 y]] w fun e w' => e = .returned (.bool r) ∧ Kept w w' := by
  have hgu := guardNode
  go_enter Tryd.func33, Tryd.ntmps33
  go_wp2
  go_ret
  exact ⟨rfl, (Kept.refl _).alloc _⟩
set_option maxHeartbeats 1000000 in
theorem may3f (g s c : Nat) (sa : Option Addr) (n a o x y : Int) (w : World) (_hc : w.cell? ⟨g, 0, none⟩ = some (.slice sa s c)) (hq : ∀ w, (binOp .eql 34 (.agg #[.int .u8 3, .int .i64 n, .int .i64 a, .int .u8 o, .int .i64 x, .int .i64 y]) (.agg #[.int .u8 3, .int .i64 n, .int .i64 a, .int .u8 0, .int .i64 0, .int .i64 y])).run Tryd.prog w = .ok (.bool false) w) :
    Calls Tryd.prog 33 #[.pointer (some ⟨g, 0, none⟩), .agg #[.int .u8 3, .int .i64 n, .int .i64 a, .int .u8 o, .int .i64 x, .int .i64 y]] w fun e w' => e = .returned (.bool false) ∧ Kept w w' := by
  have hgu := guardNode
  go_enter Tryd.func33, Tryd.ntmps33
  go_wp2
  go_ret
  exact ⟨rfl, (Kept.refl _).alloc _⟩
set_option maxHeartbeats 1000000 in
theorem may3n (g s c : Nat) (sa : Option Addr) (n a o x y : Int) (w : World) (_hc : w.cell? ⟨g, 0, none⟩ = some (.slice sa s c)) (hq : ∀ w, (binOp .eql 34 (.agg #[.int .u8 3, .int .i64 n, .int .i64 a, .int .u8 o, .int .i64 x, .int .i64 y]) (.agg #[.int .u8 3, .int .i64 n, .int .i64 a, .int .u8 0, .int .i64 0, .int .i64 y])).run Tryd.prog w = .ok (.bool true) w) (hr : decide (0 ≤ n) = false) :
    Calls Tryd.prog 33 #[.pointer (some ⟨g, 0, none⟩), .agg #[.int .u8 3, .int .i64 n, .int .i64 a, .int .u8 o, .int .i64 x, .int .i64 y]] w fun e w' => e = .returned (.bool false) ∧ Kept w w' := by
  have hgu := guardNode
  go_enter Tryd.func33, Tryd.ntmps33
  go_wp2
  go_ret
  exact ⟨rfl, (Kept.refl _).alloc _⟩
set_option maxHeartbeats 1000000 in
theorem may3a (g s c : Nat) (sa : Option Addr) (n a o x y : Int) (w : World) (_hc : w.cell? ⟨g, 0, none⟩ = some (.slice sa s c)) (hq : ∀ w, (binOp .eql 34 (.agg #[.int .u8 3, .int .i64 n, .int .i64 a, .int .u8 o, .int .i64 x, .int .i64 y]) (.agg #[.int .u8 3, .int .i64 n, .int .i64 a, .int .u8 0, .int .i64 0, .int .i64 y])).run Tryd.prog w = .ok (.bool true) w) (h1 : 0 ≤ n) (hr : decide (0 ≤ a) = false) :
    Calls Tryd.prog 33 #[.pointer (some ⟨g, 0, none⟩), .agg #[.int .u8 3, .int .i64 n, .int .i64 a, .int .u8 o, .int .i64 x, .int .i64 y]] w fun e w' => e = .returned (.bool false) ∧ Kept w w' := by
  have hgu := guardNode
  go_enter Tryd.func33, Tryd.ntmps33
  go_wp2
  go_ret
  exact ⟨rfl, (Kept.refl _).alloc _⟩
set_option maxHeartbeats 1000000 in
theorem may3 (g s c : Nat) (sa : Option Addr) (n a o x y : Int) (w : World) (hc : w.cell? ⟨g, 0, none⟩ = some (.slice sa s c)) (hq : ∀ w, (binOp .eql 34 (.agg #[.int .u8 3, .int .i64 n, .int .i64 a, .int .u8 o, .int .i64 x, .int .i64 y]) (.agg #[.int .u8 3, .int .i64 n, .int .i64 a, .int .u8 0, .int .i64 0, .int .i64 y])).run Tryd.prog w = .ok (.bool true) w) (h1 : 0 ≤ n) (h2 : 0 ≤ a) :
    Calls Tryd.prog 33 #[.pointer (some ⟨g, 0, none⟩), .agg #[.int .u8 3, .int .i64 n, .int .i64 a, .int .u8 o, .int .i64 x, .int .i64 y]] w fun e w' => e = .returned (.bool (hasB s y)) ∧ Kept w w' := by
  have hgu := guardNode
  go_enter Tryd.func33, Tryd.ntmps33
  go_wp2_with ((go_at_call 36; refine (has_cell _ _ _ _ _ _ ((Kept.alloc (Kept.refl _) _).cell hc)).mono ?_; rintro e w' ⟨rfl, rfl⟩))
  go_ret
  exact ⟨rfl, (Kept.refl _).alloc _⟩
set_option maxHeartbeats 1000000 in
theorem may4f (g s c : Nat) (sa : Option Addr) (n a o x y : Int) (w : World) (_hc : w.cell? ⟨g, 0, none⟩ = some (.slice sa s c)) (hq : ∀ w, (binOp .eql 34 (.agg #[.int .u8 4, .int .i64 n, .int .i64 a, .int .u8 o, .int .i64 x, .int .i64 y]) (.agg #[.int .u8 4, .int .i64 0, .int .i64 0, .int .u8 o, .int .i64 x, .int .i64 y])).run Tryd.prog w = .ok (.bool false) w) :
    Calls Tryd.prog 33 #[.pointer (some ⟨g, 0, none⟩), .agg #[.int .u8 4, .int .i64 n, .int .i64 a, .int .u8 o, .int .i64 x, .int .i64 y]] w fun e w' => e = .returned (.bool false) ∧ Kept w w' := by
  have hgu := guardNode
  go_enter Tryd.func33, Tryd.ntmps33
  go_wp2
  go_ret
  exact ⟨rfl, (Kept.refl _).alloc _⟩
set_option maxHeartbeats 1000000 in
theorem may4l (g s c : Nat) (sa : Option Addr) (n a o x y : Int) (w : World) (_hc : w.cell? ⟨g, 0, none⟩ = some (.slice sa s c)) (hq : ∀ w, (binOp .eql 34 (.agg #[.int .u8 4, .int .i64 n, .int .i64 a, .int .u8 o, .int .i64 x, .int .i64 y]) (.agg #[.int .u8 4, .int .i64 0, .int .i64 0, .int .u8 o, .int .i64 x, .int .i64 y])).run Tryd.prog w = .ok (.bool true) w) (hr : decide (1 ≤ o) = false) :
    Calls Tryd.prog 33 #[.pointer (some ⟨g, 0, none⟩), .agg #[.int .u8 4, .int .i64 n, .int .i64 a, .int .u8 o, .int .i64 x, .int .i64 y]] w fun e w' => e = .returned (.bool false) ∧ Kept w w' := by
  have hgu := guardNode
  go_enter Tryd.func33, Tryd.ntmps33
  go_wp2
  go_ret
  exact ⟨rfl, (Kept.refl _).alloc _⟩
set_option maxHeartbeats 1000000 in
theorem may4h (g s c : Nat) (sa : Option Addr) (n a o x y : Int) (w : World) (_hc : w.cell? ⟨g, 0, none⟩ = some (.slice sa s c)) (hq : ∀ w, (binOp .eql 34 (.agg #[.int .u8 4, .int .i64 n, .int .i64 a, .int .u8 o, .int .i64 x, .int .i64 y]) (.agg #[.int .u8 4, .int .i64 0, .int .i64 0, .int .u8 o, .int .i64 x, .int .i64 y])).run Tryd.prog w = .ok (.bool true) w) (h1 : 1 ≤ o) (hr : decide (o ≤ 16) = false) :
    Calls Tryd.prog 33 #[.pointer (some ⟨g, 0, none⟩), .agg #[.int .u8 4, .int .i64 n, .int .i64 a, .int .u8 o, .int .i64 x, .int .i64 y]] w fun e w' => e = .returned (.bool false) ∧ Kept w w' := by
  have hgu := guardNode
  go_enter Tryd.func33, Tryd.ntmps33
  go_wp2
  go_ret
  exact ⟨rfl, (Kept.refl _).alloc _⟩
set_option maxHeartbeats 1000000 in
theorem may4x (g s c : Nat) (sa : Option Addr) (n a o x y : Int) (w : World) (hc : w.cell? ⟨g, 0, none⟩ = some (.slice sa s c)) (hq : ∀ w, (binOp .eql 34 (.agg #[.int .u8 4, .int .i64 n, .int .i64 a, .int .u8 o, .int .i64 x, .int .i64 y]) (.agg #[.int .u8 4, .int .i64 0, .int .i64 0, .int .u8 o, .int .i64 x, .int .i64 y])).run Tryd.prog w = .ok (.bool true) w) (h1 : 1 ≤ o) (h2 : o ≤ 16) (hx : Hid (hasB s x = false)) :
    Calls Tryd.prog 33 #[.pointer (some ⟨g, 0, none⟩), .agg #[.int .u8 4, .int .i64 n, .int .i64 a, .int .u8 o, .int .i64 x, .int .i64 y]] w fun e w' => e = .returned (.bool false) ∧ Kept w w' := by
  have hgu := guardNode
  go_enter Tryd.func33, Tryd.ntmps33
  go_wp2_with ((go_at_call 36; refine (has_cell _ _ _ _ _ _ ((Kept.alloc (Kept.refl _) _).cell hc)).mono ?_; rintro e w' ⟨rfl, rfl⟩; rw [hx.out]))
  go_ret
  exact ⟨rfl, (Kept.refl _).alloc _⟩
set_option maxHeartbeats 1000000 in
theorem may4 (g s c : Nat) (sa : Option Addr) (n a o x y : Int) (w : World) (hc : w.cell? ⟨g, 0, none⟩ = some (.slice sa s c)) (hq : ∀ w, (binOp .eql 34 (.agg #[.int .u8 4, .int .i64 n, .int .i64 a, .int .u8 o, .int .i64 x, .int .i64 y]) (.agg #[.int .u8 4, .int .i64 0, .int .i64 0, .int .u8 o, .int .i64 x, .int .i64 y])).run Tryd.prog w = .ok (.bool true) w) (h1 : 1 ≤ o) (h2 : o ≤ 16) (hx : Hid (hasB s x = true)) :
    Calls Tryd.prog 33 #[.pointer (some ⟨g, 0, none⟩), .agg #[.int .u8 4, .int .i64 n, .int .i64 a, .int .u8 o, .int .i64 x, .int .i64 y]] w fun e w' => e = .returned (.bool (hasB s y)) ∧ Kept w w' := by
  have hgu := guardNode
  go_enter Tryd.func33, Tryd.ntmps33
  go_wp2_with ((go_at_call 36; refine (has_cell _ _ _ _ _ _ ((Kept.alloc (Kept.refl _) _).cell hc)).mono ?_; rintro e w' ⟨rfl, rfl⟩; try rw [hx.out]))
  go_ret
  exact ⟨rfl, (Kept.refl _).alloc _⟩
set_option maxHeartbeats 1000000 in
theorem may0 (g s c : Nat) (sa : Option Addr) (n a o x y k : Int) (w : World) (_hc : w.cell? ⟨g, 0, none⟩ = some (.slice sa s c)) (k1 : (k == 1) = false) (k2 : (k == 2) = false) (k3 : (k == 3) = false) (k4 : (k == 4) = false) :
    Calls Tryd.prog 33 #[.pointer (some ⟨g, 0, none⟩), .agg #[.int .u8 k, .int .i64 n, .int .i64 a, .int .u8 o, .int .i64 x, .int .i64 y]] w fun e w' => e = .returned (.bool false) ∧ Kept w w' := by
  have hgu := guardNode
  go_enter Tryd.func33, Tryd.ntmps33
  go_wp2
  go_ret
  exact ⟨rfl, (Kept.refl _).alloc _⟩

theorem may_any {B g m c : Nat} {sa : Option Addr} {L : List Nd} {w : World} (h : GraphAt B w g m sa c L) (d : Nd) :
    Calls Tryd.prog 33 #[.pointer (some ⟨g, 0, none⟩), d.val] w fun e w' => e = .returned (.bool (mayB L.length d)) ∧ Kept w w' := by
  have hc := h.cell0
  generalize L.length = s at hc
  clear h
  obtain ⟨k, n, a, o, x, y⟩ := d
  have fin : ∀ {b : Bool}, Calls Tryd.prog 33 #[.pointer (some ⟨g, 0, none⟩), Nd.val ⟨k, n, a, o, x, y⟩] w (fun e w' => e = .returned (.bool b) ∧ Kept w w') → b = mayB s ⟨k, n, a, o, x, y⟩ →
      Calls Tryd.prog 33 #[.pointer (some ⟨g, 0, none⟩), Nd.val ⟨k, n, a, o, x, y⟩] w (fun e w' => e = .returned (.bool (mayB s ⟨k, n, a, o, x, y⟩)) ∧ Kept w w') := fun hw hb => hb ▸ hw
  by_cases k1 : k = 1
  · subst k1
    refine fin (may1 g s c sa n a o x y w hc _ (fun w => eq_node ⟨1, n, a, o, x, y⟩ ⟨1, n, 0, 0, 0, 0⟩ w)) ?_
    simp [Nd.eqb, mayB]
  · by_cases k2 : k = 2
    · subst k2
      have he := fun w => eq_node ⟨2, n, a, o, x, y⟩ ⟨2, n, 0, 0, 0, 0⟩ w
      cases hb : Nd.eqb ⟨2, n, a, o, x, y⟩ ⟨2, n, 0, 0, 0, 0⟩ with
      | false =>
        rw [hb] at he
        refine fin (may2f g s c sa n a o x y w hc he) ?_
        simp [Nd.eqb] at hb; simp [mayB]; omega
      | true =>
        rw [hb] at he
        refine fin (may2 g s c sa n a o x y w hc he _ rfl) ?_
        simp [Nd.eqb] at hb; simp [mayB, hb]
    · by_cases k3 : k = 3
      · subst k3
        have he := fun w => eq_node ⟨3, n, a, o, x, y⟩ ⟨3, n, a, 0, 0, y⟩ w
        cases hb : Nd.eqb ⟨3, n, a, o, x, y⟩ ⟨3, n, a, 0, 0, y⟩ with
        | false =>
          rw [hb] at he
          refine fin (may3f g s c sa n a o x y w hc he) ?_
          simp [Nd.eqb] at hb; simp [mayB, hasB]; omega
        | true =>
          rw [hb] at he
          simp [Nd.eqb] at hb
          by_cases h1 : 0 ≤ n
          · by_cases h2 : 0 ≤ a
            · refine fin (may3 g s c sa n a o x y w hc he h1 h2) ?_
              simp [mayB, hb, h1, h2]
            · refine fin (may3a g s c sa n a o x y w hc he h1 (decide_eq_false h2)) ?_
              simp [mayB, h2]
          · refine fin (may3n g s c sa n a o x y w hc he (decide_eq_false h1)) ?_
            simp [mayB, h1]
      · by_cases k4 : k = 4
        · subst k4
          have he := fun w => eq_node ⟨4, n, a, o, x, y⟩ ⟨4, 0, 0, o, x, y⟩ w
          cases hb : Nd.eqb ⟨4, n, a, o, x, y⟩ ⟨4, 0, 0, o, x, y⟩ with
          | false =>
            rw [hb] at he
            refine fin (may4f g s c sa n a o x y w hc he) ?_
            simp [Nd.eqb] at hb; simp [mayB, hasB]; omega
          | true =>
            rw [hb] at he
            simp [Nd.eqb] at hb
            by_cases h1 : 1 ≤ o
            · by_cases h2 : o ≤ 16
              · cases hx : hasB s x with
                | true =>
                  refine fin (may4 g s c sa n a o x y w hc he h1 h2 (Lib.hid hx)) ?_
                  simp [mayB, hb, h1, h2, hx]
                | false =>
                  refine fin (may4x g s c sa n a o x y w hc he h1 h2 (Lib.hid hx)) ?_
                  simp [mayB, hx]
              · refine fin (may4h g s c sa n a o x y w hc he h1 (decide_eq_false h2)) ?_
                simp [mayB, h2]
            · refine fin (may4l g s c sa n a o x y w hc he (decide_eq_false h1)) ?_
              simp [mayB, h1]
        · refine fin (may0 g s c sa n a o x y k w hc (by simpa using k1) (by simpa using k2) (by simpa using k3) (by simpa using k4)) ?_
          simp [mayB, k1, k2, k3, k4]
end Go.Proofs.YtjhmbbioplhcgaaDoor
