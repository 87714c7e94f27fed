/-
  Layer 2: the reference's graph in memory; PlainNode; the contract of the reference's May.
-/
import Derived.Test.YtjhmbbioplhcgaaDoorTWorks
namespace Go.Proofs.YtjhmbbioplhcgaaDoor
open Go Go.RowKit

set_option maxHeartbeats 1000000 in
theorem plain_any (d : Nd) (w : World) : Calls Tryd.prog 14 #[d.val] w fun e w' => e = .returned d.val ∧ Kept w w' := by
  simp only [Nd.val]
  go_enter Tryd.func14, Tryd.ntmps14
  go_wp2
  exact bodyPost_ret (v := d.val) (by simp [results, Tryd.results14, go_sem, Nd.val]) rfl ⟨rfl, ((Kept.refl _).alloc _).alloc _⟩

set_option maxHeartbeats 2000000 in
theorem rmay1 (h s c : Nat) (sa : Option Addr) (n a o x y : Int) (w : World) (bx bz : Bool) (hbx : Hid (hasB s x = bx)) (hbz : Hid (hasB s y = bz)) (hc : w.cell? ⟨h, 0, none⟩ = some (.slice sa s c)) (b : Bool) (hq : ∀ w, (binOp .eql 37 (.agg #[.int .u8 1, .int .i64 n, .int .i64 a, .int .u8 o, .int .i64 x, .int .i64 y]) (.agg #[.int .u8 1, .int .i64 n, .int .i64 0, .int .u8 0, .int .i64 0, .int .i64 0])).run Tryd.prog w = .ok (.bool b) w) :
    Calls Tryd.prog 35 #[.pointer (some ⟨h, 0, none⟩), .agg #[.int .u8 1, .int .i64 n, .int .i64 a, .int .u8 o, .int .i64 x, .int .i64 y]] w fun e w' => e = .returned (.bool b) ∧ Kept w w' := by
  have hgu := guardRef
  have HKA := Lib.hid ((Kept.refl w).alloc (.cells #[.int .u8 1, .int .i64 n, .int .i64 a, .int .u8 o, .int .i64 x, .int .i64 y] 37))
  have HBX := Lib.hid ((MapKept.heap_alloc w (.cells #[.int .u8 1, .int .i64 n, .int .i64 a, .int .u8 o, .int .i64 x, .int .i64 y] 37)).1)
  have HC := Lib.hid (HKA.out.cell hc)
  go_enter Tryd.func35, Tryd.ntmps35
  go_wp2_with fail
  change Code.wp _ _ _ _ (w.alloc (.cells #[.int .u8 1, .int .i64 n, .int .i64 a, .int .u8 o, .int .i64 x, .int .i64 y] 37))
  generalize w.alloc (.cells #[.int .u8 1, .int .i64 n, .int .i64 a, .int .u8 o, .int .i64 x, .int .i64 y] 37) = W at *
  clear hc
  have SK : Hid (∀ w', Kept W w' → w'.cell? ⟨h, 0, none⟩ = some (.slice sa s c) ∧ w'.cell? ⟨w.heap.size, 0, none⟩ = some (.int .u8 1) ∧ w'.cell? ⟨w.heap.size, 1, none⟩ = some (.int .i64 n) ∧ w'.cell? ⟨w.heap.size, 2, none⟩ = some (.int .i64 a) ∧ w'.cell? ⟨w.heap.size, 3, none⟩ = some (.int .u8 o) ∧ w'.cell? ⟨w.heap.size, 4, none⟩ = some (.int .i64 x) ∧ w'.cell? ⟨w.heap.size, 5, none⟩ = some (.int .i64 y)) := fun w' hk => by
    have h1 := hk.row HBX.out
    refine ⟨hk.cell HC.out, ?_, ?_, ?_, ?_, ?_, ?_⟩ <;> (rw [cell_of_row _ _ _ _ _ _ h1]; rfl)
  go_region_held3 (fun w' => w'.cell? ⟨h, 0, none⟩ = some (.slice sa s c) ∧ w'.cell? ⟨w.heap.size, 0, none⟩ = some (.int .u8 1) ∧ w'.cell? ⟨w.heap.size, 1, none⟩ = some (.int .i64 n) ∧ w'.cell? ⟨w.heap.size, 2, none⟩ = some (.int .i64 a) ∧ w'.cell? ⟨w.heap.size, 3, none⟩ = some (.int .u8 o) ∧ w'.cell? ⟨w.heap.size, 4, none⟩ = some (.int .i64 x) ∧ w'.cell? ⟨w.heap.size, 5, none⟩ = some (.int .i64 y))
    (first | exact SK.out _ (Kept.refl _) | exact SK.out _ (Kept.drew (Kept.refl _)) | assumption | exact ⟨by assumption, by assumption, by assumption, by assumption, by assumption, by assumption, by assumption⟩)
    ((go_at_call 37; refine (refhas_any _ _ _).mono ?_; rintro e w' ⟨rfl, rfl⟩))
  rw [hbx.out, hbz.out]
  have HKD := Lib.hid (HKA.out.drew)
  obtain ⟨f0, f1, f2, f3, f4, f5, f6⟩ := SK.out _ (Kept.drew (Kept.refl W))
  change Exit.then _ _ _ _ W.drew
  generalize W.drew = W2 at *
  go_wp2
  go_ret
  exact ⟨rfl, HKD.out⟩
set_option maxHeartbeats 2000000 in
theorem rmay2f (h s c : Nat) (sa : Option Addr) (n a o x y : Int) (w : World) (bx bz : Bool) (hbx : Hid (hasB s x = bx)) (hbz : Hid (hasB s y = bz)) (hc : w.cell? ⟨h, 0, none⟩ = some (.slice sa s c)) (hq : ∀ w, (binOp .eql 37 (.agg #[.int .u8 2, .int .i64 n, .int .i64 a, .int .u8 o, .int .i64 x, .int .i64 y]) (.agg #[.int .u8 2, .int .i64 n, .int .i64 0, .int .u8 0, .int .i64 0, .int .i64 0])).run Tryd.prog w = .ok (.bool false) w) :
    Calls Tryd.prog 35 #[.pointer (some ⟨h, 0, none⟩), .agg #[.int .u8 2, .int .i64 n, .int .i64 a, .int .u8 o, .int .i64 x, .int .i64 y]] w fun e w' => e = .returned (.bool false) ∧ Kept w w' := by
  have hgu := guardRef
  have HKA := Lib.hid ((Kept.refl w).alloc (.cells #[.int .u8 2, .int .i64 n, .int .i64 a, .int .u8 o, .int .i64 x, .int .i64 y] 37))
  have HBX := Lib.hid ((MapKept.heap_alloc w (.cells #[.int .u8 2, .int .i64 n, .int .i64 a, .int .u8 o, .int .i64 x, .int .i64 y] 37)).1)
  have HC := Lib.hid (HKA.out.cell hc)
  go_enter Tryd.func35, Tryd.ntmps35
  go_wp2_with fail
  change Code.wp _ _ _ _ (w.alloc (.cells #[.int .u8 2, .int .i64 n, .int .i64 a, .int .u8 o, .int .i64 x, .int .i64 y] 37))
  generalize w.alloc (.cells #[.int .u8 2, .int .i64 n, .int .i64 a, .int .u8 o, .int .i64 x, .int .i64 y] 37) = W at *
  clear hc
  have SK : Hid (∀ w', Kept W w' → w'.cell? ⟨h, 0, none⟩ = some (.slice sa s c) ∧ w'.cell? ⟨w.heap.size, 0, none⟩ = some (.int .u8 2) ∧ w'.cell? ⟨w.heap.size, 1, none⟩ = some (.int .i64 n) ∧ w'.cell? ⟨w.heap.size, 2, none⟩ = some (.int .i64 a) ∧ w'.cell? ⟨w.heap.size, 3, none⟩ = some (.int .u8 o) ∧ w'.cell? ⟨w.heap.size, 4, none⟩ = some (.int .i64 x) ∧ w'.cell? ⟨w.heap.size, 5, none⟩ = some (.int .i64 y)) := fun w' hk => by
    have h1 := hk.row HBX.out
    refine ⟨hk.cell HC.out, ?_, ?_, ?_, ?_, ?_, ?_⟩ <;> (rw [cell_of_row _ _ _ _ _ _ h1]; rfl)
  go_region_held3 (fun w' => w'.cell? ⟨h, 0, none⟩ = some (.slice sa s c) ∧ w'.cell? ⟨w.heap.size, 0, none⟩ = some (.int .u8 2) ∧ w'.cell? ⟨w.heap.size, 1, none⟩ = some (.int .i64 n) ∧ w'.cell? ⟨w.heap.size, 2, none⟩ = some (.int .i64 a) ∧ w'.cell? ⟨w.heap.size, 3, none⟩ = some (.int .u8 o) ∧ w'.cell? ⟨w.heap.size, 4, none⟩ = some (.int .i64 x) ∧ w'.cell? ⟨w.heap.size, 5, none⟩ = some (.int .i64 y))
    (first | exact SK.out _ (Kept.refl _) | exact SK.out _ (Kept.drew (Kept.refl _)) | assumption | exact ⟨by assumption, by assumption, by assumption, by assumption, by assumption, by assumption, by assumption⟩)
    ((go_at_call 37; refine (refhas_any _ _ _).mono ?_; rintro e w' ⟨rfl, rfl⟩))
  rw [hbx.out, hbz.out]
  have HKD := Lib.hid (HKA.out.drew)
  obtain ⟨f0, f1, f2, f3, f4, f5, f6⟩ := SK.out _ (Kept.drew (Kept.refl W))
  change Exit.then _ _ _ _ W.drew
  generalize W.drew = W2 at *
  go_wp2
  go_ret
  exact ⟨rfl, HKD.out⟩
set_option maxHeartbeats 2000000 in
theorem rmay2 (h s c : Nat) (sa : Option Addr) (n a o x y : Int) (w : World) (bx bz : Bool) (hbx : Hid (hasB s x = bx)) (hbz : Hid (hasB s y = bz)) (hc : w.cell? ⟨h, 0, none⟩ = some (.slice sa s c)) (hq : ∀ w, (binOp .eql 37 (.agg #[.int .u8 2, .int .i64 n, .int .i64 a, .int .u8 o, .int .i64 x, .int .i64 y]) (.agg #[.int .u8 2, .int .i64 n, .int .i64 0, .int .u8 0, .int .i64 0, .int .i64 0])).run Tryd.prog w = .ok (.bool true) w) (r : Bool) (hr : decide (0 ≤ n) = r) :
    Calls Tryd.prog 35 #[.pointer (some ⟨h, 0, none⟩), .agg #[.int .u8 2, .int .i64 n, .int .i64 a, .int .u8 o, .int .i64 x, .int .i64 y]] w fun e w' => e = .returned (.bool r) ∧ Kept w w' := by
  have hgu := guardRef
  have HKA := Lib.hid ((Kept.refl w).alloc (.cells #[.int .u8 2, .int .i64 n, .int .i64 a, .int .u8 o, .int .i64 x, .int .i64 y] 37))
  have HBX := Lib.hid ((MapKept.heap_alloc w (.cells #[.int .u8 2, .int .i64 n, .int .i64 a, .int .u8 o, .int .i64 x, .int .i64 y] 37)).1)
  have HC := Lib.hid (HKA.out.cell hc)
  go_enter Tryd.func35, Tryd.ntmps35
  go_wp2_with fail
  change Code.wp _ _ _ _ (w.alloc (.cells #[.int .u8 2, .int .i64 n, .int .i64 a, .int .u8 o, .int .i64 x, .int .i64 y] 37))
  generalize w.alloc (.cells #[.int .u8 2, .int .i64 n, .int .i64 a, .int .u8 o, .int .i64 x, .int .i64 y] 37) = W at *
  clear hc
  have SK : Hid (∀ w', Kept W w' → w'.cell? ⟨h, 0, none⟩ = some (.slice sa s c) ∧ w'.cell? ⟨w.heap.size, 0, none⟩ = some (.int .u8 2) ∧ w'.cell? ⟨w.heap.size, 1, none⟩ = some (.int .i64 n) ∧ w'.cell? ⟨w.heap.size, 2, none⟩ = some (.int .i64 a) ∧ w'.cell? ⟨w.heap.size, 3, none⟩ = some (.int .u8 o) ∧ w'.cell? ⟨w.heap.size, 4, none⟩ = some (.int .i64 x) ∧ w'.cell? ⟨w.heap.size, 5, none⟩ = some (.int .i64 y)) := fun w' hk => by
    have h1 := hk.row HBX.out
    refine ⟨hk.cell HC.out, ?_, ?_, ?_, ?_, ?_, ?_⟩ <;> (rw [cell_of_row _ _ _ _ _ _ h1]; rfl)
  go_region_held3 (fun w' => w'.cell? ⟨h, 0, none⟩ = some (.slice sa s c) ∧ w'.cell? ⟨w.heap.size, 0, none⟩ = some (.int .u8 2) ∧ w'.cell? ⟨w.heap.size, 1, none⟩ = some (.int .i64 n) ∧ w'.cell? ⟨w.heap.size, 2, none⟩ = some (.int .i64 a) ∧ w'.cell? ⟨w.heap.size, 3, none⟩ = some (.int .u8 o) ∧ w'.cell? ⟨w.heap.size, 4, none⟩ = some (.int .i64 x) ∧ w'.cell? ⟨w.heap.size, 5, none⟩ = some (.int .i64 y))
    (first | exact SK.out _ (Kept.refl _) | exact SK.out _ (Kept.drew (Kept.refl _)) | assumption | exact ⟨by assumption, by assumption, by assumption, by assumption, by assumption, by assumption, by assumption⟩)
    ((go_at_call 37; refine (refhas_any _ _ _).mono ?_; rintro e w' ⟨rfl, rfl⟩))
  rw [hbx.out, hbz.out]
  have HKD := Lib.hid (HKA.out.drew)
  obtain ⟨f0, f1, f2, f3, f4, f5, f6⟩ := SK.out _ (Kept.drew (Kept.refl W))
  change Exit.then _ _ _ _ W.drew
  generalize W.drew = W2 at *
  go_wp2
  go_ret
  exact ⟨rfl, HKD.out⟩
set_option maxHeartbeats 2000000 in
theorem rmay3f (h s c : Nat) (sa : Option Addr) (n a o x y : Int) (w : World) (bx bz : Bool) (hbx : Hid (hasB s x = bx)) (hbz : Hid (hasB s y = bz)) (hc : w.cell? ⟨h, 0, none⟩ = some (.slice sa s c)) (hq : ∀ w, (binOp .eql 37 (.agg #[.int .u8 3, .int .i64 n, .int .i64 a, .int .u8 o, .int .i64 x, .int .i64 y]) (.agg #[.int .u8 3, .int .i64 n, .int .i64 a, .int .u8 0, .int .i64 0, .int .i64 y])).run Tryd.prog w = .ok (.bool false) w) :
    Calls Tryd.prog 35 #[.pointer (some ⟨h, 0, none⟩), .agg #[.int .u8 3, .int .i64 n, .int .i64 a, .int .u8 o, .int .i64 x, .int .i64 y]] w fun e w' => e = .returned (.bool false) ∧ Kept w w' := by
  have hgu := guardRef
  have HKA := Lib.hid ((Kept.refl w).alloc (.cells #[.int .u8 3, .int .i64 n, .int .i64 a, .int .u8 o, .int .i64 x, .int .i64 y] 37))
  have HBX := Lib.hid ((MapKept.heap_alloc w (.cells #[.int .u8 3, .int .i64 n, .int .i64 a, .int .u8 o, .int .i64 x, .int .i64 y] 37)).1)
  have HC := Lib.hid (HKA.out.cell hc)
  go_enter Tryd.func35, Tryd.ntmps35
  go_wp2_with fail
  change Code.wp _ _ _ _ (w.alloc (.cells #[.int .u8 3, .int .i64 n, .int .i64 a, .int .u8 o, .int .i64 x, .int .i64 y] 37))
  generalize w.alloc (.cells #[.int .u8 3, .int .i64 n, .int .i64 a, .int .u8 o, .int .i64 x, .int .i64 y] 37) = W at *
  clear hc
  have SK : Hid (∀ w', Kept W w' → w'.cell? ⟨h, 0, none⟩ = some (.slice sa s c) ∧ w'.cell? ⟨w.heap.size, 0, none⟩ = some (.int .u8 3) ∧ w'.cell? ⟨w.heap.size, 1, none⟩ = some (.int .i64 n) ∧ w'.cell? ⟨w.heap.size, 2, none⟩ = some (.int .i64 a) ∧ w'.cell? ⟨w.heap.size, 3, none⟩ = some (.int .u8 o) ∧ w'.cell? ⟨w.heap.size, 4, none⟩ = some (.int .i64 x) ∧ w'.cell? ⟨w.heap.size, 5, none⟩ = some (.int .i64 y)) := fun w' hk => by
    have h1 := hk.row HBX.out
    refine ⟨hk.cell HC.out, ?_, ?_, ?_, ?_, ?_, ?_⟩ <;> (rw [cell_of_row _ _ _ _ _ _ h1]; rfl)
  go_region_held3 (fun w' => w'.cell? ⟨h, 0, none⟩ = some (.slice sa s c) ∧ w'.cell? ⟨w.heap.size, 0, none⟩ = some (.int .u8 3) ∧ w'.cell? ⟨w.heap.size, 1, none⟩ = some (.int .i64 n) ∧ w'.cell? ⟨w.heap.size, 2, none⟩ = some (.int .i64 a) ∧ w'.cell? ⟨w.heap.size, 3, none⟩ = some (.int .u8 o) ∧ w'.cell? ⟨w.heap.size, 4, none⟩ = some (.int .i64 x) ∧ w'.cell? ⟨w.heap.size, 5, none⟩ = some (.int .i64 y))
    (first | exact SK.out _ (Kept.refl _) | exact SK.out _ (Kept.drew (Kept.refl _)) | assumption | exact ⟨by assumption, by assumption, by assumption, by assumption, by assumption, by assumption, by assumption⟩)
    ((go_at_call 37; refine (refhas_any _ _ _).mono ?_; rintro e w' ⟨rfl, rfl⟩))
  rw [hbx.out, hbz.out]
  have HKD := Lib.hid (HKA.out.drew)
  obtain ⟨f0, f1, f2, f3, f4, f5, f6⟩ := SK.out _ (Kept.drew (Kept.refl W))
  change Exit.then _ _ _ _ W.drew
  generalize W.drew = W2 at *
  go_wp2
  go_ret
  exact ⟨rfl, HKD.out⟩
set_option maxHeartbeats 2000000 in
theorem rmay3n (h s c : Nat) (sa : Option Addr) (n a o x y : Int) (w : World) (bx bz : Bool) (hbx : Hid (hasB s x = bx)) (hbz : Hid (hasB s y = bz)) (hc : w.cell? ⟨h, 0, none⟩ = some (.slice sa s c)) (hq : ∀ w, (binOp .eql 37 (.agg #[.int .u8 3, .int .i64 n, .int .i64 a, .int .u8 o, .int .i64 x, .int .i64 y]) (.agg #[.int .u8 3, .int .i64 n, .int .i64 a, .int .u8 0, .int .i64 0, .int .i64 y])).run Tryd.prog w = .ok (.bool true) w) (hr : decide (0 ≤ n) = false) :
    Calls Tryd.prog 35 #[.pointer (some ⟨h, 0, none⟩), .agg #[.int .u8 3, .int .i64 n, .int .i64 a, .int .u8 o, .int .i64 x, .int .i64 y]] w fun e w' => e = .returned (.bool false) ∧ Kept w w' := by
  have hgu := guardRef
  have HKA := Lib.hid ((Kept.refl w).alloc (.cells #[.int .u8 3, .int .i64 n, .int .i64 a, .int .u8 o, .int .i64 x, .int .i64 y] 37))
  have HBX := Lib.hid ((MapKept.heap_alloc w (.cells #[.int .u8 3, .int .i64 n, .int .i64 a, .int .u8 o, .int .i64 x, .int .i64 y] 37)).1)
  have HC := Lib.hid (HKA.out.cell hc)
  go_enter Tryd.func35, Tryd.ntmps35
  go_wp2_with fail
  change Code.wp _ _ _ _ (w.alloc (.cells #[.int .u8 3, .int .i64 n, .int .i64 a, .int .u8 o, .int .i64 x, .int .i64 y] 37))
  generalize w.alloc (.cells #[.int .u8 3, .int .i64 n, .int .i64 a, .int .u8 o, .int .i64 x, .int .i64 y] 37) = W at *
  clear hc
  have SK : Hid (∀ w', Kept W w' → w'.cell? ⟨h, 0, none⟩ = some (.slice sa s c) ∧ w'.cell? ⟨w.heap.size, 0, none⟩ = some (.int .u8 3) ∧ w'.cell? ⟨w.heap.size, 1, none⟩ = some (.int .i64 n) ∧ w'.cell? ⟨w.heap.size, 2, none⟩ = some (.int .i64 a) ∧ w'.cell? ⟨w.heap.size, 3, none⟩ = some (.int .u8 o) ∧ w'.cell? ⟨w.heap.size, 4, none⟩ = some (.int .i64 x) ∧ w'.cell? ⟨w.heap.size, 5, none⟩ = some (.int .i64 y)) := fun w' hk => by
    have h1 := hk.row HBX.out
    refine ⟨hk.cell HC.out, ?_, ?_, ?_, ?_, ?_, ?_⟩ <;> (rw [cell_of_row _ _ _ _ _ _ h1]; rfl)
  go_region_held3 (fun w' => w'.cell? ⟨h, 0, none⟩ = some (.slice sa s c) ∧ w'.cell? ⟨w.heap.size, 0, none⟩ = some (.int .u8 3) ∧ w'.cell? ⟨w.heap.size, 1, none⟩ = some (.int .i64 n) ∧ w'.cell? ⟨w.heap.size, 2, none⟩ = some (.int .i64 a) ∧ w'.cell? ⟨w.heap.size, 3, none⟩ = some (.int .u8 o) ∧ w'.cell? ⟨w.heap.size, 4, none⟩ = some (.int .i64 x) ∧ w'.cell? ⟨w.heap.size, 5, none⟩ = some (.int .i64 y))
    (first | exact SK.out _ (Kept.refl _) | exact SK.out _ (Kept.drew (Kept.refl _)) | assumption | exact ⟨by assumption, by assumption, by assumption, by assumption, by assumption, by assumption, by assumption⟩)
    ((go_at_call 37; refine (refhas_any _ _ _).mono ?_; rintro e w' ⟨rfl, rfl⟩))
  rw [hbx.out, hbz.out]
  have HKD := Lib.hid (HKA.out.drew)
  obtain ⟨f0, f1, f2, f3, f4, f5, f6⟩ := SK.out _ (Kept.drew (Kept.refl W))
  change Exit.then _ _ _ _ W.drew
  generalize W.drew = W2 at *
  go_wp2
  go_ret
  exact ⟨rfl, HKD.out⟩
set_option maxHeartbeats 2000000 in
theorem rmay3a (h s c : Nat) (sa : Option Addr) (n a o x y : Int) (w : World) (bx bz : Bool) (hbx : Hid (hasB s x = bx)) (hbz : Hid (hasB s y = bz)) (hc : w.cell? ⟨h, 0, none⟩ = some (.slice sa s c)) (hq : ∀ w, (binOp .eql 37 (.agg #[.int .u8 3, .int .i64 n, .int .i64 a, .int .u8 o, .int .i64 x, .int .i64 y]) (.agg #[.int .u8 3, .int .i64 n, .int .i64 a, .int .u8 0, .int .i64 0, .int .i64 y])).run Tryd.prog w = .ok (.bool true) w) (h1 : 0 ≤ n) (hr : decide (0 ≤ a) = false) :
    Calls Tryd.prog 35 #[.pointer (some ⟨h, 0, none⟩), .agg #[.int .u8 3, .int .i64 n, .int .i64 a, .int .u8 o, .int .i64 x, .int .i64 y]] w fun e w' => e = .returned (.bool false) ∧ Kept w w' := by
  have hgu := guardRef
  have HKA := Lib.hid ((Kept.refl w).alloc (.cells #[.int .u8 3, .int .i64 n, .int .i64 a, .int .u8 o, .int .i64 x, .int .i64 y] 37))
  have HBX := Lib.hid ((MapKept.heap_alloc w (.cells #[.int .u8 3, .int .i64 n, .int .i64 a, .int .u8 o, .int .i64 x, .int .i64 y] 37)).1)
  have HC := Lib.hid (HKA.out.cell hc)
  go_enter Tryd.func35, Tryd.ntmps35
  go_wp2_with fail
  change Code.wp _ _ _ _ (w.alloc (.cells #[.int .u8 3, .int .i64 n, .int .i64 a, .int .u8 o, .int .i64 x, .int .i64 y] 37))
  generalize w.alloc (.cells #[.int .u8 3, .int .i64 n, .int .i64 a, .int .u8 o, .int .i64 x, .int .i64 y] 37) = W at *
  clear hc
  have SK : Hid (∀ w', Kept W w' → w'.cell? ⟨h, 0, none⟩ = some (.slice sa s c) ∧ w'.cell? ⟨w.heap.size, 0, none⟩ = some (.int .u8 3) ∧ w'.cell? ⟨w.heap.size, 1, none⟩ = some (.int .i64 n) ∧ w'.cell? ⟨w.heap.size, 2, none⟩ = some (.int .i64 a) ∧ w'.cell? ⟨w.heap.size, 3, none⟩ = some (.int .u8 o) ∧ w'.cell? ⟨w.heap.size, 4, none⟩ = some (.int .i64 x) ∧ w'.cell? ⟨w.heap.size, 5, none⟩ = some (.int .i64 y)) := fun w' hk => by
    have h1 := hk.row HBX.out
    refine ⟨hk.cell HC.out, ?_, ?_, ?_, ?_, ?_, ?_⟩ <;> (rw [cell_of_row _ _ _ _ _ _ h1]; rfl)
  go_region_held3 (fun w' => w'.cell? ⟨h, 0, none⟩ = some (.slice sa s c) ∧ w'.cell? ⟨w.heap.size, 0, none⟩ = some (.int .u8 3) ∧ w'.cell? ⟨w.heap.size, 1, none⟩ = some (.int .i64 n) ∧ w'.cell? ⟨w.heap.size, 2, none⟩ = some (.int .i64 a) ∧ w'.cell? ⟨w.heap.size, 3, none⟩ = some (.int .u8 o) ∧ w'.cell? ⟨w.heap.size, 4, none⟩ = some (.int .i64 x) ∧ w'.cell? ⟨w.heap.size, 5, none⟩ = some (.int .i64 y))
    (first | exact SK.out _ (Kept.refl _) | exact SK.out _ (Kept.drew (Kept.refl _)) | assumption | exact ⟨by assumption, by assumption, by assumption, by assumption, by assumption, by assumption, by assumption⟩)
    ((go_at_call 37; refine (refhas_any _ _ _).mono ?_; rintro e w' ⟨rfl, rfl⟩))
  rw [hbx.out, hbz.out]
  have HKD := Lib.hid (HKA.out.drew)
  obtain ⟨f0, f1, f2, f3, f4, f5, f6⟩ := SK.out _ (Kept.drew (Kept.refl W))
  change Exit.then _ _ _ _ W.drew
  generalize W.drew = W2 at *
  go_wp2
  go_ret
  exact ⟨rfl, HKD.out⟩
set_option maxHeartbeats 2000000 in
theorem rmay3 (h s c : Nat) (sa : Option Addr) (n a o x y : Int) (w : World) (bx bz : Bool) (hbx : Hid (hasB s x = bx)) (hbz : Hid (hasB s y = bz)) (hc : w.cell? ⟨h, 0, none⟩ = some (.slice sa s c)) (hq : ∀ w, (binOp .eql 37 (.agg #[.int .u8 3, .int .i64 n, .int .i64 a, .int .u8 o, .int .i64 x, .int .i64 y]) (.agg #[.int .u8 3, .int .i64 n, .int .i64 a, .int .u8 0, .int .i64 0, .int .i64 y])).run Tryd.prog w = .ok (.bool true) w) (h1 : 0 ≤ n) (h2 : 0 ≤ a) :
    Calls Tryd.prog 35 #[.pointer (some ⟨h, 0, none⟩), .agg #[.int .u8 3, .int .i64 n, .int .i64 a, .int .u8 o, .int .i64 x, .int .i64 y]] w fun e w' => e = .returned (.bool bz) ∧ Kept w w' := by
  have hgu := guardRef
  have HKA := Lib.hid ((Kept.refl w).alloc (.cells #[.int .u8 3, .int .i64 n, .int .i64 a, .int .u8 o, .int .i64 x, .int .i64 y] 37))
  have HBX := Lib.hid ((MapKept.heap_alloc w (.cells #[.int .u8 3, .int .i64 n, .int .i64 a, .int .u8 o, .int .i64 x, .int .i64 y] 37)).1)
  have HC := Lib.hid (HKA.out.cell hc)
  go_enter Tryd.func35, Tryd.ntmps35
  go_wp2_with fail
  change Code.wp _ _ _ _ (w.alloc (.cells #[.int .u8 3, .int .i64 n, .int .i64 a, .int .u8 o, .int .i64 x, .int .i64 y] 37))
  generalize w.alloc (.cells #[.int .u8 3, .int .i64 n, .int .i64 a, .int .u8 o, .int .i64 x, .int .i64 y] 37) = W at *
  clear hc
  have SK : Hid (∀ w', Kept W w' → w'.cell? ⟨h, 0, none⟩ = some (.slice sa s c) ∧ w'.cell? ⟨w.heap.size, 0, none⟩ = some (.int .u8 3) ∧ w'.cell? ⟨w.heap.size, 1, none⟩ = some (.int .i64 n) ∧ w'.cell? ⟨w.heap.size, 2, none⟩ = some (.int .i64 a) ∧ w'.cell? ⟨w.heap.size, 3, none⟩ = some (.int .u8 o) ∧ w'.cell? ⟨w.heap.size, 4, none⟩ = some (.int .i64 x) ∧ w'.cell? ⟨w.heap.size, 5, none⟩ = some (.int .i64 y)) := fun w' hk => by
    have h1 := hk.row HBX.out
    refine ⟨hk.cell HC.out, ?_, ?_, ?_, ?_, ?_, ?_⟩ <;> (rw [cell_of_row _ _ _ _ _ _ h1]; rfl)
  go_region_held3 (fun w' => w'.cell? ⟨h, 0, none⟩ = some (.slice sa s c) ∧ w'.cell? ⟨w.heap.size, 0, none⟩ = some (.int .u8 3) ∧ w'.cell? ⟨w.heap.size, 1, none⟩ = some (.int .i64 n) ∧ w'.cell? ⟨w.heap.size, 2, none⟩ = some (.int .i64 a) ∧ w'.cell? ⟨w.heap.size, 3, none⟩ = some (.int .u8 o) ∧ w'.cell? ⟨w.heap.size, 4, none⟩ = some (.int .i64 x) ∧ w'.cell? ⟨w.heap.size, 5, none⟩ = some (.int .i64 y))
    (first | exact SK.out _ (Kept.refl _) | exact SK.out _ (Kept.drew (Kept.refl _)) | assumption | exact ⟨by assumption, by assumption, by assumption, by assumption, by assumption, by assumption, by assumption⟩)
    ((go_at_call 37; refine (refhas_any _ _ _).mono ?_; rintro e w' ⟨rfl, rfl⟩))
  rw [hbx.out, hbz.out]
  have HKD := Lib.hid (HKA.out.drew)
  obtain ⟨f0, f1, f2, f3, f4, f5, f6⟩ := SK.out _ (Kept.drew (Kept.refl W))
  change Exit.then _ _ _ _ W.drew
  generalize W.drew = W2 at *
  go_wp2
  go_ret
  exact ⟨rfl, HKD.out⟩
set_option maxHeartbeats 2000000 in
theorem rmay4f (h s c : Nat) (sa : Option Addr) (n a o x y : Int) (w : World) (bx bz : Bool) (hbx : Hid (hasB s x = bx)) (hbz : Hid (hasB s y = bz)) (hc : w.cell? ⟨h, 0, none⟩ = some (.slice sa s c)) (hq : ∀ w, (binOp .eql 37 (.agg #[.int .u8 4, .int .i64 n, .int .i64 a, .int .u8 o, .int .i64 x, .int .i64 y]) (.agg #[.int .u8 4, .int .i64 0, .int .i64 0, .int .u8 o, .int .i64 x, .int .i64 y])).run Tryd.prog w = .ok (.bool false) w) :
    Calls Tryd.prog 35 #[.pointer (some ⟨h, 0, none⟩), .agg #[.int .u8 4, .int .i64 n, .int .i64 a, .int .u8 o, .int .i64 x, .int .i64 y]] w fun e w' => e = .returned (.bool false) ∧ Kept w w' := by
  have hgu := guardRef
  have HKA := Lib.hid ((Kept.refl w).alloc (.cells #[.int .u8 4, .int .i64 n, .int .i64 a, .int .u8 o, .int .i64 x, .int .i64 y] 37))
  have HBX := Lib.hid ((MapKept.heap_alloc w (.cells #[.int .u8 4, .int .i64 n, .int .i64 a, .int .u8 o, .int .i64 x, .int .i64 y] 37)).1)
  have HC := Lib.hid (HKA.out.cell hc)
  go_enter Tryd.func35, Tryd.ntmps35
  go_wp2_with fail
  change Code.wp _ _ _ _ (w.alloc (.cells #[.int .u8 4, .int .i64 n, .int .i64 a, .int .u8 o, .int .i64 x, .int .i64 y] 37))
  generalize w.alloc (.cells #[.int .u8 4, .int .i64 n, .int .i64 a, .int .u8 o, .int .i64 x, .int .i64 y] 37) = W at *
  clear hc
  have SK : Hid (∀ w', Kept W w' → w'.cell? ⟨h, 0, none⟩ = some (.slice sa s c) ∧ w'.cell? ⟨w.heap.size, 0, none⟩ = some (.int .u8 4) ∧ w'.cell? ⟨w.heap.size, 1, none⟩ = some (.int .i64 n) ∧ w'.cell? ⟨w.heap.size, 2, none⟩ = some (.int .i64 a) ∧ w'.cell? ⟨w.heap.size, 3, none⟩ = some (.int .u8 o) ∧ w'.cell? ⟨w.heap.size, 4, none⟩ = some (.int .i64 x) ∧ w'.cell? ⟨w.heap.size, 5, none⟩ = some (.int .i64 y)) := fun w' hk => by
    have h1 := hk.row HBX.out
    refine ⟨hk.cell HC.out, ?_, ?_, ?_, ?_, ?_, ?_⟩ <;> (rw [cell_of_row _ _ _ _ _ _ h1]; rfl)
  go_region_held3 (fun w' => w'.cell? ⟨h, 0, none⟩ = some (.slice sa s c) ∧ w'.cell? ⟨w.heap.size, 0, none⟩ = some (.int .u8 4) ∧ w'.cell? ⟨w.heap.size, 1, none⟩ = some (.int .i64 n) ∧ w'.cell? ⟨w.heap.size, 2, none⟩ = some (.int .i64 a) ∧ w'.cell? ⟨w.heap.size, 3, none⟩ = some (.int .u8 o) ∧ w'.cell? ⟨w.heap.size, 4, none⟩ = some (.int .i64 x) ∧ w'.cell? ⟨w.heap.size, 5, none⟩ = some (.int .i64 y))
    (first | exact SK.out _ (Kept.refl _) | exact SK.out _ (Kept.drew (Kept.refl _)) | assumption | exact ⟨by assumption, by assumption, by assumption, by assumption, by assumption, by assumption, by assumption⟩)
    ((go_at_call 37; refine (refhas_any _ _ _).mono ?_; rintro e w' ⟨rfl, rfl⟩))
  rw [hbx.out, hbz.out]
  have HKD := Lib.hid (HKA.out.drew)
  obtain ⟨f0, f1, f2, f3, f4, f5, f6⟩ := SK.out _ (Kept.drew (Kept.refl W))
  change Exit.then _ _ _ _ W.drew
  generalize W.drew = W2 at *
  go_wp2
  go_ret
  exact ⟨rfl, HKD.out⟩
set_option maxHeartbeats 2000000 in
theorem rmay4l (h s c : Nat) (sa : Option Addr) (n a o x y : Int) (w : World) (bx bz : Bool) (hbx : Hid (hasB s x = bx)) (hbz : Hid (hasB s y = bz)) (hc : w.cell? ⟨h, 0, none⟩ = some (.slice sa s c)) (hq : ∀ w, (binOp .eql 37 (.agg #[.int .u8 4, .int .i64 n, .int .i64 a, .int .u8 o, .int .i64 x, .int .i64 y]) (.agg #[.int .u8 4, .int .i64 0, .int .i64 0, .int .u8 o, .int .i64 x, .int .i64 y])).run Tryd.prog w = .ok (.bool true) w) (hr : decide (1 ≤ o) = false) :
    Calls Tryd.prog 35 #[.pointer (some ⟨h, 0, none⟩), .agg #[.int .u8 4, .int .i64 n, .int .i64 a, .int .u8 o, .int .i64 x, .int .i64 y]] w fun e w' => e = .returned (.bool false) ∧ Kept w w' := by
  have hgu := guardRef
  have HKA := Lib.hid ((Kept.refl w).alloc (.cells #[.int .u8 4, .int .i64 n, .int .i64 a, .int .u8 o, .int .i64 x, .int .i64 y] 37))
  have HBX := Lib.hid ((MapKept.heap_alloc w (.cells #[.int .u8 4, .int .i64 n, .int .i64 a, .int .u8 o, .int .i64 x, .int .i64 y] 37)).1)
  have HC := Lib.hid (HKA.out.cell hc)
  go_enter Tryd.func35, Tryd.ntmps35
  go_wp2_with fail
  change Code.wp _ _ _ _ (w.alloc (.cells #[.int .u8 4, .int .i64 n, .int .i64 a, .int .u8 o, .int .i64 x, .int .i64 y] 37))
  generalize w.alloc (.cells #[.int .u8 4, .int .i64 n, .int .i64 a, .int .u8 o, .int .i64 x, .int .i64 y] 37) = W at *
  clear hc
  have SK : Hid (∀ w', Kept W w' → w'.cell? ⟨h, 0, none⟩ = some (.slice sa s c) ∧ w'.cell? ⟨w.heap.size, 0, none⟩ = some (.int .u8 4) ∧ w'.cell? ⟨w.heap.size, 1, none⟩ = some (.int .i64 n) ∧ w'.cell? ⟨w.heap.size, 2, none⟩ = some (.int .i64 a) ∧ w'.cell? ⟨w.heap.size, 3, none⟩ = some (.int .u8 o) ∧ w'.cell? ⟨w.heap.size, 4, none⟩ = some (.int .i64 x) ∧ w'.cell? ⟨w.heap.size, 5, none⟩ = some (.int .i64 y)) := fun w' hk => by
    have h1 := hk.row HBX.out
    refine ⟨hk.cell HC.out, ?_, ?_, ?_, ?_, ?_, ?_⟩ <;> (rw [cell_of_row _ _ _ _ _ _ h1]; rfl)
  go_region_held3 (fun w' => w'.cell? ⟨h, 0, none⟩ = some (.slice sa s c) ∧ w'.cell? ⟨w.heap.size, 0, none⟩ = some (.int .u8 4) ∧ w'.cell? ⟨w.heap.size, 1, none⟩ = some (.int .i64 n) ∧ w'.cell? ⟨w.heap.size, 2, none⟩ = some (.int .i64 a) ∧ w'.cell? ⟨w.heap.size, 3, none⟩ = some (.int .u8 o) ∧ w'.cell? ⟨w.heap.size, 4, none⟩ = some (.int .i64 x) ∧ w'.cell? ⟨w.heap.size, 5, none⟩ = some (.int .i64 y))
    (first | exact SK.out _ (Kept.refl _) | exact SK.out _ (Kept.drew (Kept.refl _)) | assumption | exact ⟨by assumption, by assumption, by assumption, by assumption, by assumption, by assumption, by assumption⟩)
    ((go_at_call 37; refine (refhas_any _ _ _).mono ?_; rintro e w' ⟨rfl, rfl⟩))
  rw [hbx.out, hbz.out]
  have HKD := Lib.hid (HKA.out.drew)
  obtain ⟨f0, f1, f2, f3, f4, f5, f6⟩ := SK.out _ (Kept.drew (Kept.refl W))
  change Exit.then _ _ _ _ W.drew
  generalize W.drew = W2 at *
  go_wp2
  go_ret
  exact ⟨rfl, HKD.out⟩
set_option maxHeartbeats 2000000 in
theorem rmay4h (h s c : Nat) (sa : Option Addr) (n a o x y : Int) (w : World) (bx bz : Bool) (hbx : Hid (hasB s x = bx)) (hbz : Hid (hasB s y = bz)) (hc : w.cell? ⟨h, 0, none⟩ = some (.slice sa s c)) (hq : ∀ w, (binOp .eql 37 (.agg #[.int .u8 4, .int .i64 n, .int .i64 a, .int .u8 o, .int .i64 x, .int .i64 y]) (.agg #[.int .u8 4, .int .i64 0, .int .i64 0, .int .u8 o, .int .i64 x, .int .i64 y])).run Tryd.prog w = .ok (.bool true) w) (h1 : 1 ≤ o) (hr : decide (o ≤ 16) = false) :
    Calls Tryd.prog 35 #[.pointer (some ⟨h, 0, none⟩), .agg #[.int .u8 4, .int .i64 n, .int .i64 a, .int .u8 o, .int .i64 x, .int .i64 y]] w fun e w' => e = .returned (.bool false) ∧ Kept w w' := by
  have hgu := guardRef
  have HKA := Lib.hid ((Kept.refl w).alloc (.cells #[.int .u8 4, .int .i64 n, .int .i64 a, .int .u8 o, .int .i64 x, .int .i64 y] 37))
  have HBX := Lib.hid ((MapKept.heap_alloc w (.cells #[.int .u8 4, .int .i64 n, .int .i64 a, .int .u8 o, .int .i64 x, .int .i64 y] 37)).1)
  have HC := Lib.hid (HKA.out.cell hc)
  go_enter Tryd.func35, Tryd.ntmps35
  go_wp2_with fail
  change Code.wp _ _ _ _ (w.alloc (.cells #[.int .u8 4, .int .i64 n, .int .i64 a, .int .u8 o, .int .i64 x, .int .i64 y] 37))
  generalize w.alloc (.cells #[.int .u8 4, .int .i64 n, .int .i64 a, .int .u8 o, .int .i64 x, .int .i64 y] 37) = W at *
  clear hc
  have SK : Hid (∀ w', Kept W w' → w'.cell? ⟨h, 0, none⟩ = some (.slice sa s c) ∧ w'.cell? ⟨w.heap.size, 0, none⟩ = some (.int .u8 4) ∧ w'.cell? ⟨w.heap.size, 1, none⟩ = some (.int .i64 n) ∧ w'.cell? ⟨w.heap.size, 2, none⟩ = some (.int .i64 a) ∧ w'.cell? ⟨w.heap.size, 3, none⟩ = some (.int .u8 o) ∧ w'.cell? ⟨w.heap.size, 4, none⟩ = some (.int .i64 x) ∧ w'.cell? ⟨w.heap.size, 5, none⟩ = some (.int .i64 y)) := fun w' hk => by
    have h1 := hk.row HBX.out
    refine ⟨hk.cell HC.out, ?_, ?_, ?_, ?_, ?_, ?_⟩ <;> (rw [cell_of_row _ _ _ _ _ _ h1]; rfl)
  go_region_held3 (fun w' => w'.cell? ⟨h, 0, none⟩ = some (.slice sa s c) ∧ w'.cell? ⟨w.heap.size, 0, none⟩ = some (.int .u8 4) ∧ w'.cell? ⟨w.heap.size, 1, none⟩ = some (.int .i64 n) ∧ w'.cell? ⟨w.heap.size, 2, none⟩ = some (.int .i64 a) ∧ w'.cell? ⟨w.heap.size, 3, none⟩ = some (.int .u8 o) ∧ w'.cell? ⟨w.heap.size, 4, none⟩ = some (.int .i64 x) ∧ w'.cell? ⟨w.heap.size, 5, none⟩ = some (.int .i64 y))
    (first | exact SK.out _ (Kept.refl _) | exact SK.out _ (Kept.drew (Kept.refl _)) | assumption | exact ⟨by assumption, by assumption, by assumption, by assumption, by assumption, by assumption, by assumption⟩)
    ((go_at_call 37; refine (refhas_any _ _ _).mono ?_; rintro e w' ⟨rfl, rfl⟩))
  rw [hbx.out, hbz.out]
  have HKD := Lib.hid (HKA.out.drew)
  obtain ⟨f0, f1, f2, f3, f4, f5, f6⟩ := SK.out _ (Kept.drew (Kept.refl W))
  change Exit.then _ _ _ _ W.drew
  generalize W.drew = W2 at *
  go_wp2
  go_ret
  exact ⟨rfl, HKD.out⟩
set_option maxHeartbeats 2000000 in
theorem rmay4x (h s c : Nat) (sa : Option Addr) (n a o x y : Int) (w : World) (bx bz : Bool) (hbx : Hid (hasB s x = bx)) (hbz : Hid (hasB s y = bz)) (hc : w.cell? ⟨h, 0, none⟩ = some (.slice sa s c)) (hq : ∀ w, (binOp .eql 37 (.agg #[.int .u8 4, .int .i64 n, .int .i64 a, .int .u8 o, .int .i64 x, .int .i64 y]) (.agg #[.int .u8 4, .int .i64 0, .int .i64 0, .int .u8 o, .int .i64 x, .int .i64 y])).run Tryd.prog w = .ok (.bool true) w) (h1 : 1 ≤ o) (h2 : o ≤ 16) (hx : bx = false) :
    Calls Tryd.prog 35 #[.pointer (some ⟨h, 0, none⟩), .agg #[.int .u8 4, .int .i64 n, .int .i64 a, .int .u8 o, .int .i64 x, .int .i64 y]] w fun e w' => e = .returned (.bool false) ∧ Kept w w' := by
  have hgu := guardRef
  have HKA := Lib.hid ((Kept.refl w).alloc (.cells #[.int .u8 4, .int .i64 n, .int .i64 a, .int .u8 o, .int .i64 x, .int .i64 y] 37))
  have HBX := Lib.hid ((MapKept.heap_alloc w (.cells #[.int .u8 4, .int .i64 n, .int .i64 a, .int .u8 o, .int .i64 x, .int .i64 y] 37)).1)
  have HC := Lib.hid (HKA.out.cell hc)
  subst hx
  go_enter Tryd.func35, Tryd.ntmps35
  go_wp2_with fail
  change Code.wp _ _ _ _ (w.alloc (.cells #[.int .u8 4, .int .i64 n, .int .i64 a, .int .u8 o, .int .i64 x, .int .i64 y] 37))
  generalize w.alloc (.cells #[.int .u8 4, .int .i64 n, .int .i64 a, .int .u8 o, .int .i64 x, .int .i64 y] 37) = W at *
  clear hc
  have SK : Hid (∀ w', Kept W w' → w'.cell? ⟨h, 0, none⟩ = some (.slice sa s c) ∧ w'.cell? ⟨w.heap.size, 0, none⟩ = some (.int .u8 4) ∧ w'.cell? ⟨w.heap.size, 1, none⟩ = some (.int .i64 n) ∧ w'.cell? ⟨w.heap.size, 2, none⟩ = some (.int .i64 a) ∧ w'.cell? ⟨w.heap.size, 3, none⟩ = some (.int .u8 o) ∧ w'.cell? ⟨w.heap.size, 4, none⟩ = some (.int .i64 x) ∧ w'.cell? ⟨w.heap.size, 5, none⟩ = some (.int .i64 y)) := fun w' hk => by
    have h1 := hk.row HBX.out
    refine ⟨hk.cell HC.out, ?_, ?_, ?_, ?_, ?_, ?_⟩ <;> (rw [cell_of_row _ _ _ _ _ _ h1]; rfl)
  go_region_held3 (fun w' => w'.cell? ⟨h, 0, none⟩ = some (.slice sa s c) ∧ w'.cell? ⟨w.heap.size, 0, none⟩ = some (.int .u8 4) ∧ w'.cell? ⟨w.heap.size, 1, none⟩ = some (.int .i64 n) ∧ w'.cell? ⟨w.heap.size, 2, none⟩ = some (.int .i64 a) ∧ w'.cell? ⟨w.heap.size, 3, none⟩ = some (.int .u8 o) ∧ w'.cell? ⟨w.heap.size, 4, none⟩ = some (.int .i64 x) ∧ w'.cell? ⟨w.heap.size, 5, none⟩ = some (.int .i64 y))
    (first | exact SK.out _ (Kept.refl _) | exact SK.out _ (Kept.drew (Kept.refl _)) | assumption | exact ⟨by assumption, by assumption, by assumption, by assumption, by assumption, by assumption, by assumption⟩)
    ((go_at_call 37; refine (refhas_any _ _ _).mono ?_; rintro e w' ⟨rfl, rfl⟩))
  rw [hbx.out, hbz.out]
  have HKD := Lib.hid (HKA.out.drew)
  obtain ⟨f0, f1, f2, f3, f4, f5, f6⟩ := SK.out _ (Kept.drew (Kept.refl W))
  change Exit.then _ _ _ _ W.drew
  generalize W.drew = W2 at *
  go_wp2
  go_ret
  exact ⟨rfl, HKD.out⟩
set_option maxHeartbeats 2000000 in
theorem rmay4 (h s c : Nat) (sa : Option Addr) (n a o x y : Int) (w : World) (bx bz : Bool) (hbx : Hid (hasB s x = bx)) (hbz : Hid (hasB s y = bz)) (hc : w.cell? ⟨h, 0, none⟩ = some (.slice sa s c)) (hq : ∀ w, (binOp .eql 37 (.agg #[.int .u8 4, .int .i64 n, .int .i64 a, .int .u8 o, .int .i64 x, .int .i64 y]) (.agg #[.int .u8 4, .int .i64 0, .int .i64 0, .int .u8 o, .int .i64 x, .int .i64 y])).run Tryd.prog w = .ok (.bool true) w) (h1 : 1 ≤ o) (h2 : o ≤ 16) (hx : bx = true) :
    Calls Tryd.prog 35 #[.pointer (some ⟨h, 0, none⟩), .agg #[.int .u8 4, .int .i64 n, .int .i64 a, .int .u8 o, .int .i64 x, .int .i64 y]] w fun e w' => e = .returned (.bool bz) ∧ Kept w w' := by
  have hgu := guardRef
  have HKA := Lib.hid ((Kept.refl w).alloc (.cells #[.int .u8 4, .int .i64 n, .int .i64 a, .int .u8 o, .int .i64 x, .int .i64 y] 37))
  have HBX := Lib.hid ((MapKept.heap_alloc w (.cells #[.int .u8 4, .int .i64 n, .int .i64 a, .int .u8 o, .int .i64 x, .int .i64 y] 37)).1)
  have HC := Lib.hid (HKA.out.cell hc)
  subst hx
  go_enter Tryd.func35, Tryd.ntmps35
  go_wp2_with fail
  change Code.wp _ _ _ _ (w.alloc (.cells #[.int .u8 4, .int .i64 n, .int .i64 a, .int .u8 o, .int .i64 x, .int .i64 y] 37))
  generalize w.alloc (.cells #[.int .u8 4, .int .i64 n, .int .i64 a, .int .u8 o, .int .i64 x, .int .i64 y] 37) = W at *
  clear hc
  have SK : Hid (∀ w', Kept W w' → w'.cell? ⟨h, 0, none⟩ = some (.slice sa s c) ∧ w'.cell? ⟨w.heap.size, 0, none⟩ = some (.int .u8 4) ∧ w'.cell? ⟨w.heap.size, 1, none⟩ = some (.int .i64 n) ∧ w'.cell? ⟨w.heap.size, 2, none⟩ = some (.int .i64 a) ∧ w'.cell? ⟨w.heap.size, 3, none⟩ = some (.int .u8 o) ∧ w'.cell? ⟨w.heap.size, 4, none⟩ = some (.int .i64 x) ∧ w'.cell? ⟨w.heap.size, 5, none⟩ = some (.int .i64 y)) := fun w' hk => by
    have h1 := hk.row HBX.out
    refine ⟨hk.cell HC.out, ?_, ?_, ?_, ?_, ?_, ?_⟩ <;> (rw [cell_of_row _ _ _ _ _ _ h1]; rfl)
  go_region_held3 (fun w' => w'.cell? ⟨h, 0, none⟩ = some (.slice sa s c) ∧ w'.cell? ⟨w.heap.size, 0, none⟩ = some (.int .u8 4) ∧ w'.cell? ⟨w.heap.size, 1, none⟩ = some (.int .i64 n) ∧ w'.cell? ⟨w.heap.size, 2, none⟩ = some (.int .i64 a) ∧ w'.cell? ⟨w.heap.size, 3, none⟩ = some (.int .u8 o) ∧ w'.cell? ⟨w.heap.size, 4, none⟩ = some (.int .i64 x) ∧ w'.cell? ⟨w.heap.size, 5, none⟩ = some (.int .i64 y))
    (first | exact SK.out _ (Kept.refl _) | exact SK.out _ (Kept.drew (Kept.refl _)) | assumption | exact ⟨by assumption, by assumption, by assumption, by assumption, by assumption, by assumption, by assumption⟩)
    ((go_at_call 37; refine (refhas_any _ _ _).mono ?_; rintro e w' ⟨rfl, rfl⟩))
  rw [hbx.out, hbz.out]
  have HKD := Lib.hid (HKA.out.drew)
  obtain ⟨f0, f1, f2, f3, f4, f5, f6⟩ := SK.out _ (Kept.drew (Kept.refl W))
  change Exit.then _ _ _ _ W.drew
  generalize W.drew = W2 at *
  go_wp2
  go_ret
  exact ⟨rfl, HKD.out⟩
set_option maxHeartbeats 2000000 in
theorem rmay0 (h s c : Nat) (sa : Option Addr) (n a o x y k : Int) (w : World) (bx bz : Bool) (hbx : Hid (hasB s x = bx)) (hbz : Hid (hasB s y = bz)) (hc : w.cell? ⟨h, 0, none⟩ = some (.slice sa s c)) (k1 : (k == 1) = false) (k2 : (k == 2) = false) (k3 : (k == 3) = false) (k4 : (k == 4) = false) :
    Calls Tryd.prog 35 #[.pointer (some ⟨h, 0, none⟩), .agg #[.int .u8 k, .int .i64 n, .int .i64 a, .int .u8 o, .int .i64 x, .int .i64 y]] w fun e w' => e = .returned (.bool false) ∧ Kept w w' := by
  have hgu := guardRef
  have HKA := Lib.hid ((Kept.refl w).alloc (.cells #[.int .u8 k, .int .i64 n, .int .i64 a, .int .u8 o, .int .i64 x, .int .i64 y] 37))
  have HBX := Lib.hid ((MapKept.heap_alloc w (.cells #[.int .u8 k, .int .i64 n, .int .i64 a, .int .u8 o, .int .i64 x, .int .i64 y] 37)).1)
  have HC := Lib.hid (HKA.out.cell hc)
  go_enter Tryd.func35, Tryd.ntmps35
  go_wp2_with fail
  change Code.wp _ _ _ _ (w.alloc (.cells #[.int .u8 k, .int .i64 n, .int .i64 a, .int .u8 o, .int .i64 x, .int .i64 y] 37))
  generalize w.alloc (.cells #[.int .u8 k, .int .i64 n, .int .i64 a, .int .u8 o, .int .i64 x, .int .i64 y] 37) = W at *
  clear hc
  have SK : Hid (∀ w', Kept W w' → w'.cell? ⟨h, 0, none⟩ = some (.slice sa s c) ∧ w'.cell? ⟨w.heap.size, 0, none⟩ = some (.int .u8 k) ∧ w'.cell? ⟨w.heap.size, 1, none⟩ = some (.int .i64 n) ∧ w'.cell? ⟨w.heap.size, 2, none⟩ = some (.int .i64 a) ∧ w'.cell? ⟨w.heap.size, 3, none⟩ = some (.int .u8 o) ∧ w'.cell? ⟨w.heap.size, 4, none⟩ = some (.int .i64 x) ∧ w'.cell? ⟨w.heap.size, 5, none⟩ = some (.int .i64 y)) := fun w' hk => by
    have h1 := hk.row HBX.out
    refine ⟨hk.cell HC.out, ?_, ?_, ?_, ?_, ?_, ?_⟩ <;> (rw [cell_of_row _ _ _ _ _ _ h1]; rfl)
  go_region_held3 (fun w' => w'.cell? ⟨h, 0, none⟩ = some (.slice sa s c) ∧ w'.cell? ⟨w.heap.size, 0, none⟩ = some (.int .u8 k) ∧ w'.cell? ⟨w.heap.size, 1, none⟩ = some (.int .i64 n) ∧ w'.cell? ⟨w.heap.size, 2, none⟩ = some (.int .i64 a) ∧ w'.cell? ⟨w.heap.size, 3, none⟩ = some (.int .u8 o) ∧ w'.cell? ⟨w.heap.size, 4, none⟩ = some (.int .i64 x) ∧ w'.cell? ⟨w.heap.size, 5, none⟩ = some (.int .i64 y))
    (first | exact SK.out _ (Kept.refl _) | exact SK.out _ (Kept.drew (Kept.refl _)) | assumption | exact ⟨by assumption, by assumption, by assumption, by assumption, by assumption, by assumption, by assumption⟩)
    ((go_at_call 37; refine (refhas_any _ _ _).mono ?_; rintro e w' ⟨rfl, rfl⟩))
  rw [hbx.out, hbz.out]
  have HKD := Lib.hid (HKA.out.drew)
  obtain ⟨f0, f1, f2, f3, f4, f5, f6⟩ := SK.out _ (Kept.drew (Kept.refl W))
  change Exit.then _ _ _ _ W.drew
  generalize W.drew = W2 at *
  go_wp2
  go_ret
  exact ⟨rfl, HKD.out⟩

theorem rmay_any {g s c : Nat} {sa : Option Addr} {w : World} (hc : w.cell? ⟨g, 0, none⟩ = some (.slice sa s c)) (d : Nd) :
    Calls Tryd.prog 35 #[.pointer (some ⟨g, 0, none⟩), d.val] w fun e w' => e = .returned (.bool (mayB s d)) ∧ Kept w w' := by
  obtain ⟨k, n, a, o, x, y⟩ := d
  have fin : ∀ {b : Bool}, Calls Tryd.prog 35 #[.pointer (some ⟨g, 0, none⟩), Nd.val ⟨k, n, a, o, x, y⟩] w (fun e w' => e = .returned (.bool b) ∧ Kept w w') → b = mayB s ⟨k, n, a, o, x, y⟩ →
      Calls Tryd.prog 35 #[.pointer (some ⟨g, 0, none⟩), Nd.val ⟨k, n, a, o, x, y⟩] w (fun e w' => e = .returned (.bool (mayB s ⟨k, n, a, o, x, y⟩)) ∧ Kept w w') := fun hw hb => hb ▸ hw
  by_cases k1 : k = 1
  · subst k1
    refine fin (rmay1 g s c sa n a o x y w _ _ (Lib.hid rfl) (Lib.hid rfl) hc _ (fun w => eq_ref ⟨1, n, a, o, x, y⟩ ⟨1, n, 0, 0, 0, 0⟩ w)) ?_
    simp [Nd.eqb, mayB]
  · by_cases k2 : k = 2
    · subst k2
      have he := fun w => eq_ref ⟨2, n, a, o, x, y⟩ ⟨2, n, 0, 0, 0, 0⟩ w
      cases hb : Nd.eqb ⟨2, n, a, o, x, y⟩ ⟨2, n, 0, 0, 0, 0⟩ with
      | false =>
        rw [hb] at he
        refine fin (rmay2f g s c sa n a o x y w _ _ (Lib.hid rfl) (Lib.hid rfl) hc he) ?_
        simp [Nd.eqb] at hb; simp [mayB]; omega
      | true =>
        rw [hb] at he
        refine fin (rmay2 g s c sa n a o x y w _ _ (Lib.hid rfl) (Lib.hid rfl) hc he _ rfl) ?_
        simp [Nd.eqb] at hb; simp [mayB, hb]
    · by_cases k3 : k = 3
      · subst k3
        have he := fun w => eq_ref ⟨3, n, a, o, x, y⟩ ⟨3, n, a, 0, 0, y⟩ w
        cases hb : Nd.eqb ⟨3, n, a, o, x, y⟩ ⟨3, n, a, 0, 0, y⟩ with
        | false =>
          rw [hb] at he
          refine fin (rmay3f g s c sa n a o x y w _ _ (Lib.hid rfl) (Lib.hid rfl) hc he) ?_
          simp [Nd.eqb] at hb; simp [mayB, hasB]; omega
        | true =>
          rw [hb] at he
          simp [Nd.eqb] at hb
          by_cases h1 : 0 ≤ n
          · by_cases h2 : 0 ≤ a
            · refine fin (rmay3 g s c sa n a o x y w _ _ (Lib.hid rfl) (Lib.hid rfl) hc he h1 h2) ?_
              simp [mayB, hb, h1, h2]
            · refine fin (rmay3a g s c sa n a o x y w _ _ (Lib.hid rfl) (Lib.hid rfl) hc he h1 (decide_eq_false h2)) ?_
              simp [mayB, h2]
          · refine fin (rmay3n g s c sa n a o x y w _ _ (Lib.hid rfl) (Lib.hid rfl) hc he (decide_eq_false h1)) ?_
            simp [mayB, h1]
      · by_cases k4 : k = 4
        · subst k4
          have he := fun w => eq_ref ⟨4, n, a, o, x, y⟩ ⟨4, 0, 0, o, x, y⟩ w
          cases hb : Nd.eqb ⟨4, n, a, o, x, y⟩ ⟨4, 0, 0, o, x, y⟩ with
          | false =>
            rw [hb] at he
            refine fin (rmay4f g s c sa n a o x y w _ _ (Lib.hid rfl) (Lib.hid rfl) hc he) ?_
            simp [Nd.eqb] at hb; simp [mayB, hasB]; omega
          | true =>
            rw [hb] at he
            simp [Nd.eqb] at hb
            by_cases h1 : 1 ≤ o
            · by_cases h2 : o ≤ 16
              · cases hx : hasB s x with
                | true =>
                  refine fin (rmay4 g s c sa n a o x y w _ _ (Lib.hid rfl) (Lib.hid rfl) hc he h1 h2 hx) ?_
                  simp [mayB, hb, h1, h2, hx]
                | false =>
                  refine fin (rmay4x g s c sa n a o x y w _ _ (Lib.hid rfl) (Lib.hid rfl) hc he h1 h2 hx) ?_
                  simp [mayB, hx]
              · refine fin (rmay4h g s c sa n a o x y w _ _ (Lib.hid rfl) (Lib.hid rfl) hc he h1 (decide_eq_false h2)) ?_
                simp [mayB, h2]
            · refine fin (rmay4l g s c sa n a o x y w _ _ (Lib.hid rfl) (Lib.hid rfl) hc he (decide_eq_false h1)) ?_
              simp [mayB, h1]
        · refine fin (rmay0 g s c sa n a o x y k w _ _ (Lib.hid rfl) (Lib.hid rfl) hc (by simpa using k1) (by simpa using k2) (by simpa using k3) (by simpa using k4)) ?_
          simp [mayB, k1, k2, k3, k4]
end Go.Proofs.YtjhmbbioplhcgaaDoor
