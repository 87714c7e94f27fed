/-
  Layer 5: the contract of the program's without.
-/
import Derived.Test.YtlikokeknfhejaaGreatDoorCDel
namespace Go.Proofs.YtlikokeknfhejaaGreatDoor
open Go Go.RowKit Go.Sort Go.Lib

/-- A row of one's own with the literals R, in a new block (or none). -/
def RowPost (R : List Int) (w : World) (e : Ending) (w' : World) : Prop :=
  ∃ a c, e = .returned (.slice a R.length c) ∧ w'.ownsRow w.heap.size 3 1 (.slice a R.length c) R.length (R.map (Value.int .i64)) ∧ Kept w w'

set_option maxHeartbeats 1000000 in
theorem without_b (g : Nat) (v : Value) (p : Int → Bool) (la : Option Addr) (n c : Nat) (L : List Int) (w : World) (eg : ∀ args w, (callFunc g args).run Tryz.prog w = .ok (.enter g args) w)
    (hL : IntsAt w la n L) (hn : n ≤ 1000000) (hz : la = none → n = 0 ∧ c = 0) (hp : Pred_b g v p L w) :
    Calls Tryz.prog 87 #[.slice la n c, .func (.func g) #[v] #[]] w (RowPost (L.filter fun x => !p x) w) := by
  have HC := Lib.hid (clone_any la n c L w hL hn hz)
  have HP := Lib.hid hp; have HL := Lib.hid hL; have HEG := Lib.hid eg
  clear hp hL hz eg
  go_enter Tryz.func87, Tryz.ntmps87
  go_wp2_with fail
  refine HC.out.mono ?_
  rintro e w1 ⟨a, c1, rfl, hrow, hk1⟩
  have HROW := Lib.hid hrow; have HK1 := Lib.hid hk1
  have hpt : PredT_b g v p L (a.map (·.block)) w1 := fun y hy W ht => HP.out y hy W (ht.from hk1 fun q hq h => by
    have h1 := (hrow.lt q (by cases a with | none => cases h | some ad => simpa [Value.ownBlock] using h)).1
    omega)
  have HD := Lib.hid (delete_b g v p a n c1 w.heap.size L w1 HEG.out hrow HL.out.len HL.out.inr hn hpt)
  clear hrow hk1 hpt
  go_wp2_with fail
  refine HD.out.mono ?_
  rintro e w2 ⟨rfl, hrow2, ht2⟩
  have HR2 := Lib.hid hrow2; have HT2 := Lib.hid ht2; clear hrow2 ht2
  go_wp2
  go_ret
  refine ⟨a, c1, rfl, HR2.out, HT2.out.from HK1.out fun q hq h => ?_⟩
  have h1 := (HROW.out.lt q (by cases a with | none => cases h | some ad => simpa [Value.ownBlock] using h)).1
  omega

set_option maxHeartbeats 1000000 in
theorem without_c (g : Nat) (v : Value) (p : Int → Bool) (la : Option Addr) (n c : Nat) (L : List Int) (w : World) (eg : ∀ args w, (callFunc g args).run Tryz.prog w = .ok (.enter g args) w)
    (hL : IntsAt w la n L) (hn : n ≤ 1000000) (hz : la = none → n = 0 ∧ c = 0) (hp : Pred_c g v p L w) :
    Calls Tryz.prog 87 #[.slice la n c, .func (.func g) #[] #[v]] w (RowPost (L.filter fun x => !p x) w) := by
  have HC := Lib.hid (clone_any la n c L w hL hn hz)
  have HP := Lib.hid hp; have HL := Lib.hid hL; have HEG := Lib.hid eg
  clear hp hL hz eg
  go_enter Tryz.func87, Tryz.ntmps87
  go_wp2_with fail
  refine HC.out.mono ?_
  rintro e w1 ⟨a, c1, rfl, hrow, hk1⟩
  have HROW := Lib.hid hrow; have HK1 := Lib.hid hk1
  have hpt : PredT_c g v p L (a.map (·.block)) w1 := fun y hy W ht => HP.out y hy W (ht.from hk1 fun q hq h => by
    have h1 := (hrow.lt q (by cases a with | none => cases h | some ad => simpa [Value.ownBlock] using h)).1
    omega)
  have HD := Lib.hid (delete_c g v p a n c1 w.heap.size L w1 HEG.out hrow HL.out.len HL.out.inr hn hpt)
  clear hrow hk1 hpt
  go_wp2_with fail
  refine HD.out.mono ?_
  rintro e w2 ⟨rfl, hrow2, ht2⟩
  have HR2 := Lib.hid hrow2; have HT2 := Lib.hid ht2; clear hrow2 ht2
  go_wp2
  go_ret
  refine ⟨a, c1, rfl, HR2.out, HT2.out.from HK1.out fun q hq h => ?_⟩
  have h1 := (HROW.out.lt q (by cases a with | none => cases h | some ad => simpa [Value.ownBlock] using h)).1
  omega
end Go.Proofs.YtlikokeknfhejaaGreatDoor
