/-
  Layer 5: contracts of slices.IndexFunc, ContainsFunc and DeleteFunc at literals: at a function value that is bound to a value (b), and at one that has a captured variable (c).
-/
import Derived.Test.YtlikokeknfhejaaGreatDoorCClean
import Derived.Lib.SliceRun
namespace Go.Proofs.YtlikokeknfhejaaGreatDoor
open Go Go.RowKit Go.Sort Go.Lib

/-- The first place of which p tells, or -1. -/
def IxIs (p : Int → Bool) (L : List Int) (i : Int) : Prop := (i = -1 ∧ L.any p = false) ∨ ∃ (j : Nat) (y : Int), i = j ∧ L[j]? = some y ∧ p y = true ∧ (L.take j).any p = false
def ixB (i : Int) : Bool := decide (0 ≤ i)
theorem IxIs.any {p : Int → Bool} {L : List Int} {i : Int} (h : IxIs p L i) : ixB i = L.any p := by
  rcases h with ⟨rfl, h⟩ | ⟨j, y, rfl, hj, hp, _⟩
  · rw [h]; rfl
  · rw [show L.any p = true from List.any_eq_true.2 ⟨y, List.mem_of_getElem? hj, hp⟩]
    unfold ixB; simp
def IxPost (p : Int → Bool) (L : List Int) (w : World) (e : Ending) (w' : World) : Prop := (∃ i : Int, IxIs p L i ∧ e = .returned (.int .i64 i)) ∧ Kept w w'
def BoolPost (b : Bool) (w : World) (e : Ending) (w' : World) : Prop := e = .returned (.bool b) ∧ Kept w w'

/-- What is asked of the function value. -/
def Pred_b (g : Nat) (v : Value) (p : Int → Bool) (L : List Int) (w : World) : Prop := ∀ y ∈ L, ∀ W, Kept w W → Calls Tryz.prog g #[v, .int .i64 y] W (BoolPost (p y) W)
set_option maxHeartbeats 2000000 in
theorem index_b (g : Nat) (v : Value) (p : Int → Bool) (la : Option Addr) (n c : Nat) (L : List Int) (w : World) (eg : ∀ args w, (callFunc g args).run Tryz.prog w = .ok (.enter g args) w)
    (hL : IntsAt w la n L) (hn : n ≤ 1000000) (hp : Pred_b g v p L w) :
    Calls Tryz.prog 111 #[.slice la n c, .func (.func g) #[v] #[]] w (IxPost p L w) := by
  have HL := Lib.hid hL; have HP := Lib.hid hp; clear hL hp
  go_enter Tryz.func111, Tryz.ntmps111
  go_wp2
  go_loopw [8] (fun i wr => ∃ j : Nat, j ≤ n ∧ i = .int .i64 j ∧ (L.take j).any p = false ∧ Kept w wr) (fun i _ => n - (intOf i).toNat)
  case atStart => exact ⟨0, Nat.zero_le _, rfl, rfl, Kept.refl _⟩
  case round =>
    obtain ⟨j, hj, rfl, hno, hK⟩ := hrel
    have HN := Lib.hid hno; have HK := Lib.hid hK; clear hno hK
    have j0 : (0 : Int) ≤ (j : Int) := Int.natCast_nonneg _
    by_cases hjn : j < n
    · have j1 : (j : Int) < (n : Int) := by omega
      obtain ⟨b, off, rfl, hc⟩ := HL.out.at_ (by omega)
      have hjl : j < L.length := by rw [HL.out.len]; exact hjn
      obtain ⟨y, hy⟩ : ∃ y, L[j]? = some y := ⟨_, List.getElem?_eq_getElem hjl⟩
      have x0 := HK.out.cell (hc j y hy)
      have HC := Lib.hid (HP.out y (List.mem_of_getElem? hy) wr HK.out)
      have HY := Lib.hid hy
      have HTK : Hid (L.take (j + 1) = L.take j ++ [y]) := by
        show _ = _
        rw [List.take_succ_eq_append_getElem hjl, (List.getElem?_eq_some_iff.1 hy).2]
      clear hc hy hjl
      cases hpy : p y with
      | true =>
        rw [hpy] at HC
        have HPY := Lib.hid hpy; clear hpy
        go_wp2_with fail
        refine HC.out.mono ?_
        rintro e w2 ⟨rfl, hk2⟩
        have HK2 := Lib.hid hk2; clear hk2
        go_wp2
        go_ret
        exact ⟨⟨j, Or.inr ⟨j, y, rfl, HY.out, HPY.out, HN.out⟩, rfl⟩, HK.out.trans HK2.out⟩
      | false =>
        rw [hpy] at HC
        have HPY := Lib.hid hpy; clear hpy
        go_wp2_with fail
        refine HC.out.mono ?_
        rintro e w2 ⟨rfl, hk2⟩
        have HK2 := Lib.hid hk2; clear hk2
        go_wp2
        go_roundw
        case rel =>
          refine ⟨j + 1, by omega, by go_num, ?_, HK.out.trans HK2.out⟩
          rw [HTK.out, List.any_append, HN.out]
          simp [HPY.out]
        case measure => simp [intOf]; omega
    · obtain rfl : j = n := by omega
      go_wp2
      go_ret
      refine ⟨⟨-1, Or.inl ⟨rfl, ?_⟩, rfl⟩, HK.out⟩
      have := HN.out
      rwa [← HL.out.len, List.take_length] at this
set_option maxHeartbeats 1000000 in
theorem contains_b (g : Nat) (v : Value) (p : Int → Bool) (la : Option Addr) (n c : Nat) (L : List Int) (w : World) (eg : ∀ args w, (callFunc g args).run Tryz.prog w = .ok (.enter g args) w)
    (hL : IntsAt w la n L) (hn : n ≤ 1000000) (hp : Pred_b g v p L w) :
    Calls Tryz.prog 70 #[.slice la n c, .func (.func g) #[v] #[]] w (BoolPost (L.any p) w) := by
  have HI := Lib.hid (index_b g v p la n c L w eg hL hn hp)
  clear hL hp
  go_enter Tryz.func70, Tryz.ntmps70
  go_wp2_with fail
  refine HI.out.mono ?_
  rintro e w2 ⟨⟨i, hi, rfl⟩, hk⟩
  have HA := Lib.hid hi.any; have HK := Lib.hid hk; clear hi hk
  cases hb : L.any p with
  | true =>
    rw [hb] at HA
    have d0 : decide (0 ≤ i) = true := HA.out
    have HBB := Lib.hid hb; clear hb
    go_wp2
    go_ret
    exact ⟨ret_bool HBB.out.symm, HK.out⟩
  | false =>
    rw [hb] at HA
    have d0 : decide (0 ≤ i) = false := HA.out
    have HBB := Lib.hid hb; clear hb
    go_wp2
    go_ret
    exact ⟨ret_bool HBB.out.symm, HK.out⟩

/-- What is asked of the function value. -/
def Pred_c (g : Nat) (v : Value) (p : Int → Bool) (L : List Int) (w : World) : Prop := ∀ y ∈ L, ∀ W, Kept w W → Calls Tryz.prog g #[.int .i64 y, v] W (BoolPost (p y) W)
set_option maxHeartbeats 2000000 in
theorem index_c (g : Nat) (v : Value) (p : Int → Bool) (la : Option Addr) (n c : Nat) (L : List Int) (w : World) (eg : ∀ args w, (callFunc g args).run Tryz.prog w = .ok (.enter g args) w)
    (hL : IntsAt w la n L) (hn : n ≤ 1000000) (hp : Pred_c g v p L w) :
    Calls Tryz.prog 111 #[.slice la n c, .func (.func g) #[] #[v]] w (IxPost p L w) := by
  have HL := Lib.hid hL; have HP := Lib.hid hp; clear hL hp
  go_enter Tryz.func111, Tryz.ntmps111
  go_wp2
  go_loopw [8] (fun i wr => ∃ j : Nat, j ≤ n ∧ i = .int .i64 j ∧ (L.take j).any p = false ∧ Kept w wr) (fun i _ => n - (intOf i).toNat)
  case atStart => exact ⟨0, Nat.zero_le _, rfl, rfl, Kept.refl _⟩
  case round =>
    obtain ⟨j, hj, rfl, hno, hK⟩ := hrel
    have HN := Lib.hid hno; have HK := Lib.hid hK; clear hno hK
    have j0 : (0 : Int) ≤ (j : Int) := Int.natCast_nonneg _
    by_cases hjn : j < n
    · have j1 : (j : Int) < (n : Int) := by omega
      obtain ⟨b, off, rfl, hc⟩ := HL.out.at_ (by omega)
      have hjl : j < L.length := by rw [HL.out.len]; exact hjn
      obtain ⟨y, hy⟩ : ∃ y, L[j]? = some y := ⟨_, List.getElem?_eq_getElem hjl⟩
      have x0 := HK.out.cell (hc j y hy)
      have HC := Lib.hid (HP.out y (List.mem_of_getElem? hy) wr HK.out)
      have HY := Lib.hid hy
      have HTK : Hid (L.take (j + 1) = L.take j ++ [y]) := by
        show _ = _
        rw [List.take_succ_eq_append_getElem hjl, (List.getElem?_eq_some_iff.1 hy).2]
      clear hc hy hjl
      cases hpy : p y with
      | true =>
        rw [hpy] at HC
        have HPY := Lib.hid hpy; clear hpy
        go_wp2_with fail
        refine HC.out.mono ?_
        rintro e w2 ⟨rfl, hk2⟩
        have HK2 := Lib.hid hk2; clear hk2
        go_wp2
        go_ret
        exact ⟨⟨j, Or.inr ⟨j, y, rfl, HY.out, HPY.out, HN.out⟩, rfl⟩, HK.out.trans HK2.out⟩
      | false =>
        rw [hpy] at HC
        have HPY := Lib.hid hpy; clear hpy
        go_wp2_with fail
        refine HC.out.mono ?_
        rintro e w2 ⟨rfl, hk2⟩
        have HK2 := Lib.hid hk2; clear hk2
        go_wp2
        go_roundw
        case rel =>
          refine ⟨j + 1, by omega, by go_num, ?_, HK.out.trans HK2.out⟩
          rw [HTK.out, List.any_append, HN.out]
          simp [HPY.out]
        case measure => simp [intOf]; omega
    · obtain rfl : j = n := by omega
      go_wp2
      go_ret
      refine ⟨⟨-1, Or.inl ⟨rfl, ?_⟩, rfl⟩, HK.out⟩
      have := HN.out
      rwa [← HL.out.len, List.take_length] at this
set_option maxHeartbeats 1000000 in
theorem contains_c (g : Nat) (v : Value) (p : Int → Bool) (la : Option Addr) (n c : Nat) (L : List Int) (w : World) (eg : ∀ args w, (callFunc g args).run Tryz.prog w = .ok (.enter g args) w)
    (hL : IntsAt w la n L) (hn : n ≤ 1000000) (hp : Pred_c g v p L w) :
    Calls Tryz.prog 70 #[.slice la n c, .func (.func g) #[] #[v]] w (BoolPost (L.any p) w) := by
  have HI := Lib.hid (index_c g v p la n c L w eg hL hn hp)
  clear hL hp
  go_enter Tryz.func70, Tryz.ntmps70
  go_wp2_with fail
  refine HI.out.mono ?_
  rintro e w2 ⟨⟨i, hi, rfl⟩, hk⟩
  have HA := Lib.hid hi.any; have HK := Lib.hid hk; clear hi hk
  cases hb : L.any p with
  | true =>
    rw [hb] at HA
    have d0 : decide (0 ≤ i) = true := HA.out
    have HBB := Lib.hid hb; clear hb
    go_wp2
    go_ret
    exact ⟨ret_bool HBB.out.symm, HK.out⟩
  | false =>
    rw [hb] at HA
    have d0 : decide (0 ≤ i) = false := HA.out
    have HBB := Lib.hid hb; clear hb
    go_wp2
    go_ret
    exact ⟨ret_bool HBB.out.symm, HK.out⟩
end Go.Proofs.YtlikokeknfhejaaGreatDoor
