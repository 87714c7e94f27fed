/-
  Layer 3: on what a value hangs, plain; the contract of the statements' has.
-/
import Derived.Test.YtjhmbbioplhcgaaGreatDoorVWorks
namespace Go.Proofs.YtjhmbbioplhcgaaGreatDoor
open Go Go.RowKit

/-- A row of one's own grows: all that was there is as it was. -/
theorem grow_kept' {N s n : Nat} {e : TypeId} {v : Value} {xs : List Value} {w1 wr w4 : World} {o : Obj} (h1 : wr.ownsRow (N + 1) e s v n xs) (hk : Kept w1 wr) (hN : w1.heap.size ≤ N) (hg : (wr.alloc o).grownBy w4 v.ownBlock) : Kept w1 w4 := by
  have tg : Turned (fun q => v.ownBlock = some q) (wr.alloc o) w4 := Turned.grown hg fun k hk => hk
  have k2 := hk.alloc o
  refine ⟨tg.os.trans k2.os, tg.tape.trans k2.tape, tg.output.trans k2.output, Nat.le_trans k2.size tg.size, fun q hq => (tg.block q (Nat.lt_of_lt_of_le hq k2.size) fun e => ?_).trans (k2.block q hq)⟩
  have := (h1.lt q e).1
  omega
theorem may_n {s : Nat} {d : Nd} (h : mayB s d = true) (hk : d.k = 2) : 0 ≤ d.n := by
  unfold mayB at h
  rw [hk] at h
  simp at h
  exact h.2
theorem needs_sym {L : List Nd} (hG : Good L) {ids SS CC : List Int} (h : NeedSpec L ids SS CC) : ∀ s ∈ SS, 0 ≤ s := by
  obtain ⟨U, hU, rfl, rfl⟩ := h
  intro s hs
  obtain ⟨i, hi, hk, rfl⟩ := mem_symsOf.1 (sortI_mem.1 hs)
  obtain ⟨r, _, hrb, hr⟩ := (hU.2 i).1 hi
  have hb := (hr.le hG hrb).2
  obtain ⟨h0, h1⟩ := (hasB_iff _ _).1 hb
  obtain ⟨k, rfl⟩ : ∃ k : Nat, i = k := ⟨i.toNat, by omega⟩
  have hkl : k < L.length := by omega
  rw [ndAt_get hkl] at hk ⊢
  exact may_n (hG.may k hkl) hk
/-- A value hangs on the symbols and cells that are needed, on nothing else. -/
theorem needed_same {L : List Nd} (hG : Good L) {id : Int} (hb : hasB L.length id = true) {SS CC : List Int} (h : NeedSpec L [id] SS CC) {S S' : List Int} {C C' : List Cl} (hs : ∀ s ∈ SS, symI S s = symI S' s) (hc : CC ≠ [] → ∀ a v t, cellI C a v t = cellI C' a v t) :
    valI S C L id = valI S' C' L id := by
  obtain ⟨U, hU, rfl, rfl⟩ := h
  refine valI_same hG (id.toNat + 1) id (by have := ((hasB_iff _ _).1 hb).1; omega) hb (fun i hr hi hk => ?_) (fun i hr hi hk t => ?_)
  · have hm : i ∈ U := (hU.2 i).2 ⟨id, by simp, hb, hr⟩
    exact hs _ (sortI_mem.2 (mem_symsOf.2 ⟨i, hm, hk, rfl⟩))
  · have hm : i ∈ U := (hU.2 i).2 ⟨id, by simp, hb, hr⟩
    exact hc (fun e => by have := mem_cellsOf.2 ⟨hm, hk⟩; rw [e] at this; cases this) _ _ _
/-- The other environment's symbols. -/
def fsym (S SS O : List Int) (k : Nat) : Int := if memB SS (k : Int) then symI S k else (if k < O.length then O.getD k 0 else symI S k)
def fsyms (S SS O : List Int) (t : Nat) : List Int := (List.range t).map fun (k : Nat) => fsym S SS O k
theorem fsyms_succ (S SS O : List Int) (t : Nat) : fsyms S SS O (t + 1) = fsyms S SS O t ++ [fsym S SS O t] := by simp [fsyms, List.range_succ]
theorem fsyms_len (S SS O : List Int) (t : Nat) : (fsyms S SS O t).length = t := by simp [fsyms]
theorem fsym_in {S SS O : List Int} (hS : ∀ x ∈ S, InR x) (hO : ∀ x ∈ O, InR x) (k : Nat) : InR (fsym S SS O k) := by
  unfold fsym
  split
  · exact symI_in hS _
  · split
    · rename_i h
      rw [List.getD_eq_getElem?_getD, List.getElem?_eq_getElem h]
      exact hO _ (List.getElem_mem h)
    · exact symI_in hS _
theorem fsyms_in {S SS O : List Int} (hS : ∀ x ∈ S, InR x) (hO : ∀ x ∈ O, InR x) (t : Nat) : ∀ x ∈ fsyms S SS O t, InR x := by
  intro x hx
  obtain ⟨k, _, rfl⟩ := List.mem_map.1 hx
  exact fsym_in hS hO k
theorem fsyms_same {S SS O : List Int} (hS : S.length ≤ 60) {s : Int} (hs : s ∈ SS) (h0 : 0 ≤ s) : symI S s = symI (fsyms S SS O 60) s := by
  obtain ⟨k, rfl⟩ : ∃ k : Nat, s = k := ⟨s.toNat, by omega⟩
  by_cases hk : k < 60
  · have h1 : (fsyms S SS O 60)[k]? = some (symI S k) := by
      unfold fsyms
      rw [List.getElem?_map, List.getElem?_range hk]
      simp only [Option.map_some]
      unfold fsym
      rw [if_pos ((memB_iff _ _).2 hs)]
    rw [symI_some h1]
  · rw [symI_none (Or.inr (by omega)), symI_none (Or.inr (by rw [fsyms_len]; omega))]

set_option maxRecDepth 100000 in
theorem vhas_any (la : Option Addr) (n lc : Nat) (us : List Int) (x : Int) (w : World) (hz : RootsAt w la n us) (hn : n ≤ 100000) :
    Calls Tryz.prog 32 #[.slice la n lc, .int .i64 x] w fun e w' => e = .returned (.bool (memB us x)) ∧ w = w' := by
  have HZ := Lib.hid hz
  clear hz
  go_enter Tryz.func32, Tryz.ntmps32
  go_wp2_with fail
  go_loopw [5] (fun i wr => ∃ j : Nat, j ≤ n ∧ i = .int .i64 j ∧ (∀ k y, k < j → us[k]? = some y → y ≠ x) ∧ wr = w) (fun i _ => n - (intOf i).toNat)
  case atStart => exact ⟨0, Nat.zero_le _, rfl, fun k y hk => absurd hk (Nat.not_lt_zero _), rfl⟩
  case round =>
    obtain ⟨j, hj, rfl, hne, rfl⟩ := hrel
    have HNE := Lib.hid hne; clear hne
    by_cases hlt : j < n
    · obtain ⟨b, off, rfl, hc⟩ := HZ.out.at_ (by omega)
      have hjl : j < us.length := by rw [HZ.out.len]; exact hlt
      obtain ⟨y, hy⟩ : ∃ y, us[j]? = some y := ⟨_, List.getElem?_eq_getElem hjl⟩
      have x0 := hc j y hy
      have HY := Lib.hid hy
      clear hc hjl hy
      have j0 : (0 : Int) ≤ (j : Int) := Int.natCast_nonneg _
      have j1 : (j : Int) < (n : Int) := by omega
      by_cases hyx : y = x
      · subst hyx
        have HM : Hid (memB us y = true) := (memB_iff us y).2 (List.mem_of_getElem? HY.out)
        go_wp2
        go_ret
        rw [HM.out]
        exact ⟨rfl, rfl⟩
      · go_wp2
        go_roundw
        case rel =>
          refine ⟨j + 1, by omega, by go_num, fun k z hk hz => ?_, by trivial⟩
          by_cases hkj : k = j
          · subst hkj
            rw [HY.out] at hz
            cases hz
            exact hyx
          · exact HNE.out k z (by omega) hz
        case measure => simp [intOf]; omega
    · obtain rfl : j = n := by omega
      have HM : Hid (memB us x = false) := by
        cases h : memB us x with
        | false => exact rfl
        | true =>
          obtain ⟨k, hk, hkx⟩ := List.getElem_of_mem ((memB_iff us x).1 h)
          exact absurd rfl (HNE.out k x (by have := HZ.out.len; omega) (by rw [List.getElem?_eq_getElem hk, hkx]))
      go_wp2
      go_ret
      rw [HM.out]
      exact ⟨rfl, rfl⟩
end Go.Proofs.YtjhmbbioplhcgaaGreatDoor
