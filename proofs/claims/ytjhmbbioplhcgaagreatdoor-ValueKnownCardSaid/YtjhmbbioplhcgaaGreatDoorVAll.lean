/-
  Layer 3: contracts of cellFinder, reckoner, All and Of.
-/
import Derived.Test.YtjhmbbioplhcgaaGreatDoorVReckon
namespace Go.Proofs.YtjhmbbioplhcgaaGreatDoor
open Go Go.RowKit Go.ChangeMaps Go.MapKept Go.WideMaps
open Go.Maps (Keyed)

set_option maxHeartbeats 1000000 in
theorem finder_any (s : Sl) (w : World) :
    Calls Tryz.prog 48 #[.agg #[.slice s.sa s.sn s.sc, .slice s.ca s.cn s.cc]] w fun e w' => e = .returned (.func (Fn.func 60) #[] #[.pointer (some ⟨w.heap.size + 1, 0, none⟩), .pointer (some ⟨w.heap.size, 0, none⟩)]) ∧
      w' = (w.alloc (.cells #[.slice s.sa s.sn s.sc, .slice s.ca s.cn s.cc] 26)).alloc (.cells #[.map none] 119) := by
  go_enter Tryz.func48, Tryz.ntmps48
  go_wp2
  go_ret
  exact ⟨rfl, rfl⟩
theorem EnvAt.low {w : World} {s : Sl} {S : List Int} {C : List Cl} (h : EnvAt w s.sa s.sn s.ca s.cn S C) : (0 < s.sn → ∀ q, s.sa = some q → q.block < w.heap.size) ∧ (0 < s.cn → ∀ q, s.ca = some q → q.block < w.heap.size) := by
  refine ⟨fun hn q hq => ?_, fun hn q hq => ?_⟩
  · obtain ⟨b, off, hl, hc⟩ := h.syms.at_ hn
    have := World.block_lt_of_cell? w _ (hc 0 (S[0]'(by rw [h.syms.len]; exact hn)) (List.getElem?_eq_getElem _))
    rw [hl] at hq
    cases hq
    exact this
  · obtain ⟨b, off, hl, hc⟩ := h.cells.at_ hn
    have := World.block_lt_of_cell? w _ (hc 0 (C[0]'(by rw [h.cells.len]; exact hn)) (List.getElem?_eq_getElem _) 0 _ rfl)
    rw [hl] at hq
    cases hq
    exact this
set_option maxHeartbeats 2000000 in
theorem reckoner_any {s : Sl} {S : List Int} {C : List Cl} {w : World} (hE : EnvAt w s.sa s.sn s.ca s.cn S C) (hs : s.sn ≤ 100000) (hc : s.cn ≤ 100000) (mv : Nat) :
    Calls Tryz.prog 29 #[.agg #[.slice s.sa s.sn s.sc, .slice s.ca s.cn s.cc], .map (some mv)] w fun e w' => ∃ b2 b5 b3 bf be, e = .returned (.func (Fn.func 49) #[] #[.pointer (some ⟨b2, 0, none⟩), .pointer (some ⟨b5, 0, none⟩), .pointer (some ⟨b3, 0, none⟩)]) ∧
      ReckAt w.heap.size w' b2 b5 b3 bf be mv s S C ∧ Kept w w' := by
  have HE := Lib.hid hE
  have HLO := Lib.hid hE.low
  clear hE
  go_enter Tryz.func29, Tryz.ntmps29
  go_wp2_with fail
  refine (finder_any s _).mono ?_
  rintro e w' ⟨rfl, rfl⟩
  go_wp2
  go_ret
  have k5 : ∀ (a : World) (o : Obj), Kept a (a.alloc o) := fun a o => (Kept.refl a).alloc o
  have hw : ∀ (a : World) (o : Obj), (a.alloc o).heap.size = a.heap.size + 1 := fun a o => by simp
  obtain ⟨E, hE⟩ : ∃ E : Obj, E = .cells #[.slice s.sa s.sn s.sc, .slice s.ca s.cn s.cc] 26 := ⟨_, rfl⟩
  obtain ⟨M, hM⟩ : ∃ M : Obj, M = .cells #[.map (some mv)] 77 := ⟨_, rfl⟩
  obtain ⟨F, hF⟩ : ∃ F : Obj, F = .cells #[.map none] 119 := ⟨_, rfl⟩
  rw [← hE, ← hM, ← hF]
  have e1 : ((w.alloc E).alloc M).heap.size = w.heap.size + 2 := by rw [hw, hw]
  have e2 : (((w.alloc E).alloc M).alloc E).heap.size = w.heap.size + 3 := by rw [hw, e1]
  have e3 : ((((w.alloc E).alloc M).alloc E).alloc F).heap.size = w.heap.size + 4 := by rw [hw, e2]
  have g1 := (MapKept.heap_alloc w E).1
  have g2 := (MapKept.heap_alloc (w.alloc E) M).1
  have g3 := (MapKept.heap_alloc ((w.alloc E).alloc M) E).1
  have g4 := (MapKept.heap_alloc (((w.alloc E).alloc M).alloc E) F).1
  rw [hw] at g2
  rw [e1] at g3
  rw [e2] at g4
  refine ⟨w.heap.size, w.heap.size + 4, w.heap.size + 1, w.heap.size + 3, w.heap.size + 2, ?_, ?_, ?_⟩
  · simp
  · obtain ⟨O, hO⟩ : ∃ O : Obj, O = .cells #[.func (Fn.func 60) #[] #[.pointer (some ⟨w.heap.size + 3, 0, none⟩), .pointer (some ⟨w.heap.size + 2, 0, none⟩)]] 105 := ⟨_, rfl⟩
    have g5 := (MapKept.heap_alloc ((((w.alloc E).alloc M).alloc E).alloc F) O).1
    rw [e3] at g5
    have kD : Kept ((((w.alloc E).alloc M).alloc E).alloc F) (((((w.alloc E).alloc M).alloc E).alloc F).alloc O) := k5 _ _
    have kC : Kept (((w.alloc E).alloc M).alloc E) (((((w.alloc E).alloc M).alloc E).alloc F).alloc O) := (k5 _ _).trans kD
    have kB : Kept ((w.alloc E).alloc M) (((((w.alloc E).alloc M).alloc E).alloc F).alloc O) := (k5 _ _).trans kC
    have kA : Kept (w.alloc E) (((((w.alloc E).alloc M).alloc E).alloc F).alloc O) := (k5 _ _).trans kB
    have kW : Kept w (((((w.alloc E).alloc M).alloc E).alloc F).alloc O) := (k5 _ _).trans kA
    have h1 := kA.row g1
    have h2 := kB.row g2
    have h3 := kC.row g3
    have h4 := kD.row g4
    have c1 := HE.out.cells.kept kW
    have c2 := HE.out.syms.kept kW
    rw [hE] at h1 h3
    rw [hM] at h2
    rw [hF] at h4
    rw [hO] at g5
    subst hE; subst hM; subst hF; subst hO
    exact ⟨h1, g5, h2, ⟨h3, Or.inl h4, c1, hc, by omega, ⟨by omega, by omega⟩, HLO.out.2⟩, c2, hs, ⟨by omega, by omega, by omega⟩, HLO.out.1, ⟨by omega, by omega, by omega⟩⟩
  · exact ((((k5 _ _).trans (k5 _ _)).trans (k5 _ _)).trans (k5 _ _)).trans (k5 _ _)
end Go.Proofs.YtjhmbbioplhcgaaGreatDoor
