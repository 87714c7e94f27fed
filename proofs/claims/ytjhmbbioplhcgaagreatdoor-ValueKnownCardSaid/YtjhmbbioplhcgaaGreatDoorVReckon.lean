/-
  Layer 3: contracts of the closure that finds cells, and of the one that reckons a node's value.
-/
import Derived.Test.YtjhmbbioplhcgaaGreatDoorVFirst
import Derived.Test.YtjhmbbioplhcgaaGreatDoorWord
namespace Go.Proofs.YtjhmbbioplhcgaaGreatDoor
open Go Go.RowKit Go.ChangeMaps Go.MapKept Go.WideMaps
open Go.Maps (Keyed)

/-- The environment's two slices, as they stand. -/
structure Sl where
  sa : Option Addr
  sn : Nat
  sc : Nat
  ca : Option Addr
  cn : Nat
  cc : Nat
def Sl.cells (s : Sl) : Array Value := #[.slice s.sa s.sn s.sc, .slice s.ca s.cn s.cc]
/-- What the closure that finds cells has captured: the map's variable, the environment. -/
structure FindAt (N : Nat) (w : World) (bf be : Nat) (s : Sl) (C : List Cl) : Prop where
  env : w.heap[be]? = some (.cells #[.slice s.sa s.sn s.sc, .slice s.ca s.cn s.cc] 26 (0, 0))
  first : w.heap[bf]? = some (.cells #[.map none] 119 (0, 0)) ∨ ∃ ms, w.heap[bf]? = some (.cells #[.map (some ms)] 119 (0, 0)) ∧ FirstAt N w ms C
  cells : CellsAt w s.ca s.cn C
  few : s.cn ≤ 100000
  ne : bf ≠ be
  low : N ≤ bf ∧ N ≤ be
  slow : 0 < s.cn → ∀ q, s.ca = some q → q.block < N
section
variable {N bf be : Nat} {s : Sl} {C : List Cl} {w w' : World}
theorem CellsAt.turned {T : Nat → Prop} {la : Option Addr} {n : Nat} {cs : List Cl} (h : CellsAt w la n cs) (k : Turned T w w') (hT : 0 < n → ∀ q, la = some q → ¬ T q.block) : CellsAt w' la n cs :=
  ⟨h.len, h.ok, fun hn => by
    obtain ⟨b, off, hl, hc⟩ := h.at_ hn
    exact ⟨b, off, hl, fun j c hd i v hv => k.cell (hc j c hd i v hv) (by have := hT hn _ hl; exact this)⟩⟩
/-- It stays where nothing of what was made behind N has turned. -/
theorem FindAt.turned {T : Nat → Prop} (h : FindAt N w bf be s C) (k : Turned T w w') (hT : ∀ q, N ≤ q → ¬ T q) (hS : 0 < s.cn → ∀ q, s.ca = some q → ¬ T q.block) : FindAt N w' bf be s C := by
  refine ⟨(k.block be (Array.getElem?_eq_some_iff.1 h.env).1 (hT _ h.low.2)).trans h.env, ?_, h.cells.turned k hS, h.few, h.ne, h.low, h.slow⟩
  rcases h.first with h1 | ⟨ms, h1, h2⟩
  · exact Or.inl ((k.block bf (Array.getElem?_eq_some_iff.1 h1).1 (hT _ h.low.1)).trans h1)
  · exact Or.inr ⟨ms, (k.block bf (Array.getElem?_eq_some_iff.1 h1).1 (hT _ h.low.1)).trans h1, h2.block (k.block ms h2.lt (hT _ h2.1))⟩
theorem FindAt.kept (h : FindAt N w bf be s C) (k : Kept w w') : FindAt N w' bf be s C := h.turned (k.turned fun _ => False) (fun _ _ e => e) (fun _ _ _ e => e)
theorem FindAt.bfLt (h : FindAt N w bf be s C) : bf < w.heap.size := by
  rcases h.first with h1 | ⟨ms, h1, _⟩ <;> exact (Array.getElem?_eq_some_iff.1 h1).1
end
set_option maxHeartbeats 2000000 in
theorem find_any {N bf be : Nat} {s : Sl} {C : List Cl} {w : World} (h : FindAt N w bf be s C) (hN : N ≤ w.heap.size) {a v t : Int} (ha : InR a) (hv : InR v) (ht : InR t) :
    Calls Tryz.prog 60 #[.agg #[.int .i64 a, .int .i64 v, .int .i64 t], .pointer (some ⟨bf, 0, none⟩), .pointer (some ⟨be, 0, none⟩)] w fun e w' => e = .returned (.int .i64 (cellI C a v t)) ∧ FindAt N w' bf be s C ∧ Turned (fun q => q = bf) w w' := by
  have HH := Lib.hid h
  have HA := Lib.hid ha; have HV := Lib.hid hv; have HT := Lib.hid ht
  have hbf := h.bfLt
  have HK := Lib.hid ((Kept.refl w).alloc (.cells #[.int .i64 a, .int .i64 v, .int .i64 t] 73))
  have HBX := Lib.hid ((MapKept.heap_alloc w (.cells #[.int .i64 a, .int .i64 v, .int .i64 t] 73)).1)
  have HHW := Lib.hid (h.kept HK.out)
  have hbne : bf ≠ w.heap.size := Nat.ne_of_lt hbf
  clear h ha hv ht
  go_enter Tryz.func60, Tryz.ntmps60
  go_upto_region 1 with (fail)
  change Code.wp _ _ _ _ (w.alloc (.cells #[.int .i64 a, .int .i64 v, .int .i64 t] 73))
  generalize w.alloc (.cells #[.int .i64 a, .int .i64 v, .int .i64 t] 73) = W at *
  obtain ⟨bs, hbs⟩ : ∃ bs : Nat, bs = w.heap.size := ⟨_, rfl⟩
  rw [← hbs] at HBX hbne ⊢
  have HBS := Lib.hid hbs; clear hbs
  have e0 : W.cell? ⟨be, 0, none⟩ = some (.slice s.sa s.sn s.sc) := by rw [cell_of_row _ _ _ _ _ _ HHW.out.env]; rfl
  have e1 : W.cell? ⟨be, 1, none⟩ = some (.slice s.ca s.cn s.cc) := by rw [cell_of_row _ _ _ _ _ _ HHW.out.env]; rfl
  rcases HHW.out.first with h1 | ⟨ms, h1, h2⟩
  · have f0 : W.cell? ⟨bf, 0, none⟩ = some (.map none) := by rw [cell_of_row _ _ _ _ _ _ h1]; rfl
    have hnil := fun w => run_eql_map_nil (P := Tryz.prog) w 119 _ _ none Tryz.underlying119
    have H1 := Lib.hid h1
    clear h1
    go_wp2_with fail
    refine (first_any (sa := s.sa) (sn := s.sn) (sc := s.sc) (cc := s.cc) HHW.out.cells HHW.out.few).mono ?_
    rintro e w1 ⟨ms, rfl, hF, hk1⟩
    have HF := Lib.hid hF
    have HK1 := Lib.hid hk1
    have HB1 := Lib.hid (hk1.row HBX.out)
    clear hF hk1
    have f1 := HK1.out.cell f0
    have H11 := Lib.hid (HK1.out.row H1.out)
    have z1 : w1.frozen? ⟨bf, 0, none⟩ = false := frozen_of_row H11.out 0
    have HL : Hid (∀ w', Turned (fun q => q = bf) w1 w' → (Instr.lookup 119 (.map (some ms)) (.agg #[.int .i64 a, .int .i64 v, .int .i64 t]) false).run Tryz.prog w' = .ok (.int .i64 (cellI C a v t)) w') := fun w' hk =>
      (HF.out.block (hk.block ms HF.out.lt (fun e => by
        have h3 : ms = bf := e
        have h4 := HF.out.1
        rw [h3] at h4
        have h5 := HK.out.size
        omega))).look HA.out HV.out HT.out
    have l1 := HL.out _ (Turned.setCell (T := fun q => q = bf) w1 ⟨bf, 0, none⟩ (.map (some ms)) rfl)
    obtain ⟨x0, x1, x2⟩ : (w1.setCell ⟨bf, 0, none⟩ (.map (some ms))).cell? ⟨bs, 0, none⟩ = some (.int .i64 a) ∧ (w1.setCell ⟨bf, 0, none⟩ (.map (some ms))).cell? ⟨bs, 1, none⟩ = some (.int .i64 v) ∧ (w1.setCell ⟨bf, 0, none⟩ (.map (some ms))).cell? ⟨bs, 2, none⟩ = some (.int .i64 t) := by
      have hb : (w1.setCell ⟨bf, 0, none⟩ (.map (some ms))).heap[bs]? = some (.cells #[.int .i64 a, .int .i64 v, .int .i64 t] 73 (0, 0)) := by
        rw [Below.heap_setCell _ _ _ _ (Ne.symm hbne)]
        exact HB1.out
      refine ⟨?_, ?_, ?_⟩ <;> (rw [cell_of_row _ _ _ _ _ _ hb]; rfl)
    go_wp2
    go_ret
    have hWs := HK.out.size
    have ht := Turned.setCell (T := fun q => q = bf) w1 ⟨bf, 0, none⟩ (.map (some ms)) rfl
    have hms : ms ≠ bf := fun e => by
      have h4 := HF.out.1
      rw [e] at h4
      omega
    refine ⟨rfl, ⟨?_, Or.inr ⟨ms, setCell_row H11.out 0 _, ?_⟩, ?_, HHW.out.few, HHW.out.ne, HHW.out.low, HHW.out.slow⟩, ((HK.out.trans HK1.out).turned _).trans ht⟩
    · rw [Below.heap_setCell _ _ _ _ (Ne.symm HHW.out.ne)]
      exact HK1.out.row HHW.out.env
    · obtain ⟨h4, n, D, h5, h6, h7⟩ := HF.out
      exact ⟨by omega, n, D, ownsMap_block h5 (ht.block ms h5.lt hms), h6, h7⟩
    · refine (HHW.out.cells.kept HK1.out).turned ht fun hp q hq e => ?_
      have h4 := HHW.out.slow hp q hq
      have h5 := HHW.out.low.1
      have h6 : q.block = bf := e
      omega
  · have f0 : W.cell? ⟨bf, 0, none⟩ = some (.map (some ms)) := by rw [cell_of_row _ _ _ _ _ _ h1]; rfl
    have hnil := fun w => run_eql_map_nil (P := Tryz.prog) w 119 _ _ (some ms) Tryz.underlying119
    have l0 := h2.look HA.out HV.out HT.out
    obtain ⟨x0, x1, x2⟩ : W.cell? ⟨bs, 0, none⟩ = some (.int .i64 a) ∧ W.cell? ⟨bs, 1, none⟩ = some (.int .i64 v) ∧ W.cell? ⟨bs, 2, none⟩ = some (.int .i64 t) := by
      refine ⟨?_, ?_, ?_⟩ <;> (rw [cell_of_row _ _ _ _ _ _ HBX.out]; rfl)
    clear h1 h2
    go_wp2
    go_ret
    exact ⟨rfl, HHW.out, HK.out.turned _⟩

/-- What the closure that reckons has captured: the environment, the closure that finds cells, the map of values. -/
structure ReckAt (N : Nat) (w : World) (b2 b5 b3 bf be mv : Nat) (s : Sl) (S : List Int) (C : List Cl) : Prop where
  env : w.heap[b2]? = some (.cells #[.slice s.sa s.sn s.sc, .slice s.ca s.cn s.cc] 26 (0, 0))
  clo : w.heap[b5]? = some (.cells #[.func (Fn.func 60) #[] #[.pointer (some ⟨bf, 0, none⟩), .pointer (some ⟨be, 0, none⟩)]] 105 (0, 0))
  vals : w.heap[b3]? = some (.cells #[.map (some mv)] 77 (0, 0))
  find : FindAt N w bf be s C
  syms : RootsAt w s.sa s.sn S
  sfew : s.sn ≤ 100000
  low : N ≤ b2 ∧ N ≤ b5 ∧ N ≤ b3
  slow : 0 < s.sn → ∀ q, s.sa = some q → q.block < N
  ne : b2 ≠ bf ∧ b5 ≠ bf ∧ b3 ≠ bf
section
variable {N b2 b5 b3 bf be mv : Nat} {s : Sl} {S : List Int} {C : List Cl} {w w' : World}
theorem RootsAt.turned {T : Nat → Prop} {la : Option Addr} {n : Nat} {us : List Int} (h : RootsAt w la n us) (k : Turned T w w') (hT : 0 < n → ∀ q, la = some q → ¬ T q.block) : RootsAt w' la n us :=
  ⟨h.len, h.inr, fun hn => by
    obtain ⟨b, off, hl, hc⟩ := h.at_ hn
    exact ⟨b, off, hl, fun j x hx => k.cell (hc j x hx) (by have := hT hn _ hl; exact this)⟩⟩
theorem ReckAt.turned {T : Nat → Prop} (h : ReckAt N w b2 b5 b3 bf be mv s S C) (k : Turned T w w') (hT : ∀ q, N ≤ q → ¬ T q) (hS : 0 < s.sn → ∀ q, s.sa = some q → ¬ T q.block) (hC : 0 < s.cn → ∀ q, s.ca = some q → ¬ T q.block) : ReckAt N w' b2 b5 b3 bf be mv s S C :=
  ⟨(k.block b2 (Array.getElem?_eq_some_iff.1 h.env).1 (hT _ h.low.1)).trans h.env, (k.block b5 (Array.getElem?_eq_some_iff.1 h.clo).1 (hT _ h.low.2.1)).trans h.clo, (k.block b3 (Array.getElem?_eq_some_iff.1 h.vals).1 (hT _ h.low.2.2)).trans h.vals,
   h.find.turned k hT hC, h.syms.turned k hS, h.sfew, h.low, h.slow, h.ne⟩
theorem ReckAt.kept (h : ReckAt N w b2 b5 b3 bf be mv s S C) (k : Kept w w') : ReckAt N w' b2 b5 b3 bf be mv s S C := h.turned (k.turned fun _ => False) (fun _ _ e => e) (fun _ _ _ e => e) (fun _ _ _ e => e)
/-- Behind a call of the closure that finds cells. -/
theorem ReckAt.found (h : ReckAt N w b2 b5 b3 bf be mv s S C) (k : Turned (fun q => q = bf) w w') (hF : FindAt N w' bf be s C) : ReckAt N w' b2 b5 b3 bf be mv s S C :=
  ⟨(k.block b2 (Array.getElem?_eq_some_iff.1 h.env).1 h.ne.1).trans h.env, (k.block b5 (Array.getElem?_eq_some_iff.1 h.clo).1 h.ne.2.1).trans h.clo, (k.block b3 (Array.getElem?_eq_some_iff.1 h.vals).1 h.ne.2.2).trans h.vals,
   hF, h.syms.turned k (fun hp q hq e => by
    have h1 := h.slow hp q hq
    have h2 := h.find.low.1
    have h3 : q.block = bf := e
    omega), h.sfew, h.low, h.slow, h.ne⟩
end
/-- A node's value, when its parts' are known. -/
def valF (S : List Int) (C : List Cl) (f : Int → Int) (d : Nd) : Int :=
  if d.k = 1 then d.n else if d.k = 2 then symI S d.n else if d.k = 3 then cellI C d.a d.n (f d.y) else opI d.o (f d.x) (f d.y)
set_option maxRecDepth 100000 in
set_option maxHeartbeats 4000000 in
theorem reckon_any {N b2 b5 b3 bf be mv : Nat} {s : Sl} {S : List Int} {C : List Cl} {w : World} (h : ReckAt N w b2 b5 b3 bf be mv s S C) (hN : N ≤ w.heap.size) (d : Nd) (hd : d.Ok) (hk : d.k = 1 ∨ d.k = 2 ∨ d.k = 3 ∨ d.k = 4) (f : Int → Int) (hf : ∀ p ∈ partsOf d, InR (f p))
    (hl : ∀ w', Kept w w' → ∀ p ∈ partsOf d, (Instr.lookup 77 (.map (some mv)) (.int .i64 p) false).run Tryz.prog w' = .ok (.int .i64 (f p)) w') :
    Calls Tryz.prog 49 #[d.val, .pointer (some ⟨b2, 0, none⟩), .pointer (some ⟨b5, 0, none⟩), .pointer (some ⟨b3, 0, none⟩)] w fun e w' => e = .returned (.int .i64 (valF S C f d)) ∧ ReckAt N w' b2 b5 b3 bf be mv s S C ∧ Turned (fun q => q = bf) w w' := by
  have HK := Lib.hid ((Kept.refl w).alloc (nodeObj d))
  have HBX := Lib.hid ((MapKept.heap_alloc w (nodeObj d)).1)
  have HHW := Lib.hid (h.kept HK.out)
  have HNW := Lib.hid (Nat.le_trans hN HK.out.size)
  have HL := Lib.hid fun w' (k : Kept (w.alloc (nodeObj d)) w') => hl w' (HK.out.trans k)
  have HF := Lib.hid hf
  have HD := Lib.hid hd
  clear h hl hf hd hN
  simp only [Nd.val]
  go_enter Tryz.func49, Tryz.ntmps49
  go_upto_region 1 with (fail)
  change Code.wp _ _ _ _ (w.alloc (nodeObj d))
  generalize w.alloc (nodeObj d) = W at *
  obtain ⟨bs, hbs⟩ : ∃ bs : Nat, bs = w.heap.size := ⟨_, rfl⟩
  rw [← hbs] at HBX ⊢
  clear hbs
  obtain ⟨x0, x1, x2, x3, x4, x5⟩ := box_facts HBX.out (Kept.refl W)
  have c2 : W.cell? ⟨b2, 0, none⟩ = some (.slice s.sa s.sn s.sc) := by rw [cell_of_row _ _ _ _ _ _ HHW.out.env]; rfl
  have c3 : W.cell? ⟨b2, 1, none⟩ = some (.slice s.ca s.cn s.cc) := by rw [cell_of_row _ _ _ _ _ _ HHW.out.env]; rfl
  have c5 : W.cell? ⟨b5, 0, none⟩ = some (.func (Fn.func 60) #[] #[.pointer (some ⟨bf, 0, none⟩), .pointer (some ⟨be, 0, none⟩)]) := by rw [cell_of_row _ _ _ _ _ _ HHW.out.clo]; rfl
  have c6 : W.cell? ⟨b3, 0, none⟩ = some (.map (some mv)) := by rw [cell_of_row _ _ _ _ _ _ HHW.out.vals]; rfl
  obtain ⟨dk, dn, da, dp, dx, dy⟩ := d
  simp only at *
  rcases hk with rfl | rfl | rfl | rfl
  · go_wp2
    go_ret
    exact ⟨rfl, HHW.out, HK.out.turned _⟩
  · go_wp2_with fail
    refine (sym_any (sa := s.sa) (ca := s.ca) (sc := s.sc) (cc := s.cc) HHW.out.syms HHW.out.sfew dn HD.out.2.1).mono ?_
    rintro e w1 ⟨rfl, hk1⟩
    go_wp2
    go_ret
    exact ⟨rfl, HHW.out.kept hk1, (HK.out.trans hk1).turned _⟩
  · have l0 := HL.out W (Kept.refl W) dy (by simp [partsOf])
    have HFY := Lib.hid (HF.out dy (by simp [partsOf]))
    go_wp2_with fail
    refine (find_any HHW.out.find HNW.out HD.out.2.2.1 HD.out.2.1 HFY.out).mono ?_
    rintro e w1 ⟨rfl, hF1, hT1⟩
    have HR1 := Lib.hid (HHW.out.found hT1 hF1)
    have HT1 := Lib.hid hT1
    clear hF1 hT1 l0 x0 x1 x2 x3 x4 x5 c2 c3 c5 c6
    go_wp2
    go_ret
    exact ⟨rfl, HR1.out, (HK.out.turned _).trans HT1.out⟩
  · have l0 := HL.out W (Kept.refl W) dy (by simp [partsOf])
    have l1 := HL.out W (Kept.refl W) dx (by simp [partsOf])
    have HFY := Lib.hid (HF.out dy (by simp [partsOf]))
    have HFX := Lib.hid (HF.out dx (by simp [partsOf]))
    go_wp2_with fail
    refine (do_any dp (f dx) (f dy) W HFX.out HFY.out).mono ?_
    rintro e w1 ⟨rfl, hk1⟩
    have HK1 : Hid (Kept W w1) := hk1
    clear hk1 l0 l1 x0 x1 x2 x3 x4 x5 c2 c3 c5 c6
    go_wp2
    go_ret
    exact ⟨rfl, HHW.out.kept HK1.out, (HK.out.trans HK1.out).turned _⟩
end Go.Proofs.YtjhmbbioplhcgaaGreatDoor
