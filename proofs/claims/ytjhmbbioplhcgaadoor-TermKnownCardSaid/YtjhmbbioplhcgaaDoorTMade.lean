/-
  Layer 2: the contract of Made: a graph of some nodes, as they come, and the numbers that these got.
-/
import Derived.Test.YtjhmbbioplhcgaaDoorTUses
namespace Go.Proofs.YtjhmbbioplhcgaaDoor
open Go Go.RowKit

/-- A slice of nodes that came in. -/
structure NodesAt (w : World) (la : Option Addr) (n : Nat) (ds : List Nd) : Prop where
  len : ds.length = n
  ok : ∀ d ∈ ds, d.Ok
  at_ : 0 < n → ∃ b off, la = some ⟨b, off, none⟩ ∧ ∀ j d, ds[j]? = some d → ∀ i v, d.cells[i]? = some v → w.cell? ⟨b, off + j * 6 + i, none⟩ = some v
theorem NodesAt.kept {w w' : World} {la : Option Addr} {n : Nat} {ds : List Nd} (h : NodesAt w la n ds) (k : Kept w w') : NodesAt w' la n ds :=
  ⟨h.len, h.ok, fun hn => by
    obtain ⟨b, off, hl, hc⟩ := h.at_ hn
    exact ⟨b, off, hl, fun j d hd i v hv => k.cell (hc j d hd i v hv)⟩⟩

/-- The graph of some nodes, added one by one; the numbers that they got. -/
def addsL (ds : List Nd) : List Nd := ds.foldl addL []
def idsL (ds : List Nd) : List Int := (ds.foldl (fun s d => (addL s.1 d, s.2 ++ [addR s.1 d])) (([] : List Nd), ([] : List Int))).2
theorem addsL_snoc (ds : List Nd) (d : Nd) : addsL (ds ++ [d]) = addL (addsL ds) d := by simp [addsL]
theorem idsL_fst (ds : List Nd) : (ds.foldl (fun s d => (addL s.1 d, s.2 ++ [addR s.1 d])) (([] : List Nd), ([] : List Int))).1 = addsL ds := by
  refine snocInd (p := fun ds => (ds.foldl (fun s d => (addL s.1 d, s.2 ++ [addR s.1 d])) (([] : List Nd), ([] : List Int))).1 = addsL ds) rfl (fun L d ih => ?_) ds
  rw [addsL_snoc, List.foldl_append, List.foldl_cons, List.foldl_nil, ih]
theorem idsL_snoc (ds : List Nd) (d : Nd) : idsL (ds ++ [d]) = idsL ds ++ [addR (addsL ds) d] := by
  have h := idsL_fst ds
  unfold idsL
  rw [List.foldl_append, List.foldl_cons, List.foldl_nil, h]
theorem addsL_len (ds : List Nd) : (addsL ds).length ≤ ds.length := by
  refine snocInd (p := fun ds => (addsL ds).length ≤ ds.length) (Nat.le_refl _) (fun L d ih => ?_) ds
  have := (addL_length (addsL L) d).1
  show (addsL (L ++ [d])).length ≤ (L ++ [d]).length
  rw [addsL_snoc, List.length_append, List.length_singleton]
  omega
theorem idsL_len (ds : List Nd) : (idsL ds).length = ds.length := by
  refine snocInd (p := fun ds => (idsL ds).length = ds.length) rfl (fun L d ih => ?_) ds
  show (idsL (L ++ [d])).length = (L ++ [d]).length
  rw [idsL_snoc, List.length_append, List.length_append, ih]; rfl

theorem GraphAt.takes {B g m c : Nat} {a : Option Addr} {L : List Nd} {w : World} (h : GraphAt B w g m a c L) : ∀ q, Takes g m a q → B ≤ q ∧ q < w.heap.size := by
  rintro q (rfl | rfl | ⟨x, hx, rfl⟩)
  · exact ⟨h.low.1, h.gLt⟩
  · exact ⟨h.low.2, h.mLt⟩
  · exact h.row.lt x.block (by rw [hx]; rfl)
theorem GraphAt.keptOn {N g m c : Nat} {a : Option Addr} {L : List Nd} {w wr wr' : World} (h : GraphAt N wr g m a c L) (hN : w.heap.size ≤ N) (hk : Kept w wr) (ht : Turned (Takes g m a) wr wr') : Kept w wr' :=
  ⟨ht.os.trans hk.os, ht.tape.trans hk.tape, ht.output.trans hk.output, Nat.le_trans hk.size ht.size, fun q hq => (ht.block q (Nat.lt_of_lt_of_le hq hk.size) fun e => by have := (h.takes q e).1; omega).trans (hk.block q hq)⟩

/-- In the midst of Made: the graph of the first j nodes, and their numbers. -/
def MadeAt (N : Nat) (wr : World) (g m j : Nat) (ds : List Nd) (v : Value) : Prop :=
  ∃ a c a' c', GraphAt N wr g m a c (addsL (ds.take j)) ∧ v = .slice a' j c' ∧ wr.ownsRow N 30 1 (.slice a' j c') j ((idsL (ds.take j)).map (Value.int .i64)) ∧ ∀ q, Takes g m a q → (Value.slice a' j c').ownBlock ≠ some q
theorem made_step {N g m j : Nat} {ds : List Nd} {d : Nd} {a a2 a' : Option Addr} {c c2 c' gg cap : Nat} {wr w1 w4 : World} {o : Obj} (hG : GraphAt N wr g m a c (addsL (ds.take j))) (hd : ds[j]? = some d)
    (hrow : wr.ownsRow N 30 1 (.slice a' j c') j ((idsL (ds.take j)).map (Value.int .i64))) (hap : ∀ q, Takes g m a q → (Value.slice a' j c').ownBlock ≠ some q)
    (hG1 : GraphAt N w1 g m a2 c2 (addL (addsL (ds.take j)) d)) (ht : Turned (Takes g m a) wr w1) (hnew : ∀ q, Takes g m a2 q → Takes g m a q ∨ wr.heap.size ≤ q)
    (hown : w4.ownsRow N 30 1 (.slice (some ⟨gg, 0, none⟩) (j + 1) cap) (j + 1) ((idsL (ds.take j)).map (Value.int .i64) ++ [.int .i64 (addR (addsL (ds.take j)) d)]))
    (hgrow : (w1.alloc o).grownBy w4 (Value.slice a' j c').ownBlock) (hat : (Value.slice a' j c').ownBlock = some gg ∨ gg = w1.heap.size + 1) :
    MadeAt N w4 g m (j + 1) ds (.slice (some ⟨gg, 0, none⟩) (j + 1) cap) ∧ (∀ w, Kept w wr → w.heap.size ≤ N → Kept w w4) := by
  have htk : ds.take (j + 1) = ds.take j ++ [d] := by
    have hj : j < ds.length := (List.getElem?_eq_some_iff.1 hd).1
    rw [List.take_succ_eq_append_getElem hj]
    have : ds[j] = d := (List.getElem?_eq_some_iff.1 hd).2
    rw [this]
  have hold : ∀ q, (Value.slice a' j c').ownBlock = some q → q < wr.heap.size ∧ N ≤ q ∧ ¬ Takes g m a q := fun q hq => ⟨(hrow.lt q hq).2, (hrow.lt q hq).1, fun e => hap q e hq⟩
  have hG1' := hG1.kept ((Kept.refl w1).alloc o)
  have hsz := ht.size
  have hT2 : ∀ q, Takes g m a2 q → (Value.slice a' j c').ownBlock ≠ some q := by
    intro q hq e
    have h1 := hold q e
    rcases hnew q hq with h | h
    · exact h1.2.2 h
    · omega
  have tg : Turned (fun q => (Value.slice a' j c').ownBlock = some q) (w1.alloc o) w4 := Turned.grown hgrow fun k hk => hk
  refine ⟨⟨a2, c2, some ⟨gg, 0, none⟩, cap, ?_, rfl, ?_, ?_⟩, ?_⟩
  · rw [htk, addsL_snoc]
    exact hG1'.turned tg fun q hq => hT2 q hq
  · rw [htk, idsL_snoc, List.map_append]
    exact hown
  · intro q hq e
    have : gg = q := by simpa [Value.ownBlock] using e
    subst this
    rcases hat with h | h
    · exact hT2 gg hq h
    · have := (hG1.takes gg hq).2; omega
  · intro w hk hN
    have k1 := hG.keptOn hN hk ht
    have k2 := k1.alloc o
    refine ⟨tg.os.trans k2.os, tg.tape.trans k2.tape, tg.output.trans k2.output, Nat.le_trans k2.size tg.size, fun q hq => (tg.block q (Nat.lt_of_lt_of_le hq k2.size) fun e => ?_).trans (k2.block q hq)⟩
    have := (hold q e).2.1
    omega

set_option maxRecDepth 100000 in
set_option maxHeartbeats 8000000 in
theorem made_any (la : Option Addr) (n lc : Nat) (ds : List Nd) (w : World) (hds : NodesAt w la n ds) (hn : n ≤ 200) (hL : Laid w) :
    Calls Tryd.prog 17 #[.slice la n lc] w fun e w' => ∃ g m v, e = .returned (.tuple #[.pointer (some ⟨g, 0, none⟩), v]) ∧ MadeAt w.heap.size w' g m n ds v ∧ Kept w w' := by
  have HD := Lib.hid hds
  have HL := Lib.hid hL
  clear hds hL
  go_enter Tryd.func17, Tryd.ntmps17
  go_wp2_with fail
  refine (new_any w.heap.size w (Nat.le_refl _)).mono ?_
  rintro e w0 ⟨g, m, rfl, hG, hK, _⟩
  have HG := Lib.hid hG; have HK := Lib.hid hK
  clear hG hK
  go_wp2_with fail
  go_loopw [5, 6] (fun v i wr => ∃ j : Nat, j ≤ n ∧ i = .int .i64 j ∧ MadeAt w.heap.size wr g m j ds v ∧ Kept w wr) (fun _ i _ => n - (intOf i).toNat)
  case atStart => exact ⟨0, Nat.zero_le _, rfl, ⟨none, 0, none, 0, HG.out, rfl, World.ownsRow_nil _ _ _ _, fun q _ h => by cases h⟩, HK.out⟩
  case round =>
    obtain ⟨j, hj, rfl, ⟨a, c, a', c', hG, rfl, hrow, hap⟩, hK⟩ := hrel
    by_cases hlt : j < n
    · obtain ⟨b, off, rfl, hc⟩ := HD.out.at_ (by omega)
      have hjl : j < ds.length := by rw [HD.out.len]; exact hlt
      obtain ⟨d, hd⟩ : ∃ d, ds[j]? = some d := ⟨_, List.getElem?_eq_getElem hjl⟩
      have hdo := HD.out.ok d (List.mem_of_getElem? hd)
      have hcd := hc j d hd
      have x0 := hK.cell (hcd 0 _ rfl)
      have x1 := hK.cell (hcd 1 _ rfl)
      have x2 := hK.cell (hcd 2 _ rfl)
      have x3 := hK.cell (hcd 3 _ rfl)
      have x4 := hK.cell (hcd 4 _ rfl)
      have x5 := hK.cell (hcd 5 _ rfl)
      simp only [Nat.add_zero] at x0
      clear hc hcd hjl
      have HDD := Lib.hid hd; have HDO := Lib.hid hdo; have HGj := Lib.hid hG; have HKj := Lib.hid hK; have HRj := Lib.hid hrow; have HAj := Lib.hid hap
      clear hd hdo hG hK hrow hap
      have hlen : (addsL (ds.take j)).length ≤ 900 := by
        have h1 := addsL_len (ds.take j)
        have h2 := List.length_take_le j ds
        omega
      have HLEN := Lib.hid hlen; clear hlen
      have hj0 : (0 : Int) ≤ (j : Int) := Int.natCast_nonneg _
      have hj1 : (j : Int) < (n : Int) := by omega
      obtain ⟨ii, hi, hz0, hz1, hz2⟩ := info_parts infoId
      have HI := Lib.hid (And.intro hi (And.intro hz0 (And.intro hz1 hz2))); clear hi hz0 hz1 hz2
      go_wp2_with fail
      refine (add_any HGj.out d HDO.out (HL.out.kept HKj.out) HLEN.out).mono ?_
      rintro e w1 ⟨rfl, a2, c2, hG1, hT1, hN1⟩
      have HG1 := Lib.hid hG1; have HT1 := Lib.hid hT1; have HN1 := Lib.hid hN1
      clear hG1 hT1 hN1 x0 x1 x2 x3 x4 x5
      have HROW : Hid ((w1.alloc (.cells #[.int .i64 (addR (addsL (ds.take j)) d)] 30)).ownsRow w.heap.size 30 1 (.slice a' j c') j ((idsL (ds.take j)).map (Value.int .i64))) :=
        World.ownsRow.alloc (ownsRow_block HRj.out fun q hq => HT1.out.block q (HRj.out.lt q hq).2 fun e => HAj.out q e hq) _
      have HLOW : Hid (w.heap.size ≤ w1.heap.size) := Nat.le_trans HKj.out.size HT1.out.size
      go_wp2_with (at_builtin; refine wpList_append_lies _ rfl _ _ _ rfl w.heap.size 30 ii _ 1 8 Tryd.underlying43 HI.out.1 HI.out.2.1 HI.out.2.2.1 HI.out.2.2.2 rfl (by omega) (.slice a' j c') j _ rfl HROW.out ⟨w1.heap.size, 0, none⟩ 1 1 [.int .i64 (addR (addsL (ds.take j)) d)] rfl rfl (World.news_of_block (cs := #[.int .i64 (addR (addsL (ds.take j)) d)]) (t := 30) (fr := (0, 0)) (heap_alloc_new w1 _)) (by simp [Value.oneCell']) (by omega) (by unfold maxLen; omega) (by omega) (by have := HLOW.out; simp; omega) (w1.heap.size + 1) (by simp) ?_; intro gg cap w4 hown4 hgrow4 hat4 hlt4; have HOW4 := Lib.hid hown4; have HGR4 := Lib.hid hgrow4; have HAT4 := Lib.hid hat4; clear hown4 hgrow4 hat4 hlt4)
      have hS := made_step HGj.out HDD.out HRj.out HAj.out HG1.out HT1.out HN1.out HOW4.out HGR4.out HAT4.out
      have HS := Lib.hid hS; clear hS
      go_roundw
      case rel => exact ⟨j + 1, by omega, by go_num, HS.out.1, HS.out.2 w HKj.out (Nat.le_refl _)⟩
      case measure => simp [intOf]; omega
    · obtain rfl : j = n := by omega
      have HGj := Lib.hid hG; have HKj := Lib.hid hK; have HRj := Lib.hid hrow; have HAj := Lib.hid hap
      clear hG hK hrow hap
      go_wp2
      go_ret2
      exact ⟨g, m, _, rfl, ⟨a, c, a', c', HGj.out, rfl, HRj.out, HAj.out⟩, HKj.out⟩
end Go.Proofs.YtjhmbbioplhcgaaDoor
