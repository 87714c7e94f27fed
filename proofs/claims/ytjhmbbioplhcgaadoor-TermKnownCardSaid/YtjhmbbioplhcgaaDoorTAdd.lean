/-
  Layer 2: the contract of Add, at a node that may not be, and at one that is there already.
-/
import Derived.Test.YtjhmbbioplhcgaaDoorTMeas
namespace Go.Proofs.YtjhmbbioplhcgaaDoor
open Go Go.RowKit

def nodeObj (d : Nd) : Obj := .cells #[.int .u8 d.k, .int .i64 d.n, .int .i64 d.a, .int .u8 d.o, .int .i64 d.x, .int .i64 d.y] 34
theorem box_facts {W w : World} {b : Nat} {d : Nd} (h : W.heap[b]? = some (nodeObj d)) (hk : Kept W w) :
    w.cell? ⟨b, 0, none⟩ = some (.int .u8 d.k) ∧ w.cell? ⟨b, 1, none⟩ = some (.int .i64 d.n) ∧ w.cell? ⟨b, 2, none⟩ = some (.int .i64 d.a) ∧ w.cell? ⟨b, 3, none⟩ = some (.int .u8 d.o) ∧ w.cell? ⟨b, 4, none⟩ = some (.int .i64 d.x) ∧ w.cell? ⟨b, 5, none⟩ = some (.int .i64 d.y) := by
  have h1 := hk.row h
  refine ⟨?_, ?_, ?_, ?_, ?_, ?_⟩ <;> (rw [cell_of_row _ _ _ _ _ _ h1]; rfl)

set_option maxHeartbeats 2000000 in
theorem add_bad {B g m c : Nat} {sa : Option Addr} {L : List Nd} {w : World} (h : GraphAt B w g m sa c L) (d : Nd) (hm : mayB L.length d = false) :
    Calls Tryd.prog 12 #[.pointer (some ⟨g, 0, none⟩), d.val] w fun e w' => e = .returned (.int .i64 (-1)) ∧ Kept w w' := by
  have HG := Lib.hid (h.kept ((Kept.refl w).alloc (nodeObj d)))
  have HB := Lib.hid ((MapKept.heap_alloc w (nodeObj d)).1)
  have HQ := Lib.hid ((Kept.refl w).alloc (nodeObj d))
  have HM := Lib.hid hm
  clear h hm
  simp only [Nd.val]
  go_enter Tryd.func12, Tryd.ntmps12
  go_wp2_with fail
  change Calls _ _ #[_, d.val] (w.alloc (nodeObj d)) _
  generalize w.alloc (nodeObj d) = W at *
  refine (may_any HG.out d).mono ?_
  rintro e w1 ⟨rfl, hk⟩
  rw [HM.out]
  have HK := Lib.hid (HQ.out.trans hk); clear hk
  go_wp2
  go_ret
  exact ⟨rfl, HK.out⟩

set_option maxHeartbeats 2000000 in
theorem add_old {B g m c : Nat} {sa : Option Addr} {L : List Nd} {w : World} (h : GraphAt B w g m sa c L) (d : Nd) (hd : d.Ok) (hm : mayB L.length d = true) (hi : inL L d = true) :
    Calls Tryd.prog 12 #[.pointer (some ⟨g, 0, none⟩), d.val] w fun e w' => e = .returned (.int .i64 (idx L d)) ∧ Kept w w' := by
  have HG := Lib.hid (h.kept ((Kept.refl w).alloc (nodeObj d)))
  have HB := Lib.hid ((MapKept.heap_alloc w (nodeObj d)).1)
  have HQ := Lib.hid ((Kept.refl w).alloc (nodeObj d))
  have HM := Lib.hid hm
  have HI := Lib.hid hi
  have HD := Lib.hid hd
  clear h hm hi hd
  simp only [Nd.val]
  go_enter Tryd.func12, Tryd.ntmps12
  go_wp2_with fail
  change Calls _ _ #[_, d.val] (w.alloc (nodeObj d)) _
  generalize w.alloc (nodeObj d) = W at *
  generalize w.heap.size = b at *
  refine (may_any HG.out d).mono ?_
  rintro e w1 ⟨rfl, hk⟩
  rw [HM.out]
  have HK := Lib.hid (HQ.out.trans hk)
  obtain ⟨f0, f1, f2, f3, f4, f5⟩ := box_facts HB.out hk
  have HG1 := Lib.hid (HG.out.kept hk); clear hk
  have HF := Lib.hid (⟨f0, f1, f2, f3, f4, f5⟩ : _ ∧ _ ∧ _ ∧ _ ∧ _ ∧ _)
  clear f0 f1 f2 f3 f4 f5
  have SK : Hid (∀ w', Kept w1 w' → w'.cell? ⟨g, 1, none⟩ = some (.map (some m)) ∧
      w'.cell? ⟨b, 0, none⟩ = some (.int .u8 d.k) ∧ w'.cell? ⟨b, 1, none⟩ = some (.int .i64 d.n) ∧ w'.cell? ⟨b, 2, none⟩ = some (.int .i64 d.a) ∧ w'.cell? ⟨b, 3, none⟩ = some (.int .u8 d.o) ∧ w'.cell? ⟨b, 4, none⟩ = some (.int .i64 d.x) ∧ w'.cell? ⟨b, 5, none⟩ = some (.int .i64 d.y) ∧
      (Instr.lookup 73 (.map (some m)) (.agg #[.int .u8 d.k, .int .i64 d.n, .int .i64 d.a, .int .u8 d.o, .int .i64 d.x, .int .i64 d.y]) true).run Tryd.prog w' = .ok (.tuple #[.int .i64 (idx L d : Int), .bool true]) w') := fun w' hk =>
    ⟨hk.cell HG1.out.cell1, hk.cell HF.out.1, hk.cell HF.out.2.1, hk.cell HF.out.2.2.1, hk.cell HF.out.2.2.2.1, hk.cell HF.out.2.2.2.2.1, hk.cell HF.out.2.2.2.2.2, by
      have l := (HG1.out.kept hk).look HD.out
      rw [if_pos HI.out, HI.out] at l
      exact l⟩
  go_wp2
  go_region_held3 (fun w' => w'.cell? ⟨g, 1, none⟩ = some (.map (some m)) ∧
      w'.cell? ⟨b, 0, none⟩ = some (.int .u8 d.k) ∧ w'.cell? ⟨b, 1, none⟩ = some (.int .i64 d.n) ∧ w'.cell? ⟨b, 2, none⟩ = some (.int .i64 d.a) ∧ w'.cell? ⟨b, 3, none⟩ = some (.int .u8 d.o) ∧ w'.cell? ⟨b, 4, none⟩ = some (.int .i64 d.x) ∧ w'.cell? ⟨b, 5, none⟩ = some (.int .i64 d.y) ∧
      (Instr.lookup 73 (.map (some m)) (.agg #[.int .u8 d.k, .int .i64 d.n, .int .i64 d.a, .int .u8 d.o, .int .i64 d.x, .int .i64 d.y]) true).run Tryd.prog w' = .ok (.tuple #[.int .i64 (idx L d : Int), .bool true]) w')
    (first | exact SK.out _ (Kept.refl _) | exact SK.out _ (Kept.drew (Kept.refl _)))
    (fail)
  go_wp2
  go_ret
  exact ⟨rfl, HK.out.drew⟩
theorem ownsRow_block {w w' : World} {B e k : Nat} {v : Value} {n : Nat} {xs : List Value} (h : w.ownsRow B e k v n xs) (hb : ∀ b, v.ownBlock = some b → w'.heap[b]? = w.heap[b]?) : w'.ownsRow B e k v n xs := by
  obtain ⟨h1, h2⟩ := h
  refine ⟨h1, ?_⟩
  rcases h2 with h2 | ⟨b, cap, cur, hv, hB, hblk, hr⟩
  · exact Or.inl h2
  · exact Or.inr ⟨b, cap, cur, hv, hB, (hb b (by rw [hv]; rfl)).trans hblk, hr⟩
theorem ownsMap_block {w w' : World} {P : Program} {k : TypeId} {R : Value → Option (DataW Unit × List MemPlace)} {b n : Nat} {D : DataW Unit} (h : w.ownsMap P k R b n D) (hb : w'.heap[b]? = w.heap[b]?) : w'.ownsMap P k R b n D := by
  obtain ⟨es, clock, h1, h2⟩ := h
  exact ⟨es, clock, hb.trans h1, h2⟩
/-- Behind the append and its store: the graph but for the map. -/
structure Mid (B : Nat) (w w2 w5 : World) (g m : Nat) (sa : Option Addr) (gg cap : Nat) (L : List Nd) (d : Nd) : Prop where
  blk : w5.heap[g]? = some (.cells #[.slice (some ⟨gg, 0, none⟩) (L.length + 1) cap, .map (some m)] 76 (0, 0))
  row : w5.ownsRow B 80 8 (.slice (some ⟨gg, 0, none⟩) (L.length + 1) cap) (L.length + 1) (keptCells (kps (L ++ [d])))
  map : w5.ownsMap Tryd.prog 34 (plainElem Tryd.prog 30) m L.length (Dm L)
  turned : Turned (Takes g m sa) w w5
  turned2 : Turned (Takes g m sa) w2 w5
  at_ : sa = some ⟨gg, 0, none⟩ ∨ w.heap.size ≤ gg
  ne : gg ≠ g ∧ gg ≠ m
theorem mid_of {B g m c : Nat} {sa : Option Addr} {L : List Nd} {w w2 w3 w4 : World} {d : Nd} {gg cap : Nat} {o : Obj} (HG : GraphAt B w2 g m sa c L) (hK : Kept w w2) (hk3 : Kept w2 w3)
    (hw : sa = none ∨ ∃ x, sa = some x ∧ x.block < w.heap.size)
    (hown : w4.ownsRow B 80 8 (.slice (some ⟨gg, 0, none⟩) (L.length + 1) cap) (L.length + 1) (keptCells (kps L) ++ (kept1 (kps L) d).cells))
    (hgrow : (w3.alloc o).grownBy w4 (Value.slice sa L.length c).ownBlock) (hat : (Value.slice sa L.length c).ownBlock = some gg ∨ gg = w3.heap.size + 1) :
    Mid B w w2 (w4.setCell ⟨g, 0, none⟩ (.slice (some ⟨gg, 0, none⟩) (L.length + 1) cap)) g m sa gg cap L d := by
  have hG3 := (HG.kept hk3).kept (Kept.alloc (Kept.refl w3) o)
  have hsz := hk3.size
  have hszw := hK.size
  have hg3 : g < (w3.alloc o).heap.size := hG3.gLt
  have hm3 : m < (w3.alloc o).heap.size := hG3.mLt
  have hga : ∀ q, (Value.slice sa L.length c).ownBlock = some q → q ≠ g ∧ q ≠ m ∧ q < w2.heap.size := by
    intro q hq
    cases sa with
    | none => cases hq
    | some x =>
      have hx : x.block = q := by simpa [Value.ownBlock] using hq
      refine ⟨fun e => HG.apart x rfl (hx.trans e), ?_, ?_⟩
      · intro e
        obtain ⟨es, clock, hb, _⟩ := HG.map
        rcases HG.row.2 with ⟨h1, _⟩ | ⟨r, _, cur, hv, _, hblk, _⟩
        · cases h1
        · have : x = ⟨r, 0, none⟩ := by injection hv with h1 _ _; injection h1
          subst this
          simp only at hx
          rw [hx, e, hb] at hblk
          cases hblk
      · have := (HG.row.lt q hq).2
        exact this
  have hgg : gg ≠ g ∧ gg ≠ m := by
    rcases hat with h | h
    · exact ⟨(hga gg h).1, (hga gg h).2.1⟩
    · have := HG.gLt; have := HG.mLt
      exact ⟨by omega, by omega⟩
  have hb4 : ∀ q, q < (w3.alloc o).heap.size → some q ≠ (Value.slice sa L.length c).ownBlock → w4.heap[q]? = (w3.alloc o).heap[q]? := fun q hq hn => hgrow.block q hq hn
  have hg4 : w4.heap[g]? = some (.cells #[.slice sa L.length c, .map (some m)] 76 (0, 0)) := (hb4 g hg3 (fun e => (hga g e.symm).1 rfl)).trans hG3.blk
  have t2 : Turned (Takes g m sa) (w3.alloc o) w4 := Turned.grown hgrow fun k hk => by
      cases sa with
      | none => cases hk
      | some x => exact Or.inr (Or.inr ⟨x, rfl, by simpa [Value.ownBlock] using hk.symm⟩)
  refine ⟨setCell_row hg4 0 _, ?_, ?_, ?_, (((hk3.alloc o).turned _).trans t2).trans (Turned.setCell _ _ _ (Or.inl rfl)), ?_, hgg⟩
  · have hkc : keptCells (kps (L ++ [d])) = keptCells (kps L) ++ (kept1 (kps L) d).cells := by
      rw [kps_snoc]; simp [keptCells]
    rw [hkc]
    refine ownsRow_block hown fun q hq => ?_
    have : gg = q := by simpa [Value.ownBlock] using hq
    subst this
    exact Below.heap_setCell _ _ _ _ hgg.1
  · refine ownsMap_block hG3.map ?_
    have hmg : m ≠ g := by
      intro e
      obtain ⟨es, clock, hb, _⟩ := hG3.map
      rw [e, hG3.blk] at hb
      cases hb
    rw [Below.heap_setCell _ _ _ _ hmg]
    exact hb4 m hm3 (fun e => (hga m e.symm).2.1 rfl)
  · have t1 : Turned (Takes g m sa) w (w3.alloc o) := (hK.trans (hk3.alloc o)).turned _
    exact (t1.trans t2).trans (Turned.setCell _ _ _ (Or.inl rfl))
  · rcases hat with h | h
    · left
      cases sa with
      | none => cases h
      | some x =>
        rcases HG.row.2 with ⟨h1, _⟩ | ⟨r, _, cur, hv, _, hblk, _⟩
        · cases h1
        · have hx : x = ⟨r, 0, none⟩ := by injection hv with h1 _ _; injection h1
          have hx2 : x.block = gg := by simpa [Value.ownBlock] using h
          subst hx
          simp only at hx2
          rw [hx2]
    · right; omega
/-- .. and behind the store into the map: the graph with the node. -/
theorem add_end {B g m : Nat} {sa : Option Addr} {L : List Nd} {w w2 w5 w6 : World} {d : Nd} {gg cap : Nat} (hM : Mid B w w2 w5 g m sa gg cap L d) (hG : Good (L ++ [d])) (hlow : B ≤ g ∧ B ≤ m)
    (hmap : w6.ownsMap Tryd.prog 34 (plainElem Tryd.prog 30) m (L.length + 1) ((Dm L).put (litOf d) (.lit (.int .i64 (L.length : Int))))) (hgrow : w5.grownBy w6 (some m)) :
    GraphAt B w6 g m (some ⟨gg, 0, none⟩) cap (L ++ [d]) ∧ Turned (Takes g m sa) w w6 ∧ (∀ q, Takes g m (some ⟨gg, 0, none⟩) q → Takes g m sa q ∨ w.heap.size ≤ q) := by
  have hlen : (L ++ [d]).length = L.length + 1 := by simp
  have hgl : g < w5.heap.size := (Array.getElem?_eq_some_iff.1 hM.blk).1
  have hgm : g ≠ m := by
    intro e
    obtain ⟨es, clock, hb, _⟩ := hM.map
    rw [← e, hM.blk] at hb
    cases hb
  have hb6 : ∀ q, q < w5.heap.size → q ≠ m → w6.heap[q]? = w5.heap[q]? := fun q hq hn => hgrow.block q hq (by simpa using hn)
  refine ⟨⟨?_, ?_, ?_, ?_, hlow, hG⟩, hM.turned.trans (Turned.grown hgrow fun k hk => Or.inr (Or.inl (by simpa using hk.symm))), ?_⟩
  · rw [hlen]; exact (hb6 g hgl hgm).trans hM.blk
  · rw [hlen]
    refine ownsRow_block hM.row fun q hq => ?_
    have : gg = q := by simpa [Value.ownBlock] using hq
    subst this
    exact hb6 gg (hM.row.lt gg rfl).2 hM.ne.2
  · rw [hlen, Dm_snoc]; exact hmap
  · intro x hx
    have : x = ⟨gg, 0, none⟩ := by simpa using hx.symm
    rw [this]
    exact hM.ne.1
  · rintro q (rfl | rfl | ⟨x, hx, rfl⟩)
    · exact Or.inl (Or.inl rfl)
    · exact Or.inl (Or.inr (Or.inl rfl))
    · have hx' : x = ⟨gg, 0, none⟩ := by simpa using hx.symm
      subst hx'
      rcases hM.at_ with h | h
      · exact Or.inl (Or.inr (Or.inr ⟨_, h, rfl⟩))
      · exact Or.inr h
theorem infoKept : (Tryd.prog.info? 80).map (fun i => (i.zero, i.size, i.bytes)) = some (some (.agg #[.int .u8 0, .int .i64 0, .int .i64 0, .int .u8 0, .int .i64 0, .int .i64 0, .int .i64 0, .int .i64 0]), 8, 64) := by kernel_rfl
set_option maxRecDepth 100000 in
set_option maxHeartbeats 8000000 in
theorem add_new {B g m c : Nat} {sa : Option Addr} {L : List Nd} {w : World} (h : GraphAt B w g m sa c L) (d : Nd) (hd : d.Ok) (hm : mayB L.length d = true) (hi : inL L d = false) (hL : Laid w) (hlen : L.length ≤ 900) :
    Calls Tryd.prog 12 #[.pointer (some ⟨g, 0, none⟩), d.val] w fun e w' => e = .returned (.int .i64 L.length) ∧ ∃ a' c', GraphAt B w' g m a' c' (L ++ [d]) ∧ Turned (Takes g m sa) w w' ∧ (∀ q, Takes g m a' q → Takes g m sa q ∨ w.heap.size ≤ q) := by
  obtain ⟨ik, hik, hz0, hz1, hz2⟩ := info_parts infoKept
  have HIK := Lib.hid (And.intro hik (And.intro hz0 (And.intro hz1 hz2))); clear hik hz0 hz1 hz2
  have hnil := fun w => run_eql_map_nil (P := Tryd.prog) w 73 _ _ (some m) Tryd.underlying73
  have HG := Lib.hid (h.kept ((Kept.refl w).alloc (nodeObj d)))
  have HB := Lib.hid ((MapKept.heap_alloc w (nodeObj d)).1)
  have HQ := Lib.hid ((Kept.refl w).alloc (nodeObj d))
  have HM := Lib.hid hm
  have HI := Lib.hid hi
  have HD := Lib.hid hd
  have HLd := Lib.hid hL
  have HH := Lib.hid h
  have HSA : Hid (sa = none ∨ ∃ x, sa = some x ∧ x.block < w.heap.size) := by
    cases sa with
    | none => exact Or.inl rfl
    | some x => exact Or.inr ⟨x, rfl, (h.row.lt x.block rfl).2⟩
  have HNB : Hid (¬ Takes g m sa w.heap.size) := by
    rintro (e | e | ⟨x, e, e2⟩)
    · exact Nat.ne_of_gt h.gLt e
    · exact Nat.ne_of_gt h.mLt e
    · exact Nat.ne_of_gt (h.row.lt x.block (by rw [e]; rfl)).2 e2
  clear h hm hi hd hL
  have hlen1 : L.length ≤ 9223372036854775807 := by omega
  simp only [Nd.val]
  go_enter Tryd.func12, Tryd.ntmps12
  go_wp2_with fail
  change Calls _ _ #[_, d.val] (w.alloc (nodeObj d)) _
  generalize w.alloc (nodeObj d) = W at *
  generalize hbb : w.heap.size = b at *
  have HBB := Lib.hid hbb; clear hbb
  refine (may_any HG.out d).mono ?_
  rintro e w1 ⟨rfl, hk⟩
  rw [HM.out]
  have HK := Lib.hid (HQ.out.trans hk)
  have HF := Lib.hid (box_facts HB.out hk)
  have HBX := Lib.hid (hk.row HB.out)
  have HG1 := Lib.hid (HG.out.kept hk); clear hk
  have SK : Hid (∀ w', Kept w1 w' → w'.cell? ⟨g, 1, none⟩ = some (.map (some m)) ∧
      w'.cell? ⟨b, 0, none⟩ = some (.int .u8 d.k) ∧ w'.cell? ⟨b, 1, none⟩ = some (.int .i64 d.n) ∧ w'.cell? ⟨b, 2, none⟩ = some (.int .i64 d.a) ∧ w'.cell? ⟨b, 3, none⟩ = some (.int .u8 d.o) ∧ w'.cell? ⟨b, 4, none⟩ = some (.int .i64 d.x) ∧ w'.cell? ⟨b, 5, none⟩ = some (.int .i64 d.y) ∧
      (Instr.lookup 73 (.map (some m)) (.agg #[.int .u8 d.k, .int .i64 d.n, .int .i64 d.a, .int .u8 d.o, .int .i64 d.x, .int .i64 d.y]) true).run Tryd.prog w' = .ok (.tuple #[.int .i64 0, .bool false]) w') := fun w' hk =>
    ⟨hk.cell HG1.out.cell1, hk.cell HF.out.1, hk.cell HF.out.2.1, hk.cell HF.out.2.2.1, hk.cell HF.out.2.2.2.1, hk.cell HF.out.2.2.2.2.1, hk.cell HF.out.2.2.2.2.2, by
      have l := (HG1.out.kept hk).look HD.out
      rw [HI.out] at l
      exact l⟩
  go_wp2
  go_region_held3 (fun w' => w'.cell? ⟨g, 1, none⟩ = some (.map (some m)) ∧
      w'.cell? ⟨b, 0, none⟩ = some (.int .u8 d.k) ∧ w'.cell? ⟨b, 1, none⟩ = some (.int .i64 d.n) ∧ w'.cell? ⟨b, 2, none⟩ = some (.int .i64 d.a) ∧ w'.cell? ⟨b, 3, none⟩ = some (.int .u8 d.o) ∧ w'.cell? ⟨b, 4, none⟩ = some (.int .i64 d.x) ∧ w'.cell? ⟨b, 5, none⟩ = some (.int .i64 d.y) ∧
      (Instr.lookup 73 (.map (some m)) (.agg #[.int .u8 d.k, .int .i64 d.n, .int .i64 d.a, .int .u8 d.o, .int .i64 d.x, .int .i64 d.y]) true).run Tryd.prog w' = .ok (.tuple #[.int .i64 0, .bool false]) w')
    (first | exact SK.out _ (Kept.refl _) | exact SK.out _ (Kept.drew (Kept.refl _)))
    (fail)
  have g0 := (HG1.out.kept (Kept.drew (Kept.refl w1))).cell0
  have g1 := (HG1.out.kept (Kept.drew (Kept.refl w1))).cell1
  change Exit.then _ _ _ _ w1.drew
  have HG2 := Lib.hid (HG1.out.kept (Kept.drew (Kept.refl w1)))
  have HK2 := Lib.hid (HK.out.drew)
  have HF2 := Lib.hid (box_facts HBX.out (Kept.drew (Kept.refl w1)))
  have HBX2 := Lib.hid ((Kept.drew (Kept.refl w1)).row HBX.out)
  generalize w1.drew = w2 at *
  clear SK HG1 HF HK HG HB HBX
  go_upto_region 9 with (fail)
  obtain ⟨D, hD⟩ : ∃ D : Nat, D = (kept1 (kps L) d).deep := ⟨_, rfl⟩
  obtain ⟨T, hT⟩ : ∃ T : Nat, T = (kept1 (kps L) d).long := ⟨_, rfl⟩
  have HCELLS : Hid ((kept1 (kps L) d).cells = [.int .u8 d.k, .int .i64 d.n, .int .i64 d.a, .int .u8 d.o, .int .i64 d.x, .int .i64 d.y, .int .i64 (D : Int), .int .i64 (T : Int)]) := by rw [hD, hT]; rfl
  clear hD hT
  have MEAS : Hid (∀ w', Kept w2 w' → Calls Tryd.prog 34 #[.pointer (some ⟨g, 0, none⟩), .agg #[.int .u8 d.k, .int .i64 d.n, .int .i64 d.a, .int .u8 d.o, .int .i64 d.x, .int .i64 d.y]] w' fun e w'' => e = .returned (.agg #[.int .u8 d.k, .int .i64 d.n, .int .i64 d.a, .int .u8 d.o, .int .i64 d.x, .int .i64 d.y, .int .i64 (D : Int), .int .i64 (T : Int)]) ∧ Kept w2 w'') := fun w' hk => by
    refine (measured_any (HG2.out.kept hk) d HD.out HM.out (HLd.out.kept (HK2.out.trans hk)) (by omega)).mono fun e w'' hh => ⟨?_, hk.trans hh.2⟩
    rw [hh.1, HCELLS.out]
  have HV : Hid ((Value.slice sa L.length c).ownBlock ≠ some g) := by
    intro e
    cases sa with
    | none => cases e
    | some x => exact HG2.out.apart x rfl (by simpa [Value.ownBlock] using e)
  have HZ : Hid (∀ w', Kept w2 w' → w'.cell? ⟨g, 0, none⟩ = some (.slice sa L.length c) ∧ w'.frozen? ⟨g, 0, none⟩ = false ∧ g < w'.heap.size ∧ g ≠ w'.heap.size) := fun w' hk =>
    ⟨(HG2.out.kept hk).cell0, (HG2.out.kept hk).free 0, (HG2.out.kept hk).gLt, Nat.ne_of_lt (HG2.out.kept hk).gLt⟩
  have hK0 := Kept.refl w2
  obtain ⟨f0, f1, f2, f3, f4, f5⟩ := HF2.out
  go_region_law ((first
    | (refine step_append_lies _ (by rfl) _ _ _ (by rfl) B 80 ik _ 8 64 Tryd.underlying74 HIK.out.1 HIK.out.2.1 HIK.out.2.2.1 HIK.out.2.2.2 rfl (by omega) (.slice sa L.length c) L.length (keptCells (kps L)) (by rfl) ((HG2.out.kept hk3).row.alloc _)
        ⟨w3.heap.size, 0, none⟩ 1 1 [.int .u8 d.k, .int .i64 d.n, .int .i64 d.a, .int .u8 d.o, .int .i64 d.x, .int .i64 d.y, .int .i64 (D : Int), .int .i64 (T : Int)] (by rfl) (by rfl) (World.news_of_block (cs := #[.int .u8 d.k, .int .i64 d.n, .int .i64 d.a, .int .u8 d.o, .int .i64 d.x, .int .i64 d.y, .int .i64 (D : Int), .int .i64 (T : Int)]) (t := 80) (fr := (0, 0)) (heap_alloc_new w3 _)) (by simp [Value.oneCell'])
        (by omega) (by unfold maxLen; omega) (by omega) (by have := HG2.out.low; have := HG2.out.gLt; have := hk3.size; simp; omega) (w3.heap.size + 1) (by simp) ?_; intro gg cap w4 hown4 hgrow4 hat4 hlt4
       have hz4 := HZ.out _ (hk3.alloc (.cells #[.int .u8 d.k, .int .i64 d.n, .int .i64 d.a, .int .u8 d.o, .int .i64 d.x, .int .i64 d.y, .int .i64 (D : Int), .int .i64 (T : Int)] 80))
       have c4 : w4.cell? ⟨g, 0, none⟩ = some (.slice sa L.length c) := (hgrow4.cell_far ⟨g, 0, none⟩ hz4.2.2.1 (Ne.symm HV.out)).trans hz4.1
       have z4 : w4.frozen? ⟨g, 0, none⟩ = false := (hgrow4.frozen_far ⟨g, 0, none⟩ hz4.2.2.1 (Ne.symm HV.out)).trans hz4.2.1
       have HGR := Lib.hid hgrow4; have HOW := Lib.hid hown4; have HAT := Lib.hid hat4; have HLT := Lib.hid hlt4; have HK3 := Lib.hid hk3
       clear hgrow4 hown4 hat4 hlt4 hk3 hz4 q0 q1 q2 q3)
    | (go_simp; go_at_call 34; refine (MEAS.out _ (by first | exact hK0 | exact Kept.drew hK0)).mono ?_; rintro e w3 ⟨rfl, hk3⟩; obtain ⟨q0, q1, q2, q3⟩ := HZ.out w3 hk3)))
  all_goals
    have HM5 := Lib.hid (mid_of (d := d) HG2.out HK2.out HK3.out (by rw [HBB.out]; exact HSA.out) (HCELLS.out ▸ HOW.out) HGR.out HAT.out)
    clear c4 z4 HGR HOW HAT HLT HK3
    generalize w4.setCell ⟨g, 0, none⟩ (.slice (some ⟨gg, 0, none⟩) (L.length + 1) cap) = w5 at *
    have HBX5 := Lib.hid ((HM5.out.turned2.block b (Array.getElem?_eq_some_iff.1 HBX2.out).1 HNB.out).trans HBX2.out)
    clear f0 f1 f2 f3 f4 f5
    obtain ⟨f0, f1, f2, f3, f4, f5⟩ := box_facts HBX5.out (Kept.refl w5)
    have g1 : w5.cell? ⟨g, 1, none⟩ = some (.map (some m)) := by rw [cell_of_row _ _ _ _ _ _ HM5.out.blk]; rfl
    obtain ⟨w6, hrun, hmap6, hgrow6⟩ := (World.ownsMap.drew HM5.out.map).update lawNode Tryd.underlying73 (by unfold maxLen; omega) (keyOf_node d HD.out) (plainElem_int Tryd.underlying30 (wf_i64 (show InR (L.length : Int) from ⟨by omega, by omega⟩)))
    have HMP := Lib.hid hmap6; have HGR6 := Lib.hid hgrow6; clear hmap6 hgrow6
    simp only [Nd.val] at hrun
    go_wp2
    go_region
    go_wp2
    go_ret
    have hE := add_end HM5.out (Good.snoc (HG2.out).good HD.out HM.out HI.out) HG2.out.low HMP.out ⟨HGR6.out.os, HGR6.out.tape, HGR6.out.output, HGR6.out.size, HGR6.out.block⟩
    exact ⟨rfl, _, _, hE⟩

/-- Add, of any node. -/
theorem add_any {B g m c : Nat} {sa : Option Addr} {L : List Nd} {w : World} (h : GraphAt B w g m sa c L) (d : Nd) (hd : d.Ok) (hL : Laid w) (hlen : L.length ≤ 900) :
    Calls Tryd.prog 12 #[.pointer (some ⟨g, 0, none⟩), d.val] w fun e w' => e = .returned (.int .i64 (addR L d)) ∧ ∃ a' c', GraphAt B w' g m a' c' (addL L d) ∧ Turned (Takes g m sa) w w' ∧ (∀ q, Takes g m a' q → Takes g m sa q ∨ w.heap.size ≤ q) := by
  unfold addR addL
  cases hm : mayB L.length d with
  | false =>
    refine (add_bad h d hm).mono fun e w' hh => ⟨by rw [hh.1]; rfl, sa, c, ?_, hh.2.turned _, fun q hq => Or.inl hq⟩
    exact h.kept hh.2
  | true =>
    cases hi : inL L d with
    | true =>
      refine (add_old h d hd hm hi).mono fun e w' hh => ⟨by rw [hh.1]; rfl, sa, c, ?_, hh.2.turned _, fun q hq => Or.inl hq⟩
      exact h.kept hh.2
    | false =>
      refine (add_new h d hd hm hi hL hlen).mono fun e w' hh => ⟨?_, hh.2⟩
      rw [hh.1, idx_none hi]
      rfl
end Go.Proofs.YtjhmbbioplhcgaaDoor
