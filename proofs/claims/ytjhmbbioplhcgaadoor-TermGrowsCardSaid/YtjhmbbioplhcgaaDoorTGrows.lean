/-
  Layer 2, TermGrows: with more terms.
-/
import Derived.Test.YtjhmbbioplhcgaaDoorTGrowM
import Derived.Test.YtjhmbbioplhcgaaDoorTIn
import Derived.Test.YtjhmbbioplhcgaaDoorTWorks
import Derived.Test.YtjhmbbioplhcgaaDoorTUniq
import Derived.Test.YtjhmbbioplhcgaaDoorTAdds
namespace Go.Proofs.YtjhmbbioplhcgaaDoor
open Go Go.RowKit

theorem infoStr2 : (Tryd.prog.info? 9).map (fun i => (i.zero, i.size, i.bytes)) = some (some (.string ⟨#[]⟩), 1, 16) := by kernel_rfl
theorem infoNode : (Tryd.prog.info? 34).map (fun i => (i.zero, i.size, i.bytes)) = some (some (.agg #[.int .u8 0, .int .i64 0, .int .i64 0, .int .u8 0, .int .i64 0, .int .i64 0]), 6, 48) := by kernel_rfl
theorem row_cells {W : World} {B n cap size : Nat} {e : TypeId} {a : Option Addr} {xs : List Value} (h : W.ownsRow B e size (.slice a n cap) n xs) (hn : 0 < n) : ∃ r, a = some ⟨r, 0, none⟩ ∧ B ≤ r ∧ r < W.heap.size ∧ ∀ W' : World, W'.heap[r]? = W.heap[r]? → ∀ j v, xs[j]? = some v → W'.cell? ⟨r, j, none⟩ = some v := by
  obtain ⟨hl, h2⟩ := h
  rcases h2 with ⟨_, h0⟩ | ⟨r, cap', cur, hv, hB, hblk, hle, hmx, hsz, htk⟩
  · omega
  · injection hv with ha _ _
    refine ⟨r, ha, hB, (Array.getElem?_eq_some_iff.1 hblk).1, fun W' hk j v hj => ?_⟩
    rw [cell_of_row _ _ _ _ _ _ (hk.trans hblk)]
    rw [← htk, List.getElem?_take] at hj
    split at hj
    · simpa using hj
    · cases hj
/-- The graph as more nodes are added; the rows beside it stay. -/
structure Gr (w w1 w5 wr : World) (g m : Nat) (a : Option Addr) (c : Nat) (LL : List Nd) : Prop where
  graph : GraphAt w.heap.size wr g m a c LL
  tk : ∀ b, Takes g m a b → b < w1.heap.size ∨ w5.heap.size ≤ b
  keep : ∀ b, w1.heap.size ≤ b → b < w5.heap.size → wr.heap[b]? = w5.heap[b]?
  size : w5.heap.size ≤ wr.heap.size
  K : Kept w wr
theorem Gr.step {w w1 w5 wr w6 : World} {g m c c2 : Nat} {a a2 : Option Addr} {LL L2 : List Nd} (h : Gr w w1 w5 wr g m a c LL) (hG : GraphAt w.heap.size w6 g m a2 c2 L2) (ht : Turned (Takes g m a) wr w6) (hn : ∀ q, Takes g m a2 q → Takes g m a q ∨ wr.heap.size ≤ q) : Gr w w1 w5 w6 g m a2 c2 L2 := by
  have hs := h.size
  refine ⟨hG, fun b hb => ?_, fun b h1 h2 => ?_, Nat.le_trans hs ht.size, h.graph.keptOn (Nat.le_refl _) h.K ht⟩
  · rcases hn b hb with h3 | h3
    · exact h.tk b h3
    · omega
  · refine (ht.block b (by omega) fun e => ?_).trans (h.keep b h1 h2)
    rcases h.tk b e with h3 | h3 <;> omega
/-- The texts of the first terms. -/
def txs (L : List Nd) (j : Nat) : List (List UInt8) := (List.range j).map fun (i : Nat) => textI L (i : Int)
theorem txs_succ (L : List Nd) (j : Nat) : txs L (j + 1) = txs L j ++ [textI L (j : Int)] := by simp [txs, List.range_succ]
theorem txs_len (L : List Nd) (j : Nat) : (txs L j).length = j := by simp [txs]
/-- The rows of nodes and texts so far. -/
def NR (N : Nat) (wr : World) (L : List Nd) (j : Nat) (v1 v2 : Value) : Prop := ∃ a1 c1 a2 c2, v1 = .slice a1 j c1 ∧ v2 = .slice a2 j c2 ∧ wr.ownsRow N 34 6 (.slice a1 j c1) j (nodeCells (L.take j)) ∧ wr.ownsRow N 9 1 (.slice a2 j c2) j ((txs L j).map str)

theorem rows_apart {N s1 s2 n1 n2 : Nat} {e1 e2 : TypeId} {v1 v2 : Value} {xs ys : List Value} {w : World} (h1 : w.ownsRow N e1 s1 v1 n1 xs) (h2 : w.ownsRow N e2 s2 v2 n2 ys) (he : e1 ≠ e2) (q : Nat) (hq : v1.ownBlock = some q) : v2.ownBlock ≠ some q := by
  intro hq2
  rcases h1.2 with ⟨rfl, _⟩ | ⟨r, _, cur, rfl, _, hb, _⟩
  · cases hq
  rcases h2.2 with ⟨rfl, _⟩ | ⟨r2, _, cur2, rfl, _, hb2, _⟩
  · cases hq2
  have e1 : r = q := by simpa [Value.ownBlock] using hq
  have e2 : r2 = q := by simpa [Value.ownBlock] using hq2
  subst e1
  subst e2
  rw [hb] at hb2
  cases hb2
  exact he rfl
/-- One row grows; the other, and all that was there, is as it was. -/
theorem grow_other {N s1 s2 n1 n2 : Nat} {e1 e2 : TypeId} {v1 v2 : Value} {xs ys : List Value} {w1 wr w4 : World} {o : Obj} (h1 : wr.ownsRow N e1 s1 v1 n1 xs) (h2 : wr.ownsRow N e2 s2 v2 n2 ys) (he : e1 ≠ e2) (hk : Kept w1 wr) (hN : w1.heap.size ≤ N) (hg : (wr.alloc o).grownBy w4 v1.ownBlock) :
    Kept w1 w4 ∧ w4.ownsRow N e2 s2 v2 n2 ys := by
  have tg : Turned (fun q => v1.ownBlock = some q) (wr.alloc o) w4 := Turned.grown hg fun k hk => hk
  have k2 := hk.alloc o
  refine ⟨⟨tg.os.trans k2.os, tg.tape.trans k2.tape, tg.output.trans k2.output, Nat.le_trans k2.size tg.size, fun q hq => (tg.block q (Nat.lt_of_lt_of_le hq k2.size) fun e => ?_).trans (k2.block q hq)⟩, ?_⟩
  · have := (h1.lt q e).1; omega
  · refine ownsRow_block (World.ownsRow.alloc h2 o) fun q hq => tg.block q ?_ fun e => rows_apart h1 h2 he q e hq
    have := ((World.ownsRow.alloc h2 o).lt q hq).2
    exact this

theorem deep_small {L : List Nd} {i : Int} (hL : L.length ≤ 900) : deepI L i ≤ 1000 := by
  have h0 : ∀ (M : List Nd), ∀ q ∈ kps M, q.deep ≤ M.length := by
    refine snocInd (by simp [kps]) fun M d ih q hq => ?_
    rw [kps_snoc] at hq
    rw [List.length_append]
    rcases List.mem_append.1 hq with h | h
    · have := ih q h; omega
    · rw [List.mem_singleton.1 h]
      exact deep1_le ih
  unfold deepI
  split
  · rename_i hb
    obtain ⟨h1, h2⟩ := (hasB_iff _ _).1 hb
    have h3 := h0 L (kAt (kps L) i) (by
      unfold kAt
      rw [List.getD_eq_getElem?_getD, List.getElem?_eq_getElem (by rw [kps_length]; omega)]
      exact List.getElem_mem _)
    omega
  · omega

set_option maxRecDepth 100000 in
set_option maxHeartbeats 16000000 in
theorem grows_few (la lb : Option Addr) (n lc k kc : Nat) (ds es : List Nd) (w : World) (hds : NodesAt w la n ds) (hes : NodesAt w lb k es) (hn : n ≤ 30) (hk : k ≤ 20) (hL : Laid w) :
    Calls Tryd.prog 6 #[.slice la n lc, .slice lb k kc] w fun e w' => e = .returned (.bool true) ∧ Kept w w' := by
  have HDS := Lib.hid hds
  have HES := Lib.hid hes
  have HL := Lib.hid hL
  clear hds hes hL
  have h1 : ¬ (30 : Int) < (n : Int) := by omega
  have h2 : ¬ (20 : Int) < (k : Int) := by omega
  have d1 : decide ((30 : Int) < (n : Int)) = false := decide_eq_false h1
  have d2 : decide ((20 : Int) < (k : Int)) = false := decide_eq_false h2
  go_enter Tryd.func6, Tryd.ntmps6
  go_wp2_with fail
  refine (made_any la n lc ds w HDS.out (by omega) HL.out).mono ?_
  rintro e w1 ⟨g, m, v, rfl, ⟨a, c, a', c', hG, rfl, _, _⟩, hk1⟩
  have hlen : (addsL (ds.take n)).length ≤ 30 := by
    have h2 := addsL_len (ds.take n)
    have h3 := List.length_take_le n ds
    omega
  generalize addsL (ds.take n) = L at *
  have HG := Lib.hid hG; have HK1 := Lib.hid hk1
  have HGD := Lib.hid hG.good
  have gc := hG.cell0
  clear hG hk1
  go_wp2_with (go_at_call 15; refine (size_cell _ _ _ _ _ gc).mono ?_; rintro e w' ⟨rfl, rfl⟩)
  go_loopw [8, 9, 10] (fun v1 v2 i wr => ∃ j : Nat, j ≤ L.length ∧ i = .int .i64 j ∧ NR w1.heap.size wr L j v1 v2 ∧ Kept w1 wr) (fun _ _ i _ => L.length - (intOf i).toNat)
  case atStart => exact ⟨0, Nat.zero_le _, rfl, ⟨none, 0, none, 0, rfl, rfl, World.ownsRow_nil _ _ _ _, World.ownsRow_nil _ _ _ _⟩, Kept.refl _⟩
  case round =>
    obtain ⟨j, hj, rfl, ⟨a1, c1, a2, c2, rfl, rfl, hr1, hr2⟩, hKr⟩ := hrel
    have HR1 := Lib.hid hr1; have HR2 := Lib.hid hr2; have HKR := Lib.hid hKr
    clear hr1 hr2 hKr
    by_cases hlt : j < L.length
    · obtain ⟨d, hd⟩ : ∃ d, L[j]? = some d := ⟨_, List.getElem?_eq_getElem hlt⟩
      have HB : Hid (hasB L.length (j : Int) = true) := (hasB_iff _ _).2 ⟨by omega, by omega⟩
      have HN : Hid (nodeAt L (j : Int) = d) := by
        show _ = _
        unfold nodeAt
        rw [HB.out, Int.toNat_natCast, List.getD_eq_getElem?_getD, hd]
        rfl
      have HJD := Lib.hid hd
      clear hd
      have j0 : (0 : Int) ≤ (j : Int) := Int.natCast_nonneg _
      have j1 : (j : Int) < (L.length : Int) := by omega
      go_wp2_with fail
      refine (node_any (HG.out.kept HKR.out) (j : Int)).mono ?_
      rintro e w2 ⟨rfl, hk2⟩
      rw [HB.out, HN.out]
      simp only [Nd.val]
      have HK2 := Lib.hid hk2; clear hk2
      go_upto_region 11 with (fail)
      have HBN := Lib.hid (MapKept.heap_alloc w2 (nodeObj d)).1
      have HK3 := Lib.hid (HK2.out.trans ((Kept.refl w2).alloc (nodeObj d)))
      change Code.wp _ _ _ _ (w2.alloc (nodeObj d))
      generalize w2.alloc (nodeObj d) = w3 at *
      generalize w2.heap.size = bn at *
      have HR1b := Lib.hid (ownsRow_block HR1.out fun q hq => HK3.out.block q (HR1.out.lt q hq).2)
      have HR2b := Lib.hid (ownsRow_block HR2.out fun q hq => HK3.out.block q (HR2.out.lt q hq).2)
      have HRA : Hid ((w3.alloc (.cells #[.int .u8 d.k, .int .i64 d.n, .int .i64 d.a, .int .u8 d.o, .int .i64 d.x, .int .i64 d.y] 34)).ownsRow w1.heap.size 34 6 (.slice a1 j c1) j (nodeCells (L.take j))) := World.ownsRow.alloc HR1b.out _
      have HK12 := Lib.hid (HKR.out.trans HK3.out)
      have HTK : Hid (L.take (j + 1) = L.take j ++ [d]) := by
        show _ = _
        rw [List.take_succ_eq_append_getElem hlt, (List.getElem?_eq_some_iff.1 HJD.out).2]
      obtain ⟨ik, hi, hz0, hz1, hz2⟩ := info_parts infoNode
      have HI := Lib.hid (And.intro hi (And.intro hz0 (And.intro hz1 hz2))); clear hi hz0 hz1 hz2
      obtain ⟨is, hi, hz0, hz1, hz2⟩ := info_parts infoStr2
      have HIS := Lib.hid (And.intro hi (And.intro hz0 (And.intro hz1 hz2))); clear hi hz0 hz1 hz2
      obtain ⟨x0, x1, x2, x3, x4, x5⟩ := box_facts HBN.out (Kept.refl w3)
      go_upto_region 12 with (first
        | (at_builtin; go_loud (refine wpList_append_lies _ rfl _ _ _ rfl w1.heap.size 34 ik _ 6 48 Tryd.underlying22 HI.out.1 HI.out.2.1 HI.out.2.2.1 HI.out.2.2.2 rfl (by omega) (.slice a1 j c1) j _ rfl HRA.out ⟨w3.heap.size, 0, none⟩ 1 1 [.int .u8 d.k, .int .i64 d.n, .int .i64 d.a, .int .u8 d.o, .int .i64 d.x, .int .i64 d.y] rfl rfl (World.news_of_block (cs := #[.int .u8 d.k, .int .i64 d.n, .int .i64 d.a, .int .u8 d.o, .int .i64 d.x, .int .i64 d.y]) (t := 34) (fr := (0, 0)) (heap_alloc_new w3 _)) (by simp [Value.oneCell']) (by omega) (by unfold maxLen; omega) (by omega) (by have := HK12.out.size; simp; omega) (w3.heap.size + 1) (by simp) ?_; intro gg cap w4 hown4 hgrow4 hat4 hlt4; have HOW4 := Lib.hid hown4; have HGR4 := Lib.hid hgrow4; clear hown4 hgrow4 hat4 hlt4)))
      clear x0 x1 x2 x3 x4 x5
      have HO4 := Lib.hid (grow_other HR1b.out HR2b.out (by decide) HK12.out (Nat.le_refl _) HGR4.out)
      have HR24 := Lib.hid HO4.out.2
      have HK4 := Lib.hid HO4.out.1
      clear HO4
      have HOW4' : Hid (w4.ownsRow w1.heap.size 34 6 (.slice (some ⟨gg, 0, none⟩) (j + 1) cap) (j + 1) (nodeCells (L.take (j + 1)))) := by
        show World.ownsRow _ _ _ _ _ _ _
        rw [HTK.out]
        have h3 := HOW4.out
        have e3 : nodeCells (L.take j ++ [d]) = nodeCells (L.take j) ++ [.int .u8 d.k, .int .i64 d.n, .int .i64 d.a, .int .u8 d.o, .int .i64 d.x, .int .i64 d.y] := by simp [nodeCells, Nd.cells]
        rw [e3]
        exact h3
      by_cases hdp : (10 : Int) < deepI L (j : Int)
      · go_wp2_with (first
          | (go_at_call 19; refine (deep_any (HG.out.kept HK4.out) (j : Int)).mono ?_; rintro e w' ⟨rfl, rfl⟩)
          | (go_at_call 10; refine (works_any _ (HL.out.kept (HK1.out.trans HK4.out))).mono ?_; rintro e w5 ⟨rfl, hk5⟩))
        go_ret
        exact ⟨rfl, HK1.out.trans (HK4.out.trans hk5)⟩
      · have HDP := Lib.hid hdp
        go_wp2_with (first
          | (go_at_call 19; refine (deep_any (HG.out.kept HK4.out) (j : Int)).mono ?_; rintro e w' ⟨rfl, rfl⟩)
          | (go_at_call 21; refine (text_any (HG.out.kept HK4.out) (HL.out.kept (HK1.out.trans HK4.out)) (by omega) (j : Int)).mono ?_; rintro e w7 ⟨rfl, hk7⟩; have HK7 := Lib.hid hk7; have HR27 : Hid (w7.ownsRow w1.heap.size 9 1 (.slice a2 j c2) j ((txs L j).map str)) := (ownsRow_block HR24.out fun b hb => HK7.out.block b (HR24.out.lt b hb).2); have HRB : Hid ((w7.alloc (.cells #[str (textI L (j : Int))] 9)).ownsRow w1.heap.size 9 1 (.slice a2 j c2) j ((txs L j).map str)) := World.ownsRow.alloc HR27.out _; clear hk7)
          | (at_builtin; refine wpList_append_lies _ rfl _ _ _ rfl w1.heap.size 9 is _ 1 16 Tryd.underlying55 HIS.out.1 HIS.out.2.1 HIS.out.2.2.1 HIS.out.2.2.2 rfl (by omega) (.slice a2 j c2) j _ rfl HRB.out ⟨w7.heap.size, 0, none⟩ 1 1 [str (textI L (j : Int))] rfl rfl (World.news_of_block (cs := #[str (textI L (j : Int))]) (t := 9) (fr := (0, 0)) (heap_alloc_new w7 _)) (by simp [Value.oneCell']) (by omega) (by unfold maxLen; omega) (by omega) (by have h5 := HK4.out.size; have h6 := HK7.out.size; simp; omega) (w7.heap.size + 1) (by simp) ?_; intro gg2 cap2 w9 hown9 hgrow9 hat9 hlt9; have HOW9 := Lib.hid hown9; have HGR9 := Lib.hid hgrow9; clear hown9 hgrow9 hat9 hlt9))
        have HO9 := Lib.hid (grow_other HR27.out (ownsRow_block HOW4'.out fun b hb => HK7.out.block b (HOW4'.out.lt b hb).2) (by decide) (HK4.out.trans HK7.out) (Nat.le_refl _) HGR9.out)
        go_roundw
        case rel =>
          refine ⟨j + 1, by omega, by go_num, ⟨_, _, _, _, rfl, rfl, HO9.out.2, ?_⟩, HO9.out.1⟩
          rw [txs_succ, List.map_append]
          exact HOW9.out
        case measure => simp [intOf]; omega
    · obtain rfl : j = L.length := by omega
      have hGK : Gr w w1 wr wr g m a c (growL L (es.take 0)) :=
        ⟨HG.out.kept HKR.out, fun b hb => Or.inl (HG.out.takes b hb).2, fun _ _ _ => rfl, Nat.le_refl _, HK1.out.trans HKR.out⟩
      have HGK := Lib.hid hGK; clear hGK
      have hR1 : wr.ownsRow w1.heap.size 34 6 (.slice a1 L.length c1) L.length (nodeCells L) := by
        have h3 := HR1.out
        rwa [List.take_length] at h3
      have HROW1 := Lib.hid hR1; clear hR1
      obtain ⟨w5, rfl⟩ : ∃ w5 : World, w5 = wr := ⟨_, rfl⟩
      go_wp2_with fail
      go_loopw [13] (fun i wr' => ∃ q : Nat, q ≤ k ∧ i = .int .i64 q ∧ ∃ a3 c3, Gr w w1 w5 wr' g m a3 c3 (growL L (es.take q))) (fun i _ => k - (intOf i).toNat)
      case atStart => exact ⟨0, Nat.zero_le _, rfl, _, _, HGK.out⟩
      case round =>
        obtain ⟨q, hq, rfl, a3, c3, hGr⟩ := hrel
        have HGR := Lib.hid hGr; clear hGr
        have hll : (growL L (es.take q)).length ≤ 50 := by
          have h3 := growL_len L (es.take q)
          have h4 := List.length_take_le q es
          omega
        by_cases hqk : q < k
        · obtain ⟨b, off, rfl, hc⟩ := HES.out.at_ (by omega)
          have hql : q < es.length := by rw [HES.out.len]; exact hqk
          obtain ⟨d, hd⟩ : ∃ d, es[q]? = some d := ⟨_, List.getElem?_eq_getElem hql⟩
          have HDO := Lib.hid (HES.out.ok d (List.mem_of_getElem? hd))
          have hcd := hc q d hd
          have x0 := HGR.out.K.cell (hcd 0 _ rfl)
          have x1 := HGR.out.K.cell (hcd 1 _ rfl)
          have x2 := HGR.out.K.cell (hcd 2 _ rfl)
          have x3 := HGR.out.K.cell (hcd 3 _ rfl)
          have x4 := HGR.out.K.cell (hcd 4 _ rfl)
          have x5 := HGR.out.K.cell (hcd 5 _ rfl)
          simp only [Nat.add_zero] at x0
          have HTE : Hid (growL L (es.take (q + 1)) = addL (growL L (es.take q)) d) := by
            show _ = _
            rw [List.take_succ_eq_append_getElem hql, (List.getElem?_eq_some_iff.1 hd).2, growL_snoc]
          have HLEN := Lib.hid hll
          clear hc hcd hd hql hll
          have q0 : (0 : Int) ≤ (q : Int) := Int.natCast_nonneg _
          have q1 : (q : Int) < (k : Int) := by omega
          go_wp2_with fail
          refine (add_any HGR.out.graph d HDO.out (HL.out.kept HGR.out.K) (by have := HLEN.out; omega)).mono ?_
          rintro e w6 ⟨rfl, a4, c4, hG4, hT4, hN4⟩
          have HS := Lib.hid (HGR.out.step hG4 hT4 hN4)
          clear x0 x1 x2 x3 x4 x5 hG4 hT4 hN4
          go_wp2
          go_roundw
          case rel => exact ⟨q + 1, by omega, by go_num, a4, c4, by rw [HTE.out]; exact HS.out⟩
          case measure => simp [intOf]; omega
        · obtain rfl : q = k := by omega
          obtain ⟨Z, hZ⟩ := growL_pre L (es.take q)
          have hGG : Good (growL L (es.take q)) := growL_good HGD.out _ fun d hd => HES.out.ok d (List.mem_of_mem_take hd)
          have HZ := Lib.hid hZ
          have hz : L.length ≤ (growL L (es.take q)).length := by rw [hZ, List.length_append]; omega
          clear hZ
          generalize growL L (es.take q) = LL at *
          have HGG := Lib.hid hGG; clear hGG
          have gc2 := HGR.out.graph.cell0
          have hzi : ¬ ((LL.length : Nat) : Int) < ((L.length : Nat) : Int) := by omega
          have hzn : ¬ LL.length < L.length := by omega
          obtain ⟨w6, rfl⟩ : ∃ w6 : World, w6 = wr := ⟨_, rfl⟩
          go_wp2_with (go_at_call 15; refine (size_cell _ _ _ _ _ gc2).mono ?_; rintro e w' ⟨rfl, rfl⟩)
          go_loopw [14] (fun i wr' => ∃ p : Nat, p ≤ L.length ∧ i = .int .i64 p ∧ Kept w6 wr') (fun i _ => L.length - (intOf i).toNat)
          case atStart => exact ⟨0, Nat.zero_le _, rfl, Kept.refl _⟩
          case round =>
            obtain ⟨p, hp, rfl, hKp⟩ := hrel
            have HKP := Lib.hid hKp; clear hKp
            by_cases hpl : p < L.length
            · obtain ⟨d, hd⟩ : ∃ d, L[p]? = some d := ⟨_, List.getElem?_eq_getElem hpl⟩
              have HBL : Hid (hasB L.length (p : Int) = true) := (hasB_iff _ _).2 ⟨by omega, by omega⟩
              have HB : Hid (hasB LL.length (p : Int) = true) := (hasB_iff _ _).2 ⟨by omega, by omega⟩
              have HN : Hid (nodeAt LL (p : Int) = d) := by
                show _ = _
                rw [HZ.out, nodeAt_pre Z HBL.out]
                unfold nodeAt
                rw [HBL.out, Int.toNat_natCast, List.getD_eq_getElem?_getD, hd]
                rfl
              have HTX : Hid (textI LL (p : Int) = textI L (p : Int)) := by
                show _ = _
                rw [HZ.out, textI_pre Z HBL.out]
              obtain ⟨r1, rfl, hb1, hl1, hc1⟩ := row_cells HROW1.out (by omega)
              obtain ⟨r2, rfl, hb2, hl2, hc2⟩ := row_cells HR2.out (by omega)
              have HC : Hid (∀ w', Kept w6 w' → w'.cell? ⟨r1, p * 6, none⟩ = some (.int .u8 d.k) ∧ w'.cell? ⟨r1, p * 6 + 1, none⟩ = some (.int .i64 d.n) ∧ w'.cell? ⟨r1, p * 6 + 2, none⟩ = some (.int .i64 d.a) ∧ w'.cell? ⟨r1, p * 6 + 3, none⟩ = some (.int .u8 d.o) ∧ w'.cell? ⟨r1, p * 6 + 4, none⟩ = some (.int .i64 d.x) ∧ w'.cell? ⟨r1, p * 6 + 5, none⟩ = some (.int .i64 d.y) ∧ w'.cell? ⟨r2, p, none⟩ = some (str (textI L (p : Int)))) := fun w' hk => by
                have g1 : w'.heap[r1]? = w5.heap[r1]? := (hk.block r1 (Nat.lt_of_lt_of_le hl1 HGR.out.size)).trans (HGR.out.keep r1 hb1 hl1)
                have g2 : w'.heap[r2]? = w5.heap[r2]? := (hk.block r2 (Nat.lt_of_lt_of_le hl2 HGR.out.size)).trans (HGR.out.keep r2 hb2 hl2)
                have hf := fun j (hj : j < 6) => flat_get Nd.cells 6 Nd.cells_len L p j d hd hj
                refine ⟨hc1 w' g1 (p * 6 + 0) _ (hf 0 (by decide)), hc1 w' g1 _ _ (hf 1 (by decide)), hc1 w' g1 _ _ (hf 2 (by decide)), hc1 w' g1 _ _ (hf 3 (by decide)), hc1 w' g1 _ _ (hf 4 (by decide)), hc1 w' g1 _ _ (hf 5 (by decide)), hc2 w' g2 p _ ?_⟩
                simp [txs, hpl]
              have HJD := Lib.hid hd
              clear hd hb1 hl1 hc1 hb2 hl2 hc2
              have HNE : Hid (∀ w, (binOp .neq 34 (.agg #[.int .u8 d.k, .int .i64 d.n, .int .i64 d.a, .int .u8 d.o, .int .i64 d.x, .int .i64 d.y]) (.agg #[.int .u8 d.k, .int .i64 d.n, .int .i64 d.a, .int .u8 d.o, .int .i64 d.x, .int .i64 d.y])).run Tryd.prog w = .ok (.bool false) w) := fun w => by
                have h3 := neq_node d d w
                rw [Nd.eqb_self] at h3
                exact h3
              have p0 : (0 : Int) ≤ (p : Int) := Int.natCast_nonneg _
              have p1 : (p : Int) < (L.length : Int) := by omega
              go_wp2_with fail
              refine (node_any (HGR.out.graph.kept HKP.out) (p : Int)).mono ?_
              rintro e w2 ⟨rfl, hk2⟩
              rw [HB.out, HN.out]
              simp only [Nd.val]
              have HK2 := Lib.hid hk2; clear hk2
              go_upto_region 26 with (fail)
              have HBN := Lib.hid (MapKept.heap_alloc w2 (nodeObj d)).1
              have HK3 := Lib.hid (HKP.out.trans (HK2.out.trans ((Kept.refl w2).alloc (nodeObj d))))
              change Code.wp _ _ _ _ (w2.alloc (nodeObj d))
              generalize w2.alloc (nodeObj d) = w3 at *
              generalize w2.heap.size = bn at *
              have FN : Hid (∀ w', Kept w3 w' → Kept w3 w' ∧ w'.cell? ⟨bn, 0, none⟩ = some (.int .u8 d.k) ∧ w'.cell? ⟨bn, 1, none⟩ = some (.int .i64 d.n) ∧ w'.cell? ⟨bn, 2, none⟩ = some (.int .i64 d.a) ∧ w'.cell? ⟨bn, 3, none⟩ = some (.int .u8 d.o) ∧ w'.cell? ⟨bn, 4, none⟩ = some (.int .i64 d.x) ∧ w'.cell? ⟨bn, 5, none⟩ = some (.int .i64 d.y) ∧ w'.cell? ⟨r1, p * 6, none⟩ = some (.int .u8 d.k) ∧ w'.cell? ⟨r1, p * 6 + 1, none⟩ = some (.int .i64 d.n) ∧ w'.cell? ⟨r1, p * 6 + 2, none⟩ = some (.int .i64 d.a) ∧ w'.cell? ⟨r1, p * 6 + 3, none⟩ = some (.int .u8 d.o) ∧ w'.cell? ⟨r1, p * 6 + 4, none⟩ = some (.int .i64 d.x) ∧ w'.cell? ⟨r1, p * 6 + 5, none⟩ = some (.int .i64 d.y) ∧ w'.cell? ⟨r2, p, none⟩ = some (str (textI L (p : Int)))) := fun w' hk => by
                obtain ⟨z0, z1, z2, z3, z4, z5⟩ := box_facts HBN.out hk
                exact ⟨hk, z0, z1, z2, z3, z4, z5, HC.out w' (HK3.out.trans hk)⟩
              have hne := HNE.out
              go_region_held3 (fun w' => Kept w3 w' ∧ w'.cell? ⟨bn, 0, none⟩ = some (.int .u8 d.k) ∧ w'.cell? ⟨bn, 1, none⟩ = some (.int .i64 d.n) ∧ w'.cell? ⟨bn, 2, none⟩ = some (.int .i64 d.a) ∧ w'.cell? ⟨bn, 3, none⟩ = some (.int .u8 d.o) ∧ w'.cell? ⟨bn, 4, none⟩ = some (.int .i64 d.x) ∧ w'.cell? ⟨bn, 5, none⟩ = some (.int .i64 d.y) ∧ w'.cell? ⟨r1, p * 6, none⟩ = some (.int .u8 d.k) ∧ w'.cell? ⟨r1, p * 6 + 1, none⟩ = some (.int .i64 d.n) ∧ w'.cell? ⟨r1, p * 6 + 2, none⟩ = some (.int .i64 d.a) ∧ w'.cell? ⟨r1, p * 6 + 3, none⟩ = some (.int .u8 d.o) ∧ w'.cell? ⟨r1, p * 6 + 4, none⟩ = some (.int .i64 d.x) ∧ w'.cell? ⟨r1, p * 6 + 5, none⟩ = some (.int .i64 d.y) ∧ w'.cell? ⟨r2, p, none⟩ = some (str (textI L (p : Int))))
                (first | exact FN.out _ (Kept.refl _) | exact FN.out _ (Kept.drew (Kept.refl _)) | assumption | exact FN.out _ (Kept.trans (And.left ‹Kept w3 _ ∧ _›) (by assumption)))
                ((go_at_call 21; refine (text_any (HGR.out.graph.kept (HK3.out.trans (And.left ‹Kept w3 _ ∧ _›))) (HL.out.kept (HGR.out.K.trans (HK3.out.trans (And.left ‹Kept w3 _ ∧ _›)))) (by omega) (p : Int)).mono ?_; rintro e w7 ⟨rfl, hk7⟩; rw [HTX.out]))
              go_wp2_with fail
              have HK7 := Lib.hid (HK3.out.trans (And.left ‹Kept w3 w7 ∧ _›))
              have HKA := Lib.hid (HK7.out.alloc (.cells #[.int .i64 (p : Int)] 30))
              have hrt : RootsAt (w7.alloc (.cells #[.int .i64 (p : Int)] 30)) (some ⟨w7.heap.size, 0, none⟩) 1 [(p : Int)] :=
                ⟨rfl, fun x hx => by rw [List.mem_singleton.1 hx]; exact ⟨by omega, by omega⟩, fun _ => ⟨_, 0, rfl, fun j x hx => by
                  rw [cell_of_row _ _ _ _ _ _ (MapKept.heap_alloc w7 (.cells #[.int .i64 (p : Int)] 30)).1]
                  match j, hx with
                  | 0, hx => cases hx; rfl⟩⟩
              refine (uses_any (HGR.out.graph.kept HKA.out) (by omega) _ 1 1 [(p : Int)] hrt (by omega)).mono ?_
              rintro e w8 ⟨a8, c8, U, rfl, hU, hrow8, hk8⟩
              obtain ⟨V, rfl, hV⟩ := uses_last HGG.out (by omega) hU
              have HU := Lib.hid hU; have HV := Lib.hid hV
              have HK8 := Lib.hid (HKA.out.trans hk8)
              have hVl : V.length ≤ 50 := by
                have h3 : V.length ≤ LL.length := by
                  have h4 := hU.1
                  rw [List.pairwise_append] at h4
                  have h5 := nodup_len LL.length (V.map Int.toNat) (by
                    unfold List.Nodup
                    rw [List.pairwise_map]
                    refine List.Pairwise.imp_of_mem (fun {a b} ha hb hab => ?_) h4.1
                    have h6 := ((hasB_iff _ _).1 (hV a ha).2.1).1
                    have h7 := ((hasB_iff _ _).1 (hV b hb).2.1).1
                    omega) (fun x hx => by
                    obtain ⟨v, hv, rfl⟩ := List.mem_map.1 hx
                    obtain ⟨h6, h7⟩ := (hasB_iff _ _).1 (hV v hv).2.1
                    omega)
                  simpa using h5
                omega
              clear hU hV
              obtain ⟨nV, hnV⟩ : ∃ x, x = V.length := ⟨_, rfl⟩
              have hlu : (V ++ [(p : Int)]).length = nV + 1 := by rw [List.length_append, hnV]; rfl
              rw [hlu] at hrow8 ⊢
              have hn50 : nV ≤ 50 := by omega
              have HNV := Lib.hid hnV
              obtain ⟨r8, rfl, hb8, hl8, hc8⟩ := row_cells hrow8 (by omega)
              have HC8 : Hid (∀ w', Kept w8 w' → ∀ j v, (V ++ [(p : Int)])[j]? = some v → w'.cell? ⟨r8, j, none⟩ = some (.int .i64 v)) := fun w' hk j v hj =>
                hc8 w' (hk.block r8 hl8) j _ (by rw [List.getElem?_map, hj]; rfl)
              clear hrow8 hk8 hVl hlu hnV hb8 hl8 hc8 hrt
              have x8 := HC8.out w8 (Kept.refl _) nV p (by rw [HNV.out]; simp)
              have HRU : Hid (∀ w', Kept w8 w' → RootsAt w' (some ⟨r8, 0, none⟩) (nV + 1) (V ++ [(p : Int)])) := fun w' hk =>
                ⟨by rw [List.length_append, HNV.out]; rfl, fun x hx => by
                  rcases List.mem_append.1 hx with hx | hx
                  · exact has_inR (HV.out x hx).2.1 (by omega)
                  · rw [List.mem_singleton.1 hx]; exact ⟨by omega, by omega⟩, fun _ => ⟨r8, 0, rfl, fun j x hx => by rw [Nat.zero_add]; exact HC8.out w' hk j x hx⟩⟩
              have HDE : Hid (deepI LL (p : Int) = dmax LL V + 1) := uses_deep HGG.out (by omega) HU.out HV.out
              have hn0 : ((nV : Int) + 1 == 0) = false := by
                rw [beq_eq_false_iff_ne]; omega
              go_wp2_with fail
              clear x8
              obtain ⟨wa, rfl⟩ : ∃ wa : World, wa = w8 := ⟨_, rfl⟩
              go_loopw [19, 20] (fun dv i wr' => ∃ b : Nat, b ≤ nV ∧ i = .int .i64 b ∧ dv = .int .i64 (dmax LL (V.take b)) ∧ Kept wa wr') (fun _ i _ => nV - (intOf i).toNat)
              case atStart => exact ⟨0, Nat.zero_le _, rfl, rfl, Kept.refl _⟩
              case round =>
                obtain ⟨b, hb, rfl, rfl, hKb⟩ := hrel
                have HKB := Lib.hid hKb; clear hKb
                by_cases hbl : b < nV
                · obtain ⟨v, hv⟩ : ∃ v, V[b]? = some v := ⟨_, List.getElem?_eq_getElem (by rw [← HNV.out]; omega)⟩
                  have HVB := Lib.hid hv
                  have HVV := Lib.hid (HV.out v (List.mem_of_getElem? hv))
                  have HVR : Hid (InR v) := has_inR HVV.out.2.1 (by omega)
                  have hul : (V ++ [(p : Int)])[b]? = some v := by rw [List.getElem?_append_left (by rw [← HNV.out]; omega)]; exact hv
                  have x8 := HC8.out wr HKB.out b v hul
                  have HUL := Lib.hid hul
                  clear hv hul
                  have b0 : (0 : Int) ≤ (b : Int) := Int.natCast_nonneg _
                  have b1 : (b : Int) + 1 < (nV : Int) + 1 := by omega
                  have hv1 := HVR.out
                  go_wp2_with fail
                  have HKC := Lib.hid (HKB.out.alloc (.cells #[.int .i64 v] 30))
                  have hrt : RootsAt (wr.alloc (.cells #[.int .i64 v] 30)) (some ⟨wr.heap.size, 0, none⟩) 1 [v] :=
                    ⟨rfl, fun x hx => by rw [List.mem_singleton.1 hx]; exact hv1, fun _ => ⟨_, 0, rfl, fun j x hx => by
                      rw [cell_of_row _ _ _ _ _ _ (MapKept.heap_alloc wr (.cells #[.int .i64 v] 30)).1]
                      match j, hx with
                      | 0, hx => cases hx; rfl⟩⟩
                  refine (uses_any (HGR.out.graph.kept (HK8.out.trans HKC.out)) (by omega) _ 1 1 [v] hrt (by omega)).mono ?_
                  rintro e w10 ⟨a10, c10, U2, rfl, hU2, hrow10, hk10⟩
                  have HU2 := Lib.hid hU2
                  have HK10 := Lib.hid (HKC.out.trans hk10)
                  have HROW10 := Lib.hid hrow10
                  have HSUB : Hid (∀ x ∈ U2, x ∈ V ++ [(p : Int)]) := uses_sub HB.out HU.out HVV.out.2.2 HU2.out
                  have x9 := HC8.out w10 HK10.out b v HUL.out
                  have HU2L : Hid (U2.length ≤ 51) := by
                    have h5 := nodup_len LL.length (U2.map Int.toNat) (by
                      unfold List.Nodup
                      rw [List.pairwise_map]
                      have hp2 : ∀ x ∈ U2, 0 ≤ x := fun x hx => by
                        obtain ⟨r, hr, hrb, hrx⟩ := (HU2.out.2 x).1 hx
                        exact ((hasB_iff _ _).1 (hrx.le HGG.out hrb).2).1
                      refine List.Pairwise.imp_of_mem (fun {a b} ha hb hab => ?_) HU2.out.1
                      have h6 := hp2 a ha
                      have h7 := hp2 b hb
                      omega) (fun x hx => by
                      obtain ⟨y, hy, rfl⟩ := List.mem_map.1 hx
                      obtain ⟨r, hr, hrb, hrx⟩ := (HU2.out.2 y).1 hy
                      obtain ⟨h6, h7⟩ := (hasB_iff _ _).1 (hrx.le HGG.out hrb).2
                      omega)
                    show _ ≤ _
                    have h8 : U2.length ≤ LL.length := by simpa using h5
                    omega
                  have HU2R : Hid (∀ x ∈ U2, InR x) := fun x hx => by
                    rcases List.mem_append.1 (HSUB.out x hx) with h6 | h6
                    · exact has_inR (HV.out x h6).2.1 (by omega)
                    · rw [List.mem_singleton.1 h6]; exact ⟨by omega, by omega⟩
                  clear hU2 hrow10 hk10 hrt x8
                  obtain ⟨m2, hm2⟩ : ∃ x, x = U2.length := ⟨_, rfl⟩
                  have HROWm : Hid (w10.ownsRow (wr.alloc (.cells #[.int .i64 v] 30)).heap.size 30 1 (.slice a10 m2 c10) m2 (U2.map (Value.int .i64))) := by
                    rw [hm2]; exact HROW10.out
                  have hm51 : m2 ≤ 51 := by rw [hm2]; exact HU2L.out
                  rw [← hm2]
                  have HM2 := Lib.hid hm2
                  clear hm2
                  go_wp2_with (go_at_call 19; refine (deep_any (HGR.out.graph.kept (HK8.out.trans HK10.out)) v).mono ?_; rintro e w' ⟨rfl, rfl⟩)
                  have HTB : Hid (dmax LL (V.take (b + 1)) = max (dmax LL (V.take b)) (deepI LL v)) := by
                    show _ = _
                    rw [List.take_succ_eq_append_getElem (by rw [← HNV.out]; omega), (List.getElem?_eq_some_iff.1 HVB.out).2, dmax_snoc]
                  clear x9
                  generalize max (dmax LL (V.take b)) (deepI LL v) = DD at *
                  go_loopw [22] (fun i wr' => ∃ t : Nat, t ≤ m2 ∧ i = .int .i64 t ∧ wr' = w10) (fun i _ => m2 - (intOf i).toNat)
                  case atStart => exact ⟨0, Nat.zero_le _, rfl, rfl⟩
                  case round =>
                    obtain ⟨t, ht, rfl, rfl⟩ := hrel
                    by_cases htl : t < m2
                    · obtain ⟨x, hx⟩ : ∃ x, U2[t]? = some x := ⟨_, List.getElem?_eq_getElem (by rw [← HM2.out]; exact htl)⟩
                      obtain ⟨rt, rfl, _, _, hct⟩ := row_cells HROWm.out (by omega)
                      have xt := hct _ rfl t (.int .i64 x) (by rw [List.getElem?_map, hx]; rfl)
                      have HXM := Lib.hid (HSUB.out x (List.mem_of_getElem? hx))
                      have hxr := HU2R.out x (List.mem_of_getElem? hx)
                      clear hx hct
                      have t0 : (0 : Int) ≤ (t : Int) := Int.natCast_nonneg _
                      have t1 : (t : Int) < (m2 : Int) := by omega
                      go_wp2_with (go_at_call 25; refine (in_any _ _ c8 _ x _ (HRU.out _ HK10.out) (by omega) HXM.out).mono ?_; rintro e w' ⟨rfl, rfl⟩)
                      go_roundw
                      case rel => exact ⟨t + 1, by omega, by go_num, by trivial⟩
                      case measure => simp [intOf]; omega
                    · obtain rfl : t = m2 := by omega
                      go_wp2_with fail
                      go_roundw
                      case rel => exact ⟨b + 1, by omega, by go_num, by rw [HTB.out], HK10.out⟩
                      case measure => simp [intOf]; omega
                · obtain rfl : b = nV := by omega
                  have HDT : Hid (dmax LL (V.take b) = dmax LL V) := by
                    show _ = _
                    rw [HNV.out, List.take_length]
                  have HD0 : Hid (0 ≤ dmax LL V) := (dmax_ge LL V).1
                  have HD1 := Lib.hid (deep_small (L := LL) (i := (p : Int)) (by omega))
                  go_wp2_with fail
                  refine (deep_any (HGR.out.graph.kept (HK8.out.trans HKB.out)) (p : Int)).mono ?_
                  rintro e w' ⟨rfl, rfl⟩
                  rw [HDT.out, HDE.out]
                  have hD0 := HD0.out
                  have hD1 := HD1.out
                  rw [HDE.out] at hD1
                  generalize dmax LL V = D at *
                  go_wp2
                  go_roundw
                  case rel => exact ⟨p + 1, by omega, by go_num, HK8.out.trans HKB.out⟩
                  case measure => simp [intOf]; omega
            · obtain rfl : p = L.length := by omega
              go_wp2_with (go_at_call 10; refine (works_any _ (HL.out.kept (HGR.out.K.trans HKP.out))).mono ?_; rintro e w7 ⟨rfl, hk7⟩)
              go_ret
              exact ⟨rfl, HGR.out.K.trans (HKP.out.trans hk7)⟩

set_option maxRecDepth 100000 in
set_option maxHeartbeats 1000000 in
theorem grows_many (la lb : Option Addr) (n lc k kc : Nat) (w : World) (h : 30 < n ∨ 20 < k) (hL : Laid w) :
    Calls Tryd.prog 6 #[.slice la n lc, .slice lb k kc] w fun e w' => e = .returned (.bool true) ∧ Kept w w' := by
  by_cases hn : 30 < n
  · have h1 : (30 : Int) < (n : Int) := by omega
    have d1 : decide ((30 : Int) < (n : Int)) = true := decide_eq_true h1
    clear h hn
    go_enter Tryd.func6, Tryd.ntmps6
    go_wp2_with (go_at_call 10; refine (works_any _ hL).mono ?_; rintro e w5 ⟨rfl, hk5⟩)
    go_ret
    exact ⟨rfl, hk5⟩
  · have h1 : ¬ (30 : Int) < (n : Int) := by omega
    have h2 : (20 : Int) < (k : Int) := by omega
    have d1 : decide ((30 : Int) < (n : Int)) = false := decide_eq_false h1
    have d2 : decide ((20 : Int) < (k : Int)) = true := decide_eq_true h2
    clear h hn
    go_enter Tryd.func6, Tryd.ntmps6
    go_wp2_with (go_at_call 10; refine (works_any _ hL).mono ?_; rintro e w5 ⟨rfl, hk5⟩)
    go_ret
    exact ⟨rfl, hk5⟩
theorem termgrows_any (la lb : Option Addr) (n lc k kc : Nat) (ds es : List Nd) (w : World) (hds : NodesAt w la n ds) (hes : NodesAt w lb k es) (hL : Laid w) :
    Calls Tryd.prog 6 #[.slice la n lc, .slice lb k kc] w fun e w' => e = .returned (.bool true) ∧ Kept w w' := by
  by_cases h : n ≤ 30 ∧ k ≤ 20
  · exact grows_few la lb n lc k kc ds es w hds hes h.1 h.2 hL
  · exact grows_many la lb n lc k kc w (by omega) hL
end Go.Proofs.YtjhmbbioplhcgaaDoor
