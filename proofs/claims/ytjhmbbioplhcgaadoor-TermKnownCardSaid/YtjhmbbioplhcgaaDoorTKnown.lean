/-
  Layer 2, TermKnown: the examples, and what bounds ask.
-/
import Derived.Test.YtjhmbbioplhcgaaDoorTAdds
import Derived.Test.YtjhmbbioplhcgaaDoorTOnce
import Derived.Test.YtjhmbbioplhcgaaDoorTTells
import Derived.Laws.OwnMore
import Derived.Deep.DeepCutAuto
import Derived.Deep.CutBlock
import Derived.Deep.RegionLawGrows
import Derived.Test.YtjhmbbioplhcgaaDoorTNil
namespace Go.Proofs.YtjhmbbioplhcgaaDoor
open Go Go.RowKit

theorem infoNodeK : (Tryd.prog.info? 34).map (fun i => (i.zero, i.size, i.bytes)) = some (some (.agg #[.int .u8 0, .int .i64 0, .int .i64 0, .int .u8 0, .int .i64 0, .int .i64 0]), 6, 48) := by kernel_rfl
/-- A row of nodes that is owned, as a slice of nodes. -/
theorem nodes_of_row {w : World} {N n c : Nat} {e : TypeId} {a : Option Addr} {ds : List Nd} (h : w.ownsRow N e 6 (.slice a n c) n (nodeCells ds)) (hl : ds.length = n) (hok : ∀ d ∈ ds, d.Ok) : NodesAt w a n ds := by
  refine ⟨hl, hok, fun hn => ?_⟩
  obtain ⟨_, h2⟩ := h
  rcases h2 with ⟨_, h0⟩ | ⟨r, cap', cur, hv, hB, hblk, hle, hmx, hsz, htk⟩
  · omega
  · injection hv with ha _ _
    refine ⟨r, 0, ha, fun j d hd i v hv => ?_⟩
    have hi : i < 6 := by
      rcases Nat.lt_or_ge i 6 with h6 | h6
      · exact h6
      · rw [List.getElem?_eq_none (by rw [Nd.cells_len]; exact h6)] at hv; cases hv
    have hf := flat_get Nd.cells 6 Nd.cells_len ds j i d hd hi
    rw [hv] at hf
    rw [Nat.zero_add, cell_of_row _ _ _ _ _ _ hblk]
    have hf' : (nodeCells ds)[j * 6 + i]? = some v := hf
    rw [← htk, List.getElem?_take] at hf'
    split at hf'
    · simpa using hf'
    · cases hf'
def bds : List Nd := [⟨2, 0, 0, 0, 0, 0⟩, ⟨1, 5, 0, 0, 0, 0⟩, ⟨4, 0, 0, 1, 0, 1⟩]
theorem bds_ok : ∀ d ∈ bds, d.Ok := by
  intro d hd
  simp only [bds, List.mem_cons, List.not_mem_nil, or_false] at hd
  rcases hd with rfl | rfl | rfl <;> (simp [Nd.Ok, InB, InR])

def idsO : Obj := .cells #[.int .i64 3, .int .i64 0, .int .i64 99, .int .i64 (-1)] 30
theorem roots_blk {W : World} {q : Nat} {t : TypeId} (h : W.heap[q]? = some (.cells #[.int .i64 3, .int .i64 0, .int .i64 99, .int .i64 (-1)] t)) : RootsAt W (some ⟨q, 0, none⟩) 4 [3, 0, 99, -1] := by
  refine ⟨rfl, fun x hx => ?_, fun _ => ⟨q, 0, rfl, fun j x hx => ?_⟩⟩
  · simp only [List.mem_cons, List.not_mem_nil, or_false] at hx
    rcases hx with rfl | rfl | rfl | rfl <;> exact ⟨by decide, by decide⟩
  · rw [cell_of_row _ _ _ _ _ _ h]
    match j, hx with
    | 0, hx => cases hx; rfl
    | 1, hx => cases hx; rfl
    | 2, hx => cases hx; rfl
    | 3, hx => cases hx; rfl
theorem step_four {ops : Array Oper} {o : Oper} {a : Act} {w : World} {K : Act → World → Prop} {Q : Exit → Act → World → Prop} {E : Prop} (hw : Region.wanted o (yielded ops a.tmps) = true) (s x : Operand)
    (hop : o.op = .call { callee := .builtin .append, args := #[s, x], argTypes := #[22, 22] }) {b0 q : Nat} (hs : a.eval s = .slice (some ⟨b0, 0, none⟩) 3 3) (hx : a.eval x = .slice (some ⟨q, 0, none⟩) 1 1) (d : Nd) (hd : d.Ok)
    (hB : w.heap[b0]? = some (.cells (nodeCells bds).toArray 34)) (hq : w.heap[q]? = some (nodeObj d))
    (hK : ∀ g cap w', NodesAt w' (some ⟨g, 0, none⟩) 4 (bds ++ [d]) → Kept w w' → K (a.put o.dst (.slice (some ⟨g, 0, none⟩) 4 cap)) w') :
    if Region.wanted o (yielded ops a.tmps) = true then Oper.wp Tryd.prog o a w K Q else E := by
  rw [if_pos hw]
  obtain ⟨ik, hi, hz0, hz1, hz2⟩ := info_parts infoNodeK
  obtain ⟨v', w', hrun, r1, r2⟩ := run_append_arg_grows (P := Tryd.prog) w 22 o.type 34 ik _ 6 48 Tryd.underlying22 hi hz0 hz1 hz2 rfl (by decide) ⟨b0, 0, none⟩ 3 3 (nodeCells bds) rfl
    (fun j u hj => World.news_of_block hB j u (by simpa using hj)) ⟨q, 0, none⟩ 1 1 d.cells rfl (fun j u hj => World.news_of_block (cs := #[.int .u8 d.k, .int .i64 d.n, .int .i64 d.a, .int .u8 d.o, .int .i64 d.x, .int .i64 d.y]) hq j u hj) (by decide) (by decide) (by decide)
  unfold Oper.wp
  simp [execOp, hop, resolve, invoke, builtin, hs, hx, hrun, Result.andThen]
  have hN : ∃ g cap, v' = .slice (some ⟨g, 0, none⟩) 4 cap := by
    rcases r1.2 with ⟨_, h0⟩ | ⟨r, cap', cur, hv, _⟩
    · cases h0
    · exact ⟨r, cap', hv⟩
  obtain ⟨g, cap, rfl⟩ := hN
  refine hK g cap w' (nodes_of_row (e := 34) (N := w.heap.size) (c := cap) (ds := bds ++ [d]) ?_ rfl ?_) ⟨r2.os, r2.tape, r2.output, r2.size, fun k hk => r2.block k hk (fun e => by cases e)⟩
  · have e : nodeCells (bds ++ [d]) = nodeCells bds ++ d.cells := by simp [nodeCells]
    rw [e]
    exact r1
  · intro y hy
    rcases List.mem_append.1 hy with hy | hy
    · exact bds_ok y hy
    · rw [List.mem_singleton.1 hy]; exact hd

/-- The symbol, less itself, less itself ... -/
def tN (q : Nat) : Nd := ⟨4, 0, 0, 2, (q : Int), (q : Int)⟩
def tL (q : Nat) : List Nd := ⟨2, 1, 0, 0, 0, 0⟩ :: (List.range q).map tN
theorem tL_succ (q : Nat) : tL (q + 1) = tL q ++ [tN q] := by unfold tL; rw [List.range_succ, List.map_append]; rfl
theorem tL_len (q : Nat) : (tL q).length = q + 1 := by simp [tL]
theorem tL_may : ∀ q < 14, mayB (tL q).length (tN q) = true ∧ inL (tL q) (tN q) = false ∧ addR (tL q) (tN q) = (q : Int) + 1 := by decide +kernel
theorem tL_add {q : Nat} (h : q < 14) : addL (tL q) (tN q) = tL (q + 1) := by
  obtain ⟨h1, h2, _⟩ := tL_may q h
  unfold addL
  rw [h1, h2, tL_succ]; rfl
theorem tN_ok {q : Nat} (h : q < 14) : (tN q).Ok := by
  simp [tN, Nd.Ok, InB, InR]; omega
theorem t0_ok : (⟨2, 1, 0, 0, 0, 0⟩ : Nd).Ok := by simp [Nd.Ok, InB, InR]
theorem tL_long13 : (kAt (kps (tL 13)) ((13 : Nat) : Int)).long = 57339 := by decide +kernel
theorem tL_long14 : (kAt (kps (tL 14)) ((14 : Nat) : Int)).long = 65537 := by decide +kernel
theorem text13 (hG : Good (tL 13)) : (textI (tL 13) ((13 : Nat) : Int)).length = 57339 := by
  have h := long_text hG 13 (by rw [tL_len]; omega)
  rw [tL_long13] at h
  have h2 : (textOf (tL 13) ((13 : Nat) : Int)).length = 57339 := by omega
  unfold textI
  rw [if_pos ((hasB_iff _ _).2 ⟨by omega, by rw [tL_len]; omega⟩), if_pos (by omega)]
  exact h2
theorem text14 (hG : Good (tL 14)) : textI (tL 14) ((14 : Nat) : Int) = [] := by
  have h := long_text hG 14 (by rw [tL_len]; omega)
  rw [tL_long14] at h
  unfold textI
  split
  · rw [if_neg (by omega)]
  · rfl

set_option maxRecDepth 100000 in
set_option maxHeartbeats 16000000 in
theorem termknown_any (w : World) (hL : Laid w) : Calls Tryd.prog 7 #[] w fun e w' => e = .returned (.bool true) ∧ Kept w w' := by
  have HL := Lib.hid hL; clear hL
  obtain ⟨ik, hi, hz0, hz1, hz2⟩ := info_parts infoNodeK
  have HI := Lib.hid (And.intro hi (And.intro hz0 (And.intro hz1 hz2))); clear hi hz0 hz1 hz2
  have HB0 := Lib.hid (MapKept.heap_alloc w (.cells (nodeCells bds).toArray 34)).1
  have HK0 := Lib.hid ((Kept.refl w).alloc (.cells (nodeCells bds).toArray 34))
  go_enter Tryd.func7, Tryd.ntmps7
  go_upto_region 2 with (fail)
  change Code.wp _ _ _ _ (w.alloc (.cells (nodeCells bds).toArray 34))
  generalize w.alloc (.cells (nodeCells bds).toArray 34) = W at *
  have HBS : Hid (NodesAt W (some ⟨w.heap.size, 0, none⟩) 3 bds) := nodes_of_block HB0.out rfl bds_ok
  have HBB : Hid (W.heap[w.heap.size]? = some (.cells (nodeCells bds).toArray 34)) := HB0.out
  obtain ⟨b0, hb0⟩ : ∃ b0 : Nat, b0 = w.heap.size := ⟨_, rfl⟩
  rw [← hb0] at HBS HBB ⊢
  clear hb0
  go_wp2
  go_loopw [2, 3] (fun l i wr => ∃ (k : Nat) (a2 : Option Addr) (m c2 : Nat) (ds : List Nd), k ≤ 6 ∧ i = .int .u8 k ∧ m = 12 * k ∧ l = .slice a2 m c2 ∧ ds.length = m ∧ (∀ d ∈ ds, d.Ok) ∧ wr.ownsRow W.heap.size 34 6 (.slice a2 m c2) m (nodeCells ds) ∧ Kept W wr) (fun _ i _ => 6 - (intOf i).toNat)
  case atStart => exact ⟨0, none, 0, 0, [], Nat.zero_le _, rfl, rfl, rfl, rfl, by simp, World.ownsRow_nil _ _ _ _, Kept.refl _⟩
  case round =>
    obtain ⟨k, a2, m, c2, ds, hk, rfl, hm, rfl, hdl, hok, hrow, hKk⟩ := hrel
    have HM := Lib.hid hm; have HDL := Lib.hid hdl; have HOK := Lib.hid hok; have HROW := Lib.hid hrow; have HKK := Lib.hid hKk
    clear hm hdl hok hrow hKk
    have k0 : (0 : Int) ≤ (k : Int) := Int.natCast_nonneg _
    by_cases hk6 : k < 6
    · have k1 : (k : Int) < 6 := by omega
      have HK5 : Hid ((k : Int) ≤ 255) := by show _ ≤ _; omega
      obtain ⟨wk, rfl⟩ : ∃ wk : World, wk = wr := ⟨_, rfl⟩
      go_wp2
      go_loopw [2, 4] (fun l i wr => ∃ (j : Nat) (a2 : Option Addr) (m2 c2 : Nat) (ds : List Nd), j ≤ 12 ∧ i = .int .i64 j ∧ m2 = m + j ∧ l = .slice a2 m2 c2 ∧ ds.length = m2 ∧ (∀ d ∈ ds, d.Ok) ∧ wr.ownsRow W.heap.size 34 6 (.slice a2 m2 c2) m2 (nodeCells ds) ∧ Kept W wr) (fun _ i _ => 12 - (intOf i).toNat)
      case atStart => exact ⟨0, a2, m, c2, ds, Nat.zero_le _, rfl, rfl, rfl, HDL.out, HOK.out, HROW.out, HKK.out⟩
      case round =>
        clear HDL HOK HROW HKK
        obtain ⟨j, a3, m2, c3, es, hj, rfl, hm2, rfl, hdl, hok, hrow, hKj⟩ := hrel
        have HM2 := Lib.hid hm2; have HDL := Lib.hid hdl; have HOK := Lib.hid hok; have HROW := Lib.hid hrow; have HKJ := Lib.hid hKj
        clear hm2 hdl hok hrow hKj
        have j0 : (0 : Int) ≤ (j : Int) := Int.natCast_nonneg _
        by_cases hj12 : j < 12
        · have j1 : (j : Int) < 12 := by omega
          by_cases hk4 : k = 4
          · have e4 : ((k : Int) == 4) = true := by simp [hk4]
            clear hk4
            go_upto_block 4 with (fail)
            go_cut [] (fun wx => ∃ d : Nd, d.Ok ∧ wx.heap[wr.heap.size]? = some (nodeObj d) ∧ Kept wr wx)
            case first =>
              have hjs : j = 0 ∨ j = 1 ∨ j = 2 ∨ j = 3 ∨ j = 4 ∨ j = 5 ∨ j = 6 ∨ j = 7 ∨ j = 8 ∨ j = 9 ∨ j = 10 ∨ j = 11 := by omega
              rcases hjs with rfl | rfl | rfl | rfl | rfl | rfl | rfl | rfl | rfl | rfl | rfl | rfl
              all_goals
                go_wp2_with fail
                go_meet
                case rel =>
                  refine ⟨⟨_, _, _, _, _, _⟩, ?_, (MapKept.heap_alloc wr _).1, (Kept.refl wr).alloc _⟩
                  (simp [Nd.Ok, InB, InR]; try exact HK5.out)
            case rest =>
              obtain ⟨d, hdo, hblk, hkc⟩ := hcut
              have HD := Lib.hid hdo; have HBD := Lib.hid hblk; have HKC := Lib.hid hkc
              clear hdo hblk hkc
              generalize wr.heap.size = bn at *
              have HKW := Lib.hid (HKJ.out.trans HKC.out)
              have HXF : Hid (∀ w', Kept wc w' → w'.cell? ⟨bn, 0, none⟩ = some (.int .u8 d.k) ∧ w'.cell? ⟨bn, 1, none⟩ = some (.int .i64 d.n) ∧ w'.cell? ⟨bn, 2, none⟩ = some (.int .i64 d.a) ∧ w'.cell? ⟨bn, 3, none⟩ = some (.int .u8 d.o) ∧ w'.cell? ⟨bn, 4, none⟩ = some (.int .i64 d.x) ∧ w'.cell? ⟨bn, 5, none⟩ = some (.int .i64 d.y)) := fun w' hk => box_facts HBD.out hk
              have HBB2 := Lib.hid (HKW.out.row HBB.out)
              have HLC := Lib.hid (HL.out.kept (HK0.out.trans HKW.out))
              go_upto_region 35 with (fail)
              go_cut [81] (fun s81 wx => s81 = .bool false ∧ Kept wc wx)
              case first =>
                obtain ⟨x0, x1, x2, x3, x4, x5⟩ := HXF.out wc (Kept.refl wc)
                have HKB := Lib.hid (Kept.refl wc)
                go_region_law ((first
                  | (refine step_four (by first | rfl | simp [Region.wanted, yielded]) _ _ (by rfl) (b0 := b0) (by rfl) (by rfl) d HD.out (Kept.row (by first | exact HKB.out | exact Kept.alloc HKB.out _ | exact Kept.drew HKB.out | exact Kept.drew (Kept.alloc HKB.out _) | exact Kept.alloc (Kept.drew HKB.out) _ | exact Kept.alloc (Kept.alloc HKB.out _) _ | exact Kept.drew (Kept.alloc (Kept.alloc HKB.out _) _) | exact Kept.alloc (Kept.alloc (Kept.drew HKB.out) _) _) HBB2.out)
                      (by first | exact (MapKept.heap_alloc _ _).1 | exact Kept.row ((Kept.refl _).alloc _) (MapKept.heap_alloc _ _).1 | exact HQ2.out) ?_
                     intro g1 cap1 w1 hN1 hk1
                     have HN1 := Lib.hid hN1
                     have HKS := Lib.hid hk1
                     have HKU := Lib.hid (Kept.trans (by first | exact HKB.out | exact Kept.alloc HKB.out _ | exact Kept.drew HKB.out | exact Kept.drew (Kept.alloc HKB.out _) | exact Kept.alloc (Kept.drew HKB.out) _ | exact Kept.alloc (Kept.alloc HKB.out _) _ | exact Kept.drew (Kept.alloc (Kept.alloc HKB.out _) _) | exact Kept.alloc (Kept.alloc (Kept.drew HKB.out) _) _) hk1)
                     clear hN1 hk1)
                  | (go_simp; go_at_call 3; refine (termadds_any (some ⟨g1, 0, none⟩) 4 cap1 (bds ++ [d]) _ (fun _ => HN1.out.kept (by first | exact (Kept.refl _) | exact Kept.alloc (Kept.refl _) _ | exact Kept.drew (Kept.refl _) | exact Kept.drew (Kept.alloc (Kept.refl _) _) | exact Kept.alloc (Kept.drew (Kept.refl _)) _ | exact Kept.alloc (Kept.alloc (Kept.refl _) _) _ | exact Kept.drew (Kept.alloc (Kept.alloc (Kept.refl _) _) _) | exact Kept.alloc (Kept.alloc (Kept.drew (Kept.refl _)) _) _)) (HLC.out.kept (by first | exact HKU.out | exact Kept.alloc HKU.out _ | exact Kept.drew HKU.out | exact Kept.drew (Kept.alloc HKU.out _) | exact Kept.alloc (Kept.drew HKU.out) _ | exact Kept.alloc (Kept.alloc HKU.out _) _ | exact Kept.drew (Kept.alloc (Kept.alloc HKU.out _) _) | exact Kept.alloc (Kept.alloc (Kept.drew HKU.out) _) _))).mono ?_
                     rintro e w2 ⟨rfl, hk2⟩
                     have HKB : Hid (Kept wc w2) := Kept.trans (by first | exact HKU.out | exact Kept.alloc HKU.out _ | exact Kept.drew HKU.out | exact Kept.drew (Kept.alloc HKU.out _) | exact Kept.alloc (Kept.drew HKU.out) _ | exact Kept.alloc (Kept.alloc HKU.out _) _ | exact Kept.drew (Kept.alloc (Kept.alloc HKU.out _) _) | exact Kept.alloc (Kept.alloc (Kept.drew HKU.out) _) _) hk2
                     obtain ⟨x0, x1, x2, x3, x4, x5⟩ := HXF.out w2 HKB.out
                     obtain ⟨z0, z1, z2, z3, z4, z5⟩ := HXF.out _ (HKB.out.alloc (.cells #[.int .i64 3, .int .i64 0, .int .i64 99, .int .i64 (-1)] 30))
                     have HQ1 : Hid (((w2.alloc (nodeObj d)).alloc idsO).heap[w2.heap.size + 1]? = some idsO) := by
                       have h := (MapKept.heap_alloc (w2.alloc (nodeObj d)) idsO).1
                       rw [show (w2.alloc (nodeObj d)).heap.size = w2.heap.size + 1 by simp] at h
                       exact h
                     have HQ2 : Hid (((w2.alloc idsO).alloc (nodeObj d)).heap[w2.heap.size + 1]? = some (nodeObj d)) := by
                       have h := (MapKept.heap_alloc (w2.alloc idsO) (nodeObj d)).1
                       rw [show (w2.alloc idsO).heap.size = w2.heap.size + 1 by simp] at h
                       exact h
                     have HQ3 : Hid (((w2.alloc idsO).alloc (nodeObj d)).heap[w2.heap.size]? = some idsO) := Kept.row ((Kept.refl _).alloc _) (MapKept.heap_alloc w2 idsO).1
                     clear hk2)
                  | (go_simp; go_at_call 4; refine (termtells_any (some ⟨g1, 0, none⟩) _ 4 cap1 4 4 (bds ++ [d]) [3, 0, 99, -1] _ (HN1.out.kept (by first | exact (Kept.refl _) | exact Kept.alloc (Kept.refl _) _ | exact Kept.drew (Kept.refl _) | exact Kept.drew (Kept.alloc (Kept.refl _) _) | exact Kept.alloc (Kept.drew (Kept.refl _)) _ | exact Kept.alloc (Kept.alloc (Kept.refl _) _) _ | exact Kept.drew (Kept.alloc (Kept.alloc (Kept.refl _) _) _) | exact Kept.alloc (Kept.alloc (Kept.drew (Kept.refl _)) _) _))
                      (by first | exact roots_blk (MapKept.heap_alloc _ _).1 | exact roots_blk (Kept.row HKS.out HQ1.out) | exact roots_blk (Kept.row HKS.out HQ3.out)) (HLC.out.kept (by first | exact HKU.out | exact Kept.alloc HKU.out _ | exact Kept.drew HKU.out | exact Kept.drew (Kept.alloc HKU.out _) | exact Kept.alloc (Kept.drew HKU.out) _ | exact Kept.alloc (Kept.alloc HKU.out _) _ | exact Kept.drew (Kept.alloc (Kept.alloc HKU.out _) _) | exact Kept.alloc (Kept.alloc (Kept.drew HKU.out) _) _))).mono ?_
                     rintro e w3 ⟨rfl, hk3⟩
                     have HKV : Hid (Kept wc w3) := Kept.trans (by first | exact HKU.out | exact Kept.alloc HKU.out _ | exact Kept.drew HKU.out | exact Kept.drew (Kept.alloc HKU.out _) | exact Kept.alloc (Kept.drew HKU.out) _ | exact Kept.alloc (Kept.alloc HKU.out _) _ | exact Kept.drew (Kept.alloc (Kept.alloc HKU.out _) _) | exact Kept.alloc (Kept.alloc (Kept.drew HKU.out) _) _) hk3
                     clear hk3)))
                all_goals
                  go_wp2_with fail
                  go_meet
                  case rel => exact ⟨rfl, HKV.out⟩
              case rest =>
                obtain ⟨rfl, hkx⟩ := hcut
                have HKX := Lib.hid hkx
                have HROWX := Lib.hid (ownsRow_block HROW.out fun b hb => (HKC.out.trans hkx).block b (HROW.out.lt b hb).2)
                have HKWX := Lib.hid (HKW.out.trans hkx)
                obtain ⟨x0, x1, x2, x3, x4, x5⟩ := HXF.out _ hkx
                clear hkx
                obtain ⟨wy, rfl⟩ : ∃ wy : World, wy = wc := ⟨_, rfl⟩
                have HRA : Hid ((wy.alloc (.cells #[.int .u8 d.k, .int .i64 d.n, .int .i64 d.a, .int .u8 d.o, .int .i64 d.x, .int .i64 d.y] 34)).ownsRow W.heap.size 34 6 (.slice a3 m2 c3) m2 (nodeCells es)) := World.ownsRow.alloc HROWX.out _
                have hm2b : m2 ≤ 100 := by have h1 := HM.out; have h2 := HM2.out; omega
                go_wp2_with (at_builtin; refine wpList_append_lies _ rfl _ _ _ rfl W.heap.size 34 ik _ 6 48 Tryd.underlying22 HI.out.1 HI.out.2.1 HI.out.2.2.1 HI.out.2.2.2 rfl (by omega) (.slice a3 m2 c3) m2 _ rfl HRA.out ⟨wy.heap.size, 0, none⟩ 1 1 [.int .u8 d.k, .int .i64 d.n, .int .i64 d.a, .int .u8 d.o, .int .i64 d.x, .int .i64 d.y] rfl rfl (World.news_of_block (cs := #[.int .u8 d.k, .int .i64 d.n, .int .i64 d.a, .int .u8 d.o, .int .i64 d.x, .int .i64 d.y]) (t := 34) (fr := (0, 0)) (heap_alloc_new wy _)) (by simp [Value.oneCell']) (by omega) (by unfold maxLen; omega) (by omega) (by have := HKWX.out.size; simp; omega) (wy.heap.size + 1) (by simp) ?_; intro gg cap w4 hown4 hgrow4 hat4 hlt4; have HOW4 := Lib.hid hown4; have HGR4 := Lib.hid hgrow4; clear hown4 hgrow4 hat4 hlt4)
                have HKE := Lib.hid (grow_kept HROWX.out HKWX.out (Nat.le_refl _) HGR4.out)
                go_roundw
                case rel =>
                  refine ⟨j + 1, some ⟨gg, 0, none⟩, m2 + 1, cap, es ++ [d], by omega, by go_num, by have := HM2.out; omega, rfl, by rw [List.length_append, HDL.out]; rfl, fun y hy => ?_, ?_, HKE.out⟩
                  · rcases List.mem_append.1 hy with hy | hy
                    · exact HOK.out y hy
                    · rw [List.mem_singleton.1 hy]; exact HD.out
                  · have e3 : nodeCells (es ++ [d]) = nodeCells es ++ [.int .u8 d.k, .int .i64 d.n, .int .i64 d.a, .int .u8 d.o, .int .i64 d.x, .int .i64 d.y] := by simp [nodeCells, Nd.cells]
                    rw [e3]
                    exact HOW4.out
                case measure => simp [intOf]; omega
          · have e4 : ((k : Int) == 4) = false := by simpa using (by omega : ¬ (k : Int) = 4)
            clear hk4
            go_upto_block 4 with (fail)
            go_cut [] (fun wx => ∃ d : Nd, d.Ok ∧ wx.heap[wr.heap.size]? = some (nodeObj d) ∧ Kept wr wx)
            case first =>
              have hjs : j = 0 ∨ j = 1 ∨ j = 2 ∨ j = 3 ∨ j = 4 ∨ j = 5 ∨ j = 6 ∨ j = 7 ∨ j = 8 ∨ j = 9 ∨ j = 10 ∨ j = 11 := by omega
              rcases hjs with rfl | rfl | rfl | rfl | rfl | rfl | rfl | rfl | rfl | rfl | rfl | rfl
              all_goals
                go_wp2_with fail
                go_meet
                case rel =>
                  refine ⟨⟨_, _, _, _, _, _⟩, ?_, (MapKept.heap_alloc wr _).1, (Kept.refl wr).alloc _⟩
                  (simp [Nd.Ok, InB, InR]; try exact HK5.out)
            case rest =>
              obtain ⟨d, hdo, hblk, hkc⟩ := hcut
              have HD := Lib.hid hdo; have HBD := Lib.hid hblk; have HKC := Lib.hid hkc
              clear hdo hblk hkc
              generalize wr.heap.size = bn at *
              have HKW := Lib.hid (HKJ.out.trans HKC.out)
              have HXF : Hid (∀ w', Kept wc w' → w'.cell? ⟨bn, 0, none⟩ = some (.int .u8 d.k) ∧ w'.cell? ⟨bn, 1, none⟩ = some (.int .i64 d.n) ∧ w'.cell? ⟨bn, 2, none⟩ = some (.int .i64 d.a) ∧ w'.cell? ⟨bn, 3, none⟩ = some (.int .u8 d.o) ∧ w'.cell? ⟨bn, 4, none⟩ = some (.int .i64 d.x) ∧ w'.cell? ⟨bn, 5, none⟩ = some (.int .i64 d.y)) := fun w' hk => box_facts HBD.out hk
              have HBB2 := Lib.hid (HKW.out.row HBB.out)
              have HLC := Lib.hid (HL.out.kept (HK0.out.trans HKW.out))
              go_upto_region 35 with (fail)
              go_cut [81] (fun s81 wx => s81 = .bool false ∧ Kept wc wx)
              case first =>
                obtain ⟨x0, x1, x2, x3, x4, x5⟩ := HXF.out wc (Kept.refl wc)
                have HKB := Lib.hid (Kept.refl wc)
                go_region_law ((first
                  | (refine step_four (by first | rfl | simp [Region.wanted, yielded]) _ _ (by rfl) (b0 := b0) (by rfl) (by rfl) d HD.out (Kept.row (by first | exact HKB.out | exact Kept.alloc HKB.out _ | exact Kept.drew HKB.out | exact Kept.drew (Kept.alloc HKB.out _) | exact Kept.alloc (Kept.drew HKB.out) _ | exact Kept.alloc (Kept.alloc HKB.out _) _ | exact Kept.drew (Kept.alloc (Kept.alloc HKB.out _) _) | exact Kept.alloc (Kept.alloc (Kept.drew HKB.out) _) _) HBB2.out)
                      (by first | exact (MapKept.heap_alloc _ _).1 | exact Kept.row ((Kept.refl _).alloc _) (MapKept.heap_alloc _ _).1 | exact HQ2.out) ?_
                     intro g1 cap1 w1 hN1 hk1
                     have HN1 := Lib.hid hN1
                     have HKS := Lib.hid hk1
                     have HKU := Lib.hid (Kept.trans (by first | exact HKB.out | exact Kept.alloc HKB.out _ | exact Kept.drew HKB.out | exact Kept.drew (Kept.alloc HKB.out _) | exact Kept.alloc (Kept.drew HKB.out) _ | exact Kept.alloc (Kept.alloc HKB.out _) _ | exact Kept.drew (Kept.alloc (Kept.alloc HKB.out _) _) | exact Kept.alloc (Kept.alloc (Kept.drew HKB.out) _) _) hk1)
                     clear hN1 hk1)
                  | (go_simp; go_at_call 3; refine (termadds_any (some ⟨g1, 0, none⟩) 4 cap1 (bds ++ [d]) _ (fun _ => HN1.out.kept (by first | exact (Kept.refl _) | exact Kept.alloc (Kept.refl _) _ | exact Kept.drew (Kept.refl _) | exact Kept.drew (Kept.alloc (Kept.refl _) _) | exact Kept.alloc (Kept.drew (Kept.refl _)) _ | exact Kept.alloc (Kept.alloc (Kept.refl _) _) _ | exact Kept.drew (Kept.alloc (Kept.alloc (Kept.refl _) _) _) | exact Kept.alloc (Kept.alloc (Kept.drew (Kept.refl _)) _) _)) (HLC.out.kept (by first | exact HKU.out | exact Kept.alloc HKU.out _ | exact Kept.drew HKU.out | exact Kept.drew (Kept.alloc HKU.out _) | exact Kept.alloc (Kept.drew HKU.out) _ | exact Kept.alloc (Kept.alloc HKU.out _) _ | exact Kept.drew (Kept.alloc (Kept.alloc HKU.out _) _) | exact Kept.alloc (Kept.alloc (Kept.drew HKU.out) _) _))).mono ?_
                     rintro e w2 ⟨rfl, hk2⟩
                     have HKB : Hid (Kept wc w2) := Kept.trans (by first | exact HKU.out | exact Kept.alloc HKU.out _ | exact Kept.drew HKU.out | exact Kept.drew (Kept.alloc HKU.out _) | exact Kept.alloc (Kept.drew HKU.out) _ | exact Kept.alloc (Kept.alloc HKU.out _) _ | exact Kept.drew (Kept.alloc (Kept.alloc HKU.out _) _) | exact Kept.alloc (Kept.alloc (Kept.drew HKU.out) _) _) hk2
                     obtain ⟨x0, x1, x2, x3, x4, x5⟩ := HXF.out w2 HKB.out
                     obtain ⟨z0, z1, z2, z3, z4, z5⟩ := HXF.out _ (HKB.out.alloc (.cells #[.int .i64 3, .int .i64 0, .int .i64 99, .int .i64 (-1)] 30))
                     have HQ1 : Hid (((w2.alloc (nodeObj d)).alloc idsO).heap[w2.heap.size + 1]? = some idsO) := by
                       have h := (MapKept.heap_alloc (w2.alloc (nodeObj d)) idsO).1
                       rw [show (w2.alloc (nodeObj d)).heap.size = w2.heap.size + 1 by simp] at h
                       exact h
                     have HQ2 : Hid (((w2.alloc idsO).alloc (nodeObj d)).heap[w2.heap.size + 1]? = some (nodeObj d)) := by
                       have h := (MapKept.heap_alloc (w2.alloc idsO) (nodeObj d)).1
                       rw [show (w2.alloc idsO).heap.size = w2.heap.size + 1 by simp] at h
                       exact h
                     have HQ3 : Hid (((w2.alloc idsO).alloc (nodeObj d)).heap[w2.heap.size]? = some idsO) := Kept.row ((Kept.refl _).alloc _) (MapKept.heap_alloc w2 idsO).1
                     clear hk2)
                  | (go_simp; go_at_call 4; refine (termtells_any (some ⟨g1, 0, none⟩) _ 4 cap1 4 4 (bds ++ [d]) [3, 0, 99, -1] _ (HN1.out.kept (by first | exact (Kept.refl _) | exact Kept.alloc (Kept.refl _) _ | exact Kept.drew (Kept.refl _) | exact Kept.drew (Kept.alloc (Kept.refl _) _) | exact Kept.alloc (Kept.drew (Kept.refl _)) _ | exact Kept.alloc (Kept.alloc (Kept.refl _) _) _ | exact Kept.drew (Kept.alloc (Kept.alloc (Kept.refl _) _) _) | exact Kept.alloc (Kept.alloc (Kept.drew (Kept.refl _)) _) _))
                      (by first | exact roots_blk (MapKept.heap_alloc _ _).1 | exact roots_blk (Kept.row HKS.out HQ1.out) | exact roots_blk (Kept.row HKS.out HQ3.out)) (HLC.out.kept (by first | exact HKU.out | exact Kept.alloc HKU.out _ | exact Kept.drew HKU.out | exact Kept.drew (Kept.alloc HKU.out _) | exact Kept.alloc (Kept.drew HKU.out) _ | exact Kept.alloc (Kept.alloc HKU.out _) _ | exact Kept.drew (Kept.alloc (Kept.alloc HKU.out _) _) | exact Kept.alloc (Kept.alloc (Kept.drew HKU.out) _) _))).mono ?_
                     rintro e w3 ⟨rfl, hk3⟩
                     have HKV : Hid (Kept wc w3) := Kept.trans (by first | exact HKU.out | exact Kept.alloc HKU.out _ | exact Kept.drew HKU.out | exact Kept.drew (Kept.alloc HKU.out _) | exact Kept.alloc (Kept.drew HKU.out) _ | exact Kept.alloc (Kept.alloc HKU.out _) _ | exact Kept.drew (Kept.alloc (Kept.alloc HKU.out _) _) | exact Kept.alloc (Kept.alloc (Kept.drew HKU.out) _) _) hk3
                     clear hk3)))
                all_goals
                  go_wp2_with fail
                  go_meet
                  case rel => exact ⟨rfl, HKV.out⟩
              case rest =>
                obtain ⟨rfl, hkx⟩ := hcut
                have HKX := Lib.hid hkx
                have HROWX := Lib.hid (ownsRow_block HROW.out fun b hb => (HKC.out.trans hkx).block b (HROW.out.lt b hb).2)
                have HKWX := Lib.hid (HKW.out.trans hkx)
                obtain ⟨x0, x1, x2, x3, x4, x5⟩ := HXF.out _ hkx
                clear hkx
                obtain ⟨wy, rfl⟩ : ∃ wy : World, wy = wc := ⟨_, rfl⟩
                have HRA : Hid ((wy.alloc (.cells #[.int .u8 d.k, .int .i64 d.n, .int .i64 d.a, .int .u8 d.o, .int .i64 d.x, .int .i64 d.y] 34)).ownsRow W.heap.size 34 6 (.slice a3 m2 c3) m2 (nodeCells es)) := World.ownsRow.alloc HROWX.out _
                have hm2b : m2 ≤ 100 := by have h1 := HM.out; have h2 := HM2.out; omega
                go_wp2_with (at_builtin; refine wpList_append_lies _ rfl _ _ _ rfl W.heap.size 34 ik _ 6 48 Tryd.underlying22 HI.out.1 HI.out.2.1 HI.out.2.2.1 HI.out.2.2.2 rfl (by omega) (.slice a3 m2 c3) m2 _ rfl HRA.out ⟨wy.heap.size, 0, none⟩ 1 1 [.int .u8 d.k, .int .i64 d.n, .int .i64 d.a, .int .u8 d.o, .int .i64 d.x, .int .i64 d.y] rfl rfl (World.news_of_block (cs := #[.int .u8 d.k, .int .i64 d.n, .int .i64 d.a, .int .u8 d.o, .int .i64 d.x, .int .i64 d.y]) (t := 34) (fr := (0, 0)) (heap_alloc_new wy _)) (by simp [Value.oneCell']) (by omega) (by unfold maxLen; omega) (by omega) (by have := HKWX.out.size; simp; omega) (wy.heap.size + 1) (by simp) ?_; intro gg cap w4 hown4 hgrow4 hat4 hlt4; have HOW4 := Lib.hid hown4; have HGR4 := Lib.hid hgrow4; clear hown4 hgrow4 hat4 hlt4)
                have HKE := Lib.hid (grow_kept HROWX.out HKWX.out (Nat.le_refl _) HGR4.out)
                go_roundw
                case rel =>
                  refine ⟨j + 1, some ⟨gg, 0, none⟩, m2 + 1, cap, es ++ [d], by omega, by go_num, by have := HM2.out; omega, rfl, by rw [List.length_append, HDL.out]; rfl, fun y hy => ?_, ?_, HKE.out⟩
                  · rcases List.mem_append.1 hy with hy | hy
                    · exact HOK.out y hy
                    · rw [List.mem_singleton.1 hy]; exact HD.out
                  · have e3 : nodeCells (es ++ [d]) = nodeCells es ++ [.int .u8 d.k, .int .i64 d.n, .int .i64 d.a, .int .u8 d.o, .int .i64 d.x, .int .i64 d.y] := by simp [nodeCells, Nd.cells]
                    rw [e3]
                    exact HOW4.out
                case measure => simp [intOf]; omega
        · obtain rfl : j = 12 := by omega
          go_wp2
          go_roundw
          case rel => exact ⟨k + 1, a3, m2, c3, es, by omega, by first | rfl | go_num, by have h1 := HM.out; have h2 := HM2.out; omega, rfl, HDL.out, HOK.out, HROW.out, HKJ.out⟩
          case measure => simp [intOf]; omega
    · obtain rfl : k = 6 := by omega
      have HNL : Hid (NodesAt wr a2 m ds) := nodes_of_row HROW.out HDL.out HOK.out
      have HKR := Lib.hid (HK0.out.trans HKK.out)
      have HBS2 := Lib.hid (HKK.out.row HBB.out)
      clear HROW HDL HOK
      go_wp2_with fail
      refine (new_any wr.heap.size wr (Nat.le_refl _)).mono ?_
      rintro e w1 ⟨g, mm, rfl, hG, hK, _⟩
      have HG := Lib.hid hG; have HK1 := Lib.hid hK
      clear hG hK
      go_wp2_with fail
      refine (add_any HG.out ⟨2, 1, 0, 0, 0, 0⟩ t0_ok (HL.out.kept (HKR.out.trans HK1.out)) (by decide)).mono ?_
      rintro e w2 ⟨rfl, ga, gc, hG2, hT2, _⟩
      have HG2 : Hid (GraphAt wr.heap.size w2 g mm ga gc (tL 0)) := hG2
      have HK2 := Lib.hid (HG.out.keptOn (Nat.le_refl _) HK1.out hT2)
      have HR0 : Hid (addR [] ⟨2, 1, 0, 0, 0, 0⟩ = 0) := by show _ = _; decide +kernel
      rw [HR0.out]
      clear hG2 hT2
      go_wp2
      go_loopw [7, 8] (fun v i w' => ∃ (q : Nat) (ga : Option Addr) (gc : Nat), q ≤ 13 ∧ i = .int .i64 q ∧ v = .int .i64 q ∧ GraphAt wr.heap.size w' g mm ga gc (tL q) ∧ Kept wr w') (fun _ i _ => 13 - (intOf i).toNat)
      case atStart => exact ⟨0, ga, gc, Nat.zero_le _, rfl, rfl, HG2.out, HK2.out⟩
      case round =>
        rename_i wq _
        obtain ⟨q, ga, gc, hq, rfl, rfl, hGq, hKq⟩ := hrel
        have HGQ := Lib.hid hGq; have HKQ := Lib.hid hKq
        clear hGq hKq
        have q0 : (0 : Int) ≤ (q : Int) := Int.natCast_nonneg _
        by_cases hq13 : q < 13
        · have q1 : (q : Int) < 13 := by omega
          have HAR : Hid (addR (tL q) (tN q) = (q : Int) + 1) := (tL_may q (by omega)).2.2
          have HAL : Hid (addL (tL q) (tN q) = tL (q + 1)) := tL_add (by omega)
          go_wp2_with fail
          refine (add_any HGQ.out (tN q) (tN_ok (by omega)) (HL.out.kept (HKR.out.trans HKQ.out)) (by rw [tL_len]; omega)).mono ?_
          rintro e w3 ⟨rfl, ga3, gc3, hG3, hT3, _⟩
          rw [HAL.out] at hG3
          rw [HAR.out]
          have HG3 := Lib.hid hG3
          have HK3 := Lib.hid (HGQ.out.keptOn (Nat.le_refl _) HKQ.out hT3)
          clear hG3 hT3
          go_wp2
          go_roundw
          case rel => exact ⟨q + 1, ga3, gc3, by omega, by go_num, by go_num, HG3.out, HK3.out⟩
          case measure => simp [intOf]; omega
        · obtain rfl : q = 13 := by omega
          have HG13 := HGQ.out.good
          have HT13 := Lib.hid (text13 HG13)
          go_wp2_with fail
          refine (text_any HGQ.out (HL.out.kept (HKR.out.trans HKQ.out)) (by rw [tL_len]; omega) ((13 : Nat) : Int)).mono ?_
          rintro e w4 ⟨rfl, hk4⟩
          have HK4 := Lib.hid (HKQ.out.trans hk4); have HG4 := Lib.hid (HGQ.out.kept hk4)
          clear hk4 HG13
          generalize textI (tL 13) ((13 : Nat) : Int) = T13 at *
          have HAR : Hid (addR (tL 13) (tN 13) = 14) := (tL_may 13 (by omega)).2.2
          have HAL : Hid (addL (tL 13) (tN 13) = tL 14) := tL_add (by omega)
          go_wp2_with fail
          refine (add_any HG4.out (tN 13) (tN_ok (by omega)) (HL.out.kept (HKR.out.trans HK4.out)) (by rw [tL_len]; omega)).mono ?_
          rintro e w5 ⟨rfl, ga5, gc5, hG5, hT5, _⟩
          rw [HAL.out] at hG5
          rw [HAR.out]
          have HG5 := Lib.hid hG5
          have HK5 := Lib.hid (HG4.out.keptOn (Nat.le_refl _) HK4.out hT5)
          have HT14 := Lib.hid (text14 hG5.good)
          clear hG5 hT5
          go_wp2_with fail
          refine (text_any HG5.out (HL.out.kept (HKR.out.trans HK5.out)) (by rw [tL_len]; omega) ((14 : Nat) : Int)).mono ?_
          rintro e w6 ⟨rfl, hk6⟩
          rw [HT14.out]
          have HK6 := Lib.hid (HK5.out.trans hk6)
          clear hk6
          go_wp2_with fail
          refine (node_nil 0 _).mono ?_
          rintro e w7 ⟨rfl, hk7⟩
          simp only [Nd.val, nd0]
          have HK7 := Lib.hid (HK6.out.trans (hk7.trans ((Kept.refl w7).alloc (.cells #[.int .u8 0, .int .i64 0, .int .i64 0, .int .u8 0, .int .i64 0, .int .i64 0] 34))))
          clear hk7
          go_upto_region 49 with (fail)
          change Code.wp _ _ _ _ (w7.alloc (.cells #[.int .u8 0, .int .i64 0, .int .i64 0, .int .u8 0, .int .i64 0, .int .i64 0] 34))
          generalize w7.alloc (.cells #[.int .u8 0, .int .i64 0, .int .i64 0, .int .u8 0, .int .i64 0, .int .i64 0] 34) = w8 at *
          have HBC : Hid (∀ w', Kept w8 w' → w'.cell? ⟨b0, 0, none⟩ = some (.int .u8 2) ∧ w'.cell? ⟨b0, 1, none⟩ = some (.int .i64 0) ∧ w'.cell? ⟨b0, 2, none⟩ = some (.int .i64 0) ∧ w'.cell? ⟨b0, 3, none⟩ = some (.int .u8 0) ∧ w'.cell? ⟨b0, 4, none⟩ = some (.int .i64 0) ∧ w'.cell? ⟨b0, 5, none⟩ = some (.int .i64 0)) := fun w' hk => by
            have h9 := (HK7.out.trans hk).row HBS2.out
            refine ⟨?_, ?_, ?_, ?_, ?_, ?_⟩ <;> (rw [cell_of_row _ _ _ _ _ _ h9]; rfl)
          have HNL8 := Lib.hid (HNL.out.kept HK7.out)
          have HL8 := Lib.hid (HL.out.kept (HKR.out.trans HK7.out))
          have hsz : (str T13) = .string ⟨T13.toArray⟩ := rfl
          have hsz2 : (⟨T13.toArray⟩ : ByteArray).size = 57339 := by
            have := HT13.out
            simpa [ByteArray.size] using this
          have hse : (str []) = .string { data := #[] } := rfl
          rw [hsz, hse]
          clear hsz hse
          generalize (⟨T13.toArray⟩ : ByteArray) = S13 at *
          go_wp2_with fail
          refine (termonce_any a2 m c2 ds w8 HNL8.out HL8.out).mono ?_
          rintro e w9 ⟨rfl, hk9⟩
          have HK9 := Lib.hid hk9; clear hk9
          go_wp2_with fail
          refine (termadds_any a2 m c2 ds w9 (fun _ => HNL8.out.kept HK9.out) (HL8.out.kept HK9.out)).mono ?_
          rintro e w10 ⟨rfl, hk10⟩
          have HK10 := Lib.hid (HK9.out.trans hk10); clear hk10
          obtain ⟨y0, y1, y2, y3, y4, y5⟩ := HBC.out w10 HK10.out
          go_wp2_with fail
          refine (add_nil ⟨2, 0, 0, 0, 0, 0⟩ w10).mono ?_
          rintro e w11 ⟨rfl, hk11⟩
          have HK11 := Lib.hid (HK10.out.trans hk11); clear hk11 y0 y1 y2 y3 y4 y5
          go_wp2_with fail
          refine (size_nil w11).mono ?_
          rintro e w12 ⟨rfl, rfl⟩
          have HX0 : Hid ((w11.alloc (.cells #[.int .i64 0] 30)).cell? ⟨w11.heap.size, 0, none⟩ = some (.int .i64 0)) := by
            show _ = _
            rw [cell_of_row _ _ _ _ _ _ (MapKept.heap_alloc w11 (.cells #[.int .i64 0] 30)).1]; rfl
          go_wp2_with fail
          refine (uses_nilg w11.heap.size 0 _ HX0.out).mono ?_
          rintro e w13 ⟨rfl, hk13⟩
          have HK13 := Lib.hid (HK11.out.trans (((Kept.refl w11).alloc _).trans hk13)); clear hk13
          go_wp2_with fail
          refine (deep_nil 0 w13).mono ?_
          rintro e w14 ⟨rfl, rfl⟩
          go_wp2_with fail
          refine (text_nil 0 w13).mono ?_
          rintro e w15 ⟨rfl, hk15⟩
          have hse2 : (str []) = .string { data := #[] } := rfl
          rw [hse2]
          have HK15 := Lib.hid (HK13.out.trans hk15); clear hk15 hse2
          go_wp2_with fail
          refine (works_any w15 (HL8.out.kept HK15.out)).mono ?_
          rintro e w16 ⟨rfl, hk16⟩
          go_wp2
          go_ret
          exact ⟨rfl, HKR.out.trans (HK7.out.trans (HK15.out.trans hk16))⟩
end Go.Proofs.YtjhmbbioplhcgaaDoor
