/-
  Layer 3, ValueKnown: the examples, and what bounds ask.
-/
import Derived.Test.YtjhmbbioplhcgaaGreatDoorVOf
import Derived.Test.YtjhmbbioplhcgaaGreatDoorVNeedsL
import Derived.Test.YtjhmbbioplhcgaaGreatDoorVNeeded
import Derived.Laws.OwnMore
namespace Go.Proofs.YtjhmbbioplhcgaaGreatDoor
open Go Go.RowKit

set_option maxRecDepth 100000 in
set_option maxHeartbeats 4000000 in
theorem all_nilg {s : Sl} (b : Nat) (x : Int) (w : World) (hx : w.cell? ⟨b, 0, none⟩ = some (.int .i64 x)) :
    Calls Tryz.prog 17 #[.pointer none, .agg #[.slice s.sa s.sn s.sc, .slice s.ca s.cn s.cc], .slice (some ⟨b, 0, none⟩) 1 1] w fun e w' => e = .returned (.tuple #[.slice none 0 0, .bool false]) ∧ Kept w w' := by
  have HK0 := Lib.hid ((Kept.refl w).alloc (.cells #[.slice s.sa s.sn s.sc, .slice s.ca s.cn s.cc] 26))
  have HX := Lib.hid (HK0.out.cell hx)
  clear hx
  go_enter Tryz.func17, Tryz.ntmps17
  go_upto_region 1 with (fail)
  change Code.wp _ _ _ _ (w.alloc (.cells #[.slice s.sa s.sn s.sc, .slice s.ca s.cn s.cc] 26))
  generalize w.alloc (.cells #[.slice s.sa s.sn s.sc, .slice s.ca s.cn s.cc] 26) = W at *
  go_wp2
  go_loopw [24] (fun i wr => i = .int .i64 0 ∧ wr = W) (fun i _ => 1)
  case atStart => exact ⟨rfl, rfl⟩
  case round =>
    obtain ⟨rfl, rfl⟩ := hrel
    have x0 := HX.out
    go_wp2_with fail
    refine (node_nil x _).mono ?_
    rintro e w2 ⟨rfl, hk2⟩
    simp only [Nd.val, nd0]
    have HK2 := Lib.hid (HK0.out.trans hk2); clear hk2 x0
    go_wp2
    go_ret2
    exact ⟨rfl, HK2.out.trans ((Kept.refl _).alloc _)⟩
set_option maxHeartbeats 2000000 in
theorem of_nilg {s : Sl} (id : Int) (w : World) :
    Calls Tryz.prog 16 #[.pointer none, .agg #[.slice s.sa s.sn s.sc, .slice s.ca s.cn s.cc], .int .i64 id] w fun e w' => e = .returned (.tuple #[.int .i64 0, .bool false]) ∧ Kept w w' := by
  have HK0 := Lib.hid ((Kept.refl w).alloc (.cells #[.slice s.sa s.sn s.sc, .slice s.ca s.cn s.cc] 26))
  have HB0 := Lib.hid ((MapKept.heap_alloc w (.cells #[.slice s.sa s.sn s.sc, .slice s.ca s.cn s.cc] 26)).1)
  go_enter Tryz.func16, Tryz.ntmps16
  go_upto_region 1 with (fail)
  change Code.wp _ _ _ _ (w.alloc (.cells #[.slice s.sa s.sn s.sc, .slice s.ca s.cn s.cc] 26))
  generalize w.alloc (.cells #[.slice s.sa s.sn s.sc, .slice s.ca s.cn s.cc] 26) = W at *
  obtain ⟨b4, hb4⟩ : ∃ b4 : Nat, b4 = w.heap.size := ⟨_, rfl⟩
  rw [← hb4] at HB0 ⊢
  clear hb4
  have e0 : W.cell? ⟨b4, 0, none⟩ = some (.slice s.sa s.sn s.sc) := by rw [cell_of_row _ _ _ _ _ _ HB0.out]; rfl
  have e1 : W.cell? ⟨b4, 1, none⟩ = some (.slice s.ca s.cn s.cc) := by rw [cell_of_row _ _ _ _ _ _ HB0.out]; rfl
  have HKA := Lib.hid ((Kept.refl W).alloc (.cells #[.int .i64 id] 44))
  have HX : Hid ((W.alloc (.cells #[.int .i64 id] 44)).cell? ⟨W.heap.size, 0, none⟩ = some (.int .i64 id)) := by
    show _ = _
    rw [cell_of_row _ _ _ _ _ _ (MapKept.heap_alloc W (.cells #[.int .i64 id] 44)).1]; rfl
  go_wp2_with fail
  refine (all_nilg (s := s) _ id _ HX.out).mono ?_
  rintro e w2 ⟨rfl, hk2⟩
  have HK2 := Lib.hid (HK0.out.trans (HKA.out.trans hk2))
  clear hk2 e0 e1
  go_wp2
  go_ret2
  exact ⟨rfl, HK2.out⟩

/-- The doubled symbol. -/
def kds : List Nd := ⟨2, 0, 0, 0, 0, 0⟩ :: (List.range 60).map fun i : Nat => ⟨4, 0, 0, 1, (i : Int), (i : Int)⟩
theorem kds_adds : addsL kds = kds := by kernel_rfl
theorem kds_val : ofI [3] [] kds 60 = 3458764513820540928 := by decide +kernel
theorem kds_len : kds.length = 61 := by simp [kds]
theorem kds_take (j : Nat) (hj : j < 60) : kds.take (j + 1 + 1) = kds.take (j + 1) ++ [⟨4, 0, 0, 1, (j : Int), (j : Int)⟩] := by
  have h : j + 1 < kds.length := by rw [kds_len]; omega
  rw [List.take_succ_eq_append_getElem h]
  simp [kds]
theorem kds_ok : ∀ d ∈ kds, d.Ok := by
  intro d hd
  unfold kds at hd
  rcases List.mem_cons.1 hd with rfl | hd
  · simp [Nd.Ok, InB, InR]
  · obtain ⟨i, hi, rfl⟩ := List.mem_map.1 hd
    have := List.mem_range.1 hi
    simp [Nd.Ok, InB, InR]; omega
/-- A row of nodes that is owned, as a slice of nodes. -/
theorem nodes_of_row {w : World} {N n c : Nat} {e : TypeId} {a : Option Addr} {ds : List Nd} (h : w.ownsRow N e 6 (.slice a n c) n (nodeCells ds)) (hl : ds.length = n) (hok : ∀ d ∈ ds, d.Ok) : NodesAt w a n ds := by
  refine ⟨hl, hok, fun hn => ?_⟩
  obtain ⟨_, h2⟩ := h
  rcases h2 with ⟨_, h0⟩ | ⟨r, cap', cur, hv, hB, hblk, hle, hmx, hsz, htk⟩
  · omega
  · injection hv with ha _ _
    refine ⟨r, 0, ha, fun j d hd i v hv => ?_⟩
    have hi : i < 6 := by
      rcases Nat.lt_or_ge i 6 with h6 | h6
      · exact h6
      · rw [List.getElem?_eq_none (by rw [Nd.cells_len]; exact h6)] at hv; cases hv
    have hf := flat_get Nd.cells 6 Nd.cells_len ds j i d hd hi
    rw [hv] at hf
    rw [Nat.zero_add, cell_of_row _ _ _ _ _ _ hblk]
    have hf' : (nodeCells ds)[j * 6 + i]? = some v := hf
    rw [← htk, List.getElem?_take] at hf'
    split at hf'
    · simpa using hf'
    · cases hf'

def kEnvC : List Cl := [⟨0, 0, 1, 10⟩, ⟨0, 0, 1, 11⟩, ⟨0, 1, 1, 12⟩, ⟨1, 0, 1, 13⟩, ⟨0, 0, 2, 14⟩]
theorem kEnvC_ok : ∀ c ∈ kEnvC, c.Ok := by
  intro c hc
  simp only [kEnvC, List.mem_cons, List.not_mem_nil, or_false] at hc
  rcases hc with rfl | rfl | rfl | rfl | rfl <;> (simp [Cl.Ok, InR])

theorem infoNodeK : (Tryz.prog.info? 56).map (fun i => (i.zero, i.size, i.bytes)) = some (some (.agg #[.int .u8 0, .int .i64 0, .int .i64 0, .int .u8 0, .int .i64 0, .int .i64 0]), 6, 48) := by kernel_rfl
def kA : Obj := .cells #[.int .i64 1, .int .i64 2] 2
def kB : Obj := .cells #[.int .i64 0, .int .i64 0, .int .i64 1, .int .i64 10, .int .i64 0, .int .i64 0, .int .i64 1, .int .i64 11, .int .i64 0, .int .i64 1, .int .i64 1, .int .i64 12, .int .i64 1, .int .i64 0, .int .i64 1, .int .i64 13, .int .i64 0, .int .i64 0, .int .i64 2, .int .i64 14] 58
def kC (n : Nat) : Obj := .cells #[.slice (some ⟨n, 0, none⟩) 2 2, .slice (some ⟨n + 1, 0, none⟩) 5 5] 26
theorem kenv (w2 : World) : EnvAt (((w2.alloc kA).alloc kB).alloc (kC w2.heap.size)) (some ⟨w2.heap.size, 0, none⟩) 2 (some ⟨w2.heap.size + 1, 0, none⟩) 5 [1, 2] kEnvC ∧
    (((w2.alloc kA).alloc kB).alloc (kC w2.heap.size)).heap[w2.heap.size + 1 + 1]? = some (kC w2.heap.size) ∧ Kept w2 (((w2.alloc kA).alloc kB).alloc (kC w2.heap.size)) := by
  have s1 : (w2.alloc kA).heap.size = w2.heap.size + 1 := by simp
  have s2 : ((w2.alloc kA).alloc kB).heap.size = w2.heap.size + 1 + 1 := by simp
  have r1 := World.ownsRow_lit (base := 0) (e := 2) (size := 1) w2 #[.int .i64 1, .int .i64 2] 2 (Nat.zero_le _) (by decide) rfl
  have r2 := World.ownsRow_lit (base := 0) (e := 58) (size := 4) (w2.alloc kA) #[.int .i64 0, .int .i64 0, .int .i64 1, .int .i64 10, .int .i64 0, .int .i64 0, .int .i64 1, .int .i64 11, .int .i64 0, .int .i64 1, .int .i64 1, .int .i64 12, .int .i64 1, .int .i64 0, .int .i64 1, .int .i64 13, .int .i64 0, .int .i64 0, .int .i64 2, .int .i64 14] 5 (Nat.zero_le _) (by decide) rfl
  rw [s1] at r2
  refine ⟨⟨roots_of_row ((r1.alloc kB).alloc (kC w2.heap.size)) rfl (fun x hx => ?_), cells_of_row (C := kEnvC) (r2.alloc (kC w2.heap.size)) rfl kEnvC_ok⟩, ?_, (((Kept.refl w2).alloc kA).alloc kB).alloc _⟩
  · simp only [List.mem_cons, List.not_mem_nil, or_false] at hx
    rcases hx with rfl | rfl <;> exact ⟨by decide, by decide⟩
  · have h := (MapKept.heap_alloc ((w2.alloc kA).alloc kB) (kC w2.heap.size)).1
    rwa [s2] at h

theorem NodesAt.take {w : World} {la : Option Addr} {n : Nat} {ds : List Nd} (h : NodesAt w la n ds) (k : Nat) (hk : k ≤ n) : NodesAt w la k (ds.take k) := by
  refine ⟨by rw [List.length_take, h.len]; omega, fun d hd => h.ok d (List.mem_of_mem_take hd), fun h0 => ?_⟩
  obtain ⟨b, off, hl, hc⟩ := h.at_ (by omega)
  refine ⟨b, off, hl, fun j d hd => hc j d ?_⟩
  rw [List.getElem?_take] at hd
  split at hd
  · exact hd
  · cases hd
theorem three_root (W : World) (x y z : Int) (hx : InR x) (hy : InR y) (hz : InR z) (t : TypeId) : RootsAt (W.alloc (.cells #[.int .i64 x, .int .i64 y, .int .i64 z] t)) (some ⟨W.heap.size, 0, none⟩) 3 [x, y, z] := by
  refine roots_of_row (World.ownsRow_lit (base := 0) (e := t) (size := 1) W #[.int .i64 x, .int .i64 y, .int .i64 z] 3 (Nat.zero_le _) (by decide) rfl) rfl fun u hu => ?_
  simp only [List.mem_cons, List.not_mem_nil, or_false] at hu
  rcases hu with rfl | rfl | rfl <;> assumption
def kNds (z y : Int) : List Nd := [⟨2, 0, 0, 0, 0, 0⟩, ⟨3, max 0 z, max 0 y, 0, 0, 0⟩, ⟨3, 0, 0, 0, 0, 1⟩, ⟨1, z, 0, 0, 0, 0⟩, ⟨3, 0, 0, 0, 0, 3⟩]
theorem kNds_ok (z y : Int) (hz : InR z) (hy : InR y) : ∀ d ∈ kNds z y, d.Ok := by
  intro d hd
  obtain ⟨z0, z1⟩ := hz
  obtain ⟨y0, y1⟩ := hy
  simp only [kNds, List.mem_cons, List.not_mem_nil, or_false] at hd
  rcases hd with rfl | rfl | rfl | rfl | rfl <;> (simp [Nd.Ok, InB, InR]; try omega)

set_option maxRecDepth 100000 in
set_option maxHeartbeats 16000000 in
theorem valueknown_any (w : World) (hL : Laid w) : Calls Tryz.prog 5 #[] w fun e w' => e = .returned (.bool true) ∧ Kept w w' := by
  have HL := Lib.hid hL; clear hL
  obtain ⟨ik, hi, hz0, hz1, hz2⟩ := info_parts infoNodeK
  have HI := Lib.hid (And.intro hi (And.intro hz0 (And.intro hz1 hz2))); clear hi hz0 hz1 hz2
  have HROW0 := Lib.hid (World.ownsRow_lit (base := w.heap.size) (e := 56) (size := 6) w #[.int .u8 2, .int .i64 0, .int .i64 0, .int .u8 0, .int .i64 0, .int .i64 0] 1 (Nat.le_refl _) (by decide) rfl)
  have HK0 := Lib.hid ((Kept.refl w).alloc (.cells #[.int .u8 2, .int .i64 0, .int .i64 0, .int .u8 0, .int .i64 0, .int .i64 0] 56))
  go_enter Tryz.func5, Tryz.ntmps5
  go_upto_region 2 with (fail)
  change Code.wp _ _ _ _ (w.alloc (.cells #[.int .u8 2, .int .i64 0, .int .i64 0, .int .u8 0, .int .i64 0, .int .i64 0] 56))
  generalize w.alloc (.cells #[.int .u8 2, .int .i64 0, .int .i64 0, .int .u8 0, .int .i64 0, .int .i64 0] 56) = W at *
  go_wp2
  go_loopw [1, 2] (fun v i wr => ∃ (j : Nat) (a1 : Option Addr) (c1 : Nat), j ≤ 60 ∧ i = .int .i64 j ∧ v = .slice a1 (j + 1) c1 ∧ wr.ownsRow w.heap.size 56 6 (.slice a1 (j + 1) c1) (j + 1) (nodeCells (kds.take (j + 1))) ∧ Kept w wr) (fun _ i _ => 60 - (intOf i).toNat)
  case atStart => exact ⟨0, _, _, Nat.zero_le _, rfl, rfl, HROW0.out, HK0.out⟩
  case round =>
    obtain ⟨j, a1, c1, hj, rfl, rfl, hrow, hKj⟩ := hrel
    have HROW := Lib.hid hrow; have HKJ := Lib.hid hKj
    clear hrow hKj
    have j0 : (0 : Int) ≤ (j : Int) := Int.natCast_nonneg _
    by_cases hjk : j < 60
    · have j1 : (j : Int) < 60 := by omega
      obtain ⟨jj, hjj⟩ : ∃ jj : Nat, jj = j + 1 := ⟨_, rfl⟩
      rw [← hjj] at HROW ⊢
      have HRA : Hid ((wr.alloc (.cells #[.int .u8 4, .int .i64 0, .int .i64 0, .int .u8 1, .int .i64 (j : Int), .int .i64 (j : Int)] 56)).ownsRow w.heap.size 56 6 (.slice a1 jj c1) jj (nodeCells (kds.take jj))) := World.ownsRow.alloc HROW.out _
      go_wp2_with (at_builtin; refine wpList_append_lies _ rfl _ _ _ rfl w.heap.size 56 ik _ 6 48 Tryz.underlying22 HI.out.1 HI.out.2.1 HI.out.2.2.1 HI.out.2.2.2 rfl (by omega) (.slice a1 jj c1) jj _ rfl HRA.out ⟨wr.heap.size, 0, none⟩ 1 1 [.int .u8 4, .int .i64 0, .int .i64 0, .int .u8 1, .int .i64 (j : Int), .int .i64 (j : Int)] rfl rfl (World.news_of_block (cs := #[.int .u8 4, .int .i64 0, .int .i64 0, .int .u8 1, .int .i64 (j : Int), .int .i64 (j : Int)]) (t := 56) (fr := (0, 0)) (heap_alloc_new wr _)) (by simp [Value.oneCell']) (by omega) (by unfold maxLen; omega) (by omega) (by have := HKJ.out.size; simp; omega) (wr.heap.size + 1) (by simp) ?_; intro gg cap w4 hown4 hgrow4 hat4 hlt4; have HOW4 := Lib.hid hown4; have HGR4 := Lib.hid hgrow4; clear hown4 hgrow4 hat4 hlt4)
      have HKE := Lib.hid (grow_kept HROW.out HKJ.out (Nat.le_refl _) HGR4.out)
      go_roundw
      case rel =>
        subst hjj
        refine ⟨j + 1, some ⟨gg, 0, none⟩, cap, by omega, by go_num, rfl, ?_, HKE.out⟩
        rw [kds_take j hjk]
        have e3 : nodeCells (kds.take (j + 1) ++ [⟨4, 0, 0, 1, (j : Int), (j : Int)⟩]) = nodeCells (kds.take (j + 1)) ++ [.int .u8 4, .int .i64 0, .int .i64 0, .int .u8 1, .int .i64 (j : Int), .int .i64 (j : Int)] := by simp [nodeCells, Nd.cells]
        rw [e3]
        exact HOW4.out
      case measure => simp [intOf]; omega
    · obtain rfl : j = 60 := by omega
      have HNS : Hid (NodesAt wr a1 61 kds) := by
        have h1 := HROW.out
        rw [show (60 + 1 : Nat) = 61 from rfl, List.take_of_length_le (by rw [kds_len]; exact Nat.le_refl _)] at h1
        exact nodes_of_row h1 kds_len kds_ok
      go_wp2_with fail
      refine (made_any a1 61 c1 kds wr HNS.out (by omega) (HL.out.kept HKJ.out)).mono ?_
      rintro e w1 ⟨g, m, v, rfl, ⟨a, c, a', c', hG, rfl, _, _⟩, hk1⟩
      rw [List.take_of_length_le (by rw [kds_len]; exact Nat.le_refl _), kds_adds] at hG
      have HG := Lib.hid hG; have HK1 := Lib.hid (HKJ.out.trans hk1); have HNS1 := Lib.hid (HNS.out.kept hk1)
      clear hG hk1
      have HR3 := Lib.hid (one_root w1 3 ⟨by decide, by decide⟩ 2)
      have HKA := Lib.hid ((Kept.refl w1).alloc (.cells #[.int .i64 3] 2))
      have HB : Hid (hasB kds.length 60 = true) := by show _ = _; rw [kds_len]; rfl
      go_wp2_with fail
      refine (of_any (HG.out.kept HKA.out) (by rw [kds_len]; omega) (s := ⟨some ⟨w1.heap.size, 0, none⟩, 1, 1, none, 0, 0⟩) (S := [3]) (C := []) ⟨HR3.out, nil_cells _ _⟩ (by show 1 ≤ 100000; decide) (by show 0 ≤ 100000; decide) 60 ⟨by decide, by decide⟩).mono ?_
      rintro e w2 ⟨rfl, hk2⟩
      rw [kds_val, HB.out]
      have HK2 := Lib.hid (HK1.out.trans (HKA.out.trans hk2)); have HNS2 := Lib.hid (HNS1.out.kept (HKA.out.trans hk2))
      clear hk2
      obtain ⟨hE, hEB, hEK⟩ := kenv w2
      have HE := Lib.hid hE; have HEB := Lib.hid hEB; have HEK := Lib.hid hEK
      clear hE hEB hEK
      go_upto_region 11 with (fail)
      change Code.wp _ _ _ _ (((w2.alloc kA).alloc kB).alloc (kC w2.heap.size))
      generalize ((w2.alloc kA).alloc kB).alloc (kC w2.heap.size) = w3 at *
      have HNS3 := Lib.hid (HNS2.out.kept HEK.out)
      have HK3 := Lib.hid (HK2.out.trans HEK.out)
      clear HEK
      generalize w2.heap.size = be at *
      have HEC : Hid (∀ w', Kept w3 w' → w'.cell? ⟨be + 1 + 1, 0, none⟩ = some (.slice (some ⟨be, 0, none⟩) 2 2) ∧ w'.cell? ⟨be + 1 + 1, 1, none⟩ = some (.slice (some ⟨be + 1, 0, none⟩) 5 5)) := fun w' hk => by
        have q1 := hk.row HEB.out
        exact ⟨by rw [cell_of_row _ _ _ _ _ _ q1]; rfl, by rw [cell_of_row _ _ _ _ _ _ q1]; rfl⟩
      generalize be + 1 + 1 = bb at *
      generalize be + 1 = bc at *
      go_wp2
      go_loopw [8] (fun i wr => ∃ z : Int, -1 ≤ z ∧ z ≤ 4 ∧ i = .int .i64 z ∧ Kept w3 wr) (fun i _ => (4 - intOf i).toNat)
      case atStart => exact ⟨-1, by omega, by omega, rfl, Kept.refl _⟩
      case round =>
        obtain ⟨z, hz0, hz1, rfl, hKz⟩ := hrel
        have HKZ := Lib.hid hKz; clear hKz
        by_cases hz : z < 4
        · obtain ⟨wz, rfl⟩ : ∃ wz : World, wz = wr := ⟨_, rfl⟩
          go_wp2
          go_loopw [9] (fun i wr => ∃ y : Int, -1 ≤ y ∧ y ≤ 3 ∧ i = .int .i64 y ∧ Kept wz wr) (fun i _ => (3 - intOf i).toNat)
          case atStart => exact ⟨-1, by omega, by omega, rfl, Kept.refl _⟩
          case round =>
            obtain ⟨y, hy0, hy1, rfl, hKy⟩ := hrel
            have HKY := Lib.hid hKy; clear hKy
            by_cases hy : y < 3
            · have HKA := Lib.hid ((Kept.refl wr).alloc (.cells #[.int .u8 2, .int .i64 0, .int .i64 0, .int .u8 0, .int .i64 0, .int .i64 0, .int .u8 3, .int .i64 (max 0 z), .int .i64 (max 0 y), .int .u8 0, .int .i64 0, .int .i64 0, .int .u8 3, .int .i64 0, .int .i64 0, .int .u8 0, .int .i64 0, .int .i64 1, .int .u8 1, .int .i64 z, .int .i64 0, .int .u8 0, .int .i64 0, .int .i64 0, .int .u8 3, .int .i64 0, .int .i64 0, .int .u8 0, .int .i64 0, .int .i64 3] 56))
              have HND : Hid (NodesAt (wr.alloc (.cells #[.int .u8 2, .int .i64 0, .int .i64 0, .int .u8 0, .int .i64 0, .int .i64 0, .int .u8 3, .int .i64 (max 0 z), .int .i64 (max 0 y), .int .u8 0, .int .i64 0, .int .i64 0, .int .u8 3, .int .i64 0, .int .i64 0, .int .u8 0, .int .i64 0, .int .i64 1, .int .u8 1, .int .i64 z, .int .i64 0, .int .u8 0, .int .i64 0, .int .i64 0, .int .u8 3, .int .i64 0, .int .i64 0, .int .u8 0, .int .i64 0, .int .i64 3] 56)) (some ⟨wr.heap.size, 0, none⟩) 5 (kNds z y)) :=
                nodes_of_block (ds := kNds z y) (MapKept.heap_alloc wr (.cells #[.int .u8 2, .int .i64 0, .int .i64 0, .int .u8 0, .int .i64 0, .int .i64 0, .int .u8 3, .int .i64 (max 0 z), .int .i64 (max 0 y), .int .u8 0, .int .i64 0, .int .i64 0, .int .u8 3, .int .i64 0, .int .i64 0, .int .u8 0, .int .i64 0, .int .i64 1, .int .u8 1, .int .i64 z, .int .i64 0, .int .u8 0, .int .i64 0, .int .i64 0, .int .u8 3, .int .i64 0, .int .i64 0, .int .u8 0, .int .i64 0, .int .i64 3] 56)).1 rfl (kNds_ok z y ⟨by omega, by omega⟩ ⟨by omega, by omega⟩)
              have HKN := Lib.hid (HKZ.out.trans (HKY.out.trans HKA.out))
              obtain ⟨f0, f1⟩ := HEC.out _ HKN.out
              go_wp2_with fail
              refine (valueof_any (some ⟨wr.heap.size, 0, none⟩) 5 5 (kNds z y) (some ⟨be, 0, none⟩) 2 2 (some ⟨bc, 0, none⟩) 5 5 [1, 2] kEnvC z z y y _ HND.out (HE.out.kept HKN.out) (fun h => by cases h) ⟨by omega, by omega⟩ ⟨by omega, by omega⟩ ⟨by omega, by omega⟩ ⟨by omega, by omega⟩ (HL.out.kept (HK3.out.trans HKN.out))).mono ?_
              rintro e w5 ⟨rfl, hk5⟩
              have HK5 := Lib.hid (HKY.out.trans (HKA.out.trans hk5))
              clear hk5 f0 f1
              go_wp2
              go_roundw
              case rel => exact ⟨y + 1, by omega, by omega, by go_num, HK5.out⟩
              case measure => simp [intOf]; omega
            · obtain rfl : y = 3 := by omega
              go_wp2
              go_roundw
              case rel => exact ⟨z + 1, by omega, by omega, by go_num, HKZ.out.trans HKY.out⟩
              case measure => simp [intOf]; omega
        · obtain rfl : z = 4 := by omega
          obtain ⟨e0, e1⟩ := HEC.out wr HKZ.out
          go_wp2_with fail
          refine (of_nilg (s := ⟨some ⟨be, 0, none⟩, 2, 2, some ⟨bc, 0, none⟩, 5, 5⟩) 0 wr).mono ?_
          rintro e w6 ⟨rfl, hk6⟩
          have HK6 := Lib.hid (HKZ.out.trans hk6)
          clear hk6 e0 e1
          have HN6 := Lib.hid (HNS3.out.kept HK6.out)
          obtain ⟨e0, e1⟩ := HEC.out w6 HK6.out
          obtain ⟨r, ha, hc61⟩ : ∃ r, a1 = some ⟨r, 0, none⟩ ∧ 61 ≤ c1 := by
            rcases HROW.out.2 with ⟨_, h0⟩ | ⟨r, cap', cur, hv, _, _, hle, _⟩
            · omega
            · injection hv with ha _ hcc
              exact ⟨r, ha, by omega⟩
          subst ha
          have c9 : (9 : Int) ≤ (c1 : Int) := by omega
          have H9 := Lib.hid (HN6.out.take 9 (by omega))
          have HR1 := Lib.hid (three_root w6 8 3 (-1) ⟨by decide, by decide⟩ ⟨by decide, by decide⟩ ⟨by decide, by decide⟩ 44)
          have HA1 := Lib.hid ((Kept.refl w6).alloc (.cells #[.int .i64 8, .int .i64 3, .int .i64 (-1)] 44))
          have f0 := HA1.out.cell e0
          have f1 := HA1.out.cell e1
          have HKA6 := Lib.hid (HK3.out.trans HK6.out)
          go_wp2_with fail
          go_region_law ((first
            | (go_simp; go_at_call 4; refine (valueneeds_any (some ⟨r, 0, none⟩) (some ⟨w6.heap.size, 0, none⟩) 9 c1 3 3 (kds.take 9) [8, 3, -1] _ (H9.out.kept (by first | exact HA1.out | exact HA1.out.drew)) (HR1.out.kept (by first | exact Kept.refl _ | exact Kept.drew (Kept.refl _))) (HL.out.kept (HKA6.out.trans (by first | exact HA1.out | exact HA1.out.drew)))).mono ?_
               rintro e w7 ⟨rfl, hk7⟩
               have HK7 : Hid (Kept w6 w7) := Kept.trans (by first | exact HA1.out | exact HA1.out.drew) hk7
               have HA2 := Lib.hid (HK7.out.alloc (.cells #[.int .i64 9, .int .i64 9, .int .i64 9] 2))
               have HR2 := Lib.hid (three_root w7 9 9 9 ⟨by decide, by decide⟩ ⟨by decide, by decide⟩ ⟨by decide, by decide⟩ 2)
               obtain ⟨k0, k1⟩ := HEC.out w7 (HK6.out.trans HK7.out)
               obtain ⟨j0', j1'⟩ := HEC.out _ (HK6.out.trans HA2.out)
               clear hk7)
            | (go_simp; go_at_call 20; refine (valueneeded_any (some ⟨r, 0, none⟩) (some ⟨w7.heap.size, 0, none⟩) 9 c1 3 3 (kds.take 9) (some ⟨be, 0, none⟩) 2 2 (some ⟨bc, 0, none⟩) 5 5 [1, 2] kEnvC [9, 9, 9] _ (H9.out.kept (by first | exact HA2.out | exact HA2.out.drew)) (HE.out.kept (HK6.out.trans (by first | exact HA2.out | exact HA2.out.drew))) (HR2.out.kept (by first | exact Kept.refl _ | exact Kept.drew (Kept.refl _))) (HL.out.kept (HKA6.out.trans (by first | exact HA2.out | exact HA2.out.drew)))).mono ?_
               rintro e w8 ⟨rfl, hk8⟩
               have HK8 : Hid (Kept w6 w8) := Kept.trans (by first | exact HA2.out | exact HA2.out.drew) hk8
               clear hk8)
            | (go_simp; go_at_call 7; refine (vworks_any _ (HL.out.kept (HKA6.out.trans (by first | exact HK8.out | exact HK8.out.drew)))).mono ?_
               rintro e w9 ⟨rfl, hk9⟩)))
          all_goals
            go_wp2
            go_ret
            exact ⟨rfl, HKA6.out.trans (Kept.trans (by first | exact HK8.out | exact HK8.out.drew) hk9)⟩
end Go.Proofs.YtjhmbbioplhcgaaGreatDoor
