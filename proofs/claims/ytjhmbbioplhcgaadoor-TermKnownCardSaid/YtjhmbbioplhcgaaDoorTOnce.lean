/-
  Layer 2: the walk of TermOnce.
-/
import Derived.Test.YtjhmbbioplhcgaaDoorTAdds
import Derived.Test.YtjhmbbioplhcgaaDoorTUniq
namespace Go.Proofs.YtjhmbbioplhcgaaDoor
open Go Go.RowKit

/-! ### Plain -/
theorem text_len {L : List Nd} (hG : Good L) : ∀ k, k < L.length → (textOf L (k : Int)).length + 60 ≤ 100 * 2 ^ (kAt (kps L) (k : Int)).deep := by
  intro k
  induction k using Nat.strongRecOn with
  | _ k ih =>
    intro hk
    rw [textOf_eq L hG k hk, keptOf_eq L hG k hk]
    have hm := hG.may k hk
    have hp := may_parts hm
    have hd : L[k].Ok := hG.ok _ (List.getElem_mem hk)
    have key : ∀ p ∈ partsOf L[k], (tAt (texts L) p).length + 60 ≤ 100 * 2 ^ (kAt (kps L) p).deep := by
      intro p h
      obtain ⟨h0, h1⟩ := hp p h
      have := ih p.toNat (by omega) (by omega)
      rwa [Int.toNat_of_nonneg h0] at this
    generalize L[k] = d at *
    have ln := Lib.itoa_length_le d.n hd.2.1.1 hd.2.1.2
    have la := Lib.itoa_length_le d.a hd.2.2.1.1 hd.2.2.1.2
    have ls := signN_le d.o.toNat
    have ls : (signOf d.o).length ≤ 3 := ls
    show (text1 (texts L) d).length + 60 ≤ 100 * 2 ^ deep1 (kps L) d
    unfold text1 deep1
    rcases may_kind hm with h | h | h | h
    · simp [partsOf, h, mark0]; omega
    · simp [partsOf, h, mark0]; omega
    · have ky := key d.y (by simp [partsOf, h])
      generalize hq1 : (kAt (kps L) d.y).deep = q at ky
      have e : (2 : Nat) ^ (q + 1) = 2 * 2 ^ q := by rw [Nat.pow_succ]; omega
      simp [partsOf, h, mark0, mark1, hq1, e]
      omega
    · have kx := key d.x (by simp [partsOf, h])
      have ky := key d.y (by simp [partsOf, h])
      generalize hp1 : (kAt (kps L) d.x).deep = p at kx
      generalize hq1 : (kAt (kps L) d.y).deep = q at ky
      have e : (2 : Nat) ^ (max p q + 1) = 2 * 2 ^ (max p q) := by rw [Nat.pow_succ]; omega
      have m1 : (2 : Nat) ^ p ≤ 2 ^ (max p q) := Nat.pow_le_pow_right (by omega) (Nat.le_max_left _ _)
      have m2 : (2 : Nat) ^ q ≤ 2 ^ (max p q) := Nat.pow_le_pow_right (by omega) (Nat.le_max_right _ _)
      simp [partsOf, h, mark0, mark1, mark2, hp1, hq1, e]
      omega
theorem text_short {L : List Nd} (hG : Good L) {k : Nat} (hk : k < L.length) (hd : deepI L (k : Int) ≤ 8) : textI L (k : Int) = textOf L (k : Int) := by
  have hb : hasB L.length (k : Int) = true := (hasB_iff _ _).2 ⟨by omega, by omega⟩
  have h1 := text_len hG k hk
  have h2 : (kAt (kps L) (k : Int)).deep ≤ 8 := by
    unfold deepI at hd
    rw [if_pos hb] at hd
    omega
  have h3 : (2 : Nat) ^ (kAt (kps L) (k : Int)).deep ≤ 2 ^ 8 := Nat.pow_le_pow_right (by omega) h2
  unfold textI
  rw [if_pos hb, if_pos (by omega)]
/-- The texts of the first j terms that are not too deep. -/
def tl (L : List Nd) (j : Nat) : List (List UInt8) := ((List.range j).filter fun (i : Nat) => decide (deepI L (i : Int) ≤ 8)).map fun (i : Nat) => textI L (i : Int)
theorem tl_yes {L : List Nd} {j : Nat} (h : deepI L (j : Int) ≤ 8) : tl L (j + 1) = tl L j ++ [textI L (j : Int)] := by
  simp [tl, List.range_succ, h]
theorem tl_no {L : List Nd} {j : Nat} (h : ¬ deepI L (j : Int) ≤ 8) : tl L (j + 1) = tl L j := by
  simp [tl, List.range_succ, h]
theorem tl_len (L : List Nd) (j : Nat) : (tl L j).length ≤ j := by
  unfold tl
  rw [List.length_map]
  have := List.length_filter_le (fun (i : Nat) => decide (deepI L (i : Int) ≤ 8)) (List.range j)
  simpa using this
theorem tl_apart {L : List Nd} (hG : Good L) : (tl L L.length).Pairwise (· ≠ ·) := by
  unfold tl
  rw [List.pairwise_map]
  have h1 : (List.range L.length).Pairwise (fun a b => a < b ∧ a < L.length ∧ b < L.length) := by
    refine List.Pairwise.imp_of_mem (fun {a b} ha hb h => ⟨h, List.mem_range.1 ha, List.mem_range.1 hb⟩) List.pairwise_lt_range
  refine List.Pairwise.imp_of_mem (fun {a b} ha hb h => ?_) (h1.filter _)
  have hda := of_decide_eq_true (List.mem_filter.1 ha).2
  have hdb := of_decide_eq_true (List.mem_filter.1 hb).2
  intro e
  rw [text_short hG h.2.1 hda, text_short hG h.2.2 hdb] at e
  have := text_inj hG h.2.1 h.2.2 e
  omega
theorem nodup_ne {L : List Nd} (hG : Good L) {i j : Nat} {d e : Nd} (hi : L[i]? = some d) (hj : L[j]? = some e) (h : i < j) : d.eqb e = false := by
  obtain ⟨h1, h2⟩ := List.getElem?_eq_some_iff.1 hi
  obtain ⟨h3, h4⟩ := List.getElem?_eq_some_iff.1 hj
  have hp := List.pairwise_iff_getElem.1 hG.nodup i j h1 h3 h
  cases hb : d.eqb e with
  | false => rfl
  | true =>
    have := (Nd.eqb_iff d e).1 hb
    exact absurd (h2.trans (this.trans h4.symm)) hp
theorem idx_at {L : List Nd} (hG : Good L) {j : Nat} {d : Nd} (hj : L[j]? = some d) : idx L d = j ∧ inL L d = true :=
  idx_found hj (Nd.eqb_self d) fun _ _ hk he => nodup_ne hG he hj hk
theorem eq_str (s t : List UInt8) (h : s ≠ t) (w : World) : (binOp .eql 9 (str s) (str t)).run Tryd.prog w = .ok (.bool false) w := by
  simp [binOp, Op.stringOp, h]
theorem infoStr : (Tryd.prog.info? 9).map (fun i => (i.zero, i.size, i.bytes)) = some (some (.string ⟨#[]⟩), 1, 16) := by kernel_rfl

theorem row_cell {W : World} {B n cap : Nat} {e : TypeId} {a : Option Addr} {xs : List Value} (h : W.ownsRow B e 1 (.slice a n cap) n xs) (hn : 0 < n) : ∃ r, a = some ⟨r, 0, none⟩ ∧ r < W.heap.size ∧ ∀ W', Kept W W' → ∀ j v, xs[j]? = some v → W'.cell? ⟨r, j, none⟩ = some v := by
  obtain ⟨hl, h2⟩ := h
  rcases h2 with ⟨_, h0⟩ | ⟨r, cap', cur, hv, _, hblk, hle, hmx, hsz, htk⟩
  · omega
  · injection hv with ha _ _
    refine ⟨r, ha, (Array.getElem?_eq_some_iff.1 hblk).1, fun W' hk j v hj => ?_⟩
    rw [cell_of_row _ _ _ _ _ _ (hk.row hblk)]
    rw [← htk, List.getElem?_take] at hj
    split at hj
    · simpa using hj
    · cases hj


/-- The row of texts so far. -/
def TL (w1 wr : World) (L : List Nd) (j : Nat) (v : Value) : Prop := ∃ a' c', v = .slice a' (tl L j).length c' ∧ wr.ownsRow w1.heap.size 9 1 (.slice a' (tl L j).length c') (tl L j).length ((tl L j).map str) ∧ Kept w1 wr

set_option maxRecDepth 100000 in
set_option maxHeartbeats 16000000 in
theorem once_few (la : Option Addr) (n lc : Nat) (ds : List Nd) (w : World) (hds : NodesAt w la n ds) (hn : n ≤ 60) (hL : Laid w) :
    Calls Tryd.prog 5 #[.slice la n lc] w fun e w' => e = .returned (.bool true) ∧ Kept w w' := by
  have HDS := Lib.hid hds
  have HL := Lib.hid hL
  clear hds hL
  have h1 : ¬ (60 : Int) < (n : Int) := by omega
  go_enter Tryd.func5, Tryd.ntmps5
  go_wp2_with fail
  refine (made_any la n lc ds w HDS.out (by omega) HL.out).mono ?_
  rintro e w1 ⟨g, m, v, rfl, ⟨a, c, a', c', hG, rfl, _, _⟩, hk1⟩
  have hlen : (addsL (ds.take n)).length ≤ 60 := by
    have h2 := addsL_len (ds.take n)
    have h3 := List.length_take_le n ds
    omega
  generalize addsL (ds.take n) = L at *
  have HG := Lib.hid hG; have HK1 := Lib.hid hk1
  have HGD := Lib.hid hG.good
  have gc := hG.cell0
  clear hG hk1
  go_wp2_with (go_at_call 15; refine (size_cell _ _ _ _ _ gc).mono ?_; rintro e w' ⟨rfl, rfl⟩)
  go_loopw [6, 7] (fun v i wr => ∃ j : Nat, j ≤ L.length ∧ i = .int .i64 j ∧ TL w1 wr L j v) (fun _ i _ => L.length - (intOf i).toNat)
  case atStart => exact ⟨0, Nat.zero_le _, rfl, none, 0, rfl, World.ownsRow_nil _ _ _ _, Kept.refl _⟩
  case round =>
    obtain ⟨j, hj, rfl, aT, cT, rfl, hrow, hKr⟩ := hrel
    have HROW := Lib.hid hrow; have HKR := Lib.hid hKr
    clear hrow hKr
    by_cases hlt : j < L.length
    · obtain ⟨d, hd⟩ : ∃ d, L[j]? = some d := ⟨_, List.getElem?_eq_getElem hlt⟩
      have HJD := Lib.hid hd
      have hde : L[j] = d := (List.getElem?_eq_some_iff.1 hd).2
      have HDO : Hid d.Ok := HGD.out.ok d (List.mem_of_getElem? hd)
      have hmj : mayB j d = true := hde ▸ HGD.out.may j hlt
      have HDM : Hid (mayB L.length d = true) := may_mono (by omega) hmj
      have HPT := Lib.hid (may_parts hmj)
      have hkind := may_kind hmj
      have HIX := Lib.hid (idx_at HGD.out hd)
      have HB : Hid (hasB L.length (j : Int) = true) := (hasB_iff _ _).2 ⟨by omega, by omega⟩
      have HN : Hid (nodeAt L (j : Int) = d) := by
        show _ = _
        unfold nodeAt
        rw [HB.out, Int.toNat_natCast, List.getD_eq_getElem?_getD, hd]
        rfl
      clear hde hd hmj
      have j0 : (0 : Int) ≤ (j : Int) := Int.natCast_nonneg _
      have j1 : (j : Int) < (L.length : Int) := by omega
      go_wp2_with fail
      refine (node_any (HG.out.kept HKR.out) (j : Int)).mono ?_
      rintro e w2 ⟨rfl, hk2⟩
      rw [HB.out, HN.out]
      simp only [Nd.val]
      have HK2 := Lib.hid hk2; clear hk2
      go_upto_region 10 with (fail)
      have HBN := Lib.hid (MapKept.heap_alloc w2 (nodeObj d)).1
      have HK3 := Lib.hid (HK2.out.trans ((Kept.refl w2).alloc (nodeObj d)))
      change Code.wp _ _ _ _ (w2.alloc (nodeObj d))
      generalize w2.alloc (nodeObj d) = w3 at *
      generalize w2.heap.size = bn at *
      have HG3 := Lib.hid ((HG.out.kept HKR.out).kept HK3.out)
      rcases hkind with k | k | k | k
      · have K := Lib.hid k
        have ADD : Hid (∀ w', Kept w3 w' → Calls Tryd.prog 12 #[.pointer (some ⟨g, 0, none⟩), .agg #[.int .u8 1, .int .i64 d.n, .int .i64 d.a, .int .u8 d.o, .int .i64 d.x, .int .i64 d.y]] w' fun e w'' => e = .returned (.int .i64 (j : Int)) ∧ Kept w' w'') := fun w' hk => by
          have h1 := add_old (HG3.out.kept hk) d HDO.out HDM.out HIX.out.2
          simp only [Nd.val, k, HIX.out.1] at h1
          exact h1
        have FB : Hid (∀ w', Kept w3 w' → w'.cell? ⟨bn, 0, none⟩ = some (.int .u8 1) ∧ w'.cell? ⟨bn, 1, none⟩ = some (.int .i64 d.n) ∧ w'.cell? ⟨bn, 2, none⟩ = some (.int .i64 d.a) ∧ w'.cell? ⟨bn, 3, none⟩ = some (.int .u8 d.o) ∧ w'.cell? ⟨bn, 4, none⟩ = some (.int .i64 d.x) ∧ w'.cell? ⟨bn, 5, none⟩ = some (.int .i64 d.y)) := fun w' hk => by
          have h1 := box_facts HBN.out hk
          rw [k] at h1
          exact h1
        have HEQ : Hid (∀ q e, q < j → L[q]? = some e → ∀ w, (binOp .eql 34 e.val (.agg #[.int .u8 1, .int .i64 d.n, .int .i64 d.a, .int .u8 d.o, .int .i64 d.x, .int .i64 d.y])).run Tryd.prog w = .ok (.bool false) w) := fun q e hq he w => by
          have h1 := eq_node e d w
          rw [nodup_ne HGD.out he HJD.out hq] at h1
          simp only [Nd.val, k] at h1
          exact h1
        clear k
        obtain ⟨x0, x1, x2, x3, x4, x5⟩ := FB.out w3 (Kept.refl w3)
        go_upto_region 12 with (first
          | (go_at_call 12; refine (ADD.out _ (Kept.refl w3)).mono ?_; rintro e w4 ⟨rfl, hk4⟩; have HK4 := Lib.hid hk4; have gs := (HG3.out.kept hk4).cell0; obtain ⟨z0, z1, z2, z3, z4, z5⟩ := FB.out w4 hk4; clear hk4)
          | (go_at_call 15; refine (size_cell _ _ _ _ _ gs).mono ?_; rintro e w5 ⟨rfl, rfl⟩))
        go_wp2_with fail
        obtain ⟨wo, rfl⟩ : ∃ wo : World, wo = wr := ⟨_, rfl⟩
        have HW4 := Lib.hid (HKR.out.trans (HK3.out.trans HK4.out))
        clear x0 x1 x2 x3 x4 x5 z0 z1 z2 z3 z4 z5 gs
        go_loopw [10] (fun i wr' => ∃ q : Nat, q ≤ j ∧ i = .int .i64 q ∧ Kept w4 wr') (fun i _ => j - (intOf i).toNat)
        case atStart => exact ⟨0, Nat.zero_le _, rfl, Kept.refl _⟩
        case round =>
          obtain ⟨q, hq, rfl, hKq⟩ := hrel
          have HKQ := Lib.hid hKq; clear hKq
          have HWQ := Lib.hid (HW4.out.trans HKQ.out)
          by_cases hql : q < j
          · obtain ⟨e, he⟩ : ∃ e, L[q]? = some e := ⟨_, List.getElem?_eq_getElem (by omega)⟩
            have HBq : Hid (hasB L.length (q : Int) = true) := (hasB_iff _ _).2 ⟨by omega, by omega⟩
            have HNq : Hid (nodeAt L (q : Int) = e) := by
              show _ = _
              unfold nodeAt
              rw [HBq.out, Int.toNat_natCast, List.getD_eq_getElem?_getD, he]
              rfl
            have hne := HEQ.out q e hql he
            simp only [Nd.val] at hne
            clear he
            have q0 : (0 : Int) ≤ (q : Int) := Int.natCast_nonneg _
            have q1 : (q : Int) < (j : Int) := by omega
            have hgu := guardNode
            go_wp2_with fail
            refine (node_any (HG.out.kept HWQ.out) (q : Int)).mono ?_
            rintro e' w6 ⟨rfl, hk6⟩
            rw [HBq.out, HNq.out]
            simp only [Nd.val]
            have HK6 := Lib.hid hk6; clear hk6
            have hbx := FB.out w6 (HK4.out.trans (HKQ.out.trans HK6.out))
            obtain ⟨x0, x1, x2, x3, x4, x5⟩ := hbx
            have hbl := World.block_lt_of_cell? w6 _ x0
            simp only at hbl
            have hbn : bn ≠ w6.heap.size := Nat.ne_of_lt hbl
            go_wp2
            go_roundw
            case rel => exact ⟨q + 1, by omega, by go_num, HKQ.out.trans (HK6.out.alloc _)⟩
            case measure => simp [intOf]; omega
          · obtain rfl : q = j := by omega
            have gd := HG.out.kept HWQ.out
            by_cases hdp : deepI L (q : Int) ≤ 8
            · have HTL : Hid (tl L (q + 1) = tl L q ++ [textI L (q : Int)]) := tl_yes hdp
              have HTN : Hid ((tl L q).length ≤ 60) := Nat.le_trans (tl_len L q) (by omega)
              have HKwq : Hid (Kept wo wr) := (HK3.out.trans HK4.out).trans HKQ.out
              have HLQ := Lib.hid (HL.out.kept (HK1.out.trans HWQ.out))
              obtain ⟨ii, hi, hz0, hz1, hz2⟩ := info_parts infoStr
              have HI := Lib.hid (And.intro hi (And.intro hz0 (And.intro hz1 hz2))); clear hi hz0 hz1 hz2
              go_wp2_with (first
                | (go_at_call 19; refine (deep_any gd (q : Int)).mono ?_; rintro e w' ⟨rfl, rfl⟩)
                | (go_at_call 21; refine (text_any gd HLQ.out (by omega) (q : Int)).mono ?_; rintro e w7 ⟨rfl, hk7⟩; have HK7 := Lib.hid hk7; have HR7 : Hid ((w7.alloc (.cells #[str (textI L (q : Int))] 9)).ownsRow w1.heap.size 9 1 (.slice aT (tl L q).length cT) (tl L q).length ((tl L q).map str)) := World.ownsRow.alloc (ownsRow_block HROW.out fun b hb => (HKwq.out.trans hk7).block b (HROW.out.lt b hb).2) _; clear hk7)
                | (at_builtin; refine wpList_append_lies _ rfl _ _ _ rfl w1.heap.size 9 ii _ 1 16 Tryd.underlying55 HI.out.1 HI.out.2.1 HI.out.2.2.1 HI.out.2.2.2 rfl (by omega) (.slice aT (tl L q).length cT) (tl L q).length _ rfl HR7.out ⟨w7.heap.size, 0, none⟩ 1 1 [str (textI L (q : Int))] rfl rfl (World.news_of_block (cs := #[str (textI L (q : Int))]) (t := 9) (fr := (0, 0)) (heap_alloc_new w7 _)) (by simp [Value.oneCell']) (by omega) (by unfold maxLen; have := HTN.out; omega) (by have := HTN.out; omega) (by have h5 := HWQ.out.size; have h6 := HK7.out.size; simp; omega) (w7.heap.size + 1) (by simp) ?_; intro gg cap w9 hown9 hgrow9 hat9 hlt9; have HOW9 := Lib.hid hown9; have HGR9 := Lib.hid hgrow9; clear hown9 hgrow9 hat9 hlt9))
              go_roundw
              case rel =>
                refine ⟨q + 1, by omega, by go_num, some ⟨gg, 0, none⟩, cap, ?_, ?_, ?_⟩
                · rw [HTL.out, List.length_append]; rfl
                · rw [HTL.out, List.length_append, List.map_append]; exact HOW9.out
                · exact Below.grown (((HWQ.out).trans HK7.out).alloc _) HGR9.out (by have h5 := HWQ.out.size; have h6 := HK7.out.size; simp; omega) (fun b hb => (HROW.out.lt b hb).1)
              case measure => simp [intOf]; omega
            · have HTL : Hid (tl L (q + 1) = tl L q) := tl_no hdp
              have HDP := Lib.hid hdp
              go_wp2_with (go_at_call 19; refine (deep_any gd (q : Int)).mono ?_; rintro e w' ⟨rfl, rfl⟩)
              go_roundw
              case rel => exact ⟨q + 1, by omega, by go_num, aT, cT, by rw [HTL.out], by rw [HTL.out]; exact (ownsRow_block HROW.out fun b hb => ((HK3.out.trans HK4.out).trans HKQ.out).block b (HROW.out.lt b hb).2), HWQ.out⟩
              case measure => simp [intOf]; omega
      · have K := Lib.hid k
        have ADD : Hid (∀ w', Kept w3 w' → Calls Tryd.prog 12 #[.pointer (some ⟨g, 0, none⟩), .agg #[.int .u8 2, .int .i64 d.n, .int .i64 d.a, .int .u8 d.o, .int .i64 d.x, .int .i64 d.y]] w' fun e w'' => e = .returned (.int .i64 (j : Int)) ∧ Kept w' w'') := fun w' hk => by
          have h1 := add_old (HG3.out.kept hk) d HDO.out HDM.out HIX.out.2
          simp only [Nd.val, k, HIX.out.1] at h1
          exact h1
        have FB : Hid (∀ w', Kept w3 w' → w'.cell? ⟨bn, 0, none⟩ = some (.int .u8 2) ∧ w'.cell? ⟨bn, 1, none⟩ = some (.int .i64 d.n) ∧ w'.cell? ⟨bn, 2, none⟩ = some (.int .i64 d.a) ∧ w'.cell? ⟨bn, 3, none⟩ = some (.int .u8 d.o) ∧ w'.cell? ⟨bn, 4, none⟩ = some (.int .i64 d.x) ∧ w'.cell? ⟨bn, 5, none⟩ = some (.int .i64 d.y)) := fun w' hk => by
          have h1 := box_facts HBN.out hk
          rw [k] at h1
          exact h1
        have HEQ : Hid (∀ q e, q < j → L[q]? = some e → ∀ w, (binOp .eql 34 e.val (.agg #[.int .u8 2, .int .i64 d.n, .int .i64 d.a, .int .u8 d.o, .int .i64 d.x, .int .i64 d.y])).run Tryd.prog w = .ok (.bool false) w) := fun q e hq he w => by
          have h1 := eq_node e d w
          rw [nodup_ne HGD.out he HJD.out hq] at h1
          simp only [Nd.val, k] at h1
          exact h1
        clear k
        obtain ⟨x0, x1, x2, x3, x4, x5⟩ := FB.out w3 (Kept.refl w3)
        go_upto_region 12 with (first
          | (go_at_call 12; refine (ADD.out _ (Kept.refl w3)).mono ?_; rintro e w4 ⟨rfl, hk4⟩; have HK4 := Lib.hid hk4; have gs := (HG3.out.kept hk4).cell0; obtain ⟨z0, z1, z2, z3, z4, z5⟩ := FB.out w4 hk4; clear hk4)
          | (go_at_call 15; refine (size_cell _ _ _ _ _ gs).mono ?_; rintro e w5 ⟨rfl, rfl⟩))
        go_wp2_with fail
        obtain ⟨wo, rfl⟩ : ∃ wo : World, wo = wr := ⟨_, rfl⟩
        have HW4 := Lib.hid (HKR.out.trans (HK3.out.trans HK4.out))
        clear x0 x1 x2 x3 x4 x5 z0 z1 z2 z3 z4 z5 gs
        go_loopw [10] (fun i wr' => ∃ q : Nat, q ≤ j ∧ i = .int .i64 q ∧ Kept w4 wr') (fun i _ => j - (intOf i).toNat)
        case atStart => exact ⟨0, Nat.zero_le _, rfl, Kept.refl _⟩
        case round =>
          obtain ⟨q, hq, rfl, hKq⟩ := hrel
          have HKQ := Lib.hid hKq; clear hKq
          have HWQ := Lib.hid (HW4.out.trans HKQ.out)
          by_cases hql : q < j
          · obtain ⟨e, he⟩ : ∃ e, L[q]? = some e := ⟨_, List.getElem?_eq_getElem (by omega)⟩
            have HBq : Hid (hasB L.length (q : Int) = true) := (hasB_iff _ _).2 ⟨by omega, by omega⟩
            have HNq : Hid (nodeAt L (q : Int) = e) := by
              show _ = _
              unfold nodeAt
              rw [HBq.out, Int.toNat_natCast, List.getD_eq_getElem?_getD, he]
              rfl
            have hne := HEQ.out q e hql he
            simp only [Nd.val] at hne
            clear he
            have q0 : (0 : Int) ≤ (q : Int) := Int.natCast_nonneg _
            have q1 : (q : Int) < (j : Int) := by omega
            have hgu := guardNode
            go_wp2_with fail
            refine (node_any (HG.out.kept HWQ.out) (q : Int)).mono ?_
            rintro e' w6 ⟨rfl, hk6⟩
            rw [HBq.out, HNq.out]
            simp only [Nd.val]
            have HK6 := Lib.hid hk6; clear hk6
            have hbx := FB.out w6 (HK4.out.trans (HKQ.out.trans HK6.out))
            obtain ⟨x0, x1, x2, x3, x4, x5⟩ := hbx
            have hbl := World.block_lt_of_cell? w6 _ x0
            simp only at hbl
            have hbn : bn ≠ w6.heap.size := Nat.ne_of_lt hbl
            go_wp2
            go_roundw
            case rel => exact ⟨q + 1, by omega, by go_num, HKQ.out.trans (HK6.out.alloc _)⟩
            case measure => simp [intOf]; omega
          · obtain rfl : q = j := by omega
            have gd := HG.out.kept HWQ.out
            by_cases hdp : deepI L (q : Int) ≤ 8
            · have HTL : Hid (tl L (q + 1) = tl L q ++ [textI L (q : Int)]) := tl_yes hdp
              have HTN : Hid ((tl L q).length ≤ 60) := Nat.le_trans (tl_len L q) (by omega)
              have HKwq : Hid (Kept wo wr) := (HK3.out.trans HK4.out).trans HKQ.out
              have HLQ := Lib.hid (HL.out.kept (HK1.out.trans HWQ.out))
              obtain ⟨ii, hi, hz0, hz1, hz2⟩ := info_parts infoStr
              have HI := Lib.hid (And.intro hi (And.intro hz0 (And.intro hz1 hz2))); clear hi hz0 hz1 hz2
              go_wp2_with (first
                | (go_at_call 19; refine (deep_any gd (q : Int)).mono ?_; rintro e w' ⟨rfl, rfl⟩)
                | (go_at_call 21; refine (text_any gd HLQ.out (by omega) (q : Int)).mono ?_; rintro e w7 ⟨rfl, hk7⟩; have HK7 := Lib.hid hk7; have HR7 : Hid ((w7.alloc (.cells #[str (textI L (q : Int))] 9)).ownsRow w1.heap.size 9 1 (.slice aT (tl L q).length cT) (tl L q).length ((tl L q).map str)) := World.ownsRow.alloc (ownsRow_block HROW.out fun b hb => (HKwq.out.trans hk7).block b (HROW.out.lt b hb).2) _; clear hk7)
                | (at_builtin; refine wpList_append_lies _ rfl _ _ _ rfl w1.heap.size 9 ii _ 1 16 Tryd.underlying55 HI.out.1 HI.out.2.1 HI.out.2.2.1 HI.out.2.2.2 rfl (by omega) (.slice aT (tl L q).length cT) (tl L q).length _ rfl HR7.out ⟨w7.heap.size, 0, none⟩ 1 1 [str (textI L (q : Int))] rfl rfl (World.news_of_block (cs := #[str (textI L (q : Int))]) (t := 9) (fr := (0, 0)) (heap_alloc_new w7 _)) (by simp [Value.oneCell']) (by omega) (by unfold maxLen; have := HTN.out; omega) (by have := HTN.out; omega) (by have h5 := HWQ.out.size; have h6 := HK7.out.size; simp; omega) (w7.heap.size + 1) (by simp) ?_; intro gg cap w9 hown9 hgrow9 hat9 hlt9; have HOW9 := Lib.hid hown9; have HGR9 := Lib.hid hgrow9; clear hown9 hgrow9 hat9 hlt9))
              go_roundw
              case rel =>
                refine ⟨q + 1, by omega, by go_num, some ⟨gg, 0, none⟩, cap, ?_, ?_, ?_⟩
                · rw [HTL.out, List.length_append]; rfl
                · rw [HTL.out, List.length_append, List.map_append]; exact HOW9.out
                · exact Below.grown (((HWQ.out).trans HK7.out).alloc _) HGR9.out (by have h5 := HWQ.out.size; have h6 := HK7.out.size; simp; omega) (fun b hb => (HROW.out.lt b hb).1)
              case measure => simp [intOf]; omega
            · have HTL : Hid (tl L (q + 1) = tl L q) := tl_no hdp
              have HDP := Lib.hid hdp
              go_wp2_with (go_at_call 19; refine (deep_any gd (q : Int)).mono ?_; rintro e w' ⟨rfl, rfl⟩)
              go_roundw
              case rel => exact ⟨q + 1, by omega, by go_num, aT, cT, by rw [HTL.out], by rw [HTL.out]; exact (ownsRow_block HROW.out fun b hb => ((HK3.out.trans HK4.out).trans HKQ.out).block b (HROW.out.lt b hb).2), HWQ.out⟩
              case measure => simp [intOf]; omega
      · have K := Lib.hid k
        have ADD : Hid (∀ w', Kept w3 w' → Calls Tryd.prog 12 #[.pointer (some ⟨g, 0, none⟩), .agg #[.int .u8 3, .int .i64 d.n, .int .i64 d.a, .int .u8 d.o, .int .i64 d.x, .int .i64 d.y]] w' fun e w'' => e = .returned (.int .i64 (j : Int)) ∧ Kept w' w'') := fun w' hk => by
          have h1 := add_old (HG3.out.kept hk) d HDO.out HDM.out HIX.out.2
          simp only [Nd.val, k, HIX.out.1] at h1
          exact h1
        have FB : Hid (∀ w', Kept w3 w' → w'.cell? ⟨bn, 0, none⟩ = some (.int .u8 3) ∧ w'.cell? ⟨bn, 1, none⟩ = some (.int .i64 d.n) ∧ w'.cell? ⟨bn, 2, none⟩ = some (.int .i64 d.a) ∧ w'.cell? ⟨bn, 3, none⟩ = some (.int .u8 d.o) ∧ w'.cell? ⟨bn, 4, none⟩ = some (.int .i64 d.x) ∧ w'.cell? ⟨bn, 5, none⟩ = some (.int .i64 d.y)) := fun w' hk => by
          have h1 := box_facts HBN.out hk
          rw [k] at h1
          exact h1
        have HEQ : Hid (∀ q e, q < j → L[q]? = some e → ∀ w, (binOp .eql 34 e.val (.agg #[.int .u8 3, .int .i64 d.n, .int .i64 d.a, .int .u8 d.o, .int .i64 d.x, .int .i64 d.y])).run Tryd.prog w = .ok (.bool false) w) := fun q e hq he w => by
          have h1 := eq_node e d w
          rw [nodup_ne HGD.out he HJD.out hq] at h1
          simp only [Nd.val, k] at h1
          exact h1
        have hyj : ¬ ((j : Nat) : Int) ≤ d.y := by
          have := HPT.out d.y (by unfold partsOf; rw [if_pos K.out]; simp)
          omega
        have dyj : decide (((j : Nat) : Int) ≤ d.y) = false := decide_eq_false hyj
        clear k
        obtain ⟨x0, x1, x2, x3, x4, x5⟩ := FB.out w3 (Kept.refl w3)
        go_upto_region 12 with (first
          | (go_at_call 12; refine (ADD.out _ (Kept.refl w3)).mono ?_; rintro e w4 ⟨rfl, hk4⟩; have HK4 := Lib.hid hk4; have gs := (HG3.out.kept hk4).cell0; obtain ⟨z0, z1, z2, z3, z4, z5⟩ := FB.out w4 hk4; clear hk4)
          | (go_at_call 15; refine (size_cell _ _ _ _ _ gs).mono ?_; rintro e w5 ⟨rfl, rfl⟩))
        go_wp2_with fail
        obtain ⟨wo, rfl⟩ : ∃ wo : World, wo = wr := ⟨_, rfl⟩
        have HW4 := Lib.hid (HKR.out.trans (HK3.out.trans HK4.out))
        clear x0 x1 x2 x3 x4 x5 z0 z1 z2 z3 z4 z5 gs
        go_loopw [10] (fun i wr' => ∃ q : Nat, q ≤ j ∧ i = .int .i64 q ∧ Kept w4 wr') (fun i _ => j - (intOf i).toNat)
        case atStart => exact ⟨0, Nat.zero_le _, rfl, Kept.refl _⟩
        case round =>
          obtain ⟨q, hq, rfl, hKq⟩ := hrel
          have HKQ := Lib.hid hKq; clear hKq
          have HWQ := Lib.hid (HW4.out.trans HKQ.out)
          by_cases hql : q < j
          · obtain ⟨e, he⟩ : ∃ e, L[q]? = some e := ⟨_, List.getElem?_eq_getElem (by omega)⟩
            have HBq : Hid (hasB L.length (q : Int) = true) := (hasB_iff _ _).2 ⟨by omega, by omega⟩
            have HNq : Hid (nodeAt L (q : Int) = e) := by
              show _ = _
              unfold nodeAt
              rw [HBq.out, Int.toNat_natCast, List.getD_eq_getElem?_getD, he]
              rfl
            have hne := HEQ.out q e hql he
            simp only [Nd.val] at hne
            clear he
            have q0 : (0 : Int) ≤ (q : Int) := Int.natCast_nonneg _
            have q1 : (q : Int) < (j : Int) := by omega
            have hgu := guardNode
            go_wp2_with fail
            refine (node_any (HG.out.kept HWQ.out) (q : Int)).mono ?_
            rintro e' w6 ⟨rfl, hk6⟩
            rw [HBq.out, HNq.out]
            simp only [Nd.val]
            have HK6 := Lib.hid hk6; clear hk6
            have hbx := FB.out w6 (HK4.out.trans (HKQ.out.trans HK6.out))
            obtain ⟨x0, x1, x2, x3, x4, x5⟩ := hbx
            have hbl := World.block_lt_of_cell? w6 _ x0
            simp only at hbl
            have hbn : bn ≠ w6.heap.size := Nat.ne_of_lt hbl
            go_wp2
            go_roundw
            case rel => exact ⟨q + 1, by omega, by go_num, HKQ.out.trans (HK6.out.alloc _)⟩
            case measure => simp [intOf]; omega
          · obtain rfl : q = j := by omega
            have gd := HG.out.kept HWQ.out
            by_cases hdp : deepI L (q : Int) ≤ 8
            · have HTL : Hid (tl L (q + 1) = tl L q ++ [textI L (q : Int)]) := tl_yes hdp
              have HTN : Hid ((tl L q).length ≤ 60) := Nat.le_trans (tl_len L q) (by omega)
              have HKwq : Hid (Kept wo wr) := (HK3.out.trans HK4.out).trans HKQ.out
              have HLQ := Lib.hid (HL.out.kept (HK1.out.trans HWQ.out))
              obtain ⟨ii, hi, hz0, hz1, hz2⟩ := info_parts infoStr
              have HI := Lib.hid (And.intro hi (And.intro hz0 (And.intro hz1 hz2))); clear hi hz0 hz1 hz2
              go_wp2_with (first
                | (go_at_call 19; refine (deep_any gd (q : Int)).mono ?_; rintro e w' ⟨rfl, rfl⟩)
                | (go_at_call 21; refine (text_any gd HLQ.out (by omega) (q : Int)).mono ?_; rintro e w7 ⟨rfl, hk7⟩; have HK7 := Lib.hid hk7; have HR7 : Hid ((w7.alloc (.cells #[str (textI L (q : Int))] 9)).ownsRow w1.heap.size 9 1 (.slice aT (tl L q).length cT) (tl L q).length ((tl L q).map str)) := World.ownsRow.alloc (ownsRow_block HROW.out fun b hb => (HKwq.out.trans hk7).block b (HROW.out.lt b hb).2) _; clear hk7)
                | (at_builtin; refine wpList_append_lies _ rfl _ _ _ rfl w1.heap.size 9 ii _ 1 16 Tryd.underlying55 HI.out.1 HI.out.2.1 HI.out.2.2.1 HI.out.2.2.2 rfl (by omega) (.slice aT (tl L q).length cT) (tl L q).length _ rfl HR7.out ⟨w7.heap.size, 0, none⟩ 1 1 [str (textI L (q : Int))] rfl rfl (World.news_of_block (cs := #[str (textI L (q : Int))]) (t := 9) (fr := (0, 0)) (heap_alloc_new w7 _)) (by simp [Value.oneCell']) (by omega) (by unfold maxLen; have := HTN.out; omega) (by have := HTN.out; omega) (by have h5 := HWQ.out.size; have h6 := HK7.out.size; simp; omega) (w7.heap.size + 1) (by simp) ?_; intro gg cap w9 hown9 hgrow9 hat9 hlt9; have HOW9 := Lib.hid hown9; have HGR9 := Lib.hid hgrow9; clear hown9 hgrow9 hat9 hlt9))
              go_roundw
              case rel =>
                refine ⟨q + 1, by omega, by go_num, some ⟨gg, 0, none⟩, cap, ?_, ?_, ?_⟩
                · rw [HTL.out, List.length_append]; rfl
                · rw [HTL.out, List.length_append, List.map_append]; exact HOW9.out
                · exact Below.grown (((HWQ.out).trans HK7.out).alloc _) HGR9.out (by have h5 := HWQ.out.size; have h6 := HK7.out.size; simp; omega) (fun b hb => (HROW.out.lt b hb).1)
              case measure => simp [intOf]; omega
            · have HTL : Hid (tl L (q + 1) = tl L q) := tl_no hdp
              have HDP := Lib.hid hdp
              go_wp2_with (go_at_call 19; refine (deep_any gd (q : Int)).mono ?_; rintro e w' ⟨rfl, rfl⟩)
              go_roundw
              case rel => exact ⟨q + 1, by omega, by go_num, aT, cT, by rw [HTL.out], by rw [HTL.out]; exact (ownsRow_block HROW.out fun b hb => ((HK3.out.trans HK4.out).trans HKQ.out).block b (HROW.out.lt b hb).2), HWQ.out⟩
              case measure => simp [intOf]; omega
      · have K := Lib.hid k
        have ADD : Hid (∀ w', Kept w3 w' → Calls Tryd.prog 12 #[.pointer (some ⟨g, 0, none⟩), .agg #[.int .u8 4, .int .i64 d.n, .int .i64 d.a, .int .u8 d.o, .int .i64 d.x, .int .i64 d.y]] w' fun e w'' => e = .returned (.int .i64 (j : Int)) ∧ Kept w' w'') := fun w' hk => by
          have h1 := add_old (HG3.out.kept hk) d HDO.out HDM.out HIX.out.2
          simp only [Nd.val, k, HIX.out.1] at h1
          exact h1
        have FB : Hid (∀ w', Kept w3 w' → w'.cell? ⟨bn, 0, none⟩ = some (.int .u8 4) ∧ w'.cell? ⟨bn, 1, none⟩ = some (.int .i64 d.n) ∧ w'.cell? ⟨bn, 2, none⟩ = some (.int .i64 d.a) ∧ w'.cell? ⟨bn, 3, none⟩ = some (.int .u8 d.o) ∧ w'.cell? ⟨bn, 4, none⟩ = some (.int .i64 d.x) ∧ w'.cell? ⟨bn, 5, none⟩ = some (.int .i64 d.y)) := fun w' hk => by
          have h1 := box_facts HBN.out hk
          rw [k] at h1
          exact h1
        have HEQ : Hid (∀ q e, q < j → L[q]? = some e → ∀ w, (binOp .eql 34 e.val (.agg #[.int .u8 4, .int .i64 d.n, .int .i64 d.a, .int .u8 d.o, .int .i64 d.x, .int .i64 d.y])).run Tryd.prog w = .ok (.bool false) w) := fun q e hq he w => by
          have h1 := eq_node e d w
          rw [nodup_ne HGD.out he HJD.out hq] at h1
          simp only [Nd.val, k] at h1
          exact h1
        have hyj : ¬ ((j : Nat) : Int) ≤ d.y := by
          have := HPT.out d.y (by unfold partsOf; rw [if_neg (by rw [K.out]; decide), if_pos K.out]; simp)
          omega
        have dyj : decide (((j : Nat) : Int) ≤ d.y) = false := decide_eq_false hyj
        have hxj : ¬ ((j : Nat) : Int) ≤ d.x := by
          have := HPT.out d.x (by unfold partsOf; rw [if_neg (by rw [K.out]; decide), if_pos K.out]; simp)
          omega
        have dxj : decide (((j : Nat) : Int) ≤ d.x) = false := decide_eq_false hxj
        clear k
        obtain ⟨x0, x1, x2, x3, x4, x5⟩ := FB.out w3 (Kept.refl w3)
        go_upto_region 12 with (first
          | (go_at_call 12; refine (ADD.out _ (Kept.refl w3)).mono ?_; rintro e w4 ⟨rfl, hk4⟩; have HK4 := Lib.hid hk4; have gs := (HG3.out.kept hk4).cell0; obtain ⟨z0, z1, z2, z3, z4, z5⟩ := FB.out w4 hk4; clear hk4)
          | (go_at_call 15; refine (size_cell _ _ _ _ _ gs).mono ?_; rintro e w5 ⟨rfl, rfl⟩))
        go_wp2_with fail
        obtain ⟨wo, rfl⟩ : ∃ wo : World, wo = wr := ⟨_, rfl⟩
        have HW4 := Lib.hid (HKR.out.trans (HK3.out.trans HK4.out))
        clear x0 x1 x2 x3 x4 x5 z0 z1 z2 z3 z4 z5 gs
        go_loopw [10] (fun i wr' => ∃ q : Nat, q ≤ j ∧ i = .int .i64 q ∧ Kept w4 wr') (fun i _ => j - (intOf i).toNat)
        case atStart => exact ⟨0, Nat.zero_le _, rfl, Kept.refl _⟩
        case round =>
          obtain ⟨q, hq, rfl, hKq⟩ := hrel
          have HKQ := Lib.hid hKq; clear hKq
          have HWQ := Lib.hid (HW4.out.trans HKQ.out)
          by_cases hql : q < j
          · obtain ⟨e, he⟩ : ∃ e, L[q]? = some e := ⟨_, List.getElem?_eq_getElem (by omega)⟩
            have HBq : Hid (hasB L.length (q : Int) = true) := (hasB_iff _ _).2 ⟨by omega, by omega⟩
            have HNq : Hid (nodeAt L (q : Int) = e) := by
              show _ = _
              unfold nodeAt
              rw [HBq.out, Int.toNat_natCast, List.getD_eq_getElem?_getD, he]
              rfl
            have hne := HEQ.out q e hql he
            simp only [Nd.val] at hne
            clear he
            have q0 : (0 : Int) ≤ (q : Int) := Int.natCast_nonneg _
            have q1 : (q : Int) < (j : Int) := by omega
            have hgu := guardNode
            go_wp2_with fail
            refine (node_any (HG.out.kept HWQ.out) (q : Int)).mono ?_
            rintro e' w6 ⟨rfl, hk6⟩
            rw [HBq.out, HNq.out]
            simp only [Nd.val]
            have HK6 := Lib.hid hk6; clear hk6
            have hbx := FB.out w6 (HK4.out.trans (HKQ.out.trans HK6.out))
            obtain ⟨x0, x1, x2, x3, x4, x5⟩ := hbx
            have hbl := World.block_lt_of_cell? w6 _ x0
            simp only at hbl
            have hbn : bn ≠ w6.heap.size := Nat.ne_of_lt hbl
            go_wp2
            go_roundw
            case rel => exact ⟨q + 1, by omega, by go_num, HKQ.out.trans (HK6.out.alloc _)⟩
            case measure => simp [intOf]; omega
          · obtain rfl : q = j := by omega
            have gd := HG.out.kept HWQ.out
            by_cases hdp : deepI L (q : Int) ≤ 8
            · have HTL : Hid (tl L (q + 1) = tl L q ++ [textI L (q : Int)]) := tl_yes hdp
              have HTN : Hid ((tl L q).length ≤ 60) := Nat.le_trans (tl_len L q) (by omega)
              have HKwq : Hid (Kept wo wr) := (HK3.out.trans HK4.out).trans HKQ.out
              have HLQ := Lib.hid (HL.out.kept (HK1.out.trans HWQ.out))
              obtain ⟨ii, hi, hz0, hz1, hz2⟩ := info_parts infoStr
              have HI := Lib.hid (And.intro hi (And.intro hz0 (And.intro hz1 hz2))); clear hi hz0 hz1 hz2
              go_wp2_with (first
                | (go_at_call 19; refine (deep_any gd (q : Int)).mono ?_; rintro e w' ⟨rfl, rfl⟩)
                | (go_at_call 21; refine (text_any gd HLQ.out (by omega) (q : Int)).mono ?_; rintro e w7 ⟨rfl, hk7⟩; have HK7 := Lib.hid hk7; have HR7 : Hid ((w7.alloc (.cells #[str (textI L (q : Int))] 9)).ownsRow w1.heap.size 9 1 (.slice aT (tl L q).length cT) (tl L q).length ((tl L q).map str)) := World.ownsRow.alloc (ownsRow_block HROW.out fun b hb => (HKwq.out.trans hk7).block b (HROW.out.lt b hb).2) _; clear hk7)
                | (at_builtin; refine wpList_append_lies _ rfl _ _ _ rfl w1.heap.size 9 ii _ 1 16 Tryd.underlying55 HI.out.1 HI.out.2.1 HI.out.2.2.1 HI.out.2.2.2 rfl (by omega) (.slice aT (tl L q).length cT) (tl L q).length _ rfl HR7.out ⟨w7.heap.size, 0, none⟩ 1 1 [str (textI L (q : Int))] rfl rfl (World.news_of_block (cs := #[str (textI L (q : Int))]) (t := 9) (fr := (0, 0)) (heap_alloc_new w7 _)) (by simp [Value.oneCell']) (by omega) (by unfold maxLen; have := HTN.out; omega) (by have := HTN.out; omega) (by have h5 := HWQ.out.size; have h6 := HK7.out.size; simp; omega) (w7.heap.size + 1) (by simp) ?_; intro gg cap w9 hown9 hgrow9 hat9 hlt9; have HOW9 := Lib.hid hown9; have HGR9 := Lib.hid hgrow9; clear hown9 hgrow9 hat9 hlt9))
              go_roundw
              case rel =>
                refine ⟨q + 1, by omega, by go_num, some ⟨gg, 0, none⟩, cap, ?_, ?_, ?_⟩
                · rw [HTL.out, List.length_append]; rfl
                · rw [HTL.out, List.length_append, List.map_append]; exact HOW9.out
                · exact Below.grown (((HWQ.out).trans HK7.out).alloc _) HGR9.out (by have h5 := HWQ.out.size; have h6 := HK7.out.size; simp; omega) (fun b hb => (HROW.out.lt b hb).1)
              case measure => simp [intOf]; omega
            · have HTL : Hid (tl L (q + 1) = tl L q) := tl_no hdp
              have HDP := Lib.hid hdp
              go_wp2_with (go_at_call 19; refine (deep_any gd (q : Int)).mono ?_; rintro e w' ⟨rfl, rfl⟩)
              go_roundw
              case rel => exact ⟨q + 1, by omega, by go_num, aT, cT, by rw [HTL.out], by rw [HTL.out]; exact (ownsRow_block HROW.out fun b hb => ((HK3.out.trans HK4.out).trans HKQ.out).block b (HROW.out.lt b hb).2), HWQ.out⟩
              case measure => simp [intOf]; omega
    · obtain rfl : j = L.length := by omega
      have hAP := tl_apart HGD.out
      have hTN : (tl L L.length).length ≤ 60 := Nat.le_trans (tl_len L _) hlen
      generalize tl L L.length = ts at *
      have HAP := Lib.hid hAP
      have HTN := Lib.hid hTN
      clear hAP hTN
      obtain ⟨w0, rfl⟩ : ∃ w0 : World, w0 = wr := ⟨_, rfl⟩
      have HLW := Lib.hid (HL.out.kept (HK1.out.trans HKR.out))
      go_wp2_with fail
      go_loopw [13] (fun i wr' => ∃ a : Nat, a ≤ ts.length ∧ i = .int .i64 a ∧ Kept w0 wr') (fun i _ => ts.length - (intOf i).toNat)
      case atStart => exact ⟨0, Nat.zero_le _, rfl, Kept.refl _⟩
      case round =>
        obtain ⟨p, hp, rfl, hKp⟩ := hrel
        have HKP := Lib.hid hKp; clear hKp
        have hp60 : p ≤ 60 := Nat.le_trans hp HTN.out
        by_cases hpl : p < ts.length
        · obtain ⟨r, rfl, hrlt, hcell⟩ := row_cell HROW.out (by omega)
          have HC := Lib.hid hcell
          obtain ⟨s, hs⟩ : ∃ s, ts[p]? = some s := ⟨_, List.getElem?_eq_getElem hpl⟩
          have HS := Lib.hid hs
          clear hcell hs
          have p0 : (0 : Int) ≤ (p : Int) := Int.natCast_nonneg _
          have p1 : (p : Int) < (ts.length : Int) := by omega
          obtain ⟨wo, rfl⟩ : ∃ wo : World, wo = wr := ⟨_, rfl⟩
          go_wp2_with fail
          go_loopw [14] (fun i wr' => ∃ b : Nat, b ≤ p ∧ i = .int .i64 b ∧ Kept wo wr') (fun i _ => p - (intOf i).toNat)
          case atStart => exact ⟨0, Nat.zero_le _, rfl, Kept.refl _⟩
          case round =>
            obtain ⟨b, hb, rfl, hKb⟩ := hrel
            have HKB := Lib.hid hKb; clear hKb
            by_cases hbl : b < p
            · obtain ⟨t, ht⟩ : ∃ t, ts[b]? = some t := ⟨_, List.getElem?_eq_getElem (by omega)⟩
              have hne : s ≠ t := fun e => by
                have h1 := List.pairwise_iff_getElem.1 HAP.out b p (by omega) hpl hbl
                rw [(List.getElem?_eq_some_iff.1 ht).2, (List.getElem?_eq_some_iff.1 HS.out).2] at h1
                exact h1 e.symm
              have q0 : (0 : Int) ≤ (b : Int) := Int.natCast_nonneg _
              have q1 : (b : Int) < (p : Int) := by omega
              have q2 : (b : Int) < (ts.length : Int) := by omega
              have hS : Hid (∀ w', Kept wr w' → Kept wr w' ∧ w'.cell? ⟨r, p, none⟩ = some (str s) ∧ w'.cell? ⟨r, b, none⟩ = some (str t)) := fun w' hk => by
                have h3 := HC.out w' (HKP.out.trans (HKB.out.trans hk))
                exact ⟨hk, h3 p _ (by rw [List.getElem?_map, HS.out]; rfl), h3 b _ (by rw [List.getElem?_map, ht]; rfl)⟩
              have hst : (s == t) = false := by simpa using hne
              clear ht hne
              go_wp2_with fail
              go_region_held3 (fun w' => Kept wr w' ∧ w'.cell? ⟨r, p, none⟩ = some (str s) ∧ w'.cell? ⟨r, b, none⟩ = some (str t))
                (first | exact hS.out _ (Kept.refl _) | exact hS.out _ (Kept.drew (Kept.refl _)) | assumption | exact ⟨by assumption, by assumption, by assumption⟩)
                (fail)
              have HKD := Lib.hid (HKB.out.drew)
              go_wp2
              go_roundw
              case rel => exact ⟨b + 1, by omega, by go_num, HKD.out⟩
              case measure => simp [intOf]; omega
            · obtain rfl : b = p := by omega
              go_wp2_with fail
              go_roundw
              case rel => exact ⟨b + 1, by omega, by go_num, HKP.out.trans HKB.out⟩
              case measure => simp [intOf]; omega
        · obtain rfl : p = ts.length := by omega
          go_wp2_with (go_at_call 10; refine (works_any _ (HLW.out.kept HKP.out)).mono ?_; rintro e w5 ⟨rfl, hk5⟩)
          go_ret
          exact ⟨rfl, HK1.out.trans (HKR.out.trans (HKP.out.trans hk5))⟩

set_option maxRecDepth 100000 in
theorem once_many (la : Option Addr) (n lc : Nat) (w : World) (hn : 60 < n) (hL : Laid w) :
    Calls Tryd.prog 5 #[.slice la n lc] w fun e w' => e = .returned (.bool true) ∧ Kept w w' := by
  have h1 : (60 : Int) < (n : Int) := by omega
  go_enter Tryd.func5, Tryd.ntmps5
  go_wp2_with (go_at_call 10; refine (works_any _ hL).mono ?_; rintro e w5 ⟨rfl, hk5⟩)
  go_ret
  exact ⟨rfl, hk5⟩
theorem termonce_any (la : Option Addr) (n lc : Nat) (ds : List Nd) (w : World) (hds : NodesAt w la n ds) (hL : Laid w) :
    Calls Tryd.prog 5 #[.slice la n lc] w fun e w' => e = .returned (.bool true) ∧ Kept w w' := by
  by_cases h : n ≤ 60
  · exact once_few la n lc ds w hds h hL
  · exact once_many la n lc w (by omega) hL
end Go.Proofs.YtjhmbbioplhcgaaDoor
