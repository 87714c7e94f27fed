/-
  Layer 5: the contract of slices.DeleteFunc at a row of literals of one's own.
-/
import Derived.Test.YtlikokeknfhejaaGreatDoorCFun
import Derived.Laws.OwnMore
namespace Go.Proofs.YtlikokeknfhejaaGreatDoor
open Go Go.RowKit Go.Sort Go.Lib

/-- The row, when j places have been looked at. -/
def delRow (q : Int → Bool) (L : List Int) (j : Nat) : List Int := (L.take j).filter q ++ L.drop ((L.take j).filter q).length
def delN (q : Int → Bool) (L : List Int) (j : Nat) : Nat := ((L.take j).filter q).length
theorem delRow_len (q : Int → Bool) (L : List Int) (j : Nat) : delN q L j ≤ min j L.length ∧ (delRow q L j).length = L.length := by
  have h1 := List.length_filter_le q (L.take j)
  rw [List.length_take] at h1
  unfold delRow delN
  rw [List.length_append, List.length_drop]
  omega
theorem delRow_at {q : Int → Bool} {L : List Int} {j : Nat} {y : Int} (hy : L[j]? = some y) : (delRow q L j)[j]? = some y := by
  have h1 := delRow_len q L j
  have hj := (List.getElem?_eq_some_iff.1 hy).1
  unfold delN at h1
  unfold delRow
  rw [List.getElem?_append_right (by omega), List.getElem?_drop, show ((L.take j).filter q).length + (j - ((L.take j).filter q).length) = j by omega]
  exact hy
theorem take_snoc' {L : List Int} {j : Nat} {y : Int} (hy : L[j]? = some y) : L.take (j + 1) = L.take j ++ [y] := by
  obtain ⟨hj, he⟩ := List.getElem?_eq_some_iff.1 hy
  rw [List.take_succ_eq_append_getElem hj, he]
theorem delRow_skip {q : Int → Bool} {L : List Int} {j : Nat} {y : Int} (hy : L[j]? = some y) (h : q y = false) : delRow q L (j + 1) = delRow q L j ∧ delN q L (j + 1) = delN q L j := by
  unfold delRow delN
  rw [take_snoc' hy, List.filter_append]
  simp [h]
theorem delRow_keep {q : Int → Bool} {L : List Int} {j : Nat} {y : Int} (hy : L[j]? = some y) (h : q y = true) : delRow q L (j + 1) = (delRow q L j).set (delN q L j) y ∧ delN q L (j + 1) = delN q L j + 1 := by
  have e : (L.take (j + 1)).filter q = (L.take j).filter q ++ [y] := by rw [take_snoc' hy, List.filter_append]; simp [h]
  have h1 := delRow_len q L j
  have hj := (List.getElem?_eq_some_iff.1 hy).1
  unfold delN at *
  refine ⟨?_, by rw [e]; simp⟩
  unfold delRow
  rw [e, List.length_append, List.length_singleton, List.set_append_right _ _ (Nat.le_refl _), Nat.sub_self, List.append_assoc]
  congr 1
  rw [List.drop_eq_getElem_cons (by omega : ((L.take j).filter q).length < L.length), List.set_cons_zero]
  rfl
theorem delRow_start {p : Int → Bool} {L : List Int} {j : Nat} (h : (L.take j).any p = false) : delRow (fun x => !p x) L j = L ∧ delN (fun x => !p x) L j = (L.take j).length := by
  have e : (L.take j).filter (fun x => !p x) = L.take j := by
    rw [List.filter_eq_self]
    intro x hx
    rw [List.any_eq_false] at h
    simpa using h x hx
  unfold delRow delN
  rw [e]
  refine ⟨?_, rfl⟩
  rw [List.length_take]
  by_cases hj : j ≤ L.length
  · rw [Nat.min_eq_left hj, List.take_append_drop]
  · rw [List.take_of_length_le (by omega), Nat.min_eq_right (by omega), List.drop_length, List.append_nil]
theorem row_pre {w : World} {N r n m c : Nat} {e : TypeId} {xs : List Value} (h : w.ownsRow N e 1 (.slice (some ⟨r, 0, none⟩) n c) n xs) (hm : m ≤ n) : w.ownsRow N e 1 (.slice (some ⟨r, 0, none⟩) m c) m (xs.take m) := by
  obtain ⟨h1, h2⟩ := h
  rcases h2 with ⟨h2, _⟩ | ⟨g, cap, cur, hv, hN, hblk, hle, hmx, hsz, htk⟩
  · cases h2
  · injection hv with hv1 _ hv3
    injection hv1 with hv1; injection hv1 with hv1
    subst hv1; subst hv3
    refine ⟨by rw [List.length_take]; omega, Or.inr ⟨r, c, cur, rfl, hN, hblk, by omega, hmx, hsz, ?_⟩⟩
    rw [← htk, List.take_take]; congr 1; omega
theorem row_setCells {N r n c : Nat} {e : TypeId} : ∀ (vs : List Value) (o : Nat) (w : World) (xs : List Value), w.ownsRow N e 1 (.slice (some ⟨r, 0, none⟩) n c) n xs →
    ∃ xs', (w.setCells r o vs).ownsRow N e 1 (.slice (some ⟨r, 0, none⟩) n c) n xs' ∧ xs'.take o = xs.take o ∧ Turned (fun q => q = r) w (w.setCells r o vs)
  | [], o, w, xs, h => ⟨xs, h, rfl, Turned.refl _ _⟩
  | v :: vs, o, w, xs, h => by
    obtain ⟨h1, h2⟩ := h.stored o v
    obtain ⟨xs', h3, h4, h5⟩ := row_setCells vs (o + 1) (w.setCell ⟨r, o, none⟩ v) _ h1
    refine ⟨xs', h3, ?_, Turned.trans (Turned.setCell w ⟨r, o, none⟩ v rfl) h5⟩
    have h6 := congrArg (List.take o) h4
    rw [List.take_take, List.take_take, Nat.min_eq_left (by omega)] at h6
    rw [h6]
    apply List.ext_getElem?
    intro i
    rw [List.getElem?_take, List.getElem?_take]
    split
    · rw [List.getElem?_set, if_neg (by omega)]
    · rfl
/-- What DeleteFunc leaves of a row: those that q tells of, in their row. -/
def DelPost (N : Nat) (a : Option Addr) (c : Nat) (R : List Int) (w : World) (e : Ending) (w' : World) : Prop :=
  e = .returned (.slice a R.length c) ∧ w'.ownsRow N 3 1 (.slice a R.length c) R.length (R.map (Value.int .i64)) ∧ Turned (fun q => a.map (·.block) = some q) w w'
theorem row_kept {w w' : World} {N n s : Nat} {e : TypeId} {v : Value} {xs : List Value} (h : w.ownsRow N e s v n xs) (k : Kept w w') : w'.ownsRow N e s v n xs := by
  refine h.kept (row := none) ⟨k.os, k.tape, k.output, k.size, fun i hi _ => k.block i hi⟩ ?_
  cases v.ownBlock <;> simp
theorem zeroInt (w : World) : (zeroValue 3).run Tryz.prog w = .ok (.int .i64 0) w := Tryz.zeroValue3 w

def PredT_b (g : Nat) (v : Value) (p : Int → Bool) (L : List Int) (r : Option Nat) (w : World) : Prop := ∀ y ∈ L, ∀ W, Turned (fun q => r = some q) w W → Calls Tryz.prog g #[v, .int .i64 y] W (BoolPost (p y) W)
theorem PredT_b.pred {g : Nat} {v : Value} {p : Int → Bool} {L : List Int} {r : Option Nat} {w : World} (h : PredT_b g v p L r w) : Pred_b g v p L w := fun y hy W hk => h y hy W (hk.turned _)
set_option maxHeartbeats 4000000 in
theorem delete_b (g : Nat) (v : Value) (p : Int → Bool) (a : Option Addr) (n c N : Nat) (L : List Int) (w : World) (eg : ∀ args w, (callFunc g args).run Tryz.prog w = .ok (.enter g args) w)
    (hrow : w.ownsRow N 3 1 (.slice a n c) n (L.map (Value.int .i64))) (hl : L.length = n) (hin : ∀ x ∈ L, InR x) (hn : n ≤ 1000000) (hp : PredT_b g v p L (a.map (·.block)) w) :
    Calls Tryz.prog 126 #[.slice a n c, .func (.func g) #[v] #[]] w (DelPost N a c (L.filter fun x => !p x) w) := by
  have HI := Lib.hid (index_b g v p a n c L w eg (ints_of_row hrow hl hin) hn hp.pred)
  have HROW := Lib.hid hrow; have HP := Lib.hid hp; have HL := Lib.hid hl
  clear hrow hp hl
  go_enter Tryz.func126, Tryz.ntmps126
  go_wp2_with fail
  refine HI.out.mono ?_
  rintro e w1 ⟨⟨i, hi, rfl⟩, hk1⟩
  have HK1 := Lib.hid hk1; clear hk1
  rcases hi with ⟨rfl, hnone⟩ | ⟨i0, y0, rfl, hy0, hpy0, hno0⟩
  · have hR : (L.filter fun x => !p x) = L := by
      rw [List.filter_eq_self]
      intro x hx
      rw [List.any_eq_false] at hnone
      simpa using hnone x hx
    have HR := Lib.hid hR; clear hR hnone
    go_wp2
    go_ret
    refine ⟨?_, ?_, HK1.out.turned _⟩
    · rw [HR.out, HL.out]; rfl
    · rw [HR.out, HL.out]; exact row_kept HROW.out HK1.out
  · have hi0 := (List.getElem?_eq_some_iff.1 hy0).1
    obtain ⟨r, rfl, hrN, hrlt, hcap⟩ := row_some HROW.out (by rw [← HL.out]; omega)
    obtain ⟨q, hq⟩ : ∃ q : Int → Bool, q = fun x => !p x := ⟨_, rfl⟩
    have HQ := Lib.hid hq
    have HST : Hid (delRow q L (i0 + 1) = L ∧ delN q L (i0 + 1) = i0) := by
      obtain ⟨a1, a2⟩ := delRow_start hno0
      rw [← hq] at a1 a2
      obtain ⟨b1, b2⟩ := delRow_skip (q := q) hy0 (by rw [hq]; simp [hpy0])
      show _ ∧ _
      rw [b1, b2, a1, a2, List.length_take]
      exact ⟨rfl, Nat.min_eq_left (by omega)⟩
    have HROW1 := Lib.hid (row_kept HROW.out HK1.out)
    have i1 : (0 : Int) ≤ (i0 : Int) := Int.natCast_nonneg _
    have i2 : (i0 : Int) ≤ 1000000 := by rw [← HL.out] at hn; omega
    have HI0 : Hid (i0 < n) := by show _; rw [← HL.out]; exact hi0
    have i3 : ((i0 : Int) == -1) = false := beq_eq_false_iff_ne.2 (by omega)
    clear hq hy0 hpy0 hno0 hi0
    go_wp2
    go_loopw [5, 6] (fun i j wr => ∃ jj : Nat, i0 + 1 ≤ jj ∧ jj ≤ n ∧ j = .int .i64 jj ∧ i = .int .i64 (delN q L jj) ∧ delN q L jj < jj ∧ wr.ownsRow N 3 1 (.slice (some ⟨r, 0, none⟩) n c) n ((delRow q L jj).map (Value.int .i64)) ∧ Turned (fun q => q = r) w1 wr) (fun _ j _ => n - (intOf j).toNat)
    case atStart =>
      refine ⟨i0 + 1, Nat.le_refl _, HI0.out, rfl, by rw [HST.out.2], by rw [HST.out.2]; omega, by rw [HST.out.1]; exact HROW1.out, Turned.refl _ _⟩
    case round =>
      obtain ⟨j, hj0, hj, rfl, rfl, hdj, hrow, ht⟩ := hrel
      have HR := Lib.hid hrow; have HT := Lib.hid ht; clear hrow ht
      obtain ⟨k, hk⟩ : ∃ k : Nat, k = delN q L j := ⟨_, rfl⟩
      have HKK := Lib.hid hk
      rw [← hk] at hdj ⊢
      clear hk
      have j0 : (0 : Int) ≤ (j : Int) := Int.natCast_nonneg _
      have k0 : (0 : Int) ≤ (k : Int) := Int.natCast_nonneg _
      have k1 : (k : Int) < (j : Int) := by omega
      by_cases hjn : j < n
      · have j1 : (j : Int) < (n : Int) := by omega
        have k2 : (k : Int) < (n : Int) := by omega
        have hjl : j < L.length := by rw [HL.out]; exact hjn
        obtain ⟨y, hy⟩ : ∃ y, L[j]? = some y := ⟨_, List.getElem?_eq_getElem hjl⟩
        have x0 : wr.cell? ⟨r, j, none⟩ = some (.int .i64 y) := by
          rw [HR.out.cellAt j (by omega), List.getElem?_map, delRow_at hy]; rfl
        have x1 : wr.frozen? ⟨r, k, none⟩ = false := HR.out.frozenAt k
        have x2 : ∃ u, wr.cell? ⟨r, k, none⟩ = some u := by
          rw [HR.out.cellAt k (by omega), List.getElem?_map, List.getElem?_eq_getElem (by rw [(delRow_len q L j).2, HL.out]; omega)]
          exact ⟨_, rfl⟩
        obtain ⟨u, x2⟩ := x2
        have HC := Lib.hid (HP.out y (List.mem_of_getElem? hy) wr ((HK1.out.turned _).trans (HT.out.mono fun q _ h => by simp [h])))
        have HY := Lib.hid hy
        clear hy hjl
        cases hpy : p y with
        | true =>
          rw [hpy] at HC
          have HSK := Lib.hid (delRow_skip (q := q) HY.out (by rw [HQ.out]; simp [hpy]))
          clear hpy
          go_wp2_with fail
          refine HC.out.mono ?_
          rintro e w2 ⟨rfl, hk2⟩
          have HK2 := Lib.hid hk2; clear hk2
          go_wp2
          go_roundw
          case rel =>
            refine ⟨j + 1, by omega, by omega, by go_num, by rw [HSK.out.2, ← HKK.out], by rw [HSK.out.2, ← HKK.out]; omega, ?_, HT.out.trans (HK2.out.turned _)⟩
            rw [HSK.out.1]
            exact row_kept HR.out HK2.out
          case measure => simp [intOf]; omega
        | false =>
          rw [hpy] at HC
          have HKP := Lib.hid (delRow_keep (q := q) HY.out (by rw [HQ.out]; simp [hpy]))
          clear hpy
          go_wp2_with fail
          refine HC.out.mono ?_
          rintro e w2 ⟨rfl, hk2⟩
          have x1' : w2.frozen? ⟨r, k, none⟩ = false := (row_kept HR.out hk2).frozenAt k
          have x2' : w2.cell? ⟨r, k, none⟩ = some u := hk2.cell x2
          have HK2 := Lib.hid hk2; clear hk2 x1 x2 x0
          go_wp2
          go_roundw
          case rel =>
            have h1 := (row_kept HR.out HK2.out).stored k (.int .i64 y)
            refine ⟨j + 1, by omega, by omega, by go_num, by rw [HKP.out.2, ← HKK.out]; go_num, by rw [HKP.out.2, ← HKK.out]; omega, ?_, (HT.out.trans (HK2.out.turned _)).trans (Turned.setCell _ _ _ rfl)⟩
            rw [HKP.out.1, ← HKK.out, List.map_set]
            exact h1.1
          case measure => simp [intOf]; omega
      · obtain rfl : j = n := by omega
        have jn : ¬ (j : Int) < (j : Int) := by omega
        have kj : k < j := hdj
        have hcl : ∀ ty, (Builtin.clear_ #[22] ty #[.slice (some ⟨r, k, none⟩) (j - k) (c - k)]).run Tryz.prog wr = .ok (.tuple #[]) (wr.setCells r k (List.replicate (j - k) (.int .i64 0))) :=
          fun ty => Lib.run_clear_slice wr _ _ ty _ Tryz.underlying22 zeroInt rfl rfl r k _ _ (by omega) (fun t ht => by rw [HR.out.cellAt (k + t) (by omega), List.getElem?_map, List.getElem?_eq_getElem (by rw [(delRow_len q L j).2, HL.out]; omega)]; rfl) (fun t ht => HR.out.frozenAt _)
        have kc : (k : Int) ≤ (c : Int) := by omega
        have kk : k ≤ c := by omega
        have kne : ¬ c = k := by omega
        obtain ⟨xs', h3, h4, h5⟩ := row_setCells (List.replicate (j - k) (Value.int .i64 0)) k wr _ HR.out
        have H3 := Lib.hid h3; have H4 := Lib.hid h4; have H5 := Lib.hid h5; clear h3 h4 h5
        go_wp2
        go_ret
        have hF : (L.filter q).length = k := by
          have := HKK.out
          unfold delN at this
          rw [← HL.out, List.take_length] at this
          exact this.symm
        rw [← HQ.out]
        refine ⟨by rw [hF]; rfl, ?_, (HK1.out.turned _).trans ((HT.out.trans H5.out).mono fun q _ h => by simp [h])⟩
        have h6 := row_pre H3.out (m := k) (by omega)
        rw [H4.out, ← List.map_take] at h6
        have h7 : (delRow q L j).take k = L.filter q := by
          unfold delRow
          rw [← HL.out, List.take_length, List.take_append_of_le_length (by rw [hF]; exact Nat.le_refl _), List.take_of_length_le (by rw [hF]; exact Nat.le_refl _)]
        rw [h7] at h6
        rw [hF]
        exact h6

def PredT_c (g : Nat) (v : Value) (p : Int → Bool) (L : List Int) (r : Option Nat) (w : World) : Prop := ∀ y ∈ L, ∀ W, Turned (fun q => r = some q) w W → Calls Tryz.prog g #[.int .i64 y, v] W (BoolPost (p y) W)
theorem PredT_c.pred {g : Nat} {v : Value} {p : Int → Bool} {L : List Int} {r : Option Nat} {w : World} (h : PredT_c g v p L r w) : Pred_c g v p L w := fun y hy W hk => h y hy W (hk.turned _)
set_option maxHeartbeats 4000000 in
theorem delete_c (g : Nat) (v : Value) (p : Int → Bool) (a : Option Addr) (n c N : Nat) (L : List Int) (w : World) (eg : ∀ args w, (callFunc g args).run Tryz.prog w = .ok (.enter g args) w)
    (hrow : w.ownsRow N 3 1 (.slice a n c) n (L.map (Value.int .i64))) (hl : L.length = n) (hin : ∀ x ∈ L, InR x) (hn : n ≤ 1000000) (hp : PredT_c g v p L (a.map (·.block)) w) :
    Calls Tryz.prog 126 #[.slice a n c, .func (.func g) #[] #[v]] w (DelPost N a c (L.filter fun x => !p x) w) := by
  have HI := Lib.hid (index_c g v p a n c L w eg (ints_of_row hrow hl hin) hn hp.pred)
  have HROW := Lib.hid hrow; have HP := Lib.hid hp; have HL := Lib.hid hl
  clear hrow hp hl
  go_enter Tryz.func126, Tryz.ntmps126
  go_wp2_with fail
  refine HI.out.mono ?_
  rintro e w1 ⟨⟨i, hi, rfl⟩, hk1⟩
  have HK1 := Lib.hid hk1; clear hk1
  rcases hi with ⟨rfl, hnone⟩ | ⟨i0, y0, rfl, hy0, hpy0, hno0⟩
  · have hR : (L.filter fun x => !p x) = L := by
      rw [List.filter_eq_self]
      intro x hx
      rw [List.any_eq_false] at hnone
      simpa using hnone x hx
    have HR := Lib.hid hR; clear hR hnone
    go_wp2
    go_ret
    refine ⟨?_, ?_, HK1.out.turned _⟩
    · rw [HR.out, HL.out]; rfl
    · rw [HR.out, HL.out]; exact row_kept HROW.out HK1.out
  · have hi0 := (List.getElem?_eq_some_iff.1 hy0).1
    obtain ⟨r, rfl, hrN, hrlt, hcap⟩ := row_some HROW.out (by rw [← HL.out]; omega)
    obtain ⟨q, hq⟩ : ∃ q : Int → Bool, q = fun x => !p x := ⟨_, rfl⟩
    have HQ := Lib.hid hq
    have HST : Hid (delRow q L (i0 + 1) = L ∧ delN q L (i0 + 1) = i0) := by
      obtain ⟨a1, a2⟩ := delRow_start hno0
      rw [← hq] at a1 a2
      obtain ⟨b1, b2⟩ := delRow_skip (q := q) hy0 (by rw [hq]; simp [hpy0])
      show _ ∧ _
      rw [b1, b2, a1, a2, List.length_take]
      exact ⟨rfl, Nat.min_eq_left (by omega)⟩
    have HROW1 := Lib.hid (row_kept HROW.out HK1.out)
    have i1 : (0 : Int) ≤ (i0 : Int) := Int.natCast_nonneg _
    have i2 : (i0 : Int) ≤ 1000000 := by rw [← HL.out] at hn; omega
    have HI0 : Hid (i0 < n) := by show _; rw [← HL.out]; exact hi0
    have i3 : ((i0 : Int) == -1) = false := beq_eq_false_iff_ne.2 (by omega)
    clear hq hy0 hpy0 hno0 hi0
    go_wp2
    go_loopw [5, 6] (fun i j wr => ∃ jj : Nat, i0 + 1 ≤ jj ∧ jj ≤ n ∧ j = .int .i64 jj ∧ i = .int .i64 (delN q L jj) ∧ delN q L jj < jj ∧ wr.ownsRow N 3 1 (.slice (some ⟨r, 0, none⟩) n c) n ((delRow q L jj).map (Value.int .i64)) ∧ Turned (fun q => q = r) w1 wr) (fun _ j _ => n - (intOf j).toNat)
    case atStart =>
      refine ⟨i0 + 1, Nat.le_refl _, HI0.out, rfl, by rw [HST.out.2], by rw [HST.out.2]; omega, by rw [HST.out.1]; exact HROW1.out, Turned.refl _ _⟩
    case round =>
      obtain ⟨j, hj0, hj, rfl, rfl, hdj, hrow, ht⟩ := hrel
      have HR := Lib.hid hrow; have HT := Lib.hid ht; clear hrow ht
      obtain ⟨k, hk⟩ : ∃ k : Nat, k = delN q L j := ⟨_, rfl⟩
      have HKK := Lib.hid hk
      rw [← hk] at hdj ⊢
      clear hk
      have j0 : (0 : Int) ≤ (j : Int) := Int.natCast_nonneg _
      have k0 : (0 : Int) ≤ (k : Int) := Int.natCast_nonneg _
      have k1 : (k : Int) < (j : Int) := by omega
      by_cases hjn : j < n
      · have j1 : (j : Int) < (n : Int) := by omega
        have k2 : (k : Int) < (n : Int) := by omega
        have hjl : j < L.length := by rw [HL.out]; exact hjn
        obtain ⟨y, hy⟩ : ∃ y, L[j]? = some y := ⟨_, List.getElem?_eq_getElem hjl⟩
        have x0 : wr.cell? ⟨r, j, none⟩ = some (.int .i64 y) := by
          rw [HR.out.cellAt j (by omega), List.getElem?_map, delRow_at hy]; rfl
        have x1 : wr.frozen? ⟨r, k, none⟩ = false := HR.out.frozenAt k
        have x2 : ∃ u, wr.cell? ⟨r, k, none⟩ = some u := by
          rw [HR.out.cellAt k (by omega), List.getElem?_map, List.getElem?_eq_getElem (by rw [(delRow_len q L j).2, HL.out]; omega)]
          exact ⟨_, rfl⟩
        obtain ⟨u, x2⟩ := x2
        have HC := Lib.hid (HP.out y (List.mem_of_getElem? hy) wr ((HK1.out.turned _).trans (HT.out.mono fun q _ h => by simp [h])))
        have HY := Lib.hid hy
        clear hy hjl
        cases hpy : p y with
        | true =>
          rw [hpy] at HC
          have HSK := Lib.hid (delRow_skip (q := q) HY.out (by rw [HQ.out]; simp [hpy]))
          clear hpy
          go_wp2_with fail
          refine HC.out.mono ?_
          rintro e w2 ⟨rfl, hk2⟩
          have HK2 := Lib.hid hk2; clear hk2
          go_wp2
          go_roundw
          case rel =>
            refine ⟨j + 1, by omega, by omega, by go_num, by rw [HSK.out.2, ← HKK.out], by rw [HSK.out.2, ← HKK.out]; omega, ?_, HT.out.trans (HK2.out.turned _)⟩
            rw [HSK.out.1]
            exact row_kept HR.out HK2.out
          case measure => simp [intOf]; omega
        | false =>
          rw [hpy] at HC
          have HKP := Lib.hid (delRow_keep (q := q) HY.out (by rw [HQ.out]; simp [hpy]))
          clear hpy
          go_wp2_with fail
          refine HC.out.mono ?_
          rintro e w2 ⟨rfl, hk2⟩
          have x1' : w2.frozen? ⟨r, k, none⟩ = false := (row_kept HR.out hk2).frozenAt k
          have x2' : w2.cell? ⟨r, k, none⟩ = some u := hk2.cell x2
          have HK2 := Lib.hid hk2; clear hk2 x1 x2 x0
          go_wp2
          go_roundw
          case rel =>
            have h1 := (row_kept HR.out HK2.out).stored k (.int .i64 y)
            refine ⟨j + 1, by omega, by omega, by go_num, by rw [HKP.out.2, ← HKK.out]; go_num, by rw [HKP.out.2, ← HKK.out]; omega, ?_, (HT.out.trans (HK2.out.turned _)).trans (Turned.setCell _ _ _ rfl)⟩
            rw [HKP.out.1, ← HKK.out, List.map_set]
            exact h1.1
          case measure => simp [intOf]; omega
      · obtain rfl : j = n := by omega
        have jn : ¬ (j : Int) < (j : Int) := by omega
        have kj : k < j := hdj
        have hcl : ∀ ty, (Builtin.clear_ #[22] ty #[.slice (some ⟨r, k, none⟩) (j - k) (c - k)]).run Tryz.prog wr = .ok (.tuple #[]) (wr.setCells r k (List.replicate (j - k) (.int .i64 0))) :=
          fun ty => Lib.run_clear_slice wr _ _ ty _ Tryz.underlying22 zeroInt rfl rfl r k _ _ (by omega) (fun t ht => by rw [HR.out.cellAt (k + t) (by omega), List.getElem?_map, List.getElem?_eq_getElem (by rw [(delRow_len q L j).2, HL.out]; omega)]; rfl) (fun t ht => HR.out.frozenAt _)
        have kc : (k : Int) ≤ (c : Int) := by omega
        have kk : k ≤ c := by omega
        have kne : ¬ c = k := by omega
        obtain ⟨xs', h3, h4, h5⟩ := row_setCells (List.replicate (j - k) (Value.int .i64 0)) k wr _ HR.out
        have H3 := Lib.hid h3; have H4 := Lib.hid h4; have H5 := Lib.hid h5; clear h3 h4 h5
        go_wp2
        go_ret
        have hF : (L.filter q).length = k := by
          have := HKK.out
          unfold delN at this
          rw [← HL.out, List.take_length] at this
          exact this.symm
        rw [← HQ.out]
        refine ⟨by rw [hF]; rfl, ?_, (HK1.out.turned _).trans ((HT.out.trans H5.out).mono fun q _ h => by simp [h])⟩
        have h6 := row_pre H3.out (m := k) (by omega)
        rw [H4.out, ← List.map_take] at h6
        have h7 : (delRow q L j).take k = L.filter q := by
          unfold delRow
          rw [← HL.out, List.take_length, List.take_append_of_le_length (by rw [hF]; exact Nat.le_refl _), List.take_of_length_le (by rw [hF]; exact Nat.le_refl _)]
        rw [h7] at h6
        rw [hF]
        exact h6
end Go.Proofs.YtlikokeknfhejaaGreatDoor
