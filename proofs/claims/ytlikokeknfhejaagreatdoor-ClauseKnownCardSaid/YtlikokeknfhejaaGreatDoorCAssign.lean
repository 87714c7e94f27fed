/-
  Layer 5: the contract of the program's Assign.
-/
import Derived.Test.YtlikokeknfhejaaGreatDoorCRows
import Derived.Test.YtlikokeknfhejaaGreatDoorCWo
import Derived.Test.YtlikokeknfhejaaGreatDoorCKnown
import Derived.Test.YtlikokeknfhejaaGreatDoorCHoldsL
namespace Go.Proofs.YtlikokeknfhejaaGreatDoor
open Go Go.RowKit Go.Sort Go.Lib

/-- May these literals hold together in the formula? -/
def AsgOk (V : Int) (C : List (List Int)) (lits : List Int) : Prop := rightB V C = true ∧ allB V lits = true ∧ ∀ x ∈ lits, -x ∉ lits
/-- What Assign answers. -/
def AsgPost (V : Int) (C : List (List Int)) (lits : List Int) (w : World) (e : Ending) (w' : World) : Prop :=
  Kept w w' ∧ ((¬ AsgOk V C lits ∧ e = .returned (.tuple #[.agg #[.int .i64 0, .slice none 0 0], .bool false])) ∨
    (AsgOk V C lits ∧ ∃ a k c, e = .returned (.tuple #[.agg #[.int .i64 V, .slice a k c], .bool true]) ∧ ClsAt w' a k (asg C lits)))
theorem asg_nil (lits : List Int) : asg [] lits = [] := rfl
theorem asg_snoc (C : List (List Int)) (c lits : List Int) : asg (C ++ [c]) lits = asg C lits ++ if c.any (hasI lits) then [] else [c.filter fun x => !hasI lits (-x)] := by
  unfold asg
  rw [List.filter_append, List.map_append]
  congr 1
  have e : (c.any fun x => lits.contains x) = c.any (hasI lits) := rfl
  rw [List.filter_cons, e]
  cases c.any (hasI lits) <;> rfl
theorem asg_len (C : List (List Int)) (lits : List Int) : (asg C lits).length ≤ C.length := by
  unfold asg; rw [List.length_map]; exact List.length_filter_le _ _
theorem asg_lit {C : List (List Int)} {lits c : List Int} (h : c ∈ asg C lits) : ∃ d ∈ C, c.length ≤ d.length ∧ ∀ x ∈ c, x ∈ d := by
  unfold asg at h
  obtain ⟨d, hd, rfl⟩ := List.mem_map.1 h
  exact ⟨d, (List.mem_filter.1 hd).1, List.length_filter_le _ _, fun x hx => (List.mem_filter.1 hx).1⟩
theorem lit24_of {V x : Int} (h1 : V ≤ 16777216) (h : x ≠ 0 ∧ x ≤ V ∧ -V ≤ x) : Lit24 x := ⟨h.1, by omega, by omega⟩

/-- The blocks of a formula that is being made: its own, and its row's. -/
def TH (h : Nat) (a : Option Addr) (q : Nat) : Prop := q = h ∨ a.map (·.block) = some q
/-- .. and all that are older: no clause of it lies there. -/
def TL (h : Nat) (a : Option Addr) (q : Nat) : Prop := q ≤ h ∨ a.map (·.block) = some q
theorem TH.tl {h q : Nat} {a : Option Addr} (k : TH h a q) : TL h a q := k.imp (fun e => Nat.le_of_eq e) id
theorem set2 {w : World} {b : Nat} {x y u v : Value} {t : TypeId} (h : w.heap[b]? = some (.cells #[x, y] t (0, 0))) : ((w.setCell ⟨b, 0, none⟩ u).setCell ⟨b, 1, none⟩ v).heap[b]? = some (.cells #[u, v] t (0, 0)) := by
  have h1 := heap_setCell_same w b 0 _ t u h
  have h2 := heap_setCell_same _ b 1 _ t v h1
  exact h2
abbrev zF : Obj := .cells #[.int .i64 0, .slice none 0 0] 25
abbrev holdsOf (um : Nat) : Value := .func (.func 90) #[.map (some um)] #[]
abbrev failsOf (um : Nat) : Value := .func (.func 91) #[.map (some um)] #[]

theorem grown_set (w : World) (b o : Nat) (u : Value) : w.grownBy (w.setCell ⟨b, o, none⟩ u) (some b) :=
  ⟨rfl, rfl, rfl, by simp [World.setCell], fun k _ hk => heap_setCell_other w ⟨b, o, none⟩ k u (fun e => hk (by simp [e]))⟩
/-- Behind an append to a row of one's own, and the store of the new slice. -/
theorem app_turned {w8 w9 w10 : World} {h _gg _cap k f : Nat} {a : Option Addr} {c' : Nat} {_u0 u1 : Value} {o : Obj} (hk : Kept w8 w9) (hg : (w9.alloc o).grownBy w10 (Value.slice a k c').ownBlock) : Turned (TH h a) w8 (w10.setCell ⟨h, f, none⟩ u1) := by
  have h1 : Turned (TH h a) w8 (w9.alloc o) := (hk.alloc o).turned _
  have h2 : Turned (TH h a) (w9.alloc o) w10 := Turned.grown hg fun q hq => Or.inr (by cases a with | none => cases hq | some ad => simpa [Value.ownBlock] using hq)
  exact (h1.trans h2).trans (Turned.setCell w10 ⟨h, f, none⟩ u1 (Or.inl rfl))
theorem asg_end {w8 w9 w10 : World} {N h gg cap k c' : Nat} {V : Int} {a : Option Addr} {vs : List Value} {D : List (List Int)} {u : Value} {R : List Int} {o : Obj}
    (hb : w8.heap[h]? = some (fObj V a k c')) (hr : RowsV N w8 (TL h a) a k c' vs D) (hk : Kept w8 w9) (hN : h < N)
    (hown : w10.ownsRow N 22 1 (.slice (some ⟨gg, 0, none⟩) (k + 1) cap) (k + 1) (vs ++ [u])) (hg : (w9.alloc o).grownBy w10 (Value.slice a k c').ownBlock)
    (hat : (Value.slice a k c').ownBlock = some gg ∨ gg = w9.heap.size + 1) (hu : ClauseV w9 (TL h a) u R) (_hNw : N ≤ w8.heap.size) :
    (w10.setCell ⟨h, 1, none⟩ (.slice (some ⟨gg, 0, none⟩) (k + 1) cap)).heap[h]? = some (fObj V (some ⟨gg, 0, none⟩) (k + 1) cap) ∧
    RowsV N (w10.setCell ⟨h, 1, none⟩ (.slice (some ⟨gg, 0, none⟩) (k + 1) cap)) (TL h (some ⟨gg, 0, none⟩)) (some ⟨gg, 0, none⟩) (k + 1) cap (vs ++ [u]) (D ++ [R]) ∧
    Turned (TH h a) w8 (w10.setCell ⟨h, 1, none⟩ (.slice (some ⟨gg, 0, none⟩) (k + 1) cap)) := by
  have hh8 : h < w8.heap.size := (Array.getElem?_eq_some_iff.1 hb).1
  have hown0 : ∀ q, (Value.slice a k c').ownBlock = some q → N ≤ q := fun q hq => (hr.row.lt q hq).1
  have hne : (Value.slice a k c').ownBlock ≠ some h := fun e => by have := hown0 h e; omega
  have hggh : gg ≠ h := by
    rcases hat with h1 | h1
    · rintro rfl; exact hne h1
    · have := hk.size; omega
  have hb9 : (w9.alloc o).heap[h]? = some (fObj V a k c') := (hk.alloc o).row hb
  have hb10 : w10.heap[h]? = some (fObj V a k c') := (hg.block h (Array.getElem?_eq_some_iff.1 hb9).1 (fun e => hne e.symm)).trans hb9
  have hT := app_turned (h := h) (_gg := gg) (_cap := cap) (f := 1) (_u0 := u) (u1 := .slice (some ⟨gg, 0, none⟩) (k + 1) cap) hk hg
  have hT9 : Turned (TH h a) w9 (w10.setCell ⟨h, 1, none⟩ (.slice (some ⟨gg, 0, none⟩) (k + 1) cap)) :=
    app_turned (h := h) (_gg := gg) (_cap := cap) (f := 1) (_u0 := u) (u1 := .slice (some ⟨gg, 0, none⟩) (k + 1) cap) (Kept.refl w9) hg
  refine ⟨heap_setCell_same w10 h 1 _ _ _ hb10, ?_, hT⟩
  refine (hr.kept hk).snoc hu (hown.kept (grown_set w10 h 1 _) (Or.inr (by simpa [Value.ownBlock] using hggh))) (hT9.mono fun q _ e => e.tl) (fun q hq hTq => ?_) (Or.inr rfl)
  rcases hTq with h1 | h1
  · exact Or.inl h1
  · have e : gg = q := by simpa using h1
    subst e
    rcases hat with h2 | h2
    · exact Or.inr (by cases a with | none => cases h2 | some ad => simpa [Value.ownBlock] using h2)
    · omega
set_option maxRecDepth 100000 in
set_option maxHeartbeats 8000000 in
theorem assign_any (V : Int) (ca la : Option Addr) (cn cc n c : Nat) (C : List (List Int)) (lits : List Int) (w : World) (hV : InR V) (hC : ClsAt w ca cn C) (hcn : cn ≤ 1000000) (hS : ∀ c ∈ C, c.length ≤ 1000000) (hL : IntsAt w la n lits) (hn : n ≤ 1000000) :
    Calls Tryz.prog 48 #[.agg #[.int .i64 V, .slice ca cn cc], .slice la n c] w (AsgPost V C lits w) := by
  have HC := Lib.hid hC; have HL := Lib.hid hL; have HS := Lib.hid hS; clear hC hL hS
  have HLN := Lib.hid HC.out.len
  have HLL := Lib.hid HL.out.len
  have HVR := Lib.hid hV; clear hV
  obtain ⟨B, hBe⟩ : ∃ B : Nat, B = w.heap.size := ⟨_, rfl⟩
  obtain ⟨R0, hRe⟩ : ∃ R0 : Nat, R0 = w.heap.size + 1 := ⟨_, rfl⟩
  have e2 : (w.alloc (fObj V ca cn cc)).heap.size = w.heap.size + 1 := by simp
  have HB := Lib.hid (MapKept.heap_alloc w (fObj V ca cn cc)).1
  have HR := Lib.hid (MapKept.heap_alloc (w.alloc (fObj V ca cn cc)) zF).1
  rw [e2, ← hRe] at HR
  rw [← hBe] at HB
  have HK0 := Lib.hid (((Kept.refl w).alloc (fObj V ca cn cc)).alloc zF)
  have HB1 : Hid (((w.alloc (fObj V ca cn cc)).alloc zF).heap[B]? = some (fObj V ca cn cc)) := ((Kept.refl _).alloc _).row HB.out
  have HBL := Lib.hid (show w.heap.size ≤ B by omega)
  have HRL := Lib.hid (show w.heap.size ≤ R0 by omega)
  clear e2
  go_enter Tryz.func48, Tryz.ntmps48
  go_upto_region 1 with (fail)
  rw [← hRe, ← hBe]
  obtain ⟨w1, hw1⟩ : ∃ w1 : World, w1 = (w.alloc (fObj V ca cn cc)).alloc zF := ⟨_, rfl⟩
  change Code.wp _ _ _ _ ((w.alloc (fObj V ca cn cc)).alloc zF)
  rw [← hw1] at HB1 HR HK0 ⊢
  clear hw1 hBe hRe HB
  obtain ⟨y0, y1⟩ := box_facts HB1.out (Kept.refl w1)
  obtain ⟨r0, r1⟩ := box_facts HR.out (Kept.refl w1)
  cases hr : rightB V C with
  | false =>
    have HNO : Hid (¬ AsgOk V C lits) := fun h => by have h1 := h.1; rw [hr] at h1; cases h1
    have HRR := Lib.hid hr; clear hr
    go_wp2_with fail
    refine (right_any V ca cn cc C w1 HVR.out (HC.out.kept HK0.out) (by omega) (Short.le HS.out)).mono ?_
    rw [HRR.out]
    rintro e w2 ⟨rfl, hk2⟩
    have HK2 := Lib.hid hk2
    have f0 := frozen_of_row (hk2.row HR.out) 0
    have f1 := frozen_of_row (hk2.row HR.out) 1
    replace r0 := hk2.cell r0; replace r1 := hk2.cell r1
    clear hk2 y0 y1
    go_wp2
    have HR4 := Lib.hid (set2 (u := .int .i64 0) (v := .slice none 0 0) (HK2.out.row HR.out))
    have HK4 := Lib.hid (((HK0.out.trans HK2.out).setCell (p := ⟨R0, 0, none⟩) HRL.out (.int .i64 0)).setCell (p := ⟨R0, 1, none⟩) HRL.out (.slice none 0 0))
    generalize (w2.setCell ⟨R0, 0, none⟩ (.int .i64 0)).setCell ⟨R0, 1, none⟩ (.slice none 0 0) = w4 at *
    clear r0 r1 f0 f1
    obtain ⟨r0, r1⟩ := box_facts HR4.out (Kept.refl w4)
    exact bodyPost_ret (v := .tuple #[.agg #[.int .i64 0, .slice none 0 0], .bool false]) (by simp [results, Tryz.results48, go_sem, r0, r1]) rfl ⟨HK4.out, Or.inl ⟨HNO.out, rfl⟩⟩
  | true =>
    have HRR := Lib.hid hr; clear hr
    have HRI := Lib.hid ((rightB_iff V C).1 HRR.out)
    have v0 := HRI.out.1
    have v1 := HRI.out.2.1
    go_wp2_with fail
    refine (right_any V ca cn cc C w1 HVR.out (HC.out.kept HK0.out) (by omega) (Short.le HS.out)).mono ?_
    rw [HRR.out]
    rintro e w2 ⟨rfl, hk2⟩
    have HK2 := Lib.hid hk2
    replace r0 := hk2.cell r0; replace r1 := hk2.cell r1
    replace y0 := hk2.cell y0; replace y1 := hk2.cell y1
    clear hk2
    cases ha : allB V lits with
    | false =>
      have HNO : Hid (¬ AsgOk V C lits) := fun h => by have h1 := h.2.1; rw [ha] at h1; cases h1
      have HAL := Lib.hid ha; clear ha
      go_wp2_with fail
      refine (has_any V ca la cn cc n c lits w2 v0 v1 (HL.out.kept (HK0.out.trans HK2.out)) (by omega)).mono ?_
      rw [HAL.out]
      rintro e w3 ⟨rfl, hk3⟩
      have HK3 := Lib.hid (HK2.out.trans hk3)
      have f0 := frozen_of_row ((HK2.out.trans hk3).row HR.out) 0
      have f1 := frozen_of_row ((HK2.out.trans hk3).row HR.out) 1
      replace r0 := hk3.cell r0; replace r1 := hk3.cell r1
      clear hk3 y0 y1
      go_wp2
      have HR4 := Lib.hid (set2 (u := .int .i64 0) (v := .slice none 0 0) ((HK3.out).row HR.out))
      have HK4 := Lib.hid (((HK0.out.trans (HK3.out)).setCell (p := ⟨R0, 0, none⟩) HRL.out (.int .i64 0)).setCell (p := ⟨R0, 1, none⟩) HRL.out (.slice none 0 0))
      generalize (w3.setCell ⟨R0, 0, none⟩ (.int .i64 0)).setCell ⟨R0, 1, none⟩ (.slice none 0 0) = w4 at *
      clear r0 r1 f0 f1
      obtain ⟨r0, r1⟩ := box_facts HR4.out (Kept.refl w4)
      exact bodyPost_ret (v := .tuple #[.agg #[.int .i64 0, .slice none 0 0], .bool false]) (by simp [results, Tryz.results48, go_sem, r0, r1]) rfl ⟨HK4.out, Or.inl ⟨HNO.out, rfl⟩⟩
    | true =>
      have HAL := Lib.hid ha; clear ha
      have HAI := Lib.hid ((allB_iff V lits).1 HAL.out)
      go_wp2_with fail
      refine (has_any V ca la cn cc n c lits w2 v0 v1 (HL.out.kept (HK0.out.trans HK2.out)) (by omega)).mono ?_
      rw [HAL.out]
      rintro e w3 ⟨rfl, hk3⟩
      have HK3 := Lib.hid (HK2.out.trans hk3)
      clear hk3 r0 r1 y0 y1
      have hmm := run_makeMap_none Tryz.underlying153 w3
      go_wp2
      clear hmm
      have HKN : Hid (KnowAt (w3.alloc (.map #[] 0)) w3.heap.size 0 []) := ⟨.map [], World.ownsMap_made w3 Tryz.prog 3 (plainElem (H := Unit) Tryz.prog 3), KnowsD.nil⟩
      have HKA := Lib.hid ((Kept.refl w3).alloc (.map #[] 0))
      obtain ⟨um, hum⟩ : ∃ um : Nat, um = w3.heap.size := ⟨_, rfl⟩
      have HUM : Hid (w1.heap.size ≤ um) := by show _ ≤ um; rw [hum]; exact HK3.out.size
      rw [← hum] at HKN ⊢
      obtain ⟨wm, hwm⟩ : ∃ wm : World, wm = w3.alloc (.map #[] 0) := ⟨_, rfl⟩
      rw [← hwm] at HKN HKA ⊢
      have HKM := Lib.hid (HK3.out.trans HKA.out)
      clear hum hwm HKA HK3 HK2
      go_loopw [25] (fun i wr => ∃ j : Nat, j ≤ n ∧ i = .int .i64 j ∧ KnowAt wr um j (lits.take j) ∧ One (lits.take j) ∧ Turned (fun q => q = um) wm wr) (fun i _ => n - (intOf i).toNat)
      case atStart => exact ⟨0, Nat.zero_le _, rfl, HKN.out, One.nil, Turned.refl _ _⟩
      case round =>
        obtain ⟨j, hj, rfl, hkn, hone, ht⟩ := hrel
        have HKJ := Lib.hid hkn; have HON := Lib.hid hone; have HT := Lib.hid ht
        have HK1 := Lib.hid (ht.from HKM.out fun q hq h => by have := HUM.out; omega)
        clear hkn hone ht
        have j0 : (0 : Int) ≤ (j : Int) := Int.natCast_nonneg _
        by_cases hjn : j < n
        · have j1 : (j : Int) < (n : Int) := by omega
          obtain ⟨b, off, rfl, hc⟩ := HL.out.at_ (by omega)
          have hjl : j < lits.length := by rw [HLL.out]; exact hjn
          obtain ⟨l, hl⟩ : ∃ l, lits[j]? = some l := ⟨_, List.getElem?_eq_getElem hjl⟩
          have x0 := (HK0.out.trans HK1.out).cell (hc j l hl)
          have HX := Lib.hid hl
          have HTK := Lib.hid (take_snoc' hl)
          have HL24 := Lib.hid (lit24_of v1 (HAI.out l (List.mem_of_getElem? hl)))
          clear hc hl hjl
          by_cases hneg : -l ∈ lits.take j
          · have HNO : Hid (¬ AsgOk V C lits) := fun h => h.2.2 l (List.mem_of_getElem? HX.out) (List.mem_of_mem_take hneg)
            have HCALL := Lib.hid (kput_no um j (lits.take j) l wr HKJ.out HON.out HL24.out hneg)
            clear hneg
            go_wp2_with fail
            refine HCALL.out.mono ?_
            rintro e w5 ⟨rfl, hk5⟩
            have HK5 := Lib.hid (HK1.out.trans hk5)
            have f0 := frozen_of_row (HK5.out.row HR.out) 0
            have f1 := frozen_of_row (HK5.out.row HR.out) 1
            obtain ⟨r0, r1⟩ := box_facts HR.out HK5.out
            clear hk5
            go_wp2
            have HR4 := Lib.hid (set2 (u := .int .i64 0) (v := .slice none 0 0) ((HK5.out).row HR.out))
            have HK4 := Lib.hid (((HK0.out.trans (HK5.out)).setCell (p := ⟨R0, 0, none⟩) HRL.out (.int .i64 0)).setCell (p := ⟨R0, 1, none⟩) HRL.out (.slice none 0 0))
            generalize (w5.setCell ⟨R0, 0, none⟩ (.int .i64 0)).setCell ⟨R0, 1, none⟩ (.slice none 0 0) = w4 at *
            clear r0 r1 f0 f1
            obtain ⟨r0, r1⟩ := box_facts HR4.out (Kept.refl w4)
            exact bodyPost_ret (v := .tuple #[.agg #[.int .i64 0, .slice none 0 0], .bool false]) (by simp [results, Tryz.results48, go_sem, r0, r1]) rfl ⟨HK4.out, Or.inl ⟨HNO.out, rfl⟩⟩
          · have HCALL := Lib.hid (kput_yes um j (lits.take j) l wr HKJ.out HON.out HL24.out hneg (by omega))
            have HNG := Lib.hid hneg; clear hneg
            go_wp2_with fail
            refine HCALL.out.mono ?_
            rintro e w5 ⟨rfl, hkn5, ht5⟩
            have HN5 := Lib.hid hkn5; have HT5 := Lib.hid ht5; clear hkn5 ht5
            go_wp2
            go_roundw
            case rel =>
              refine ⟨j + 1, by omega, by go_num, ?_, ?_, HT.out.trans HT5.out⟩
              · rw [HTK.out]; exact HN5.out
              · rw [HTK.out]; exact HON.out.snoc HL24.out.1 HNG.out
            case measure => simp [intOf]; omega
        · obtain rfl : j = n := by omega
          have htk : lits.take j = lits := by rw [← HLL.out]; exact List.take_length
          rw [htk] at HKJ HON
          have HOK : Hid (AsgOk V C lits) := ⟨HRR.out, HAL.out, HON.out.one⟩
          obtain ⟨y0, y1⟩ := box_facts HB1.out HK1.out
          clear htk HKN HT
          obtain ⟨w6, rfl⟩ : ∃ w6 : World, w6 = wr := ⟨_, rfl⟩
          have HKW6 := Lib.hid (HK0.out.trans HK1.out)
          have HH := Lib.hid (MapKept.heap_alloc w6 (fObj V none 0 0)).1
          have HKH := Lib.hid ((Kept.refl w6).alloc (fObj V none 0 0))
          have HB6 := Lib.hid (HK1.out.row HB1.out)
          have HR6 := Lib.hid (HK1.out.row HR.out)
          have HU6 := Lib.hid HKJ.out.lt
          have HW6 := Lib.hid HKW6.out.size
          clear HK1 HKM HUM HB1 HR HK0
          go_upto_region 11 with (fail)
          obtain ⟨h, hh⟩ : ∃ h : Nat, h = w6.heap.size := ⟨_, rfl⟩
          rw [← hh] at HH ⊢
          obtain ⟨w7, hw7⟩ : ∃ w7 : World, w7 = w6.alloc (fObj V none 0 0) := ⟨_, rfl⟩
          change Code.wp _ _ _ _ (w6.alloc (fObj V none 0 0))
          rw [← hw7] at HH HKH ⊢
          have HHE := Lib.hid hh
          clear hw7 hh y0 y1
          obtain ⟨y0, y1⟩ := box_facts HB6.out HKH.out
          have HKN7 := Lib.hid (HKJ.out.kept HKH.out)
          have HWH : Hid (w.heap.size ≤ h ∧ um < h ∧ h < w7.heap.size ∧ B < h ∧ R0 < h) :=
            ⟨by rw [HHE.out]; exact HW6.out, by rw [HHE.out]; exact HU6.out, (Array.getElem?_eq_some_iff.1 HH.out).1, by rw [HHE.out]; exact (Array.getElem?_eq_some_iff.1 HB6.out).1, by rw [HHE.out]; exact (Array.getElem?_eq_some_iff.1 HR6.out).1⟩
          have HKW7 := Lib.hid (HKW6.out.trans HKH.out)
          have HR7 := Lib.hid (HKH.out.row HR6.out)
          clear HKJ HB6 HR6 HKH HKW6 HU6 HW6
          have egh : ∀ args w, (callFunc 90 args).run Tryz.prog w = .ok (.enter 90 args) w := enters_of Tryz.func90 (by kernel_rfl) rfl
          have egf : ∀ args w, (callFunc 91 args).run Tryz.prog w = .ok (.enter 91 args) w := enters_of Tryz.func91 (by kernel_rfl) rfl
          have HEH := Lib.hid egh; have HEF := Lib.hid egf; clear egh egf
          obtain ⟨ii, hi, hz0, hz1, hz2⟩ := info_parts infoInts
          have HI := Lib.hid (And.intro hi (And.intro hz0 (And.intro hz1 hz2))); clear hi hz0 hz1 hz2
          go_wp2
          go_loopw [41] (fun i wr => ∃ (jj : Nat) (a : Option Addr) (k c' : Nat) (vs : List Value), jj ≤ cn ∧ i = .int .i64 jj ∧ wr.heap[h]? = some (fObj V a k c') ∧ RowsV w7.heap.size wr (TL h a) a k c' vs (asg (C.take jj) lits) ∧ Turned (fun q => q = h) w7 wr) (fun i _ => cn - (intOf i).toNat)
          case atStart => exact ⟨0, none, 0, 0, [], Nat.zero_le _, rfl, HH.out, RowsV.nil _ _ _, Turned.refl _ _⟩
          case round =>
            obtain ⟨jj, a, k, c', vs, hj, rfl, hblk, hrows, ht⟩ := hrel
            have HBK := Lib.hid hblk; have HRW := Lib.hid hrows; have HT := Lib.hid ht
            have HKWR := Lib.hid (ht.from HKW7.out fun q hq e => by have := HWH.out.1; omega)
            have HKNR := Lib.hid (HKN7.out.block (ht.block um HKN7.out.lt (by have := HWH.out.2.1; omega)))
            clear hblk hrows ht
            have j0 : (0 : Int) ≤ (jj : Int) := Int.natCast_nonneg _
            by_cases hjn : jj < cn
            · have j1 : (jj : Int) < (cn : Int) := by omega
              obtain ⟨b, off, rfl, hc⟩ := HC.out.at_ (by omega)
              have hjl : jj < C.length := by rw [HLN.out]; exact hjn
              obtain ⟨cl, hcj⟩ : ∃ c, C[jj]? = some c := ⟨_, List.getElem?_eq_getElem hjl⟩
              obtain ⟨a2, k2, cap2, x0, hIc, hz2, hkc⟩ := hc jj cl hcj
              replace x0 := HKWR.out.cell x0
              have HIC := Lib.hid (hIc.kept HKWR.out)
              have HZ2 := Lib.hid hz2
              have hk2 : k2 ≤ 1000000 := by have := HS.out cl (List.mem_of_getElem? hcj); rw [hIc.len] at this; exact this
              have HTK := Lib.hid (show C.take (jj + 1) = C.take jj ++ [cl] by rw [List.take_succ_eq_append_getElem hjl, (List.getElem?_eq_some_iff.1 hcj).2])
              have HLT := Lib.hid (fun (y : Int) (hy : y ∈ cl) => lit24_of v1 (HRI.out.2.2.2 cl (List.mem_of_getElem? hcj) y hy))
              have HPH : Hid (Pred_b 90 (.map (some um)) (hasI lits) cl wr) := fun y hy W hkW => kholds_any um j lits y W (HKNR.out.kept hkW) HON.out (HLT.out y hy)
              have HPF : Hid (∀ w', Kept wr w' → Pred_b 91 (.map (some um)) (fun y => hasI lits (-y)) cl w') := fun w' hk' y hy W hkW => kfails_any um j lits y W (HKNR.out.kept (hk'.trans hkW)) HON.out (HLT.out y hy)
              have HCON := Lib.hid (contains_b 90 (.map (some um)) (hasI lits) a2 k2 cap2 cl wr HEH.out HIC.out hk2 HPH.out)
              clear hc hcj hjl hIc hz2 hkc
              cases hany : cl.any (hasI lits) with
              | true =>
                have HSN := Lib.hid (asg_snoc (C.take jj) cl lits)
                rw [hany, if_pos rfl, List.append_nil] at HSN
                rw [hany] at HCON
                clear hany
                go_wp2_with fail
                refine HCON.out.mono ?_
                rintro e w8 ⟨rfl, hk8⟩
                have HK8 := Lib.hid hk8; clear hk8
                go_wp2
                go_roundw
                case rel =>
                  refine ⟨jj + 1, a, k, c', vs, by omega, by go_num, HK8.out.row HBK.out, ?_, HT.out.trans (HK8.out.turned _)⟩
                  rw [HTK.out, HSN.out]
                  exact HRW.out.kept HK8.out
                case measure => simp [intOf]; omega
              | false =>
                have HSN := Lib.hid (asg_snoc (C.take jj) cl lits)
                rw [hany, if_neg (by simp)] at HSN
                rw [hany] at HCON
                clear hany
                go_wp2_with fail
                refine HCON.out.mono ?_
                rintro e w8 ⟨rfl, hk8⟩
                have HK8 := Lib.hid hk8; clear hk8
                obtain ⟨R, hR⟩ : ∃ R : List Int, R = cl.filter fun x => !hasI lits (-x) := ⟨_, rfl⟩
                have HRI2 : Hid (∀ x ∈ R, InR x) := fun x hx => by rw [hR] at hx; exact HIC.out.inr x (List.mem_filter.1 hx).1
                rw [← hR] at HSN
                have HWO : Hid (∀ w', Kept w8 w' → Calls Tryz.prog 87 #[.slice a2 k2 cap2, failsOf um] w' fun e w'' => ∃ a3 c3, e = .returned (.slice a3 R.length c3) ∧ w''.ownsRow w8.heap.size 3 1 (.slice a3 R.length c3) R.length (R.map (Value.int .i64)) ∧ Kept w8 w'') := fun w' hk' => by
                  rw [hR]
                  refine (without_b 91 (.map (some um)) (fun y => hasI lits (-y)) a2 k2 cap2 cl w' HEF.out (HIC.out.kept (HK8.out.trans hk')) hk2 HZ2.out (HPF.out w' (HK8.out.trans hk'))).mono ?_
                  rintro e w'' ⟨a3, c3, he, hrow3, hk3⟩
                  exact ⟨a3, c3, he, row_mono hrow3 hk'.size, hk'.trans hk3⟩
                have HHR := Lib.hid hR
                clear hR
                have HBK8 := Lib.hid (HK8.out.row HBK.out)
                have HRW8 := Lib.hid (HRW.out.kept HK8.out)
                have HNH : Hid ((Value.slice a k c').ownBlock ≠ some h) := by
                  intro e
                  cases a with
                  | none => cases e
                  | some ad =>
                    have h1 := (HRW8.out.row.lt ad.block rfl).1
                    have h2 : ad.block = h := by simpa [Value.ownBlock] using e
                    have := HWH.out.2.2.1
                    omega
                have HZ : Hid (∀ w', Kept w8 w' → w'.cell? ⟨h, 1, none⟩ = some (.slice a k c') ∧ w'.frozen? ⟨h, 1, none⟩ = false ∧ h < w'.heap.size ∧ h ≠ w'.heap.size) := fun w' hk => by
                  have h2 := hk.row HBK8.out
                  exact ⟨(box_facts HBK8.out hk).2, frozen_of_row h2 1, (Array.getElem?_eq_some_iff.1 h2).1, Nat.ne_of_lt (Array.getElem?_eq_some_iff.1 h2).1⟩
                have HSZ := Lib.hid (show w7.heap.size ≤ w8.heap.size from Nat.le_trans HT.out.size HK8.out.size)
                have hkb : k ≤ 1000000 := by have h1 := HRW.out.len; have h2 := asg_len (C.take jj) lits; have h3 := List.length_take_le jj C; omega
                have hK0 := Kept.refl w8
                obtain ⟨q0, q1, q2, q3⟩ := HZ.out w8 (Kept.refl w8)
                clear x0
                go_wp2
                go_region_law ((first
                  | (refine step_append_lies _ (by rfl) _ _ _ (by rfl) w7.heap.size 22 ii _ 1 24 Tryz.underlying23 HI.out.1 HI.out.2.1 HI.out.2.2.1 HI.out.2.2.2 rfl (by omega) (.slice a k c') k vs (by rfl) ((row_keptR HRW8.out.row hk9).alloc _)
                      ⟨w9.heap.size, 0, none⟩ 1 1 [.slice a3 R.length c3] (by rfl) (by rfl) (World.news_of_block (cs := #[.slice a3 R.length c3]) (t := 22) (fr := (0, 0)) (heap_alloc_new w9 _)) (by simp [Value.oneCell'])
                      (by omega) (by unfold maxLen; omega) (by omega) (by have := hk9.size; have := HSZ.out; simp; omega) (w9.heap.size + 1) (by simp) ?_; intro gg cap w10 hown10 hgrow10 hat10 hlt10
                     have hz10 := HZ.out _ (hk9.alloc (.cells #[.slice a3 R.length c3] 22))
                     have c10 : w10.cell? ⟨h, 1, none⟩ = some (.slice a k c') := (hgrow10.cell_far ⟨h, 1, none⟩ hz10.2.2.1 (Ne.symm HNH.out)).trans hz10.1
                     have z10 : w10.frozen? ⟨h, 1, none⟩ = false := (hgrow10.frozen_far ⟨h, 1, none⟩ hz10.2.2.1 (Ne.symm HNH.out)).trans hz10.2.1
                     have HGR := Lib.hid hgrow10; have HOW := Lib.hid hown10; have HAT := Lib.hid hat10; have HK9 := Lib.hid hk9; have HR9 := Lib.hid hrow9
                     clear hgrow10 hown10 hat10 hlt10 hk9 hz10 hrow9)
                  | (go_simp; go_at_call 87; refine (HWO.out _ (by first | exact hK0 | exact Kept.drew hK0)).mono ?_; rintro e w9 ⟨a3, c3, rfl, hrow9, hk9⟩; obtain ⟨p0, p1, p2, p3⟩ := HZ.out w9 hk9)))
                all_goals
                  have hcv : ClauseV w9 (TL h a) (.slice a3 R.length c3) R := by
                    refine clauseV_new HR9.out rfl HRI2.out fun q hq hTq => ?_
                    rcases hTq with h1 | h1
                    · have := q2; omega
                    · have h2 := (HRW8.out.row.lt q (by cases a with | none => cases h1 | some ad => simpa [Value.ownBlock] using h1)).2
                      omega
                  have hE := asg_end HBK8.out HRW8.out HK9.out HWH.out.2.2.1 HOW.out HGR.out HAT.out hcv HSZ.out
                  have HE := Lib.hid hE
                  clear hE hcv c10 z10 q0 q1 q2 q3 p0 p1 p2 p3 hK0
                  go_wp2
                  go_roundw
                  case rel =>
                    refine ⟨jj + 1, some ⟨gg, 0, none⟩, k + 1, cap, vs ++ [.slice a3 R.length c3], by omega, by go_num, HE.out.1, ?_, ?_⟩
                    · rw [HTK.out, HSN.out]; exact HE.out.2.1
                    · refine (((HT.out.trans (HK8.out.turned _)).mono fun q _ e => Or.inl e).trans HE.out.2.2).mono fun q hq hTq => ?_
                      rcases hTq with h1 | h1
                      · exact h1
                      · have h2 := (HRW8.out.row.lt q (by cases a with | none => cases h1 | some ad => simpa [Value.ownBlock] using h1)).1
                        omega
                  case measure => simp [intOf]; omega
            · obtain rfl : jj = cn := by omega
              have htk : C.take jj = C := by rw [← HLN.out]; exact List.take_length
              rw [htk] at HRW
              obtain ⟨q0, q1⟩ := box_facts HBK.out (Kept.refl wr)
              have HRB : Hid (wr.heap[R0]? = some zF) := (HT.out.block R0 (Array.getElem?_eq_some_iff.1 HR7.out).1 (by have := HWH.out.2.2.2.2; omega)).trans HR7.out
              have f0 := frozen_of_row HRB.out 0
              have f1 := frozen_of_row HRB.out 1
              obtain ⟨r0, r1⟩ := box_facts HRB.out (Kept.refl wr)
              go_wp2
              have HR9 := Lib.hid (set2 (u := .int .i64 V) (v := .slice a k c') HRB.out)
              have HK9 := Lib.hid ((HKWR.out.setCell (p := ⟨R0, 0, none⟩) HRL.out (.int .i64 V)).setCell (p := ⟨R0, 1, none⟩) HRL.out (.slice a k c'))
              have HROW : Hid (∀ w9, Turned (fun q => q = R0) wr w9 → ClsAt w9 a k (asg C lits)) := fun w9 ht9 => by
                refine RowsV.cls (HRW.out.turned (HRW.out.row.kept (row := some R0) ⟨ht9.os, ht9.tape, ht9.output, ht9.size, fun q hq hne => ht9.block q hq (fun e => hne (by rw [e]))⟩ ?_) (ht9.mono fun q _ e => Or.inl (by have := HWH.out.2.2.2.2; omega)))
                refine Or.inr fun e => ?_
                have h1 := (HRW.out.row.lt R0 e).1
                have := HWH.out
                omega
              have HT9 := Lib.hid ((Turned.setCell (T := fun q => q = R0) wr ⟨R0, 0, none⟩ (.int .i64 V) rfl).trans (Turned.setCell (T := fun q => q = R0) _ ⟨R0, 1, none⟩ (.slice a k c') rfl))
              have HCL := Lib.hid (HROW.out _ HT9.out)
              generalize (wr.setCell ⟨R0, 0, none⟩ (.int .i64 V)).setCell ⟨R0, 1, none⟩ (.slice a k c') = w9 at *
              clear r0 r1 f0 f1 q0 q1
              obtain ⟨r0, r1⟩ := box_facts HR9.out (Kept.refl w9)
              exact bodyPost_ret (v := .tuple #[.agg #[.int .i64 V, .slice a k c'], .bool true]) (by simp [results, Tryz.results48, go_sem, r0, r1]) rfl ⟨HK9.out, Or.inr ⟨HOK.out, a, k, c', rfl, HCL.out⟩⟩
end Go.Proofs.YtlikokeknfhejaaGreatDoor
