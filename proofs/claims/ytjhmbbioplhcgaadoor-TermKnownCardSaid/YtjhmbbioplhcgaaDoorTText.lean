/-
  Layer 2: the contract of Text: a term's text, or none if it is too long.
-/
import Derived.Test.YtjhmbbioplhcgaaDoorTPut
import Derived.Laws.IdiomStrings
namespace Go.Proofs.YtjhmbbioplhcgaaDoor
open Go Go.RowKit

/-- What Text answers. -/
def textI (L : List Nd) (i : Int) : List UInt8 := if hasB L.length i then (if (textOf L i).length ≤ 65536 then textOf L i else []) else []

theorem decDigits_pos (u : Nat) : 0 < (Lib.decDigits u).length := by
  unfold Lib.decDigits
  split <;> simp
theorem itoa_pos (n : Int) : 0 < (Lib.itoa n).length := by
  unfold Lib.itoa
  split
  · simp
  · exact decDigits_pos _
theorem mark0_pos (d : Nd) : 0 < (mark0 d).length := by
  unfold mark0
  have := itoa_pos d.n
  split
  · exact this
  · split
    · simp
    · split <;> simp
theorem text1_pos (T : List (List UInt8)) (d : Nd) : 0 < (text1 T d).length := by
  have := mark0_pos d
  unfold text1
  split
  · simp; omega
  · split
    · simp; omega
    · exact this

theorem ret_s {a b : List UInt8} (h : a = b) : Ending.returned (str a) = .returned (str b) := by rw [h]

set_option maxHeartbeats 2000000 in
theorem text_none {B g m c : Nat} {sa : Option Addr} {L : List Nd} {w : World} (h : GraphAt B w g m sa c L) (i : Int) (hb : hasB L.length i = false) :
    Calls Tryd.prog 21 #[.pointer (some ⟨g, 0, none⟩), .int .i64 i] w fun e w' => e = .returned (str []) ∧ Kept w w' := by
  have HG := Lib.hid (h.kept ((Kept.refl w).alloc (.cells #[.pointer (some ⟨g, 0, none⟩)] 24)))
  have HB := Lib.hid hb; clear hb h
  go_enter Tryd.func21, Tryd.ntmps21
  go_wp2_with ((go_at_call 36; refine (has_cell _ _ _ _ _ _ HG.out.cell0).mono ?_; rintro e w' ⟨rfl, rfl⟩; rw [HB.out]))
  go_ret
  exact ⟨rfl, (Kept.refl _).alloc _⟩
theorem text_nil (i : Int) (w : World) :
    Calls Tryd.prog 21 #[.pointer none, .int .i64 i] w fun e w' => e = .returned (str []) ∧ Kept w w' := by
  go_enter Tryd.func21, Tryd.ntmps21
  go_wp2_with ((go_at_call 36; refine (has_nil _ _).mono ?_; rintro e w' ⟨rfl, rfl⟩))
  go_ret
  exact ⟨rfl, (Kept.refl _).alloc _⟩

set_option maxRecDepth 100000 in
set_option maxHeartbeats 8000000 in
theorem text_has {B g m c : Nat} {sa : Option Addr} {L : List Nd} {w : World} (h : GraphAt B w g m sa c L) (hL : Laid w) (hlen : L.length ≤ 900) (k : Nat) (hk : k < L.length) :
    Calls Tryd.prog 21 #[.pointer (some ⟨g, 0, none⟩), .int .i64 k] w fun e w' => e = .returned (str (textI L k)) ∧ Kept w w' := by
  have hb : hasB L.length (k : Int) = true := (hasB_iff _ _).2 ⟨by omega, by omega⟩
  obtain ⟨r0, rfl, _, hr0, _, hcap, hmx, hcell⟩ := h.rowAt (by omega)
  have hlo := hcell k _ (kAt_get hk) 7 _ rfl
  have hlt := long_text h.good k hk
  have hpos : 0 < (textOf L (k : Int)).length := by rw [textOf_eq L h.good k hk]; exact text1_pos _ _
  generalize (kAt (kps L) (k : Int)).long = lo at hlo hlt
  have HG := Lib.hid (h.kept ((Kept.refl w).alloc (.cells #[.pointer (some ⟨g, 0, none⟩)] 24)))
  have HH := Lib.hid h
  have HLO7 := Lib.hid hlo
  have HL := Lib.hid hL; clear hL
  have g0 := h.cell0
  have hgl := h.gLt
  have hgn : g ≠ w.heap.size := Nat.ne_of_lt h.gLt
  have hrn : r0 ≠ w.heap.size := Nat.ne_of_lt hr0
  have hBw : B ≤ w.heap.size := by have := h.low; omega
  have HB := Lib.hid hb
  unfold maxLen at hmx
  have hk1 : (k : Int) < (L.length : Int) := by omega
  have hk0 : (0 : Int) ≤ (k : Int) := Int.natCast_nonneg _
  clear h hcell
  by_cases hs : (textOf L (k : Int)).length ≤ 65536
  · have hlo' : lo = (textOf L (k : Int)).length := by omega
    have HT : Hid (textI L (k : Int) = textOf L (k : Int)) := by show _ = _; unfold textI; rw [if_pos hb, if_pos hs]
    clear hb
    have d1 : decide ((65536 : Int) < (lo : Int)) = false := decide_eq_false (by omega)
    have HLO := Lib.hid hlo'; clear hlo' hlt
    have HS := Lib.hid hs; clear hs
    have HPOS := Lib.hid hpos; clear hpos
    generalize hn : L.length = n at *
    have HN := Lib.hid hn; clear hn
    obtain ⟨i8, hi8, hz8, hsz8, hby8⟩ := info_parts infoU8
    have HI8 := Lib.hid (And.intro hi8 (And.intro hz8 (And.intro hsz8 hby8))); clear hi8 hz8 hsz8 hby8
    go_enter Tryd.func21, Tryd.ntmps21
    go_upto_region 3 with ((go_at_call 36; refine (has_cell _ _ _ _ _ _ HG.out.cell0).mono ?_; rintro e w' ⟨rfl, rfl⟩; rw [HN.out, HB.out]))
    have hBg := (MapKept.heap_alloc w (.cells #[.pointer (some ⟨g, 0, none⟩)] 24)).1
    have hKw := (Kept.refl w).alloc (.cells #[.pointer (some ⟨g, 0, none⟩)] 24)
    have hsz : (w.alloc (.cells #[.pointer (some ⟨g, 0, none⟩)] 24)).heap.size = w.heap.size + 1 := by simp
    have HBG := Lib.hid hBg; have HKW := Lib.hid hKw; have HSZ := Lib.hid hsz
    clear hBg hKw hsz g0 hlo
    generalize w.alloc (.cells #[.pointer (some ⟨g, 0, none⟩)] 24) = W1 at *
    have g0 := HG.out.cell0
    have g1 : W1.cell? ⟨w.heap.size, 0, none⟩ = some (.pointer (some ⟨g, 0, none⟩)) := by rw [cell_of_row _ _ _ _ _ _ HBG.out]; rfl
    have HRA : Hid (W1.cell? ⟨r0, k * 8 + 7, none⟩ = some (.int .i64 (lo : Int))) := HKW.out.cell HLO7.out
    have g2 := HRA.out
    rw [HN.out] at g0
    have HLO2 : Hid (0 < lo ∧ lo ≤ 65536) := by have h1 := HLO.out; have h2 := HS.out; have h3 := HPOS.out; show _ ∧ _; omega
    go_upto_region 4 with (refine wpList_make_own _ rfl _ _ _ rfl B 5 i8 _ 1 Tryd.underlying85 HI8.out.1 HI8.out.2.1 HI8.out.2.2.1 .i64 .i64 _ lo rfl rfl rfl (by rw [HI8.out.2.2.2]; have := HLO2.out; omega) (by unfold maxLen; have := HLO2.out; omega) (by have := HSZ.out; omega) ?_; intro w2 hown2 hgrow2; have HOW2 := Lib.hid hown2; have HGR2 := Lib.hid hgrow2; clear hown2 hgrow2)
    go_upto_region 6 with (fail)
    have HK2 : Hid (Kept W1 w2) := ⟨HGR2.out.os, HGR2.out.tape, HGR2.out.output, HGR2.out.size, fun q hq => HGR2.out.block q hq (by simp)⟩
    have HRL := Lib.hid (HOW2.out.lt W1.heap.size rfl).2
    have HS3 : Hid ((w2.alloc (.cells #[.slice (some ⟨W1.heap.size, 0, none⟩) 0 lo] 85)).heap.size = w2.heap.size + 1) := by show _ = _; simp
    have HE5 : Hid (PutEnv w ((w2.alloc (.cells #[.slice (some ⟨W1.heap.size, 0, none⟩) 0 lo] 85)).alloc (.cells #[.func (.func 38) #[] #[.pointer (some ⟨w.heap.size, 0, none⟩), .pointer (some ⟨w2.heap.size, 0, none⟩), .pointer (some ⟨w2.heap.size + 1, 0, none⟩)]] 86)) g w.heap.size w2.heap.size (w2.heap.size + 1) W1.heap.size ∧ TextAt B ((w2.alloc (.cells #[.slice (some ⟨W1.heap.size, 0, none⟩) 0 lo] 85)).alloc (.cells #[.func (.func 38) #[] #[.pointer (some ⟨w.heap.size, 0, none⟩), .pointer (some ⟨w2.heap.size, 0, none⟩), .pointer (some ⟨w2.heap.size + 1, 0, none⟩)]] 86)) w2.heap.size W1.heap.size lo [] ∧ Kept W1 ((w2.alloc (.cells #[.slice (some ⟨W1.heap.size, 0, none⟩) 0 lo] 85)).alloc (.cells #[.func (.func 38) #[] #[.pointer (some ⟨w.heap.size, 0, none⟩), .pointer (some ⟨w2.heap.size, 0, none⟩), .pointer (some ⟨w2.heap.size + 1, 0, none⟩)]] 86))) := by
      have hk5 := ((Kept.refl w2).alloc (.cells #[.slice (some ⟨W1.heap.size, 0, none⟩) 0 lo] 85)).alloc (.cells #[.func (.func 38) #[] #[.pointer (some ⟨w.heap.size, 0, none⟩), .pointer (some ⟨w2.heap.size, 0, none⟩), .pointer (some ⟨w2.heap.size + 1, 0, none⟩)]] 86)
      have hb5 := (MapKept.heap_alloc (w2.alloc (.cells #[.slice (some ⟨W1.heap.size, 0, none⟩) 0 lo] 85)) (.cells #[.func (.func 38) #[] #[.pointer (some ⟨w.heap.size, 0, none⟩), .pointer (some ⟨w2.heap.size, 0, none⟩), .pointer (some ⟨w2.heap.size + 1, 0, none⟩)]] 86)).1
      rw [HS3.out] at hb5
      have hb4 := (MapKept.heap_alloc w2 (.cells #[.slice (some ⟨W1.heap.size, 0, none⟩) 0 lo] 85)).1
      have h1 := HSZ.out
      have h2 := HRL.out
      have h3 := HK2.out.size
      have h4 := HLO2.out
      refine ⟨⟨HKW.out.trans (HK2.out.trans hk5), (HK2.out.trans hk5).cell g1, by rw [cell_of_row _ _ _ _ _ _ hb5]; rfl, ⟨by omega, by omega⟩, by omega, by omega, by omega, by omega⟩, ⟨((Kept.refl _).alloc _).row hb4, ?_, by omega, by simp; omega⟩, HK2.out.trans hk5⟩
      exact (HOW2.out.alloc _).alloc _
    generalize (w2.alloc (.cells #[.slice (some ⟨W1.heap.size, 0, none⟩) 0 lo] 85)).alloc (.cells #[.func (.func 38) #[] #[.pointer (some ⟨w.heap.size, 0, none⟩), .pointer (some ⟨w2.heap.size, 0, none⟩), .pointer (some ⟨w2.heap.size + 1, 0, none⟩)]] 86) = w5 at *
    generalize w2.heap.size + 1 = bp at *
    generalize w2.heap.size = bt at *
    generalize W1.heap.size = r at *
    have e1 := HE5.out.1.cg
    have e2 := HE5.out.1.cp
    have HKL : Hid (k < L.length) := by rw [HN.out]; exact hk
    go_wp2_with fail
    refine (put_any HH.out HL.out (by rw [HN.out]; omega) HLO2.out.1 k HKL.out w5 [] HE5.out.1 HE5.out.2.1 (by rw [HLO.out]; simp)).mono ?_
    rintro e w6 ⟨rfl, ht, hk6⟩
    rw [List.nil_append] at ht
    have HTX := Lib.hid ht
    have HK6 := Lib.hid hk6
    have b0 : w6.cell? ⟨bt, 0, none⟩ = some (.slice (some ⟨r, 0, none⟩) (textOf L (k : Int)).length lo) := by rw [cell_of_row _ _ _ _ _ _ ht.blk]; rfl
    have hconv := run_convert_bytes_back (P := Tryd.prog) w6 85 9 5 ⟨r, 0, none⟩ lo (textOf L (k : Int)) Tryd.underlying85 Tryd.underlying5 Tryd.underlying9 (fun j hj => ht.row.cells (g := r) rfl j _ (by simp [Lib.strCells, hj]))
    generalize textOf L (k : Int) = tt at *
    clear ht hk6 e1 e2
    go_wp2
    go_ret
    refine ⟨ret_s HT.out.symm, ?_⟩
    refine ⟨HK6.out.os.trans HE5.out.1.kept.os, HK6.out.tape.trans HE5.out.1.kept.tape, HK6.out.output.trans HE5.out.1.kept.output, Nat.le_trans HE5.out.1.kept.size HK6.out.size, fun q hq => (HK6.out.block q (Nat.lt_of_lt_of_le hq HE5.out.1.kept.size) ?_).trans (HE5.out.1.kept.block q hq)⟩
    have h5 := HE5.out.1.low
    rintro (e | e) <;> omega
  · have HT : Hid (textI L (k : Int) = []) := by show _ = _; unfold textI; rw [if_pos hb, if_neg hs]
    clear hb
    have d1 : decide ((65536 : Int) < (lo : Int)) = true := decide_eq_true (by omega)
    clear hlt hs hpos
    generalize hn : L.length = n at *
    have HN := Lib.hid hn; clear hn
    go_enter Tryd.func21, Tryd.ntmps21
    go_wp2_with ((go_at_call 36; refine (has_cell _ _ _ _ _ _ HG.out.cell0).mono ?_; rintro e w' ⟨rfl, rfl⟩; rw [HN.out, HB.out]))
    go_ret
    exact ⟨ret_s HT.out.symm, (Kept.refl _).alloc _⟩
theorem text_any {B g m c : Nat} {sa : Option Addr} {L : List Nd} {w : World} (h : GraphAt B w g m sa c L) (hL : Laid w) (hlen : L.length ≤ 900) (i : Int) :
    Calls Tryd.prog 21 #[.pointer (some ⟨g, 0, none⟩), .int .i64 i] w fun e w' => e = .returned (str (textI L i)) ∧ Kept w w' := by
  cases hb : hasB L.length i with
  | false =>
    have e : textI L i = [] := by unfold textI; rw [hb]; rfl
    rw [e]
    exact text_none h i hb
  | true =>
    obtain ⟨h0, h1⟩ := (hasB_iff _ _).1 hb
    obtain ⟨k, rfl⟩ : ∃ k : Nat, i = k := ⟨i.toNat, by omega⟩
    exact text_has h hL hlen k (by omega)
end Go.Proofs.YtjhmbbioplhcgaaDoor
