/-
  Several texts in one: TPut: Layer 2: the contract of the closure that puts a term's text behind what is there.; TText: Layer 2: the contract of Text: a term's text, or none if it is too long..
-/
import Derived.Test.YtgkjdmojbndicaaGreatDoorMF
import Derived.Test.YtgkjdmojbndicaaGreatDoorMA
import Derived.Room.AppendFits
import Derived.StillTailTactics
import Derived.Laws.IdiomStrings
namespace Go.Proofs.YtgkjdmojbndicaaGreatDoor
open Go Go.RowKit

/-- The text so far: block bt holds a slice of the bytes l, in row r, that has room for cap. -/
structure TextAt (B : Nat) (w : World) (bt r cap : Nat) (l : List UInt8) : Prop where
  blk : w.heap[bt]? = some (.cells #[.slice (some ⟨r, 0, none⟩) l.length cap] 100 (0, 0))
  row : w.ownsRow B 5 1 (.slice (some ⟨r, 0, none⟩) l.length cap) l.length (Lib.strCells ⟨l.toArray⟩)
  ne : r ≠ bt
  room : l.length ≤ cap ∧ cap ≤ 70000
def Put2 (bt r : Nat) (q : Nat) : Prop := q = bt ∨ q = r
theorem TextAt.turned {B bt r cap : Nat} {l : List UInt8} {w w' : World} {T : Nat → Prop} (h : TextAt B w bt r cap l) (k : Turned T w w') (hT : ¬ T bt ∧ ¬ T r) : TextAt B w' bt r cap l :=
  ⟨(k.block bt (Array.getElem?_eq_some_iff.1 h.blk).1 hT.1).trans h.blk, ownsRow_block h.row fun q hq => by
    have : r = q := by simpa [Value.ownBlock] using hq
    subst this
    exact k.block r (h.row.lt r rfl).2 hT.2, h.ne, h.room⟩
theorem TextAt.kept {B bt r cap : Nat} {l : List UInt8} {w w' : World} (h : TextAt B w bt r cap l) (k : Kept w w') : TextAt B w' bt r cap l := h.turned (k.turned fun _ => False) ⟨fun h => h, fun h => h⟩
theorem strCells_mk (l s : List UInt8) : Lib.strCells ⟨l.toArray⟩ ++ Lib.strCells ⟨s.toArray⟩ = Lib.strCells ⟨(l ++ s).toArray⟩ := by simp [Lib.strCells]
/-- Behind an append that fits, and its store. -/
theorem TextAt.step {B bt r cap : Nat} {l s : List UInt8} {w w2 : World} (h : TextAt B w bt r cap l) (hroom : l.length + s.length ≤ cap)
    (hown : w2.ownsRow B 5 1 (.slice (some ⟨r, 0, none⟩) (l.length + s.length) cap) (l.length + s.length) (Lib.strCells ⟨l.toArray⟩ ++ Lib.strCells ⟨s.toArray⟩)) (hg : w.grownBy w2 (some r)) :
    TextAt B (w2.setCell ⟨bt, 0, none⟩ (.slice (some ⟨r, 0, none⟩) (l.length + s.length) cap)) bt r cap (l ++ s) ∧ Turned (Put2 bt r) w (w2.setCell ⟨bt, 0, none⟩ (.slice (some ⟨r, 0, none⟩) (l.length + s.length) cap)) := by
  have hbt : bt < w.heap.size := (Array.getElem?_eq_some_iff.1 h.blk).1
  have hb2 : w2.heap[bt]? = some (.cells #[.slice (some ⟨r, 0, none⟩) l.length cap] 100 (0, 0)) := (hg.block bt hbt (fun e => h.ne (by simpa using e.symm))).trans h.blk
  have hlen : (l ++ s).length = l.length + s.length := by simp
  refine ⟨⟨?_, ?_, h.ne, by rw [hlen]; exact ⟨hroom, h.room.2⟩⟩, ?_⟩
  · rw [hlen]; exact setCell_row hb2 0 _
  · rw [hlen, ← strCells_mk]
    refine ownsRow_block hown fun q hq => ?_
    have : r = q := by simpa [Value.ownBlock] using hq
    subst this
    exact Below.heap_setCell _ _ _ _ h.ne
  · exact (Turned.grown hg fun k hk => Or.inr (by simpa using hk.symm)).trans (Turned.setCell _ _ _ (Or.inl rfl))

/-- What the closure has caught, and the graph behind it. -/
structure PutEnv (W0 w : World) (g bg bt bp r : Nat) : Prop where
  kept : Kept W0 w
  cg : w.cell? ⟨bg, 0, none⟩ = some (.pointer (some ⟨g, 0, none⟩))
  cp : w.cell? ⟨bp, 0, none⟩ = some (.func (.func 58) #[] #[.pointer (some ⟨bg, 0, none⟩), .pointer (some ⟨bt, 0, none⟩), .pointer (some ⟨bp, 0, none⟩)])
  low : W0.heap.size ≤ bt ∧ W0.heap.size ≤ r
  ne : bg ≠ bt ∧ bg ≠ r ∧ bp ≠ bt ∧ bp ≠ r
theorem PutEnv.turned {W0 w w' : World} {g bg bt bp r : Nat} (h : PutEnv W0 w g bg bt bp r) (k : Turned (Put2 bt r) w w') : PutEnv W0 w' g bg bt bp r := by
  have hs := h.kept.size
  refine ⟨⟨k.os.trans h.kept.os, k.tape.trans h.kept.tape, k.output.trans h.kept.output, Nat.le_trans hs k.size, fun q hq => (k.block q (by omega) ?_).trans (h.kept.block q hq)⟩, k.cell h.cg ?_, k.cell h.cp ?_, h.low, h.ne⟩
  · rintro (e | e)
    · have := h.low.1; omega
    · have := h.low.2; omega
  · rintro (e | e)
    · exact h.ne.1 e
    · exact h.ne.2.1 e
  · rintro (e | e)
    · exact h.ne.2.2.1 e
    · exact h.ne.2.2.2 e

/-- The world in the midst of a call of the closure that began in w0. -/
structure PB (B : Nat) (W0 w0 w : World) (g bg bt bp r cap b1 b2 : Nat) (d : Nd) (m0 m1 m2 l : List UInt8) : Prop where
  env : PutEnv W0 w g bg bt bp r
  text : TextAt B w bt r cap l
  box : w.heap[b1]? = some (nodeObj d)
  mks : w.heap[b2]? = some (.cells #[str m0, str m1, str m2] 102 (0, 0))
  tur : Turned (Put2 bt r) w0 w
  ne : ¬ Put2 bt r b1 ∧ ¬ Put2 bt r b2
section
variable {B g bg bt bp r cap b1 b2 : Nat} {W0 w0 w w' : World} {d : Nd} {m0 m1 m2 l l' : List UInt8}
theorem PB.turned (h : PB B W0 w0 w g bg bt bp r cap b1 b2 d m0 m1 m2 l) (k : Turned (Put2 bt r) w w') (ht : TextAt B w' bt r cap l') : PB B W0 w0 w' g bg bt bp r cap b1 b2 d m0 m1 m2 l' :=
  ⟨h.env.turned k, ht, (k.block b1 (Array.getElem?_eq_some_iff.1 h.box).1 h.ne.1).trans h.box, (k.block b2 (Array.getElem?_eq_some_iff.1 h.mks).1 h.ne.2).trans h.mks, h.tur.trans k, h.ne⟩
theorem PB.kept (h : PB B W0 w0 w g bg bt bp r cap b1 b2 d m0 m1 m2 l) (k : Kept w w') : PB B W0 w0 w' g bg bt bp r cap b1 b2 d m0 m1 m2 l := h.turned (k.turned _) (h.text.kept k)
theorem PB.facts (h : PB B W0 w0 w g bg bt bp r cap b1 b2 d m0 m1 m2 l) :
    w.cell? ⟨bg, 0, none⟩ = some (.pointer (some ⟨g, 0, none⟩)) ∧ w.cell? ⟨bp, 0, none⟩ = some (.func (.func 58) #[] #[.pointer (some ⟨bg, 0, none⟩), .pointer (some ⟨bt, 0, none⟩), .pointer (some ⟨bp, 0, none⟩)]) ∧
    w.cell? ⟨bt, 0, none⟩ = some (.slice (some ⟨r, 0, none⟩) l.length cap) ∧ w.frozen? ⟨bt, 0, none⟩ = false ∧
    w.cell? ⟨b2, 0, none⟩ = some (str m0) ∧ w.cell? ⟨b2, 1, none⟩ = some (str m1) ∧ w.cell? ⟨b2, 2, none⟩ = some (str m2) ∧
    w.cell? ⟨b1, 0, none⟩ = some (.int .u8 d.k) ∧ w.cell? ⟨b1, 1, none⟩ = some (.int .i64 d.n) ∧ w.cell? ⟨b1, 2, none⟩ = some (.int .i64 d.a) ∧ w.cell? ⟨b1, 3, none⟩ = some (.int .u8 d.o) ∧ w.cell? ⟨b1, 4, none⟩ = some (.int .i64 d.x) ∧ w.cell? ⟨b1, 5, none⟩ = some (.int .i64 d.y) := by
  obtain ⟨x0, x1, x2, x3, x4, x5⟩ := box_facts h.box (Kept.refl w)
  refine ⟨h.env.cg, h.env.cp, ?_, frozen_of_row h.text.blk 0, ?_, ?_, ?_, x0, x1, x2, x3, x4, x5⟩
  · rw [cell_of_row _ _ _ _ _ _ h.text.blk]; rfl
  · rw [cell_of_row _ _ _ _ _ _ h.mks]; rfl
  · rw [cell_of_row _ _ _ _ _ _ h.mks]; rfl
  · rw [cell_of_row _ _ _ _ _ _ h.mks]; rfl
end
theorem infoU8 : (Tryz.prog.info? 5).map (fun i => (i.zero, i.size, i.bytes)) = some (some (.int .u8 0), 1, 1) := by kernel_rfl
/-- append of a text that fits, at a step of a region that draws its order. -/
theorem step_fits {ops : Array Oper} {o : Oper} {a : Act} {w : World} {K : Act → World → Prop} {Q : Exit → Act → World → Prop} {E : Prop} (hgd : o.guard = none) (sl x : Operand)
    (ho : o.op = .call { callee := .builtin .append, args := #[sl, x], argTypes := #[100, 9] })
    (B n cap r : Nat) (xs : List Value) (s : ByteArray) (hs : a.eval sl = .slice (some ⟨r, 0, none⟩) n cap) (hown : w.ownsRow B 5 1 (.slice (some ⟨r, 0, none⟩) n cap) n xs) (hx : a.eval x = .string s) (h1 : 0 < cap) (hroom : n + s.size ≤ cap)
    (h : ∀ w', w'.ownsRow B 5 1 (.slice (some ⟨r, 0, none⟩) (n + s.size) cap) (n + s.size) (xs ++ Lib.strCells s) → w.grownBy w' (some r) → K (a.put o.dst (.slice (some ⟨r, 0, none⟩) (n + s.size) cap)) w') :
    if Region.wanted o (yielded ops a.tmps) = true then Oper.wp Tryz.prog o a w K Q else E := by
  have hw : Region.wanted o (yielded ops a.tmps) = true := by simp [Region.wanted, hgd]
  rw [if_pos hw]
  obtain ⟨i, hi, _, hsz, _⟩ := info_parts infoU8
  obtain ⟨w', hr, h2, h3⟩ := Lib.run_append_fits_string (P := Tryz.prog) w B 100 9 o.type 5 i Tryz.underlying100 Tryz.underlying9 hi hsz (some ⟨r, 0, none⟩) n cap xs hown s h1 hroom
  unfold Oper.wp execOp
  simp only [ho, resolve, invoke, builtin, Sem.run_bind, Sem.run_pure, Result.andThen_ok, List.map_toArray, List.map_cons, List.map_nil, hs, hx, hr]
  exact h w' h2 h3

/-- The closure puts a term's text behind what is there. -/
def Puts (B : Nat) (W0 : World) (g bg bt bp r cap : Nat) (j : Nat) (t : List UInt8) : Prop := ∀ w' l', PutEnv W0 w' g bg bt bp r → TextAt B w' bt r cap l' → l'.length + t.length ≤ cap →
  Calls Tryz.prog 58 #[.int .i64 j, .pointer (some ⟨bg, 0, none⟩), .pointer (some ⟨bt, 0, none⟩), .pointer (some ⟨bp, 0, none⟩)] w' fun e w'' => e = .returned (.tuple #[]) ∧ TextAt B w'' bt r cap (l' ++ t) ∧ Turned (Put2 bt r) w' w''

set_option maxRecDepth 100000 in
set_option maxHeartbeats 8000000 in
theorem put0 {B g m c : Nat} {sa : Option Addr} {L : List Nd} {W0 w : World} {bg bt bp r cap : Nat} {l : List UInt8} (hG : GraphAt B W0 g m sa c L) (hL : Laid W0) (hE : PutEnv W0 w g bg bt bp r) (hT : TextAt B w bt r cap l)
    (k : Nat) (hk : k < L.length) (d : Nd) (hd : L[k] = d) (k3 : (d.k == 3) = false) (k4 : (d.k == 4) = false) (hroom : l.length + (mark0 d).length ≤ cap) (hlen : L.length ≤ 900) (hcap0 : 0 < cap) :
    Calls Tryz.prog 58 #[.int .i64 k, .pointer (some ⟨bg, 0, none⟩), .pointer (some ⟨bt, 0, none⟩), .pointer (some ⟨bp, 0, none⟩)] w fun e w' => e = .returned (.tuple #[]) ∧ TextAt B w' bt r cap (l ++ (mark0 d)) ∧ Turned (Put2 bt r) w w' := by
  obtain ⟨r0, rfl, _, hr0, _, hcap, hmx, hcell⟩ := (hG.kept hE.kept).rowAt (by omega)
  have hdOk : d.Ok := hd ▸ hG.good.ok _ (List.getElem_mem hk)
  have hdM : mayB k d = true := hd ▸ hG.good.may k hk
  have hkd : (kAt (kps L) (k : Int)).d = d := by
    rw [kAt_d hk, List.getD_eq_getElem?_getD, List.getElem?_eq_getElem hk, hd]; rfl
  have hq := hcell k _ (kAt_get hk)
  have hc0 := hq 0 _ rfl
  have hc1 := hq 1 _ rfl
  have hc2 := hq 2 _ rfl
  have hc3 := hq 3 _ rfl
  have hc4 := hq 4 _ rfl
  have hc5 := hq 5 _ rfl
  simp only [Nat.add_zero, hkd] at hc0 hc1 hc2 hc3 hc4 hc5
  clear hq hcell
  have g0 := (hG.kept hE.kept).cell0
  have e1 := hE.cg
  have hgl := (hG.kept hE.kept).gLt
  have hbl := World.block_lt_of_cell? w _ hE.cg
  simp only at hbl
  unfold maxLen at hmx
  clear hd
  have hk1 : (k : Int) < (L.length : Int) := by omega
  have hk0 : (0 : Int) ≤ (k : Int) := Int.natCast_nonneg _
  try simp only [List.length_append] at hroom
  generalize hn : L.length = n at *
  have HN := Lib.hid hn; clear hn
  have HE := Lib.hid hE; clear hE
  have HT := Lib.hid hT; clear hT
  have HL := Lib.hid (hL.kept HE.out.kept); clear hL
  have HOK := Lib.hid hdOk; clear hdOk
  have HDM := Lib.hid hdM; clear hdM
  have HKD := Lib.hid hkd; clear hkd
  clear hG
  go_enter Tryz.func58, Tryz.ntmps58
  go_wp2_with fail
  have HB1 := Lib.hid ((MapKept.heap_alloc w (nodeObj d)).1)
  have HKW := Lib.hid ((Kept.refl w).alloc (nodeObj d))
  change Calls _ _ #[d.val] (w.alloc (nodeObj d)) _
  have HNB : Hid (bt < w.heap.size ∧ r < w.heap.size) := ⟨(Array.getElem?_eq_some_iff.1 HT.out.blk).1, (HT.out.row.lt r rfl).2⟩
  generalize w.alloc (nodeObj d) = W at *
  generalize hbb : w.heap.size = b1 at *
  have HBB := Lib.hid hbb; clear hbb
  refine (marks_any d _ k HOK.out HDM.out (HL.out.kept HKW.out)).mono ?_
  rintro e w1 ⟨rfl, hk⟩
  have HK1 := Lib.hid (HKW.out.trans hk)
  have HB2 := Lib.hid (hk.row HB1.out); clear hk HB1
  generalize hm0 : mark0 d = m0 at *
  generalize hm1 : mark1 d = m1 at *
  generalize hm2 : mark2 d = m2 at *
  have HM0 := Lib.hid hm0
  have HM1 := Lib.hid hm1
  have HM2 := Lib.hid hm2
  clear hm0 hm1 hm2 hc0 hc1 hc2 hc3 hc4 hc5 g0 e1
  go_upto_region 2 with (fail)
  have HP : Hid (PB B W0 w (w1.alloc (.cells #[str m0, str m1, str m2] 102)) g bg bt bp r cap b1 w1.heap.size d m0 m1 m2 l) := by
    have hka := HK1.out.alloc (.cells #[str m0, str m1, str m2] 102)
    refine ⟨HE.out.turned (hka.turned _), HT.out.kept hka, ((Kept.refl w1).alloc _).row HB2.out, (MapKept.heap_alloc w1 _).1, hka.turned _, ?_, ?_⟩
    · have := HNB.out; rintro (e | e) <;> omega
    · have h1 := HK1.out.size; have h2 := HNB.out; have h3 := HBB.out; rintro (e | e) <;> omega
  generalize w1.heap.size = b2 at *
  generalize w1.alloc (.cells #[str m0, str m1, str m2] 102) = w2 at *
  obtain ⟨f0, f1, f2, f3, f4, f5, f6, x0, x1, x2, x3, x4, x5⟩ := HP.out.facts
  obtain ⟨i8, hi8, _, hsz8, _⟩ := info_parts infoU8
  have HI8 := Lib.hid (And.intro hi8 hsz8); clear hi8 hsz8
  have HROW := Lib.hid HP.out.text.row
  have HROOM : Hid (0 < cap ∧ l.length + m0.length ≤ cap) := ⟨hcap0, by omega⟩
  have HBT : Hid (bt < w2.heap.size ∧ some bt ≠ some r) := ⟨(Array.getElem?_eq_some_iff.1 HP.out.text.blk).1, fun e => HP.out.text.ne (by simpa using e.symm)⟩
  go_upto_region 3 with (refine Lib.wpList_append_fits_string _ rfl _ _ _ _ rfl B 5 i8 Tryz.underlying100 Tryz.underlying9 HI8.out.1 HI8.out.2 (some ⟨r, 0, none⟩) l.length cap _ rfl HROW.out ⟨m0.toArray⟩ rfl HROOM.out.1 HROOM.out.2 ?_; intro w3 hown3 hgrow3; have c3 := (hgrow3.cell_far ⟨bt, 0, none⟩ HBT.out.1 HBT.out.2).trans f2; have z3 := (hgrow3.frozen_far ⟨bt, 0, none⟩ HBT.out.1 HBT.out.2).trans f3; have HOW3 := Lib.hid hown3; have HGR3 := Lib.hid hgrow3; clear hown3 hgrow3)
  have HST := Lib.hid (TextAt.step HP.out.text HROOM.out.2 HOW3.out HGR3.out)
  have HP3 := Lib.hid (HP.out.turned HST.out.2 HST.out.1)
  have hlen3 : (l ++ m0).length = l.length + m0.length := by simp
  generalize w3.setCell ⟨bt, 0, none⟩ (.slice (some ⟨r, 0, none⟩) (l.length + m0.length) cap) = w4 at *
  clear f0 f1 f2 f3 f4 f5 f6 x0 x1 x2 x3 x4 x5
  clear HST HP HOW3 HGR3 c3 z3 HROW HBT
  generalize hl1 : l ++ m0 = l1 at *
  have HL1 := Lib.hid hl1; clear hl1
  have HLEN3 := Lib.hid hlen3; clear hlen3
  obtain ⟨f0, f1, f2, f3, f4, f5, f6, x0, x1, x2, x3, x4, x5⟩ := HP3.out.facts
  go_wp2_with fail
  refine (parts0 _ _ _ _ _ _ _ k3 k4).mono ?_
  rintro e w5 ⟨rfl, hk⟩
  have HP5 := Lib.hid (HP3.out.kept hk)
  clear f0 f1 f2 f3 f4 f5 f6 x0 x1 x2 x3 x4 x5
  clear hk HP3
  obtain ⟨f0, f1, f2, f3, f4, f5, f6, x0, x1, x2, x3, x4, x5⟩ := HP5.out.facts
  go_wp2
  refine wp_loop_rounds 1 ?_
  rw [rounds_succ]
  go_wp2
  go_end0
  refine ⟨rfl, ?_, HP5.out.tur⟩
  rw [HM0.out, HL1.out]
  exact HP5.out.text

set_option maxRecDepth 100000 in
set_option maxHeartbeats 8000000 in
theorem put1 {B g m c : Nat} {sa : Option Addr} {L : List Nd} {W0 w : World} {bg bt bp r cap : Nat} {l : List UInt8} (hG : GraphAt B W0 g m sa c L) (hL : Laid W0) (hE : PutEnv W0 w g bg bt bp r) (hT : TextAt B w bt r cap l)
    (k : Nat) (hk : k < L.length) (d : Nd) (hd : L[k] = d) (k3 : d.k = 3) (j : Nat) (hy : d.y = (j : Int)) (ty : List UInt8) (hpy : Puts B W0 g bg bt bp r cap j ty) (hroom : l.length + (mark0 d ++ (ty ++ mark1 d)).length ≤ cap) (hlen : L.length ≤ 900) (hcap0 : 0 < cap) :
    Calls Tryz.prog 58 #[.int .i64 k, .pointer (some ⟨bg, 0, none⟩), .pointer (some ⟨bt, 0, none⟩), .pointer (some ⟨bp, 0, none⟩)] w fun e w' => e = .returned (.tuple #[]) ∧ TextAt B w' bt r cap (l ++ (mark0 d ++ (ty ++ mark1 d))) ∧ Turned (Put2 bt r) w w' := by
  obtain ⟨r0, rfl, _, hr0, _, hcap, hmx, hcell⟩ := (hG.kept hE.kept).rowAt (by omega)
  have hdOk : d.Ok := hd ▸ hG.good.ok _ (List.getElem_mem hk)
  have hdM : mayB k d = true := hd ▸ hG.good.may k hk
  have hkd : (kAt (kps L) (k : Int)).d = d := by
    rw [kAt_d hk, List.getD_eq_getElem?_getD, List.getElem?_eq_getElem hk, hd]; rfl
  have hq := hcell k _ (kAt_get hk)
  have hc0 := hq 0 _ rfl
  have hc1 := hq 1 _ rfl
  have hc2 := hq 2 _ rfl
  have hc3 := hq 3 _ rfl
  have hc4 := hq 4 _ rfl
  have hc5 := hq 5 _ rfl
  simp only [Nat.add_zero, hkd] at hc0 hc1 hc2 hc3 hc4 hc5
  clear hq hcell
  have g0 := (hG.kept hE.kept).cell0
  have e1 := hE.cg
  have hgl := (hG.kept hE.kept).gLt
  have hbl := World.block_lt_of_cell? w _ hE.cg
  simp only at hbl
  unfold maxLen at hmx
  clear hd
  have hk1 : (k : Int) < (L.length : Int) := by omega
  have hk0 : (0 : Int) ≤ (k : Int) := Int.natCast_nonneg _
  try simp only [List.length_append] at hroom
  generalize hn : L.length = n at *
  have HN := Lib.hid hn; clear hn
  have HE := Lib.hid hE; clear hE
  have HT := Lib.hid hT; clear hT
  have HL := Lib.hid (hL.kept HE.out.kept); clear hL
  have HOK := Lib.hid hdOk; clear hdOk
  have HDM := Lib.hid hdM; clear hdM
  have HKD := Lib.hid hkd; clear hkd
  clear hG
  have HY := Lib.hid hy; clear hy
  have HPY := Lib.hid hpy; clear hpy
  have HK34 := Lib.hid k3; clear k3
  go_enter Tryz.func58, Tryz.ntmps58
  go_wp2_with fail
  have HB1 := Lib.hid ((MapKept.heap_alloc w (nodeObj d)).1)
  have HKW := Lib.hid ((Kept.refl w).alloc (nodeObj d))
  change Calls _ _ #[d.val] (w.alloc (nodeObj d)) _
  have HNB : Hid (bt < w.heap.size ∧ r < w.heap.size) := ⟨(Array.getElem?_eq_some_iff.1 HT.out.blk).1, (HT.out.row.lt r rfl).2⟩
  generalize w.alloc (nodeObj d) = W at *
  generalize hbb : w.heap.size = b1 at *
  have HBB := Lib.hid hbb; clear hbb
  refine (marks_any d _ k HOK.out HDM.out (HL.out.kept HKW.out)).mono ?_
  rintro e w1 ⟨rfl, hk⟩
  have HK1 := Lib.hid (HKW.out.trans hk)
  have HB2 := Lib.hid (hk.row HB1.out); clear hk HB1
  generalize hm0 : mark0 d = m0 at *
  generalize hm1 : mark1 d = m1 at *
  generalize hm2 : mark2 d = m2 at *
  have HM0 := Lib.hid hm0
  have HM1 := Lib.hid hm1
  have HM2 := Lib.hid hm2
  clear hm0 hm1 hm2 hc0 hc1 hc2 hc3 hc4 hc5 g0 e1
  go_upto_region 2 with (fail)
  have HP : Hid (PB B W0 w (w1.alloc (.cells #[str m0, str m1, str m2] 102)) g bg bt bp r cap b1 w1.heap.size d m0 m1 m2 l) := by
    have hka := HK1.out.alloc (.cells #[str m0, str m1, str m2] 102)
    refine ⟨HE.out.turned (hka.turned _), HT.out.kept hka, ((Kept.refl w1).alloc _).row HB2.out, (MapKept.heap_alloc w1 _).1, hka.turned _, ?_, ?_⟩
    · have := HNB.out; rintro (e | e) <;> omega
    · have h1 := HK1.out.size; have h2 := HNB.out; have h3 := HBB.out; rintro (e | e) <;> omega
  generalize w1.heap.size = b2 at *
  generalize w1.alloc (.cells #[str m0, str m1, str m2] 102) = w2 at *
  obtain ⟨f0, f1, f2, f3, f4, f5, f6, x0, x1, x2, x3, x4, x5⟩ := HP.out.facts
  obtain ⟨i8, hi8, _, hsz8, _⟩ := info_parts infoU8
  have HI8 := Lib.hid (And.intro hi8 hsz8); clear hi8 hsz8
  have HROW := Lib.hid HP.out.text.row
  have HROOM : Hid (0 < cap ∧ l.length + m0.length ≤ cap) := ⟨hcap0, by omega⟩
  have HBT : Hid (bt < w2.heap.size ∧ some bt ≠ some r) := ⟨(Array.getElem?_eq_some_iff.1 HP.out.text.blk).1, fun e => HP.out.text.ne (by simpa using e.symm)⟩
  go_upto_region 3 with (refine Lib.wpList_append_fits_string _ rfl _ _ _ _ rfl B 5 i8 Tryz.underlying100 Tryz.underlying9 HI8.out.1 HI8.out.2 (some ⟨r, 0, none⟩) l.length cap _ rfl HROW.out ⟨m0.toArray⟩ rfl HROOM.out.1 HROOM.out.2 ?_; intro w3 hown3 hgrow3; have c3 := (hgrow3.cell_far ⟨bt, 0, none⟩ HBT.out.1 HBT.out.2).trans f2; have z3 := (hgrow3.frozen_far ⟨bt, 0, none⟩ HBT.out.1 HBT.out.2).trans f3; have HOW3 := Lib.hid hown3; have HGR3 := Lib.hid hgrow3; clear hown3 hgrow3)
  have HST := Lib.hid (TextAt.step HP.out.text HROOM.out.2 HOW3.out HGR3.out)
  have HP3 := Lib.hid (HP.out.turned HST.out.2 HST.out.1)
  have hlen3 : (l ++ m0).length = l.length + m0.length := by simp
  generalize w3.setCell ⟨bt, 0, none⟩ (.slice (some ⟨r, 0, none⟩) (l.length + m0.length) cap) = w4 at *
  clear f0 f1 f2 f3 f4 f5 f6 x0 x1 x2 x3 x4 x5
  clear HST HP HOW3 HGR3 c3 z3 HROW HBT
  generalize hl1 : l ++ m0 = l1 at *
  have HL1 := Lib.hid hl1; clear hl1
  have HLEN3 := Lib.hid hlen3; clear hlen3
  obtain ⟨f0, f1, f2, f3, f4, f5, f6, x0, x1, x2, x3, x4, x5⟩ := HP3.out.facts
  go_wp2_with fail
  rw [HK34.out, HY.out]
  refine (parts3 _ _ _ _ _ _).mono ?_
  rintro e w5 ⟨pb, rfl, hk, hpb, p0⟩
  have HPB : Hid (¬ Put2 bt r pb) := by
    have h1 := (Array.getElem?_eq_some_iff.1 HP3.out.text.blk).1
    have h2 := (HP3.out.text.row.lt r rfl).2
    rintro (e | e) <;> omega
  have HP5 := Lib.hid (HP3.out.kept hk)
  clear f0 f1 f2 f3 f4 f5 f6 x0 x1 x2 x3 x4 x5
  clear hk HP3 hpb
  obtain ⟨f0, f1, f2, f3, f4, f5, f6, x0, x1, x2, x3, x4, x5⟩ := HP5.out.facts
  go_wp2
  refine wp_loop_rounds 2 ?_
  rw [rounds_succ]
  go_wp2_with fail
  refine (HPY.out _ _ HP5.out.env HP5.out.text (by have := HLEN3.out; omega)).mono ?_
  rintro e w6 ⟨rfl, ht, hk⟩
  have HP6 := Lib.hid (HP5.out.turned hk ht)
  clear f0 f1 f2 f3 f4 f5 f6 x0 x1 x2 x3 x4 x5
  clear hk ht HP5
  have hlen5a : (l1 ++ ty).length = l1.length + ty.length := by simp
  generalize hl5a : l1 ++ ty = l5a at *
  have HL5a := Lib.hid hl5a; clear hl5a
  have HLEN5a := Lib.hid hlen5a; clear hlen5a
  obtain ⟨f0, f1, f2, f3, f4, f5, f6, x0, x1, x2, x3, x4, x5⟩ := HP6.out.facts
  go_wp2
  have HBT : Hid (bt < w6.heap.size ∧ some bt ≠ some r) := ⟨(Array.getElem?_eq_some_iff.1 HP6.out.text.blk).1, fun e => HP6.out.text.ne (by simpa using e.symm)⟩
  have HROW := Lib.hid HP6.out.text.row
  have HRM : Hid (l5a.length + m1.length ≤ cap) := by have := HLEN3.out; have := HLEN5a.out; show _ ≤ _; omega
  have hw1 : IntKind.i64.wrap 1 = 1 := by decide
  have hw2 : IntKind.i64.wrap 2 = 2 := by decide
  go_still_tail 5, (by kernel_rfl)
  change wpList _ _ _ _ _ w6.drew
  have f2d : w6.drew.cell? ⟨bt, 0, none⟩ = some (.slice (some ⟨r, 0, none⟩) l5a.length cap) := f2
  have f3d : w6.drew.frozen? ⟨bt, 0, none⟩ = false := f3
  have HROWd : Hid (w6.drew.ownsRow B 5 1 (.slice (some ⟨r, 0, none⟩) l5a.length cap) l5a.length (Lib.strCells ⟨l5a.toArray⟩)) := HROW.out
  generalize hwd : w6.drew = wd6 at *
  have HWD := Lib.hid hwd; clear hwd
  have HBTd : Hid (bt < wd6.heap.size ∧ some bt ≠ some r) := ⟨by rw [← HWD.out]; exact HBT.out.1, HBT.out.2⟩
  go_upto_region 4 with (refine Lib.wpList_append_fits_string _ rfl _ _ _ _ rfl B 5 i8 Tryz.underlying100 Tryz.underlying9 HI8.out.1 HI8.out.2 (some ⟨r, 0, none⟩) l5a.length cap _ rfl HROWd.out ⟨m1.toArray⟩ rfl HROOM.out.1 HRM.out ?_; intro w7 hown3 hgrow3; have c3 := (hgrow3.cell_far ⟨bt, 0, none⟩ HBTd.out.1 HBTd.out.2).trans f2d; have z3 := (hgrow3.frozen_far ⟨bt, 0, none⟩ HBTd.out.1 HBTd.out.2).trans f3d; have HOW3 := Lib.hid hown3; have HGRd := Lib.hid hgrow3; clear hown3 hgrow3)
  have HGR3 : Hid (w6.drew.grownBy w7 (some r)) := by have h := HGRd.out; rw [← HWD.out] at h; exact h
  have HST := Lib.hid (TextAt.step HP6.out.text HRM.out HOW3.out ⟨HGR3.out.os, HGR3.out.tape, HGR3.out.output, HGR3.out.size, HGR3.out.block⟩)
  have HP7 := Lib.hid (HP6.out.turned HST.out.2 HST.out.1)
  have hlen5b : (l5a ++ m1).length = l5a.length + m1.length := by simp
  generalize w7.setCell ⟨bt, 0, none⟩ (.slice (some ⟨r, 0, none⟩) (l5a.length + m1.length) cap) = v7 at *
  generalize hl5b : l5a ++ m1 = l5b at *
  have HL5b := Lib.hid hl5b; clear hl5b
  have HLEN5b := Lib.hid hlen5b; clear hlen5b
  clear f0 f1 f2 f3 f4 f5 f6 x0 x1 x2 x3 x4 x5
  clear HST HP6 HOW3 HGR3 c3 z3 HROW HBT HRM hw1 hw2 f2d f3d HROWd HBTd HGRd HWD
  obtain ⟨f0, f1, f2, f3, f4, f5, f6, x0, x1, x2, x3, x4, x5⟩ := HP7.out.facts
  rw [rounds_succ]
  go_wp2
  go_end0
  refine ⟨rfl, ?_, HP7.out.tur⟩
  have e : l ++ (mark0 d ++ (ty ++ mark1 d)) = l5b := by rw [HM0.out, HM1.out, ← HL5b.out, ← HL5a.out, ← HL1.out]; simp
  rw [e]
  exact HP7.out.text

set_option maxRecDepth 100000 in
set_option maxHeartbeats 8000000 in
theorem put2 {B g m c : Nat} {sa : Option Addr} {L : List Nd} {W0 w : World} {bg bt bp r cap : Nat} {l : List UInt8} (hG : GraphAt B W0 g m sa c L) (hL : Laid W0) (hE : PutEnv W0 w g bg bt bp r) (hT : TextAt B w bt r cap l)
    (k : Nat) (hk : k < L.length) (d : Nd) (hd : L[k] = d) (k4 : d.k = 4) (i j : Nat) (hx : d.x = (i : Int)) (hy : d.y = (j : Int)) (tx ty : List UInt8) (hpx : Puts B W0 g bg bt bp r cap i tx) (hpy : Puts B W0 g bg bt bp r cap j ty) (hroom : l.length + (mark0 d ++ (tx ++ (mark1 d ++ (ty ++ mark2 d)))).length ≤ cap) (hlen : L.length ≤ 900) (hcap0 : 0 < cap) :
    Calls Tryz.prog 58 #[.int .i64 k, .pointer (some ⟨bg, 0, none⟩), .pointer (some ⟨bt, 0, none⟩), .pointer (some ⟨bp, 0, none⟩)] w fun e w' => e = .returned (.tuple #[]) ∧ TextAt B w' bt r cap (l ++ (mark0 d ++ (tx ++ (mark1 d ++ (ty ++ mark2 d))))) ∧ Turned (Put2 bt r) w w' := by
  obtain ⟨r0, rfl, _, hr0, _, hcap, hmx, hcell⟩ := (hG.kept hE.kept).rowAt (by omega)
  have hdOk : d.Ok := hd ▸ hG.good.ok _ (List.getElem_mem hk)
  have hdM : mayB k d = true := hd ▸ hG.good.may k hk
  have hkd : (kAt (kps L) (k : Int)).d = d := by
    rw [kAt_d hk, List.getD_eq_getElem?_getD, List.getElem?_eq_getElem hk, hd]; rfl
  have hq := hcell k _ (kAt_get hk)
  have hc0 := hq 0 _ rfl
  have hc1 := hq 1 _ rfl
  have hc2 := hq 2 _ rfl
  have hc3 := hq 3 _ rfl
  have hc4 := hq 4 _ rfl
  have hc5 := hq 5 _ rfl
  simp only [Nat.add_zero, hkd] at hc0 hc1 hc2 hc3 hc4 hc5
  clear hq hcell
  have g0 := (hG.kept hE.kept).cell0
  have e1 := hE.cg
  have hgl := (hG.kept hE.kept).gLt
  have hbl := World.block_lt_of_cell? w _ hE.cg
  simp only at hbl
  unfold maxLen at hmx
  clear hd
  have hk1 : (k : Int) < (L.length : Int) := by omega
  have hk0 : (0 : Int) ≤ (k : Int) := Int.natCast_nonneg _
  try simp only [List.length_append] at hroom
  generalize hn : L.length = n at *
  have HN := Lib.hid hn; clear hn
  have HE := Lib.hid hE; clear hE
  have HT := Lib.hid hT; clear hT
  have HL := Lib.hid (hL.kept HE.out.kept); clear hL
  have HOK := Lib.hid hdOk; clear hdOk
  have HDM := Lib.hid hdM; clear hdM
  have HKD := Lib.hid hkd; clear hkd
  clear hG
  have HY := Lib.hid hy; clear hy
  have HPY := Lib.hid hpy; clear hpy
  have HK34 := Lib.hid k4; clear k4
  have HX := Lib.hid hx; clear hx
  have HPX := Lib.hid hpx; clear hpx
  go_enter Tryz.func58, Tryz.ntmps58
  go_wp2_with fail
  have HB1 := Lib.hid ((MapKept.heap_alloc w (nodeObj d)).1)
  have HKW := Lib.hid ((Kept.refl w).alloc (nodeObj d))
  change Calls _ _ #[d.val] (w.alloc (nodeObj d)) _
  have HNB : Hid (bt < w.heap.size ∧ r < w.heap.size) := ⟨(Array.getElem?_eq_some_iff.1 HT.out.blk).1, (HT.out.row.lt r rfl).2⟩
  generalize w.alloc (nodeObj d) = W at *
  generalize hbb : w.heap.size = b1 at *
  have HBB := Lib.hid hbb; clear hbb
  refine (marks_any d _ k HOK.out HDM.out (HL.out.kept HKW.out)).mono ?_
  rintro e w1 ⟨rfl, hk⟩
  have HK1 := Lib.hid (HKW.out.trans hk)
  have HB2 := Lib.hid (hk.row HB1.out); clear hk HB1
  generalize hm0 : mark0 d = m0 at *
  generalize hm1 : mark1 d = m1 at *
  generalize hm2 : mark2 d = m2 at *
  have HM0 := Lib.hid hm0
  have HM1 := Lib.hid hm1
  have HM2 := Lib.hid hm2
  clear hm0 hm1 hm2 hc0 hc1 hc2 hc3 hc4 hc5 g0 e1
  go_upto_region 2 with (fail)
  have HP : Hid (PB B W0 w (w1.alloc (.cells #[str m0, str m1, str m2] 102)) g bg bt bp r cap b1 w1.heap.size d m0 m1 m2 l) := by
    have hka := HK1.out.alloc (.cells #[str m0, str m1, str m2] 102)
    refine ⟨HE.out.turned (hka.turned _), HT.out.kept hka, ((Kept.refl w1).alloc _).row HB2.out, (MapKept.heap_alloc w1 _).1, hka.turned _, ?_, ?_⟩
    · have := HNB.out; rintro (e | e) <;> omega
    · have h1 := HK1.out.size; have h2 := HNB.out; have h3 := HBB.out; rintro (e | e) <;> omega
  generalize w1.heap.size = b2 at *
  generalize w1.alloc (.cells #[str m0, str m1, str m2] 102) = w2 at *
  obtain ⟨f0, f1, f2, f3, f4, f5, f6, x0, x1, x2, x3, x4, x5⟩ := HP.out.facts
  obtain ⟨i8, hi8, _, hsz8, _⟩ := info_parts infoU8
  have HI8 := Lib.hid (And.intro hi8 hsz8); clear hi8 hsz8
  have HROW := Lib.hid HP.out.text.row
  have HROOM : Hid (0 < cap ∧ l.length + m0.length ≤ cap) := ⟨hcap0, by omega⟩
  have HBT : Hid (bt < w2.heap.size ∧ some bt ≠ some r) := ⟨(Array.getElem?_eq_some_iff.1 HP.out.text.blk).1, fun e => HP.out.text.ne (by simpa using e.symm)⟩
  go_upto_region 3 with (refine Lib.wpList_append_fits_string _ rfl _ _ _ _ rfl B 5 i8 Tryz.underlying100 Tryz.underlying9 HI8.out.1 HI8.out.2 (some ⟨r, 0, none⟩) l.length cap _ rfl HROW.out ⟨m0.toArray⟩ rfl HROOM.out.1 HROOM.out.2 ?_; intro w3 hown3 hgrow3; have c3 := (hgrow3.cell_far ⟨bt, 0, none⟩ HBT.out.1 HBT.out.2).trans f2; have z3 := (hgrow3.frozen_far ⟨bt, 0, none⟩ HBT.out.1 HBT.out.2).trans f3; have HOW3 := Lib.hid hown3; have HGR3 := Lib.hid hgrow3; clear hown3 hgrow3)
  have HST := Lib.hid (TextAt.step HP.out.text HROOM.out.2 HOW3.out HGR3.out)
  have HP3 := Lib.hid (HP.out.turned HST.out.2 HST.out.1)
  have hlen3 : (l ++ m0).length = l.length + m0.length := by simp
  generalize w3.setCell ⟨bt, 0, none⟩ (.slice (some ⟨r, 0, none⟩) (l.length + m0.length) cap) = w4 at *
  clear f0 f1 f2 f3 f4 f5 f6 x0 x1 x2 x3 x4 x5
  clear HST HP HOW3 HGR3 c3 z3 HROW HBT
  generalize hl1 : l ++ m0 = l1 at *
  have HL1 := Lib.hid hl1; clear hl1
  have HLEN3 := Lib.hid hlen3; clear hlen3
  obtain ⟨f0, f1, f2, f3, f4, f5, f6, x0, x1, x2, x3, x4, x5⟩ := HP3.out.facts
  go_wp2_with fail
  rw [HK34.out, HX.out, HY.out]
  refine (parts4 _ _ _ _ _ _).mono ?_
  rintro e w5 ⟨pb, rfl, hk, hpb, p0, p1⟩
  have HPB : Hid (¬ Put2 bt r pb) := by
    have h1 := (Array.getElem?_eq_some_iff.1 HP3.out.text.blk).1
    have h2 := (HP3.out.text.row.lt r rfl).2
    rintro (e | e) <;> omega
  have HP5 := Lib.hid (HP3.out.kept hk)
  clear f0 f1 f2 f3 f4 f5 f6 x0 x1 x2 x3 x4 x5
  clear hk HP3 hpb
  obtain ⟨f0, f1, f2, f3, f4, f5, f6, x0, x1, x2, x3, x4, x5⟩ := HP5.out.facts
  go_wp2
  refine wp_loop_rounds 3 ?_
  rw [rounds_succ]
  go_wp2_with fail
  refine (HPX.out _ _ HP5.out.env HP5.out.text (by have := HLEN3.out; omega)).mono ?_
  rintro e w6 ⟨rfl, ht, hk⟩
  have HP6 := Lib.hid (HP5.out.turned hk ht)
  have p1x := hk.cell p1 HPB.out
  clear f0 f1 f2 f3 f4 f5 f6 x0 x1 x2 x3 x4 x5
  clear hk ht HP5
  clear p1; have p1 := p1x; clear p1x
  have hlen5a : (l1 ++ tx).length = l1.length + tx.length := by simp
  generalize hl5a : l1 ++ tx = l5a at *
  have HL5a := Lib.hid hl5a; clear hl5a
  have HLEN5a := Lib.hid hlen5a; clear hlen5a
  obtain ⟨f0, f1, f2, f3, f4, f5, f6, x0, x1, x2, x3, x4, x5⟩ := HP6.out.facts
  go_wp2
  have HBT : Hid (bt < w6.heap.size ∧ some bt ≠ some r) := ⟨(Array.getElem?_eq_some_iff.1 HP6.out.text.blk).1, fun e => HP6.out.text.ne (by simpa using e.symm)⟩
  have HROW := Lib.hid HP6.out.text.row
  have HRM : Hid (l5a.length + m1.length ≤ cap) := by have := HLEN3.out; have := HLEN5a.out; show _ ≤ _; omega
  have hw1 : IntKind.i64.wrap 1 = 1 := by decide
  have hw2 : IntKind.i64.wrap 2 = 2 := by decide
  go_still_tail 5, (by kernel_rfl)
  change wpList _ _ _ _ _ w6.drew
  have f2d : w6.drew.cell? ⟨bt, 0, none⟩ = some (.slice (some ⟨r, 0, none⟩) l5a.length cap) := f2
  have f3d : w6.drew.frozen? ⟨bt, 0, none⟩ = false := f3
  have HROWd : Hid (w6.drew.ownsRow B 5 1 (.slice (some ⟨r, 0, none⟩) l5a.length cap) l5a.length (Lib.strCells ⟨l5a.toArray⟩)) := HROW.out
  generalize hwd : w6.drew = wd6 at *
  have HWD := Lib.hid hwd; clear hwd
  have HBTd : Hid (bt < wd6.heap.size ∧ some bt ≠ some r) := ⟨by rw [← HWD.out]; exact HBT.out.1, HBT.out.2⟩
  go_upto_region 4 with (refine Lib.wpList_append_fits_string _ rfl _ _ _ _ rfl B 5 i8 Tryz.underlying100 Tryz.underlying9 HI8.out.1 HI8.out.2 (some ⟨r, 0, none⟩) l5a.length cap _ rfl HROWd.out ⟨m1.toArray⟩ rfl HROOM.out.1 HRM.out ?_; intro w7 hown3 hgrow3; have c3 := (hgrow3.cell_far ⟨bt, 0, none⟩ HBTd.out.1 HBTd.out.2).trans f2d; have z3 := (hgrow3.frozen_far ⟨bt, 0, none⟩ HBTd.out.1 HBTd.out.2).trans f3d; have HOW3 := Lib.hid hown3; have HGRd := Lib.hid hgrow3; clear hown3 hgrow3)
  have HGR3 : Hid (w6.drew.grownBy w7 (some r)) := by have h := HGRd.out; rw [← HWD.out] at h; exact h
  have HST := Lib.hid (TextAt.step HP6.out.text HRM.out HOW3.out ⟨HGR3.out.os, HGR3.out.tape, HGR3.out.output, HGR3.out.size, HGR3.out.block⟩)
  have HP7 := Lib.hid (HP6.out.turned HST.out.2 HST.out.1)
  have p1x := HST.out.2.cell p1 HPB.out
  have hlen5b : (l5a ++ m1).length = l5a.length + m1.length := by simp
  generalize w7.setCell ⟨bt, 0, none⟩ (.slice (some ⟨r, 0, none⟩) (l5a.length + m1.length) cap) = v7 at *
  generalize hl5b : l5a ++ m1 = l5b at *
  have HL5b := Lib.hid hl5b; clear hl5b
  have HLEN5b := Lib.hid hlen5b; clear hlen5b
  clear f0 f1 f2 f3 f4 f5 f6 x0 x1 x2 x3 x4 x5
  clear HST HP6 HOW3 HGR3 c3 z3 HROW HBT HRM hw1 hw2 f2d f3d HROWd HBTd HGRd HWD
  clear p1; have p1 := p1x; clear p1x
  obtain ⟨f0, f1, f2, f3, f4, f5, f6, x0, x1, x2, x3, x4, x5⟩ := HP7.out.facts
  rw [rounds_succ]
  go_wp2_with fail
  refine (HPY.out _ _ HP7.out.env HP7.out.text (by have := HLEN3.out; have := HLEN5a.out; have := HLEN5b.out; omega)).mono ?_
  rintro e w8 ⟨rfl, ht, hk⟩
  have HP8 := Lib.hid (HP7.out.turned hk ht)
  clear f0 f1 f2 f3 f4 f5 f6 x0 x1 x2 x3 x4 x5
  clear hk ht HP7
  have hlen7a : (l5b ++ ty).length = l5b.length + ty.length := by simp
  generalize hl7a : l5b ++ ty = l7a at *
  have HL7a := Lib.hid hl7a; clear hl7a
  have HLEN7a := Lib.hid hlen7a; clear hlen7a
  obtain ⟨f0, f1, f2, f3, f4, f5, f6, x0, x1, x2, x3, x4, x5⟩ := HP8.out.facts
  go_wp2
  have HBT : Hid (bt < w8.heap.size ∧ some bt ≠ some r) := ⟨(Array.getElem?_eq_some_iff.1 HP8.out.text.blk).1, fun e => HP8.out.text.ne (by simpa using e.symm)⟩
  have HROW := Lib.hid HP8.out.text.row
  have HRM : Hid (l7a.length + m2.length ≤ cap) := by have := HLEN3.out; have := HLEN5a.out; have := HLEN5b.out; have := HLEN7a.out; show _ ≤ _; omega
  have hw1 : IntKind.i64.wrap 1 = 1 := by decide
  have hw2 : IntKind.i64.wrap 2 = 2 := by decide
  go_still_tail 5, (by kernel_rfl)
  change wpList _ _ _ _ _ w8.drew
  have f2d : w8.drew.cell? ⟨bt, 0, none⟩ = some (.slice (some ⟨r, 0, none⟩) l7a.length cap) := f2
  have f3d : w8.drew.frozen? ⟨bt, 0, none⟩ = false := f3
  have HROWd : Hid (w8.drew.ownsRow B 5 1 (.slice (some ⟨r, 0, none⟩) l7a.length cap) l7a.length (Lib.strCells ⟨l7a.toArray⟩)) := HROW.out
  generalize hwd : w8.drew = wd8 at *
  have HWD := Lib.hid hwd; clear hwd
  have HBTd : Hid (bt < wd8.heap.size ∧ some bt ≠ some r) := ⟨by rw [← HWD.out]; exact HBT.out.1, HBT.out.2⟩
  go_upto_region 4 with (refine Lib.wpList_append_fits_string _ rfl _ _ _ _ rfl B 5 i8 Tryz.underlying100 Tryz.underlying9 HI8.out.1 HI8.out.2 (some ⟨r, 0, none⟩) l7a.length cap _ rfl HROWd.out ⟨m2.toArray⟩ rfl HROOM.out.1 HRM.out ?_; intro w9 hown3 hgrow3; have c3 := (hgrow3.cell_far ⟨bt, 0, none⟩ HBTd.out.1 HBTd.out.2).trans f2d; have z3 := (hgrow3.frozen_far ⟨bt, 0, none⟩ HBTd.out.1 HBTd.out.2).trans f3d; have HOW3 := Lib.hid hown3; have HGRd := Lib.hid hgrow3; clear hown3 hgrow3)
  have HGR3 : Hid (w8.drew.grownBy w9 (some r)) := by have h := HGRd.out; rw [← HWD.out] at h; exact h
  have HST := Lib.hid (TextAt.step HP8.out.text HRM.out HOW3.out ⟨HGR3.out.os, HGR3.out.tape, HGR3.out.output, HGR3.out.size, HGR3.out.block⟩)
  have HP9 := Lib.hid (HP8.out.turned HST.out.2 HST.out.1)
  have hlen7b : (l7a ++ m2).length = l7a.length + m2.length := by simp
  generalize w9.setCell ⟨bt, 0, none⟩ (.slice (some ⟨r, 0, none⟩) (l7a.length + m2.length) cap) = v9 at *
  generalize hl7b : l7a ++ m2 = l7b at *
  have HL7b := Lib.hid hl7b; clear hl7b
  have HLEN7b := Lib.hid hlen7b; clear hlen7b
  clear f0 f1 f2 f3 f4 f5 f6 x0 x1 x2 x3 x4 x5
  clear HST HP8 HOW3 HGR3 c3 z3 HROW HBT HRM hw1 hw2 f2d f3d HROWd HBTd HGRd HWD
  obtain ⟨f0, f1, f2, f3, f4, f5, f6, x0, x1, x2, x3, x4, x5⟩ := HP9.out.facts
  rw [rounds_succ]
  go_wp2
  go_end0
  refine ⟨rfl, ?_, HP9.out.tur⟩
  have e : l ++ (mark0 d ++ (tx ++ (mark1 d ++ (ty ++ mark2 d)))) = l7b := by rw [HM0.out, HM1.out, HM2.out, ← HL7b.out, ← HL7a.out, ← HL5b.out, ← HL5a.out, ← HL1.out]; simp
  rw [e]
  exact HP9.out.text

/-- put, at any term. -/
theorem put_any {B g m c : Nat} {sa : Option Addr} {L : List Nd} {W0 : World} {bg bt bp r cap : Nat} (hG : GraphAt B W0 g m sa c L) (hL : Laid W0) (hlen : L.length ≤ 900) (hcap0 : 0 < cap) :
    ∀ k, k < L.length → Puts B W0 g bg bt bp r cap k (textOf L (k : Int)) := by
  intro k
  induction k using Nat.strongRecOn with
  | _ k ih =>
    intro hk w l hE hT hroom
    have hm := hG.good.may k hk
    have hp := may_parts hm
    rw [textOf_eq L hG.good k hk] at hroom ⊢
    obtain ⟨d, hd⟩ : ∃ d, L[k] = d := ⟨_, rfl⟩
    rw [hd] at hroom hm hp ⊢
    by_cases k3 : d.k = 3
    · obtain ⟨hy0, hy1⟩ := hp d.y (by simp [partsOf, k3])
      have hy : d.y = ((d.y.toNat : Nat) : Int) := (Int.toNat_of_nonneg hy0).symm
      have e : text1 (texts L) d = mark0 d ++ (tAt (texts L) d.y ++ mark1 d) := by unfold text1; rw [if_pos k3]
      have hi := ih d.y.toNat (by omega) (by omega)
      unfold textOf at hi
      rw [← hy] at hi
      rw [e] at hroom ⊢
      exact put1 hG hL hE hT k hk d hd k3 d.y.toNat hy _ hi hroom hlen hcap0
    · by_cases k4 : d.k = 4
      · obtain ⟨hx0, hx1⟩ := hp d.x (by simp [partsOf, k4])
        obtain ⟨hy0, hy1⟩ := hp d.y (by simp [partsOf, k4])
        have hx : d.x = ((d.x.toNat : Nat) : Int) := (Int.toNat_of_nonneg hx0).symm
        have hy : d.y = ((d.y.toNat : Nat) : Int) := (Int.toNat_of_nonneg hy0).symm
        have e : text1 (texts L) d = mark0 d ++ (tAt (texts L) d.x ++ (mark1 d ++ (tAt (texts L) d.y ++ mark2 d))) := by unfold text1; rw [if_neg k3, if_pos k4]
        have hi := ih d.x.toNat (by omega) (by omega)
        have hj := ih d.y.toNat (by omega) (by omega)
        unfold textOf at hi hj
        rw [← hx] at hi
        rw [← hy] at hj
        rw [e] at hroom ⊢
        exact put2 hG hL hE hT k hk d hd k4 d.x.toNat d.y.toNat hx hy _ _ hi hj hroom hlen hcap0
      · have e : text1 (texts L) d = mark0 d := by unfold text1; rw [if_neg k3, if_neg k4]
        rw [e] at hroom ⊢
        exact put0 hG hL hE hT k hk d hd (by simpa using k3) (by simpa using k4) hroom hlen hcap0
end Go.Proofs.YtgkjdmojbndicaaGreatDoor

namespace Go.Proofs.YtgkjdmojbndicaaGreatDoor
open Go Go.RowKit

/-- What Text answers. -/
def textI (L : List Nd) (i : Int) : List UInt8 := if hasB L.length i then (if (textOf L i).length ≤ 65536 then textOf L i else []) else []

theorem decDigits_pos (u : Nat) : 0 < (Lib.decDigits u).length := by
  unfold Lib.decDigits
  split <;> simp
theorem itoa_pos (n : Int) : 0 < (Lib.itoa n).length := by
  unfold Lib.itoa
  split
  · simp
  · exact decDigits_pos _
theorem mark0_pos (d : Nd) : 0 < (mark0 d).length := by
  unfold mark0
  have := itoa_pos d.n
  split
  · exact this
  · split
    · simp
    · split <;> simp
theorem text1_pos (T : List (List UInt8)) (d : Nd) : 0 < (text1 T d).length := by
  have := mark0_pos d
  unfold text1
  split
  · simp; omega
  · split
    · simp; omega
    · exact this

theorem ret_s {a b : List UInt8} (h : a = b) : Ending.returned (str a) = .returned (str b) := by rw [h]

set_option maxHeartbeats 2000000 in
theorem text_none {B g m c : Nat} {sa : Option Addr} {L : List Nd} {w : World} (h : GraphAt B w g m sa c L) (i : Int) (hb : hasB L.length i = false) :
    Calls Tryz.prog 39 #[.pointer (some ⟨g, 0, none⟩), .int .i64 i] w fun e w' => e = .returned (str []) ∧ Kept w w' := by
  have HG := Lib.hid (h.kept ((Kept.refl w).alloc (.cells #[.pointer (some ⟨g, 0, none⟩)] 30)))
  have HB := Lib.hid hb; clear hb h
  go_enter Tryz.func39, Tryz.ntmps39
  go_wp2_with ((go_at_call 46; refine (has_cell _ _ _ _ _ _ HG.out.cell0).mono ?_; rintro e w' ⟨rfl, rfl⟩; rw [HB.out]))
  go_ret
  exact ⟨rfl, (Kept.refl _).alloc _⟩
theorem text_nil (i : Int) (w : World) :
    Calls Tryz.prog 39 #[.pointer none, .int .i64 i] w fun e w' => e = .returned (str []) ∧ Kept w w' := by
  go_enter Tryz.func39, Tryz.ntmps39
  go_wp2_with ((go_at_call 46; refine (has_nil _ _).mono ?_; rintro e w' ⟨rfl, rfl⟩))
  go_ret
  exact ⟨rfl, (Kept.refl _).alloc _⟩

set_option maxRecDepth 100000 in
set_option maxHeartbeats 8000000 in
theorem text_has {B g m c : Nat} {sa : Option Addr} {L : List Nd} {w : World} (h : GraphAt B w g m sa c L) (hL : Laid w) (hlen : L.length ≤ 900) (k : Nat) (hk : k < L.length) :
    Calls Tryz.prog 39 #[.pointer (some ⟨g, 0, none⟩), .int .i64 k] w fun e w' => e = .returned (str (textI L k)) ∧ Kept w w' := by
  have hb : hasB L.length (k : Int) = true := (hasB_iff _ _).2 ⟨by omega, by omega⟩
  obtain ⟨r0, rfl, _, hr0, _, hcap, hmx, hcell⟩ := h.rowAt (by omega)
  have hlo := hcell k _ (kAt_get hk) 7 _ rfl
  have hlt := long_text h.good k hk
  have hpos : 0 < (textOf L (k : Int)).length := by rw [textOf_eq L h.good k hk]; exact text1_pos _ _
  generalize (kAt (kps L) (k : Int)).long = lo at hlo hlt
  have HG := Lib.hid (h.kept ((Kept.refl w).alloc (.cells #[.pointer (some ⟨g, 0, none⟩)] 30)))
  have HH := Lib.hid h
  have HLO7 := Lib.hid hlo
  have HL := Lib.hid hL; clear hL
  have g0 := h.cell0
  have hgl := h.gLt
  have hgn : g ≠ w.heap.size := Nat.ne_of_lt h.gLt
  have hrn : r0 ≠ w.heap.size := Nat.ne_of_lt hr0
  have hBw : B ≤ w.heap.size := by have := h.low; omega
  have HB := Lib.hid hb
  unfold maxLen at hmx
  have hk1 : (k : Int) < (L.length : Int) := by omega
  have hk0 : (0 : Int) ≤ (k : Int) := Int.natCast_nonneg _
  clear h hcell
  by_cases hs : (textOf L (k : Int)).length ≤ 65536
  · have hlo' : lo = (textOf L (k : Int)).length := by omega
    have HT : Hid (textI L (k : Int) = textOf L (k : Int)) := by show _ = _; unfold textI; rw [if_pos hb, if_pos hs]
    clear hb
    have d1 : decide ((65536 : Int) < (lo : Int)) = false := decide_eq_false (by omega)
    have HLO := Lib.hid hlo'; clear hlo' hlt
    have HS := Lib.hid hs; clear hs
    have HPOS := Lib.hid hpos; clear hpos
    generalize hn : L.length = n at *
    have HN := Lib.hid hn; clear hn
    obtain ⟨i8, hi8, hz8, hsz8, hby8⟩ := info_parts infoU8
    have HI8 := Lib.hid (And.intro hi8 (And.intro hz8 (And.intro hsz8 hby8))); clear hi8 hz8 hsz8 hby8
    go_enter Tryz.func39, Tryz.ntmps39
    go_upto_region 3 with ((go_at_call 46; refine (has_cell _ _ _ _ _ _ HG.out.cell0).mono ?_; rintro e w' ⟨rfl, rfl⟩; rw [HN.out, HB.out]))
    have hBg := (MapKept.heap_alloc w (.cells #[.pointer (some ⟨g, 0, none⟩)] 30)).1
    have hKw := (Kept.refl w).alloc (.cells #[.pointer (some ⟨g, 0, none⟩)] 30)
    have hsz : (w.alloc (.cells #[.pointer (some ⟨g, 0, none⟩)] 30)).heap.size = w.heap.size + 1 := by simp
    have HBG := Lib.hid hBg; have HKW := Lib.hid hKw; have HSZ := Lib.hid hsz
    clear hBg hKw hsz g0 hlo
    generalize w.alloc (.cells #[.pointer (some ⟨g, 0, none⟩)] 30) = W1 at *
    have g0 := HG.out.cell0
    have g1 : W1.cell? ⟨w.heap.size, 0, none⟩ = some (.pointer (some ⟨g, 0, none⟩)) := by rw [cell_of_row _ _ _ _ _ _ HBG.out]; rfl
    have HRA : Hid (W1.cell? ⟨r0, k * 8 + 7, none⟩ = some (.int .i64 (lo : Int))) := HKW.out.cell HLO7.out
    have g2 := HRA.out
    rw [HN.out] at g0
    have HLO2 : Hid (0 < lo ∧ lo ≤ 65536) := by have h1 := HLO.out; have h2 := HS.out; have h3 := HPOS.out; show _ ∧ _; omega
    go_upto_region 4 with (refine wpList_make_own _ rfl _ _ _ rfl B 5 i8 _ 1 Tryz.underlying100 HI8.out.1 HI8.out.2.1 HI8.out.2.2.1 .i64 .i64 _ lo rfl rfl rfl (by rw [HI8.out.2.2.2]; have := HLO2.out; omega) (by unfold maxLen; have := HLO2.out; omega) (by have := HSZ.out; omega) ?_; intro w2 hown2 hgrow2; have HOW2 := Lib.hid hown2; have HGR2 := Lib.hid hgrow2; clear hown2 hgrow2)
    go_upto_region 6 with (fail)
    have HK2 : Hid (Kept W1 w2) := ⟨HGR2.out.os, HGR2.out.tape, HGR2.out.output, HGR2.out.size, fun q hq => HGR2.out.block q hq (by simp)⟩
    have HRL := Lib.hid (HOW2.out.lt W1.heap.size rfl).2
    have HS3 : Hid ((w2.alloc (.cells #[.slice (some ⟨W1.heap.size, 0, none⟩) 0 lo] 100)).heap.size = w2.heap.size + 1) := by show _ = _; simp
    have HE5 : Hid (PutEnv w ((w2.alloc (.cells #[.slice (some ⟨W1.heap.size, 0, none⟩) 0 lo] 100)).alloc (.cells #[.func (.func 58) #[] #[.pointer (some ⟨w.heap.size, 0, none⟩), .pointer (some ⟨w2.heap.size, 0, none⟩), .pointer (some ⟨w2.heap.size + 1, 0, none⟩)]] 101)) g w.heap.size w2.heap.size (w2.heap.size + 1) W1.heap.size ∧ TextAt B ((w2.alloc (.cells #[.slice (some ⟨W1.heap.size, 0, none⟩) 0 lo] 100)).alloc (.cells #[.func (.func 58) #[] #[.pointer (some ⟨w.heap.size, 0, none⟩), .pointer (some ⟨w2.heap.size, 0, none⟩), .pointer (some ⟨w2.heap.size + 1, 0, none⟩)]] 101)) w2.heap.size W1.heap.size lo [] ∧ Kept W1 ((w2.alloc (.cells #[.slice (some ⟨W1.heap.size, 0, none⟩) 0 lo] 100)).alloc (.cells #[.func (.func 58) #[] #[.pointer (some ⟨w.heap.size, 0, none⟩), .pointer (some ⟨w2.heap.size, 0, none⟩), .pointer (some ⟨w2.heap.size + 1, 0, none⟩)]] 101))) := by
      have hk5 := ((Kept.refl w2).alloc (.cells #[.slice (some ⟨W1.heap.size, 0, none⟩) 0 lo] 100)).alloc (.cells #[.func (.func 58) #[] #[.pointer (some ⟨w.heap.size, 0, none⟩), .pointer (some ⟨w2.heap.size, 0, none⟩), .pointer (some ⟨w2.heap.size + 1, 0, none⟩)]] 101)
      have hb5 := (MapKept.heap_alloc (w2.alloc (.cells #[.slice (some ⟨W1.heap.size, 0, none⟩) 0 lo] 100)) (.cells #[.func (.func 58) #[] #[.pointer (some ⟨w.heap.size, 0, none⟩), .pointer (some ⟨w2.heap.size, 0, none⟩), .pointer (some ⟨w2.heap.size + 1, 0, none⟩)]] 101)).1
      rw [HS3.out] at hb5
      have hb4 := (MapKept.heap_alloc w2 (.cells #[.slice (some ⟨W1.heap.size, 0, none⟩) 0 lo] 100)).1
      have h1 := HSZ.out
      have h2 := HRL.out
      have h3 := HK2.out.size
      have h4 := HLO2.out
      refine ⟨⟨HKW.out.trans (HK2.out.trans hk5), (HK2.out.trans hk5).cell g1, by rw [cell_of_row _ _ _ _ _ _ hb5]; rfl, ⟨by omega, by omega⟩, by omega, by omega, by omega, by omega⟩, ⟨((Kept.refl _).alloc _).row hb4, ?_, by omega, by simp; omega⟩, HK2.out.trans hk5⟩
      exact (HOW2.out.alloc _).alloc _
    generalize (w2.alloc (.cells #[.slice (some ⟨W1.heap.size, 0, none⟩) 0 lo] 100)).alloc (.cells #[.func (.func 58) #[] #[.pointer (some ⟨w.heap.size, 0, none⟩), .pointer (some ⟨w2.heap.size, 0, none⟩), .pointer (some ⟨w2.heap.size + 1, 0, none⟩)]] 101) = w5 at *
    generalize w2.heap.size + 1 = bp at *
    generalize w2.heap.size = bt at *
    generalize W1.heap.size = r at *
    have e1 := HE5.out.1.cg
    have e2 := HE5.out.1.cp
    have HKL : Hid (k < L.length) := by rw [HN.out]; exact hk
    go_wp2_with fail
    refine (put_any HH.out HL.out (by rw [HN.out]; omega) HLO2.out.1 k HKL.out w5 [] HE5.out.1 HE5.out.2.1 (by rw [HLO.out]; simp)).mono ?_
    rintro e w6 ⟨rfl, ht, hk6⟩
    rw [List.nil_append] at ht
    have HTX := Lib.hid ht
    have HK6 := Lib.hid hk6
    have b0 : w6.cell? ⟨bt, 0, none⟩ = some (.slice (some ⟨r, 0, none⟩) (textOf L (k : Int)).length lo) := by rw [cell_of_row _ _ _ _ _ _ ht.blk]; rfl
    have hconv := run_convert_bytes_back (P := Tryz.prog) w6 100 9 5 ⟨r, 0, none⟩ lo (textOf L (k : Int)) Tryz.underlying100 Tryz.underlying5 Tryz.underlying9 (fun j hj => ht.row.cells (g := r) rfl j _ (by simp [Lib.strCells, hj]))
    generalize textOf L (k : Int) = tt at *
    clear ht hk6 e1 e2
    go_wp2
    go_ret
    refine ⟨ret_s HT.out.symm, ?_⟩
    refine ⟨HK6.out.os.trans HE5.out.1.kept.os, HK6.out.tape.trans HE5.out.1.kept.tape, HK6.out.output.trans HE5.out.1.kept.output, Nat.le_trans HE5.out.1.kept.size HK6.out.size, fun q hq => (HK6.out.block q (Nat.lt_of_lt_of_le hq HE5.out.1.kept.size) ?_).trans (HE5.out.1.kept.block q hq)⟩
    have h5 := HE5.out.1.low
    rintro (e | e) <;> omega
  · have HT : Hid (textI L (k : Int) = []) := by show _ = _; unfold textI; rw [if_pos hb, if_neg hs]
    clear hb
    have d1 : decide ((65536 : Int) < (lo : Int)) = true := decide_eq_true (by omega)
    clear hlt hs hpos
    generalize hn : L.length = n at *
    have HN := Lib.hid hn; clear hn
    go_enter Tryz.func39, Tryz.ntmps39
    go_wp2_with ((go_at_call 46; refine (has_cell _ _ _ _ _ _ HG.out.cell0).mono ?_; rintro e w' ⟨rfl, rfl⟩; rw [HN.out, HB.out]))
    go_ret
    exact ⟨ret_s HT.out.symm, (Kept.refl _).alloc _⟩
theorem text_any {B g m c : Nat} {sa : Option Addr} {L : List Nd} {w : World} (h : GraphAt B w g m sa c L) (hL : Laid w) (hlen : L.length ≤ 900) (i : Int) :
    Calls Tryz.prog 39 #[.pointer (some ⟨g, 0, none⟩), .int .i64 i] w fun e w' => e = .returned (str (textI L i)) ∧ Kept w w' := by
  cases hb : hasB L.length i with
  | false =>
    have e : textI L i = [] := by unfold textI; rw [hb]; rfl
    rw [e]
    exact text_none h i hb
  | true =>
    obtain ⟨h0, h1⟩ := (hasB_iff _ _).1 hb
    obtain ⟨k, rfl⟩ : ∃ k : Nat, i = k := ⟨i.toNat, by omega⟩
    exact text_has h hL hlen k (by omega)
end Go.Proofs.YtgkjdmojbndicaaGreatDoor
