/-
  Layer 5: a text of one's own that grows, in memory; the laid table.
-/
import Derived.Test.YtlikokeknfhejaaGreatDoorCRightL
import Derived.Test.YtlikokeknfhejaaGreatDoorShelf
import Derived.Lib.ItoaLen
import Derived.Lib.ItoaNum
namespace Go.Proofs.YtlikokeknfhejaaGreatDoor
open Go Go.RowKit Go.Lib

/-- The table that the program's text lays. -/
structure Laid (w : World) : Prop where
  pow : Lib.TabIs Tryz.prog w "internal/strconv.uint64pow10" .u64 Lib.pow10Tab
theorem Laid.kept {w w' : World} (h : Laid w) (k : Kept w w') : Laid w' := ⟨Lib.tabBelow_of_tabIs h.pow _ k⟩
theorem infoU8 : (Tryz.prog.info? 5).map (fun i => (i.zero, i.size, i.bytes)) = some (some (.int .u8 0), 1, 1) := by kernel_rfl
/-- A text that was begun in the world W, and is L now. -/
structure TextAt (W w : World) (a : Option Addr) (c : Nat) (L : List UInt8) : Prop where
  row : w.ownsRow W.heap.size 5 1 (.slice a L.length c) L.length (byteCells L)
  kept : Kept W w
theorem byteCells_append (a b : List UInt8) : byteCells (a ++ b) = byteCells a ++ byteCells b := by unfold byteCells; exact List.map_append
theorem byteCells_one (b : List UInt8) : ∀ u ∈ byteCells b, u.oneCell' = true := by
  intro u hu
  obtain ⟨x, _, rfl⟩ := List.mem_map.1 hu
  rfl
theorem TextAt.more {W w w' : World} {a : Option Addr} {c : Nat} {L : List UInt8} (h : TextAt W w a c L) (k : Kept w w') : TextAt W w' a c L :=
  ⟨by
    refine h.row.kept (row := none) ⟨k.os, k.tape, k.output, k.size, fun i hi _ => k.block i hi⟩ ?_
    cases (Value.slice a L.length c).ownBlock <;> simp, h.kept.trans k⟩
set_option maxRecDepth 100000 in
/-- append(text, bytes ..). -/
theorem wpList_append_text {W w0 w : World} {ops : Array Oper} {rest : List Oper} {o : Oper} {a : Act} {Q : Exit → Act → World → Prop} (hgd : o.guard = none) (s x : Operand)
    (ho : o.op = .call { callee := .builtin .append, args := #[s, x], argTypes := #[26, 26] })
    (sa : Option Addr) (c : Nat) (L : List UInt8) (hs : a.eval s = .slice sa L.length c) (hT : TextAt W w0 sa c L) (bs : List UInt8) (cs : Array Value) (hcs : cs.toList = byteCells bs) (k : Nat) (hk : bs.length = k) (hb : 0 < k) (hw : w = w0.alloc (.cells cs 5)) (hx : a.eval x = .slice (some ⟨w0.heap.size, 0, none⟩) k k) (hlen : L.length ≤ 1000000000) (hkl : k ≤ 1000)
    (h : ∀ a' c' w' L', L' = L ++ bs → TextAt W w' a' c' L' → wpList Tryz.prog ops Q rest (a.put o.dst (.slice a' L'.length c')) w') : wpList Tryz.prog ops Q (o :: rest) a w := by
  subst hw
  obtain ⟨iu, hi, hz0, hz1, hz2⟩ := info_parts infoU8
  refine wpList_append_lies _ hgd s x 26 ho W.heap.size 5 iu _ 1 1 Tryz.underlying26 hi hz0 hz1 hz2 rfl (by omega) (.slice sa L.length c) L.length (byteCells L) hs (hT.row.alloc _) ⟨w0.heap.size, 0, none⟩ k k (byteCells bs) hx (by rw [byteCells_length, hk]; omega) (hcs ▸ World.news_of_block (cs := cs) (t := 5) (fr := (0, 0)) (heap_alloc_new w0 _)) (byteCells_one bs) hb (by unfold maxLen; omega) (by omega) (by have := hT.kept.size; simp; omega) (w0.heap.size + 1) (by simp) ?_
  intro g cap w' hown hgrow hat hlt
  have hl : (L ++ bs).length = L.length + k := by rw [List.length_append, hk]
  have hT' : TextAt W w' (some ⟨g, 0, none⟩) cap (L ++ bs) := by
    refine ⟨by rw [hl, byteCells_append]; exact hown, ?_⟩
    have tg : Turned (fun q => (Value.slice sa L.length c).ownBlock = some q) (w0.alloc (.cells cs 5)) w' := Turned.grown hgrow fun k hk => hk
    exact tg.from (hT.kept.alloc _) fun q hq e => by have := (hT.row.lt q e).1; omega
  have := h (some ⟨g, 0, none⟩) cap w' (L ++ bs) rfl hT'
  rwa [hl] at this
/-- strconv.AppendInt(text, n, 10). -/
theorem append_int {W w : World} (hW : Laid W) (n : Int) (hn : InR n) (a : Option Addr) (c : Nat) (L : List UInt8) (hT : TextAt W w a c L) (hlen : L.length ≤ 1000000000) :
    Calls Tryz.prog 34 #[.slice a L.length c, .int .i64 n, .int .i64 10] w fun e w' => ∃ a' c' L', L' = L ++ Lib.itoa n ∧ e = .returned (.slice a' L'.length c') ∧ TextAt W w' a' c' L' := by
  refine (Tryz.strconv_AppendInt_10 W.heap.size L.length n hn.1 hn.2 (.slice a L.length c) (byteCells L) w hT.row hT.kept.size (by omega) ((Lib.tabBelow_of_tabIs hW.pow).on hT.kept)).mono ?_
  rintro e w' ⟨v', rfl, hown, hbel, _⟩
  obtain ⟨a', c', rfl⟩ := slice_of_row hown
  refine ⟨a', c', L ++ Lib.itoa n, rfl, by rw [List.length_append], ⟨by rw [List.length_append, byteCells_append]; exact hown, ?_⟩⟩
  exact Below.trans hT.kept hbel
end Go.Proofs.YtlikokeknfhejaaGreatDoor
