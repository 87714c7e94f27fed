/-
  Layer 3: an append of all of another slice; arguments' slices with their capacity.
-/
import Derived.Test.YtjhmbbioplhcgaaGreatDoorVOpen
import Derived.Laws.AppendOwnNone
namespace Go.Proofs.YtjhmbbioplhcgaaGreatDoor
open Go Go.RowKit Go.ChangeShapes Go.WideShapes Go.Deep

theorem slice_of_row {w : World} {base e size n : Nat} {v : Value} {xs : List Value} (h : w.ownsRow base e size v n xs) : ∃ a c, v = .slice a n c := by
  rcases h.2 with ⟨rfl, h0⟩ | ⟨r, cap, cur, hv, _⟩
  · subst h0; exact ⟨_, _, rfl⟩
  · exact ⟨_, _, hv⟩
theorem grown_refl (w : World) (r : Option Nat) : w.grownBy w r := ⟨rfl, rfl, rfl, Nat.le_refl _, fun _ _ _ => rfl⟩
set_option maxRecDepth 100000 in
/-- append(v, xs...), v a row of one's own, xs whatever slice. -/
theorem wpList_append_spread {w : World} {ops : Array Oper} {rest : List Oper} {o : Oper} {a : Act} {Q : Exit → Act → World → Prop} (hgd : o.guard = none) (s x : Operand) (t : TypeId)
    (ho : o.op = .call { callee := .builtin .append, args := #[s, x], argTypes := #[t, t] })
    (base : Nat) (e : TypeId) (i : TypeInfo) (z : Value) (size bytes : Nat) (ht : Tryz.prog.underlying t = some (.slice e)) (hi : Tryz.prog.info? e = some i) (hz : i.zero = some z)
    (hsize : i.size = size) (hby : i.bytes = bytes) (hzs : z.cells.size = size) (hsz : 0 < size)
    (v : Value) (n : Nat) (xs : List Value) (hs : a.eval s = v) (hown : w.ownsRow base e size v n xs)
    (sa : Option Addr) (m c : Nat) (news : List Value) (hx : a.eval x = .slice sa m c) (hnil : sa = none → m = 0 ∧ c = 0) (hl : news.length = m * size) (hnews : ∀ ad, sa = some ad → ∀ j u, news[j]? = some u → w.cell? (ad.add j) = some u) (h1 : ∀ u ∈ news, u.oneCell' = true)
    (h63 : n + m ≤ maxLen) (hbytes : (n + m) * bytes ≤ 140737488355328) (hbase : base ≤ w.heap.size)
    (h : ∀ a' c' w', w'.ownsRow base e size (.slice a' (n + m) c') (n + m) (xs ++ news) → w.grownBy w' v.ownBlock → wpList Tryz.prog ops Q rest (a.put o.dst (.slice a' (n + m) c')) w') : wpList Tryz.prog ops Q (o :: rest) a w := by
  cases sa with
  | none =>
    obtain ⟨rfl, rfl⟩ := hnil rfl
    have hn0 : news = [] := List.eq_nil_of_length_eq_zero (by rw [hl]; omega)
    subst hn0
    refine wpList_append_own_none hgd s x t ho base e i size ht hi v n xs hs hown hx ?_
    obtain ⟨a', c', rfl⟩ := slice_of_row hown
    exact h a' c' w (by rw [List.append_nil]; exact hown) (grown_refl _ _)
  | some ad =>
    refine wpList_append_own w hgd s x t ho base e i z size bytes ht hi hz hsize hby hzs hsz v n xs hs hown ad m c news hx hl (hnews ad rfl) h1 h63 hbytes hbase fun v' w' h2 h3 _ => ?_
    obtain ⟨a', c', rfl⟩ := slice_of_row h2
    exact h a' c' w' h2 h3
section
variable {H : Type} {enc : TypeId × Value → H} {w : World} {base : Nat} {spare : Nat → Bool}
theorem slice_nil {t e : TypeId} (ht : Tryz.prog.underlying t = some (.slice e)) {fuel : Nat} {a : Option Addr} {n c : Nat} {x : DataW H × List MemPlace} (h : DataW.trod enc Tryz.prog w base spare true fuel t [.slice a n c] = some x) : a = none → n = 0 ∧ c = 0 := by
  rcases open_slice ht h with ⟨hcs, _⟩ | ⟨ad, len, cap, _, _, _, _, hcs, _⟩
  · simp at hcs
    exact fun _ => ⟨hcs.2.1, hcs.2.2⟩
  · simp at hcs
    intro h; rw [hcs.1] at h; cases h
theorem nums_nil {fuel : Nat} {a : Option Addr} {n c : Nat} {x : DataW H × List MemPlace} (h : DataW.trod enc Tryz.prog w base spare true fuel 23 [.slice a n c] = some x) : a = none → n = 0 ∧ c = 0 :=
  slice_nil Tryz.underlying23 h
set_option maxRecDepth 100000 in
theorem env_nil {sa ca : Option Addr} {sn sc cn cc : Nat} {d : DataW H} {p : List MemPlace} (h : DataW.Trod enc Tryz.prog w base spare true 26 (.agg #[.slice sa sn sc, .slice ca cn cc]) d p) :
    (sa = none → sn = 0 ∧ sc = 0) ∧ (ca = none → cn = 0 ∧ cc = 0) := by
  obtain ⟨f0, f1, hs, t0, t1, hone⟩ := envFields
  obtain ⟨fuel, hf⟩ := h
  obtain ⟨y0, y1, m, _, _, h0, h1⟩ := trod_struct2 hs hf
  obtain ⟨o0, k0⟩ := hone_of hone 0 f0 rfl
  obtain ⟨o1, k1⟩ := hone_of hone 1 f1 rfl
  rw [o0, k0, t0] at h0
  rw [o1, k1, t1] at h1
  have e0 : (((Value.agg #[.slice sa sn sc, .slice ca cn cc]).cells.toList).drop 0).take 1 = [.slice sa sn sc] := rfl
  have e1 : (((Value.agg #[.slice sa sn sc, .slice ca cn cc]).cells.toList).drop 1).take 1 = [.slice ca cn cc] := rfl
  rw [e0] at h0
  rw [e1] at h1
  exact ⟨slice_nil Tryz.underlying23 h0, slice_nil Tryz.underlying24 h1⟩
end
def clCells (C : List Cl) : List Value := C.flatMap Cl.cells
theorem Cl.cells_len (c : Cl) : c.cells.length = 4 := rfl
theorem clCells_len (C : List Cl) : (clCells C).length = C.length * 4 := by
  unfold clCells
  induction C with
  | nil => rfl
  | cons q K ih => rw [List.flatMap_cons, List.length_append, ih, Cl.cells_len, List.length_cons]; omega
theorem clCells_one (C : List Cl) : ∀ u ∈ clCells C, u.oneCell' = true := by
  intro u hu
  obtain ⟨c, _, hc⟩ := List.mem_flatMap.1 hu
  simp only [Cl.cells, List.mem_cons, List.not_mem_nil, or_false] at hc
  rcases hc with rfl | rfl | rfl | rfl <;> rfl
theorem ints_one (S : List Int) : ∀ u ∈ S.map (Value.int .i64), u.oneCell' = true := by
  intro u hu
  obtain ⟨x, _, rfl⟩ := List.mem_map.1 hu
  rfl
theorem addr_at (b o j : Nat) : (⟨b, o, none⟩ : Addr).add j = ⟨b, o + j, none⟩ := by
  unfold Addr.add
  by_cases h0 : j = 0
  · subst h0; simp
  · simp [h0]
/-- A slice's cells, for the law. -/
theorem RootsAt.news {w : World} {sa : Option Addr} {n : Nat} {S : List Int} (h : RootsAt w sa n S) : ∀ ad, sa = some ad → ∀ j u, (S.map (Value.int .i64))[j]? = some u → w.cell? (ad.add j) = some u := by
  intro ad ha j u hj
  have hjl : j < S.length := by
    have := (List.getElem?_eq_some_iff.1 hj).1
    simpa using this
  obtain ⟨b, off, hl, hc⟩ := h.at_ (by rw [← h.len]; omega)
  rw [ha] at hl
  cases hl
  rw [List.getElem?_map, List.getElem?_eq_getElem hjl] at hj
  cases hj
  rw [addr_at]
  exact hc j _ (List.getElem?_eq_getElem hjl)
theorem CellsAt.news {w : World} {ca : Option Addr} {n : Nat} {C : List Cl} (h : CellsAt w ca n C) : ∀ ad, ca = some ad → ∀ j u, (clCells C)[j]? = some u → w.cell? (ad.add j) = some u := by
  intro ad ha j u hj
  have hjl : j < C.length * 4 := by
    have := (List.getElem?_eq_some_iff.1 hj).1
    rwa [clCells_len] at this
  have hq : j / 4 < C.length := by omega
  obtain ⟨b, off, hl, hc⟩ := h.at_ (by rw [← h.len]; omega)
  rw [ha] at hl
  cases hl
  have hf := flat_get Cl.cells 4 Cl.cells_len C (j / 4) (j % 4) C[j / 4] (List.getElem?_eq_getElem hq) (Nat.mod_lt _ (by decide))
  have e : j / 4 * 4 + j % 4 = j := by omega
  rw [e] at hf
  have hj' : (clCells C)[j]? = some u := hj
  unfold clCells at hj'
  rw [hf] at hj'
  rw [addr_at]
  have := hc (j / 4) _ (List.getElem?_eq_getElem hq) (j % 4) u hj'
  rwa [Nat.add_assoc, e] at this
/-- A row of cells that is owned, as a slice of cells. -/
theorem cells_of_row {w : World} {N n c : Nat} {e : TypeId} {a : Option Addr} {C : List Cl} (h : w.ownsRow N e 4 (.slice a n c) n (clCells C)) (hl : C.length = n) (hin : ∀ x ∈ C, x.Ok) : CellsAt w a n C := by
  refine ⟨hl, hin, fun hn => ?_⟩
  obtain ⟨_, h2⟩ := h
  rcases h2 with ⟨_, h0⟩ | ⟨r, cap', cur, hv, hB, hblk, hle, hmx, hsz, htk⟩
  · omega
  · injection hv with ha _ _
    refine ⟨r, 0, ha, fun j x hj i v hv => ?_⟩
    have hi : i < 4 := by
      rcases Nat.lt_or_ge i 4 with h6 | h6
      · exact h6
      · rw [List.getElem?_eq_none (by rw [Cl.cells_len]; exact h6)] at hv; cases hv
    have hf := flat_get Cl.cells 4 Cl.cells_len C j i x hj hi
    rw [hv] at hf
    rw [Nat.zero_add, cell_of_row _ _ _ _ _ _ hblk]
    have hf' : (clCells C)[j * 4 + i]? = some v := hf
    rw [← htk, List.getElem?_take] at hf'
    split at hf'
    · simpa using hf'
    · cases hf'
end Go.Proofs.YtjhmbbioplhcgaaGreatDoor
