/-
  Layer 2: the walk of TermAdds.
-/
import Derived.Test.YtjhmbbioplhcgaaDoorTRAdd
namespace Go.Proofs.YtjhmbbioplhcgaaDoor
open Go Go.RowKit

theorem neq_node (d e : Nd) (w : World) : (binOp .neq 34 d.val e.val).run Tryd.prog w = .ok (.bool (!d.eqb e)) w := by
  have hS : Tryd.prog.underlying 34 = some (.struct (Tryd.prog.fieldsOf 34)) := by kernel_rfl
  have hp : Tryd.prog.stoodInHeld 34 = false := by kernel_rfl
  have u5 := Tryd.underlying5
  have u2 := Tryd.underlying2
  have u3 := Tryd.underlying3
  have u30 := Tryd.underlying30
  have u32 := Tryd.underlying32
  have a5 := Tryd.isAgg5
  have a2 := Tryd.isAgg2
  have a3 := Tryd.isAgg3
  have a30 := Tryd.isAgg30
  have a32 := Tryd.isAgg32
  have z5 := Tryd.sizeOf5
  have z2 := Tryd.sizeOf2
  have z3 := Tryd.sizeOf3
  have z30 := Tryd.sizeOf30
  have z32 := Tryd.sizeOf32
  unfold Nd.val
  rw [run_neq_struct, show (10000 : Nat) = 9999 + 1 from rfl, run_equalIn_agg w 9999 34 _ _ hS hp]
  simp only [Program.fieldsOf, Tryd.underlying34]
  unfold Nd.eqb
  go_simp
  by_cases h1 : d.k = e.k
  · by_cases h2 : d.n = e.n
    · by_cases h3 : d.a = e.a
      · by_cases h4 : d.o = e.o
        · by_cases h5 : d.x = e.x
          · by_cases h6 : d.y = e.y <;> simp [h1, h2, h3, h4, h5, h6]
          · simp [h1, h2, h3, h4, h5]
        · simp [h1, h2, h3, h4]
      · simp [h1, h2, h3]
    · simp [h1, h2]
  · simp [h1]
theorem neq_ref (d e : Nd) (w : World) : (binOp .neq 37 d.val e.val).run Tryd.prog w = .ok (.bool (!d.eqb e)) w := by
  have hS : Tryd.prog.underlying 37 = some (.struct (Tryd.prog.fieldsOf 37)) := by kernel_rfl
  have hp : Tryd.prog.stoodInHeld 37 = false := by kernel_rfl
  have u5 := Tryd.underlying5
  have u2 := Tryd.underlying2
  have u3 := Tryd.underlying3
  have u32 := Tryd.underlying32
  have a5 := Tryd.isAgg5
  have a2 := Tryd.isAgg2
  have a3 := Tryd.isAgg3
  have a32 := Tryd.isAgg32
  have z5 := Tryd.sizeOf5
  have z2 := Tryd.sizeOf2
  have z3 := Tryd.sizeOf3
  have z32 := Tryd.sizeOf32
  unfold Nd.val
  rw [run_neq_struct, show (10000 : Nat) = 9999 + 1 from rfl, run_equalIn_agg w 9999 37 _ _ hS hp]
  simp only [Program.fieldsOf, Tryd.underlying37]
  unfold Nd.eqb
  go_simp
  by_cases h1 : d.k = e.k
  · by_cases h2 : d.n = e.n
    · by_cases h3 : d.a = e.a
      · by_cases h4 : d.o = e.o
        · by_cases h5 : d.x = e.x
          · by_cases h6 : d.y = e.y <;> simp [h1, h2, h3, h4, h5, h6]
          · simp [h1, h2, h3, h4, h5]
        · simp [h1, h2, h3, h4]
      · simp [h1, h2, h3]
    · simp [h1, h2]
  · simp [h1]
/-- Both graphs, side by side. -/
structure Both (w wr : World) (g m h : Nat) (L R : List Nd) (a : Option Addr) (c : Nat) (a' : Option Addr) (c' : Nat) : Prop where
  G : GraphAt w.heap.size wr g m a c L
  R : RefAt w.heap.size wr h a' c' R
  ap : ∀ q, Takes g m a q → ¬ RTakes h a' q
  K : Kept w wr
def Side (w wr : World) (g m h : Nat) (L R : List Nd) : Prop := ∃ a c a' c', Both w wr g m h L R a c a' c'
section
variable {w wr w' : World} {g m h : Nat} {L R : List Nd}
theorem Side.kept (hs : Side w wr g m h L R) (k : Kept wr w') : Side w w' g m h L R := by
  obtain ⟨a, c, a', c', h1⟩ := hs
  exact ⟨a, c, a', c', h1.G.kept k, h1.R.kept k, h1.ap, h1.K.trans k⟩
theorem Side.drew (hs : Side w wr g m h L R) : Side w wr.drew g m h L R := hs.kept (Kept.drew (Kept.refl _))
theorem Side.drewN (hs : Side w wr g m h L R) (k : Nat) : Side w (wr.drewN k) g m h L R := hs.kept ⟨rfl, rfl, rfl, Nat.le_refl _, fun _ _ => rfl⟩
theorem Side.K (hs : Side w wr g m h L R) : Kept w wr := by obtain ⟨_, _, _, _, h1⟩ := hs; exact h1.K
theorem Side.good (hs : Side w wr g m h L R) : Good L := by obtain ⟨_, _, _, _, h1⟩ := hs; exact h1.G.good
theorem side_add (hs : Side w wr g m h L R) (d : Nd) (hd : d.Ok) (hL : Laid w) (hlen : L.length ≤ 900) :
    Calls Tryd.prog 12 #[.pointer (some ⟨g, 0, none⟩), d.val] wr fun e w' => e = .returned (.int .i64 (addR L d)) ∧ Side w w' g m h (addL L d) R := by
  obtain ⟨a, c, a', c', h1⟩ := hs
  refine (add_any h1.G d hd (hL.kept h1.K) hlen).mono fun e w' hh => ⟨hh.1, ?_⟩
  obtain ⟨_, a2, c2, hG, hT, hN⟩ := hh
  have hk := h1.G.keptOn (Nat.le_refl _) h1.K hT
  refine ⟨a2, c2, a', c', hG, h1.R.turned hT fun q hq e => h1.ap q e hq, fun q hq e => ?_, hk⟩
  rcases hN q hq with e2 | e2
  · exact h1.ap q e2 e
  · have := (h1.R.takes q e).2; omega
theorem side_radd (hs : Side w wr g m h L R) (d : Nd) (hlen : R.length ≤ 900) :
    Calls Tryd.prog 13 #[.pointer (some ⟨h, 0, none⟩), d.val] wr fun e w' => e = .returned (.int .i64 (addR R d)) ∧ Side w w' g m h L (addL R d) := by
  obtain ⟨a, c, a', c', h1⟩ := hs
  refine (radd_any h1.R d hlen).mono fun e w' hh => ⟨hh.1, ?_⟩
  obtain ⟨_, a2, c2, hR, hT, hN⟩ := hh
  have hk := h1.R.keptOn (Nat.le_refl _) h1.K hT
  refine ⟨a, c, a2, c2, h1.G.turned hT h1.ap, hR, fun q hq e => ?_, hk⟩
  rcases hN q e with e2 | e2
  · exact h1.ap q hq e2
  · have := (h1.G.takes q hq).2; omega
theorem side_plain (hs : Side w wr g m h L R) (d : Nd) :
    Calls Tryd.prog 14 #[d.val] wr fun e w' => e = .returned d.val ∧ Side w w' g m h L R :=
  (plain_any d wr).mono fun _ _ hh => ⟨hh.1, hs.kept hh.2⟩
theorem side_size (hs : Side w wr g m h L R) :
    Calls Tryd.prog 15 #[.pointer (some ⟨g, 0, none⟩)] wr fun e w' => e = .returned (.int .i64 L.length) ∧ wr = w' := by
  obtain ⟨a, c, a', c', h1⟩ := hs
  exact size_cell g _ _ _ wr h1.G.cell0
theorem side_node (hs : Side w wr g m h L R) (i : Int) :
    Calls Tryd.prog 16 #[.pointer (some ⟨g, 0, none⟩), .int .i64 i] wr fun e w' => e = .returned (.tuple #[(nodeAt L i).val, .bool (hasB L.length i)]) ∧ Side w w' g m h L R := by
  obtain ⟨a, c, a', c', h1⟩ := hs
  exact (node_any h1.G i).mono fun e w' hh => ⟨hh.1, a, c, a', c', h1.G.kept hh.2, h1.R.kept hh.2, h1.ap, h1.K.trans hh.2⟩
end

set_option maxRecDepth 100000 in
set_option maxHeartbeats 16000000 in
theorem termadds_many (la : Option Addr) (n lc : Nat) (w : World) (hn : 100 < n) (hL : Laid w) :
    Calls Tryd.prog 3 #[.slice la n lc] w fun e w' => e = .returned (.bool true) ∧ Kept w w' := by
  have HL := Lib.hid hL; clear hL
  have h1 : (100 : Int) < (n : Int) := by omega
  go_enter Tryd.func3, Tryd.ntmps3
  go_wp2_with (go_at_call 10; refine (works_any _ HL.out).mono ?_; rintro e w' ⟨rfl, hk⟩)
  go_ret
  exact ⟨rfl, hk⟩

set_option maxRecDepth 100000 in
set_option maxHeartbeats 16000000 in
theorem termadds_few (la : Option Addr) (n lc : Nat) (ds : List Nd) (w : World) (hds : NodesAt w la n ds) (hn : n ≤ 100) (hL : Laid w) :
    Calls Tryd.prog 3 #[.slice la n lc] w fun e w' => e = .returned (.bool true) ∧ Kept w w' := by
  have HD := Lib.hid hds
  have HL := Lib.hid hL
  clear hds hL
  have h1 : ¬ (100 : Int) < (n : Int) := by omega
  go_enter Tryd.func3, Tryd.ntmps3
  go_wp2_with fail
  refine (new_any w.heap.size w (Nat.le_refl _)).mono ?_
  rintro e w0 ⟨g, m, rfl, hG, hK, _⟩
  have HS0 : Hid (Side w (w0.alloc (.cells #[.slice none 0 0] 29)) g m w0.heap.size [] []) := by
    have hk1 := (Kept.refl w0).alloc (.cells #[.slice none 0 0] 29)
    refine ⟨none, 0, none, 0, hG.kept hk1, ⟨(MapKept.heap_alloc w0 _).1, World.ownsRow_nil _ _ _ _, (fun x hx => by cases hx), hK.size⟩, ?_, hK.trans hk1⟩
    intro q hq e
    have h1 := (hG.takes q hq).2
    rcases e with e | ⟨x, hx, _⟩
    · omega
    · cases hx
  clear hG hK
  go_wp2_with fail
  generalize w0.alloc (.cells #[.slice none 0 0] 29) = w1 at *
  generalize w0.heap.size = h at *
  have HLD : Hid (∀ j, (addsL (ds.take j)).length ≤ 100) := fun j => by
    have h1 := addsL_len (ds.take j)
    have h2 := List.length_take_le' j ds
    have h3 := HD.out.len
    omega
  go_loopw [5] (fun i wr => ∃ j : Nat, j ≤ n ∧ i = .int .i64 j ∧ Side w wr g m h (addsL (ds.take j)) (addsL (ds.take j))) (fun i _ => n - (intOf i).toNat)
  case atStart => exact ⟨0, Nat.zero_le _, rfl, HS0.out⟩
  case round =>
    obtain ⟨j, hj, rfl, hS⟩ := hrel
    have HS := Lib.hid hS; clear hS
    by_cases hlt : j < n
    · obtain ⟨b, off, rfl, hc⟩ := HD.out.at_ (by omega)
      have hjl : j < ds.length := by rw [HD.out.len]; exact hlt
      obtain ⟨d, hd⟩ : ∃ d, ds[j]? = some d := ⟨_, List.getElem?_eq_getElem hjl⟩
      have HDO : Hid d.Ok := HD.out.ok d (List.mem_of_getElem? hd)
      have hcd := hc j d hd
      have htk : ds.take (j + 1) = ds.take j ++ [d] := by
        rw [List.take_succ_eq_append_getElem hjl]
        have : ds[j] = d := (List.getElem?_eq_some_iff.1 hd).2
        rw [this]
      have HTK : Hid (addsL (ds.take (j + 1)) = addL (addsL (ds.take j)) d) := by show _ = _; rw [htk, addsL_snoc]
      have CK : Hid (∀ w', Kept w w' → w'.cell? ⟨b, off + j * 6, none⟩ = some (.int .u8 d.k) ∧ w'.cell? ⟨b, off + j * 6 + 1, none⟩ = some (.int .i64 d.n) ∧ w'.cell? ⟨b, off + j * 6 + 2, none⟩ = some (.int .i64 d.a) ∧ w'.cell? ⟨b, off + j * 6 + 3, none⟩ = some (.int .u8 d.o) ∧ w'.cell? ⟨b, off + j * 6 + 4, none⟩ = some (.int .i64 d.x) ∧ w'.cell? ⟨b, off + j * 6 + 5, none⟩ = some (.int .i64 d.y)) := fun w' hk => by
        have y0 := hk.cell (hcd 0 _ rfl)
        simp only [Nat.add_zero] at y0
        exact ⟨y0, hk.cell (hcd 1 _ rfl), hk.cell (hcd 2 _ rfl), hk.cell (hcd 3 _ rfl), hk.cell (hcd 4 _ rfl), hk.cell (hcd 5 _ rfl)⟩
      have HLE : Hid ((addsL (ds.take j)).length ≤ 900) := Nat.le_trans (HLD.out j) (by omega)
      have HLE2 : Hid ((addL (addsL (ds.take j)) d).length ≤ 100) := by rw [← HTK.out]; exact HLD.out _
      clear hc hcd htk hjl hd
      generalize addsL (ds.take j) = LL at *
      have hle2 := HLE2.out
      have hj0 : (0 : Int) ≤ (j : Int) := Int.natCast_nonneg _
      have hj1 : (j : Int) < (n : Int) := by omega
      have hsd := HS.out.drew
      go_wp2_with fail
      have hs0 := hsd
      refine wp_region_held_drew (S := (fun w' => w'.cell? ⟨b, off + j * 6, none⟩ = some (.int .u8 d.k) ∧ w'.cell? ⟨b, off + j * 6 + 1, none⟩ = some (.int .i64 d.n) ∧ w'.cell? ⟨b, off + j * 6 + 2, none⟩ = some (.int .i64 d.a) ∧ w'.cell? ⟨b, off + j * 6 + 3, none⟩ = some (.int .u8 d.o) ∧ w'.cell? ⟨b, off + j * 6 + 4, none⟩ = some (.int .i64 d.x) ∧ w'.cell? ⟨b, off + j * 6 + 5, none⟩ = some (.int .i64 d.y))) (by kernel_rfl) (CK.out _ hsd.K) (fun hHeld => ?_)
      refine wpAnyH_take (i := 0) (v := ?wv1) rfl (by kernel_rfl) (by kernel_rfl) (by kernel_rfl) (fun _ _ _ h => h) (Or.inl ⟨by rfl, ?wy1⟩) hHeld ?wr1
      case wy1 =>
        intro w hSw
        try dsimp only at hSw
        simp only [List.getElem_toArray, List.getElem_cons_zero]
        go_simp
        try with_reducible rfl
      simp only [List.getElem_toArray, List.getElem_cons_zero, Act.put, List.setIfInBounds_toArray, List.set_cons_zero, List.set_cons_succ]
      refine wpAnyH_take (i := 1) (v := ?wv2) rfl (by kernel_rfl) (by kernel_rfl) (by kernel_rfl) (fun _ _ _ h => h) (Or.inl ⟨by rfl, ?wy2⟩) hHeld ?wr2
      case wy2 =>
        intro w hSw
        try dsimp only at hSw
        simp only [List.getElem_toArray, List.getElem_cons_zero, List.getElem_cons_succ]
        go_simp
        try with_reducible rfl
      simp only [List.getElem_toArray, List.getElem_cons_zero, List.getElem_cons_succ, Act.put, List.setIfInBounds_toArray, List.set_cons_zero, List.set_cons_succ]
      refine wpAnyH_take (i := 2) (v := ?wv3) rfl (by kernel_rfl) (by kernel_rfl) (by kernel_rfl) (fun _ _ _ h => h) (Or.inl ⟨by rfl, ?wy3⟩) hHeld ?wr3
      case wy3 =>
        intro w hSw
        try dsimp only at hSw
        simp only [List.getElem_toArray, List.getElem_cons_zero, List.getElem_cons_succ]
        go_simp
        try with_reducible rfl
      simp only [List.getElem_toArray, List.getElem_cons_zero, List.getElem_cons_succ, Act.put, List.setIfInBounds_toArray, List.set_cons_zero, List.set_cons_succ]
      refine wpAnyH_take (i := 3) (v := ?wv4) rfl (by kernel_rfl) (by kernel_rfl) (by kernel_rfl) (fun _ _ _ h => h) (Or.inl ⟨by rfl, ?wy4⟩) hHeld ?wr4
      case wy4 =>
        intro w hSw
        try dsimp only at hSw
        simp only [List.getElem_toArray, List.getElem_cons_zero, List.getElem_cons_succ]
        go_simp
        try with_reducible rfl
      simp only [List.getElem_toArray, List.getElem_cons_zero, List.getElem_cons_succ, Act.put, List.setIfInBounds_toArray, List.set_cons_zero, List.set_cons_succ]
      refine wpAnyH_take (i := 4) (v := ?wv5) rfl (by kernel_rfl) (by kernel_rfl) (by kernel_rfl) (fun _ _ _ h => h) (Or.inl ⟨by rfl, ?wy5⟩) hHeld ?wr5
      case wy5 =>
        intro w hSw
        try dsimp only at hSw
        simp only [List.getElem_toArray, List.getElem_cons_zero, List.getElem_cons_succ]
        go_simp
        try with_reducible rfl
      simp only [List.getElem_toArray, List.getElem_cons_zero, List.getElem_cons_succ, Act.put, List.setIfInBounds_toArray, List.set_cons_zero, List.set_cons_succ]
      refine wpAnyH_take (i := 6) (v := ?wv6) rfl (by kernel_rfl) (by kernel_rfl) (by kernel_rfl) (fun _ _ _ h => h) (Or.inl ⟨by rfl, ?wy6⟩) hHeld ?wr6
      case wy6 =>
        intro w hSw
        try dsimp only at hSw
        simp only [List.getElem_toArray, List.getElem_cons_zero, List.getElem_cons_succ]
        go_simp
        try with_reducible rfl
      simp only [List.getElem_toArray, List.getElem_cons_zero, List.getElem_cons_succ, Act.put, List.setIfInBounds_toArray, List.set_cons_zero, List.set_cons_succ]
      refine wpAnyH_take (i := 7) (v := ?wv7) rfl (by kernel_rfl) (by kernel_rfl) (by kernel_rfl) (fun _ _ _ h => h) (Or.inl ⟨by rfl, ?wy7⟩) hHeld ?wr7
      case wy7 =>
        intro w hSw
        try dsimp only at hSw
        simp only [List.getElem_toArray, List.getElem_cons_zero, List.getElem_cons_succ]
        go_simp
        try with_reducible rfl
      simp only [List.getElem_toArray, List.getElem_cons_zero, List.getElem_cons_succ, Act.put, List.setIfInBounds_toArray, List.set_cons_zero, List.set_cons_succ]
      refine wpAnyH_take (i := 8) (v := ?wv8) rfl (by kernel_rfl) (by kernel_rfl) (by kernel_rfl) (fun _ _ _ h => h) (Or.inl ⟨by rfl, ?wy8⟩) hHeld ?wr8
      case wy8 =>
        intro w hSw
        try dsimp only at hSw
        simp only [List.getElem_toArray, List.getElem_cons_zero, List.getElem_cons_succ]
        go_simp
        try with_reducible rfl
      simp only [List.getElem_toArray, List.getElem_cons_zero, List.getElem_cons_succ, Act.put, List.setIfInBounds_toArray, List.set_cons_zero, List.set_cons_succ]
      refine wpAnyH_take (i := 9) (v := ?wv9) rfl (by kernel_rfl) (by kernel_rfl) (by kernel_rfl) (fun _ _ _ h => h) (Or.inl ⟨by rfl, ?wy9⟩) hHeld ?wr9
      case wy9 =>
        intro w hSw
        try dsimp only at hSw
        simp only [List.getElem_toArray, List.getElem_cons_zero, List.getElem_cons_succ]
        go_simp
        try with_reducible rfl
      simp only [List.getElem_toArray, List.getElem_cons_zero, List.getElem_cons_succ, Act.put, List.setIfInBounds_toArray, List.set_cons_zero, List.set_cons_succ]
      refine wpAnyH_take (i := 10) (v := ?wv10) rfl (by kernel_rfl) (by kernel_rfl) (by kernel_rfl) (fun _ _ _ h => h) (Or.inl ⟨by rfl, ?wy10⟩) hHeld ?wr10
      case wy10 =>
        intro w hSw
        try dsimp only at hSw
        simp only [List.getElem_toArray, List.getElem_cons_zero, List.getElem_cons_succ]
        go_simp
        try with_reducible rfl
      simp only [List.getElem_toArray, List.getElem_cons_zero, List.getElem_cons_succ, Act.put, List.setIfInBounds_toArray, List.set_cons_zero, List.set_cons_succ]
      refine wpAnyH_ready (rs := [5]) (by kernel_rfl) (by simp) ?_
      refine AllReadyH.cons rfl (fun K hK => ?_) AllReadyH.nil
      try simp only [List.getElem_toArray, List.getElem_cons_zero, List.getElem_cons_succ]
      go_simp
      refine (side_add hs0 d HDO.out HL.out HLE.out).mono ?_
      rintro e w2 ⟨rfl, hs2⟩
      go_wp2_with fail
      refine hK.out _ _ (CK.out _ hs2.K) (fun hHeld => ?_)
      clear hK K
      try simp only [List.getElem_toArray, List.getElem_cons_zero, List.getElem_cons_succ, Act.put, List.setIfInBounds_toArray, List.set_cons_zero, List.set_cons_succ]
      refine wpAnyH_ready (rs := [11]) (by kernel_rfl) (by simp) ?_
      refine AllReadyH.cons rfl (fun K hK => ?_) AllReadyH.nil
      try simp only [List.getElem_toArray, List.getElem_cons_zero, List.getElem_cons_succ]
      go_simp
      refine (side_plain hs2 d).mono ?_
      rintro e w3 ⟨rfl, hs3⟩
      simp only [Nd.val]
      go_wp2_with fail
      refine hK.out _ _ (CK.out _ hs3.K) (fun hHeld => ?_)
      clear hK K
      try simp only [List.getElem_toArray, List.getElem_cons_zero, List.getElem_cons_succ, Act.put, List.setIfInBounds_toArray, List.set_cons_zero, List.set_cons_succ]
      refine wpAnyH_ready (rs := [12]) (by kernel_rfl) (by simp) ?_
      refine AllReadyH.cons rfl (fun K hK => ?_) AllReadyH.nil
      try simp only [List.getElem_toArray, List.getElem_cons_zero, List.getElem_cons_succ]
      go_simp
      refine (side_radd hs3 d HLE.out).mono ?_
      rintro e w4 ⟨rfl, hs4⟩
      obtain ⟨ax, cx, ax', cx', hb⟩ := id hs4
      have hc4 := hb.R.cell0
      clear hb
      go_wp2_with fail
      refine hK.out _ _ (CK.out _ hs4.K) (fun hHeld => ?_)
      clear hK K
      try simp only [List.getElem_toArray, List.getElem_cons_zero, List.getElem_cons_succ, Act.put, List.setIfInBounds_toArray, List.set_cons_zero, List.set_cons_succ]
      refine wpAnyH_take (i := 13) (v := ?wv11) rfl (by kernel_rfl) (by kernel_rfl) (by kernel_rfl) (fun _ _ _ h => h) (Or.inl ⟨by rfl, ?wy11⟩) hHeld ?wr11
      case wy11 =>
        intro w hSw
        try dsimp only at hSw
        simp only [List.getElem_toArray, List.getElem_cons_zero, List.getElem_cons_succ]
        go_simp
        try with_reducible rfl
      simp only [List.getElem_toArray, List.getElem_cons_zero, List.getElem_cons_succ, Act.put, List.setIfInBounds_toArray, List.set_cons_zero, List.set_cons_succ]
      refine wpAnyH_take (i := 14) (v := ?wv12) rfl (by kernel_rfl) (by kernel_rfl) (by kernel_rfl) (fun _ _ _ h => h) (Or.inl ⟨by rfl, ?wy12⟩) hHeld ?wr12
      case wy12 =>
        intro w hSw
        try dsimp only at hSw
        simp only [List.getElem_toArray, List.getElem_cons_zero, List.getElem_cons_succ]
        go_simp
        try with_reducible rfl
      simp only [List.getElem_toArray, List.getElem_cons_zero, List.getElem_cons_succ, Act.put, List.setIfInBounds_toArray, List.set_cons_zero, List.set_cons_succ]
      refine wpAnyH_take (i := 15) (v := ?wv13) rfl (by kernel_rfl) (by kernel_rfl) (by kernel_rfl) (fun _ _ _ h => h) (Or.inl ⟨by rfl, ?wy13⟩) hHeld ?wr13
      case wy13 =>
        intro w hSw
        try dsimp only at hSw
        simp only [List.getElem_toArray, List.getElem_cons_zero, List.getElem_cons_succ]
        go_simp
        try with_reducible rfl
      simp only [List.getElem_toArray, List.getElem_cons_zero, List.getElem_cons_succ, Act.put, List.setIfInBounds_toArray, List.set_cons_zero, List.set_cons_succ]
      refine wpAnyH_take (i := 17) (v := ?wv14) rfl (by kernel_rfl) (by kernel_rfl) (by kernel_rfl) (fun _ _ _ h => h) (Or.inl ⟨by rfl, ?wy14⟩) hHeld ?wr14
      case wy14 =>
        intro w hSw
        try dsimp only at hSw
        simp only [List.getElem_toArray, List.getElem_cons_zero, List.getElem_cons_succ]
        go_simp
        try with_reducible rfl
      simp only [List.getElem_toArray, List.getElem_cons_zero, List.getElem_cons_succ, Act.put, List.setIfInBounds_toArray, List.set_cons_zero, List.set_cons_succ]
      refine wpAnyH_take (i := 18) (v := ?wv15) rfl (by kernel_rfl) (by kernel_rfl) (by kernel_rfl) (fun _ _ _ h => h) (Or.inl ⟨by rfl, ?wy15⟩) hHeld ?wr15
      case wy15 =>
        intro w hSw
        try dsimp only at hSw
        simp only [List.getElem_toArray, List.getElem_cons_zero, List.getElem_cons_succ]
        go_simp
        try with_reducible rfl
      simp only [List.getElem_toArray, List.getElem_cons_zero, List.getElem_cons_succ, Act.put, List.setIfInBounds_toArray, List.set_cons_zero, List.set_cons_succ]
      refine wpAnyH_take (i := 19) (v := ?wv16) rfl (by kernel_rfl) (by kernel_rfl) (by kernel_rfl) (fun _ _ _ h => h) (Or.inl ⟨by rfl, ?wy16⟩) hHeld ?wr16
      case wy16 =>
        intro w hSw
        try dsimp only at hSw
        simp only [List.getElem_toArray, List.getElem_cons_zero, List.getElem_cons_succ]
        go_simp
        try with_reducible rfl
      simp only [List.getElem_toArray, List.getElem_cons_zero, List.getElem_cons_succ, Act.put, List.setIfInBounds_toArray, List.set_cons_zero, List.set_cons_succ]
      refine wpAnyH_ready (rs := [16, 20]) (by kernel_rfl) (by simp) ?_
      refine AllReadyH.cons rfl (fun K hK => ?_) (AllReadyH.cons rfl (fun K hK => ?_) AllReadyH.nil)
      · try simp only [List.getElem_toArray, List.getElem_cons_zero, List.getElem_cons_succ]
        go_simp
        refine (side_size hs4).mono ?_
        rintro e w5 ⟨rfl, rfl⟩
        go_wp2_with fail
        refine hK.out _ _ (CK.out _ hs4.K) (fun hHeld => ?_)
        clear hK K
        try simp only [List.getElem_toArray, List.getElem_cons_zero, List.getElem_cons_succ, Act.put, List.setIfInBounds_toArray, List.set_cons_zero, List.set_cons_succ]
        refine wpAnyH_ready (rs := [20]) (by kernel_rfl) (by simp) ?_
        refine AllReadyH.cons rfl (fun K hK => ?_) AllReadyH.nil
        try simp only [List.getElem_toArray, List.getElem_cons_zero, List.getElem_cons_succ]
        go_simp
        go_wp2_with fail
        refine hK.out _ _ (CK.out _ hs4.K) (fun hHeld => ?_)
        clear hK K
        try simp only [List.getElem_toArray, List.getElem_cons_zero, List.getElem_cons_succ, Act.put, List.setIfInBounds_toArray, List.set_cons_zero, List.set_cons_succ]
        refine wpAnyH_take (i := 21) (v := ?wv18) rfl (by kernel_rfl) (by kernel_rfl) (by kernel_rfl) (fun _ _ _ h => h) (Or.inl ⟨by rfl, ?wy18⟩) hHeld ?wr18
        case wy18 =>
          intro w hSw
          try dsimp only at hSw
          simp only [List.getElem_toArray, List.getElem_cons_zero, List.getElem_cons_succ]
          go_simp
          try with_reducible rfl
        simp only [List.getElem_toArray, List.getElem_cons_zero, List.getElem_cons_succ, Act.put, List.setIfInBounds_toArray, List.set_cons_zero, List.set_cons_succ]
        refine wpAnyH_take (i := 22) (v := ?wv19) rfl (by kernel_rfl) (by kernel_rfl) (by kernel_rfl) (fun _ _ _ h => h) (Or.inl ⟨by rfl, ?wy19⟩) hHeld ?wr19
        case wy19 =>
          intro w hSw
          try dsimp only at hSw
          simp only [List.getElem_toArray, List.getElem_cons_zero, List.getElem_cons_succ]
          go_simp
          try with_reducible rfl
        simp only [List.getElem_toArray, List.getElem_cons_zero, List.getElem_cons_succ, Act.put, List.setIfInBounds_toArray, List.set_cons_zero, List.set_cons_succ]
        refine wpAnyH_take (i := 23) (v := ?wv20) rfl (by kernel_rfl) (by kernel_rfl) (by kernel_rfl) (fun _ _ _ h => h) (Or.inl ⟨by rfl, ?wy20⟩) hHeld ?wr20
        case wy20 =>
          intro w hSw
          try dsimp only at hSw
          simp only [List.getElem_toArray, List.getElem_cons_zero, List.getElem_cons_succ]
          go_simp
          try with_reducible rfl
        simp only [List.getElem_toArray, List.getElem_cons_zero, List.getElem_cons_succ, Act.put, List.setIfInBounds_toArray, List.set_cons_zero, List.set_cons_succ]
        refine wpAnyH_done (by kernel_rfl) ?_ _
        go_wp2
        go_roundw
        case rel => exact ⟨j + 1, by omega, by go_num, by rw [HTK.out]; exact hs4⟩
        case measure => simp [intOf]; omega
      · try simp only [List.getElem_toArray, List.getElem_cons_zero, List.getElem_cons_succ]
        go_simp
        go_wp2_with fail
        refine hK.out _ _ (CK.out _ hs4.K) (fun hHeld => ?_)
        clear hK K
        try simp only [List.getElem_toArray, List.getElem_cons_zero, List.getElem_cons_succ, Act.put, List.setIfInBounds_toArray, List.set_cons_zero, List.set_cons_succ]
        refine wpAnyH_take (i := 21) (v := ?wv17) rfl (by kernel_rfl) (by kernel_rfl) (by kernel_rfl) (fun _ _ _ h => h) (Or.inl ⟨by rfl, ?wy17⟩) hHeld ?wr17
        case wy17 =>
          intro w hSw
          try dsimp only at hSw
          simp only [List.getElem_toArray, List.getElem_cons_zero, List.getElem_cons_succ]
          go_simp
          try with_reducible rfl
        simp only [List.getElem_toArray, List.getElem_cons_zero, List.getElem_cons_succ, Act.put, List.setIfInBounds_toArray, List.set_cons_zero, List.set_cons_succ]
        refine wpAnyH_ready (rs := [16]) (by kernel_rfl) (by simp) ?_
        refine AllReadyH.cons rfl (fun K hK => ?_) AllReadyH.nil
        try simp only [List.getElem_toArray, List.getElem_cons_zero, List.getElem_cons_succ]
        go_simp
        refine (side_size hs4).mono ?_
        rintro e w5 ⟨rfl, rfl⟩
        go_wp2_with fail
        refine hK.out _ _ (CK.out _ hs4.K) (fun hHeld => ?_)
        clear hK K
        try simp only [List.getElem_toArray, List.getElem_cons_zero, List.getElem_cons_succ, Act.put, List.setIfInBounds_toArray, List.set_cons_zero, List.set_cons_succ]
        refine wpAnyH_take (i := 22) (v := ?wv21) rfl (by kernel_rfl) (by kernel_rfl) (by kernel_rfl) (fun _ _ _ h => h) (Or.inl ⟨by rfl, ?wy21⟩) hHeld ?wr21
        case wy21 =>
          intro w hSw
          try dsimp only at hSw
          simp only [List.getElem_toArray, List.getElem_cons_zero, List.getElem_cons_succ]
          go_simp
          try with_reducible rfl
        simp only [List.getElem_toArray, List.getElem_cons_zero, List.getElem_cons_succ, Act.put, List.setIfInBounds_toArray, List.set_cons_zero, List.set_cons_succ]
        refine wpAnyH_take (i := 23) (v := ?wv22) rfl (by kernel_rfl) (by kernel_rfl) (by kernel_rfl) (fun _ _ _ h => h) (Or.inl ⟨by rfl, ?wy22⟩) hHeld ?wr22
        case wy22 =>
          intro w hSw
          try dsimp only at hSw
          simp only [List.getElem_toArray, List.getElem_cons_zero, List.getElem_cons_succ]
          go_simp
          try with_reducible rfl
        simp only [List.getElem_toArray, List.getElem_cons_zero, List.getElem_cons_succ, Act.put, List.setIfInBounds_toArray, List.set_cons_zero, List.set_cons_succ]
        refine wpAnyH_done (by kernel_rfl) ?_ _
        go_wp2
        go_roundw
        case rel => exact ⟨j + 1, by omega, by go_num, by rw [HTK.out]; exact hs4⟩
        case measure => simp [intOf]; omega
    · obtain rfl : j = n := by omega
      have htk : ds.take j = ds := List.take_of_length_le (by rw [HD.out.len]; exact Nat.le_refl _)
      have HLn := Lib.hid (HLD.out j)
      rw [htk] at HS HLn
      clear htk
      generalize addsL ds = LL at *
      go_upto_region 11 with (fail)
      obtain ⟨wo, rfl⟩ : ∃ wo : World, wo = wr := ⟨_, rfl⟩
      have hln := HLn.out
      go_loopw [6] (fun i wr => ∃ i' : Int, -1 ≤ i' ∧ i' ≤ LL.length + 1 ∧ i = .int .i64 i' ∧ Side w wr g m h LL LL) (fun i _ => (LL.length + 1 - intOf i).toNat)
      case atStart => exact ⟨-1, by omega, by omega, rfl, HS.out⟩
      case round =>
        obtain ⟨i, hi0, hi1, rfl, hS⟩ := hrel
        clear HS
        have HS := Lib.hid hS
        obtain ⟨aG, cG, aR, cR, hb⟩ := hS
        have HB2 := Lib.hid hb; clear hb
        have cR0 := HB2.out.R.cell0
        have hgN := guardNode
        have hgR := guardRef
        by_cases hend : i ≤ LL.length
        · by_cases hneg : i < 0
          · obtain rfl : i = -1 := by omega
            have HB : Hid (hasB LL.length (-1) = false) := by show _ = _; simp [hasB]
            have HN : Hid (nodeAt LL (-1) = nd0) := by show _ = _; unfold nodeAt; rw [HB.out]; rfl
            have hq := fun w => neq_node nd0 nd0 w
            rw [Nd.eqb_self] at hq
            simp only [Nd.val, nd0, Bool.not_true] at hq
            go_wp2_with (go_at_call 16; refine (side_node HS.out (-1)).mono ?_; rintro e w2 ⟨rfl, hs2⟩; rw [HB.out, HN.out]; have HS2 := Lib.hid hs2; clear hs2; simp only [Nd.val, nd0])
            go_quiet (fail)
            go_wp2
            go_roundw
            case rel => exact ⟨_, by omega, by omega, rfl, (by first | exact (HS2.out.kept ((Kept.refl _).alloc _)).drewN _ | exact (HS2.out.kept ((Kept.refl _).alloc _)).drew | exact HS2.out.kept ((Kept.refl _).alloc _))⟩
            case measure => simp [intOf] <;> omega
          · by_cases hlt2 : i < LL.length
            · obtain ⟨k, rfl⟩ : ∃ k : Nat, i = k := ⟨i.toNat, by omega⟩
              have hk : k < LL.length := by omega
              obtain ⟨d, hd⟩ : ∃ d, LL[k]? = some d := ⟨_, List.getElem?_eq_getElem hk⟩
              have HB : Hid (hasB LL.length (k : Int) = true) := (hasB_iff _ _).2 ⟨by omega, by omega⟩
              have HN : Hid (nodeAt LL (k : Int) = d) := by
                show _ = _
                unfold nodeAt
                rw [HB.out, Int.toNat_natCast, List.getD_eq_getElem?_getD, hd]
                rfl
              obtain ⟨rr, rfl, hrl, hcapR, hmxR, hcell⟩ := HB2.out.R.rowAt (by omega)
              have hce := hcell k d hd
              have hq := fun w => neq_ref d d w
              rw [Nd.eqb_self] at hq
              simp only [Nd.val, Bool.not_true] at hq
              unfold maxLen at hmxR
              have FK : Hid (∀ w', Kept wr w' → w'.cell? ⟨h, 0, none⟩ = some (.slice (some ⟨rr, 0, none⟩) LL.length cR) ∧ w'.cell? ⟨rr, k * 6, none⟩ = some (.int .u8 d.k) ∧ w'.cell? ⟨rr, k * 6 + 1, none⟩ = some (.int .i64 d.n) ∧ w'.cell? ⟨rr, k * 6 + 2, none⟩ = some (.int .i64 d.a) ∧ w'.cell? ⟨rr, k * 6 + 3, none⟩ = some (.int .u8 d.o) ∧ w'.cell? ⟨rr, k * 6 + 4, none⟩ = some (.int .i64 d.x) ∧ w'.cell? ⟨rr, k * 6 + 5, none⟩ = some (.int .i64 d.y)) := fun w' hk => by
                have y0 := hk.cell (hce 0 _ rfl)
                simp only [Nat.add_zero] at y0
                exact ⟨hk.cell cR0, y0, hk.cell (hce 1 _ rfl), hk.cell (hce 2 _ rfl), hk.cell (hce 3 _ rfl), hk.cell (hce 4 _ rfl), hk.cell (hce 5 _ rfl)⟩
              clear hce hcell hd
              have k0 : (0 : Int) ≤ (k : Int) := Int.natCast_nonneg _
              have k1 : (k : Int) < (LL.length : Int) := by omega
              go_wp2_with fail
              refine (node_any HB2.out.G (k : Int)).mono ?_
              rintro e w2 ⟨rfl, hk2⟩
              rw [HB.out, HN.out]
              simp only [Nd.val]
              have HK2 := Lib.hid hk2; clear hk2
              go_upto_region 14 with (fail)
              have HBN := Lib.hid (MapKept.heap_alloc w2 (nodeObj d)).1
              have HK3 := Lib.hid (HK2.out.trans ((Kept.refl w2).alloc (nodeObj d)))
              change Code.wp _ _ _ _ (w2.alloc (nodeObj d))
              generalize w2.alloc (nodeObj d) = w3 at *
              generalize w2.heap.size = bn at *
              have FN : Hid (∀ w', Kept w3 w' → Kept w3 w' ∧ w'.cell? ⟨bn, 0, none⟩ = some (.int .u8 d.k) ∧ w'.cell? ⟨bn, 1, none⟩ = some (.int .i64 d.n) ∧ w'.cell? ⟨bn, 2, none⟩ = some (.int .i64 d.a) ∧ w'.cell? ⟨bn, 3, none⟩ = some (.int .u8 d.o) ∧ w'.cell? ⟨bn, 4, none⟩ = some (.int .i64 d.x) ∧ w'.cell? ⟨bn, 5, none⟩ = some (.int .i64 d.y) ∧ w'.cell? ⟨h, 0, none⟩ = some (.slice (some ⟨rr, 0, none⟩) LL.length cR) ∧ w'.cell? ⟨rr, k * 6, none⟩ = some (.int .u8 d.k) ∧ w'.cell? ⟨rr, k * 6 + 1, none⟩ = some (.int .i64 d.n) ∧ w'.cell? ⟨rr, k * 6 + 2, none⟩ = some (.int .i64 d.a) ∧ w'.cell? ⟨rr, k * 6 + 3, none⟩ = some (.int .u8 d.o) ∧ w'.cell? ⟨rr, k * 6 + 4, none⟩ = some (.int .i64 d.x) ∧ w'.cell? ⟨rr, k * 6 + 5, none⟩ = some (.int .i64 d.y)) := fun w' hk => by
                obtain ⟨z0, z1, z2, z3, z4, z5⟩ := box_facts HBN.out hk
                exact ⟨hk, z0, z1, z2, z3, z4, z5, FK.out w' (HK3.out.trans hk)⟩
              have HSW : Hid ((fun w' => Kept w3 w' ∧ w'.cell? ⟨bn, 0, none⟩ = some (.int .u8 d.k) ∧ w'.cell? ⟨bn, 1, none⟩ = some (.int .i64 d.n) ∧ w'.cell? ⟨bn, 2, none⟩ = some (.int .i64 d.a) ∧ w'.cell? ⟨bn, 3, none⟩ = some (.int .u8 d.o) ∧ w'.cell? ⟨bn, 4, none⟩ = some (.int .i64 d.x) ∧ w'.cell? ⟨bn, 5, none⟩ = some (.int .i64 d.y) ∧ w'.cell? ⟨h, 0, none⟩ = some (.slice (some ⟨rr, 0, none⟩) LL.length cR) ∧ w'.cell? ⟨rr, k * 6, none⟩ = some (.int .u8 d.k) ∧ w'.cell? ⟨rr, k * 6 + 1, none⟩ = some (.int .i64 d.n) ∧ w'.cell? ⟨rr, k * 6 + 2, none⟩ = some (.int .i64 d.a) ∧ w'.cell? ⟨rr, k * 6 + 3, none⟩ = some (.int .u8 d.o) ∧ w'.cell? ⟨rr, k * 6 + 4, none⟩ = some (.int .i64 d.x) ∧ w'.cell? ⟨rr, k * 6 + 5, none⟩ = some (.int .i64 d.y)) w3.drew) := FN.out w3.drew (Kept.drew (Kept.refl _))
              clear cR0
              go_wp2_with fail
              refine wp_region_held_drew (S := (fun w' => Kept w3 w' ∧ w'.cell? ⟨bn, 0, none⟩ = some (.int .u8 d.k) ∧ w'.cell? ⟨bn, 1, none⟩ = some (.int .i64 d.n) ∧ w'.cell? ⟨bn, 2, none⟩ = some (.int .i64 d.a) ∧ w'.cell? ⟨bn, 3, none⟩ = some (.int .u8 d.o) ∧ w'.cell? ⟨bn, 4, none⟩ = some (.int .i64 d.x) ∧ w'.cell? ⟨bn, 5, none⟩ = some (.int .i64 d.y) ∧ w'.cell? ⟨h, 0, none⟩ = some (.slice (some ⟨rr, 0, none⟩) LL.length cR) ∧ w'.cell? ⟨rr, k * 6, none⟩ = some (.int .u8 d.k) ∧ w'.cell? ⟨rr, k * 6 + 1, none⟩ = some (.int .i64 d.n) ∧ w'.cell? ⟨rr, k * 6 + 2, none⟩ = some (.int .i64 d.a) ∧ w'.cell? ⟨rr, k * 6 + 3, none⟩ = some (.int .u8 d.o) ∧ w'.cell? ⟨rr, k * 6 + 4, none⟩ = some (.int .i64 d.x) ∧ w'.cell? ⟨rr, k * 6 + 5, none⟩ = some (.int .i64 d.y))) (by kernel_rfl) HSW.out (fun hHeld => ?_)
              refine wpAnyH_take (i := 0) (v := ?vv0) rfl (by kernel_rfl) (by kernel_rfl) (by kernel_rfl) (fun _ _ _ h => h) (Or.inl ⟨by rfl, ?hy0⟩) hHeld ?hr0
              case hy0 =>
                intro w hSw
                try dsimp only at hSw
                simp only [List.getElem_toArray, List.getElem_cons_zero]
                go_simp
                try with_reducible rfl
              simp only [List.getElem_toArray, List.getElem_cons_zero, Act.put, List.setIfInBounds_toArray, List.set_cons_zero, List.set_cons_succ]
              refine wpAnyH_take (i := 1) (v := ?vv1) rfl (by kernel_rfl) (by kernel_rfl) (by kernel_rfl) (fun _ _ _ h => h) (Or.inl ⟨by rfl, ?hy1⟩) hHeld ?hr1
              case hy1 =>
                intro w hSw
                try dsimp only at hSw
                simp only [List.getElem_toArray, List.getElem_cons_zero, List.getElem_cons_succ]
                go_simp
                try with_reducible rfl
              simp only [List.getElem_toArray, List.getElem_cons_zero, List.getElem_cons_succ, Act.put, List.setIfInBounds_toArray, List.set_cons_zero, List.set_cons_succ]
              refine wpAnyH_take (i := 2) (v := ?vv2) rfl (by kernel_rfl) (by kernel_rfl) (by kernel_rfl) (fun _ _ _ h => h) (Or.inl ⟨by rfl, ?hy2⟩) hHeld ?hr2
              case hy2 =>
                intro w hSw
                try dsimp only at hSw
                simp only [List.getElem_toArray, List.getElem_cons_zero, List.getElem_cons_succ]
                go_simp
                try with_reducible rfl
              simp only [List.getElem_toArray, List.getElem_cons_zero, List.getElem_cons_succ, Act.put, List.setIfInBounds_toArray, List.set_cons_zero, List.set_cons_succ]
              refine wpAnyH_take (i := 3) (v := ?vv3) rfl (by kernel_rfl) (by kernel_rfl) (by kernel_rfl) (fun _ _ _ h => h) (Or.inl ⟨by rfl, ?hy3⟩) hHeld ?hr3
              case hy3 =>
                intro w hSw
                try dsimp only at hSw
                simp only [List.getElem_toArray, List.getElem_cons_zero, List.getElem_cons_succ]
                go_simp
                try with_reducible rfl
              simp only [List.getElem_toArray, List.getElem_cons_zero, List.getElem_cons_succ, Act.put, List.setIfInBounds_toArray, List.set_cons_zero, List.set_cons_succ]
              refine wpAnyH_take (i := 4) (v := ?vv4) rfl (by kernel_rfl) (by kernel_rfl) (by kernel_rfl) (fun _ _ _ h => h) (Or.inl ⟨by rfl, ?hy4⟩) hHeld ?hr4
              case hy4 =>
                intro w hSw
                try dsimp only at hSw
                simp only [List.getElem_toArray, List.getElem_cons_zero, List.getElem_cons_succ]
                go_simp
                try with_reducible rfl
              simp only [List.getElem_toArray, List.getElem_cons_zero, List.getElem_cons_succ, Act.put, List.setIfInBounds_toArray, List.set_cons_zero, List.set_cons_succ]
              refine wpAnyH_take (i := 5) (v := ?vv5) rfl (by kernel_rfl) (by kernel_rfl) (by kernel_rfl) (fun _ _ _ h => h) (Or.inl ⟨by rfl, ?hy5⟩) hHeld ?hr5
              case hy5 =>
                intro w hSw
                try dsimp only at hSw
                simp only [List.getElem_toArray, List.getElem_cons_zero, List.getElem_cons_succ]
                go_simp
                try with_reducible rfl
              simp only [List.getElem_toArray, List.getElem_cons_zero, List.getElem_cons_succ, Act.put, List.setIfInBounds_toArray, List.set_cons_zero, List.set_cons_succ]
              refine wpAnyH_take (i := 6) (v := ?vv6) rfl (by kernel_rfl) (by kernel_rfl) (by kernel_rfl) (fun _ _ _ h => h) (Or.inl ⟨by rfl, ?hy6⟩) hHeld ?hr6
              case hy6 =>
                intro w hSw
                try dsimp only at hSw
                simp only [List.getElem_toArray, List.getElem_cons_zero, List.getElem_cons_succ]
                go_simp
                try with_reducible rfl
              simp only [List.getElem_toArray, List.getElem_cons_zero, List.getElem_cons_succ, Act.put, List.setIfInBounds_toArray, List.set_cons_zero, List.set_cons_succ]
              refine wpAnyH_take (i := 7) (v := ?vv7) rfl (by kernel_rfl) (by kernel_rfl) (by kernel_rfl) (fun _ _ _ h => h) (Or.inl ⟨by rfl, ?hy7⟩) hHeld ?hr7
              case hy7 =>
                intro w hSw
                try dsimp only at hSw
                simp only [List.getElem_toArray, List.getElem_cons_zero, List.getElem_cons_succ]
                go_simp
                try with_reducible rfl
              simp only [List.getElem_toArray, List.getElem_cons_zero, List.getElem_cons_succ, Act.put, List.setIfInBounds_toArray, List.set_cons_zero, List.set_cons_succ]
              refine wpAnyH_take (i := 8) (v := ?vv8) rfl (by kernel_rfl) (by kernel_rfl) (by kernel_rfl) (fun _ _ _ h => h) (Or.inl ⟨by rfl, ?hy8⟩) hHeld ?hr8
              case hy8 =>
                intro w hSw
                try dsimp only at hSw
                simp only [List.getElem_toArray, List.getElem_cons_zero, List.getElem_cons_succ]
                go_simp
                try with_reducible rfl
              simp only [List.getElem_toArray, List.getElem_cons_zero, List.getElem_cons_succ, Act.put, List.setIfInBounds_toArray, List.set_cons_zero, List.set_cons_succ]
              refine wpAnyH_take (i := 9) (v := ?vv9) rfl (by kernel_rfl) (by kernel_rfl) (by kernel_rfl) (fun _ _ _ h => h) (Or.inl ⟨by rfl, ?hy9⟩) hHeld ?hr9
              case hy9 =>
                intro w hSw
                try dsimp only at hSw
                simp only [List.getElem_toArray, List.getElem_cons_zero, List.getElem_cons_succ]
                go_simp
                try with_reducible rfl
              simp only [List.getElem_toArray, List.getElem_cons_zero, List.getElem_cons_succ, Act.put, List.setIfInBounds_toArray, List.set_cons_zero, List.set_cons_succ]
              refine wpAnyH_take (i := 10) (v := ?vv10) rfl (by kernel_rfl) (by kernel_rfl) (by kernel_rfl) (fun _ _ _ h => h) (Or.inl ⟨by rfl, ?hy10⟩) hHeld ?hr10
              case hy10 =>
                intro w hSw
                try dsimp only at hSw
                simp only [List.getElem_toArray, List.getElem_cons_zero, List.getElem_cons_succ]
                go_simp
                try with_reducible rfl
              simp only [List.getElem_toArray, List.getElem_cons_zero, List.getElem_cons_succ, Act.put, List.setIfInBounds_toArray, List.set_cons_zero, List.set_cons_succ]
              refine wpAnyH_take (i := 11) (v := ?vv11) rfl (by kernel_rfl) (by kernel_rfl) (by kernel_rfl) (fun _ _ _ h => h) (Or.inl ⟨by rfl, ?hy11⟩) hHeld ?hr11
              case hy11 =>
                intro w hSw
                try dsimp only at hSw
                simp only [List.getElem_toArray, List.getElem_cons_zero, List.getElem_cons_succ]
                go_simp
                try with_reducible rfl
              simp only [List.getElem_toArray, List.getElem_cons_zero, List.getElem_cons_succ, Act.put, List.setIfInBounds_toArray, List.set_cons_zero, List.set_cons_succ]
              refine wpAnyH_take (i := 12) (v := ?vv12) rfl (by kernel_rfl) (by kernel_rfl) (by kernel_rfl) (fun _ _ _ h => h) (Or.inl ⟨by rfl, ?hy12⟩) hHeld ?hr12
              case hy12 =>
                intro w hSw
                try dsimp only at hSw
                simp only [List.getElem_toArray, List.getElem_cons_zero, List.getElem_cons_succ]
                go_simp
                try with_reducible rfl
              simp only [List.getElem_toArray, List.getElem_cons_zero, List.getElem_cons_succ, Act.put, List.setIfInBounds_toArray, List.set_cons_zero, List.set_cons_succ]
              refine wpAnyH_take (i := 13) (v := ?vv13) rfl (by kernel_rfl) (by kernel_rfl) (by kernel_rfl) (fun _ _ _ h => h) (Or.inl ⟨by rfl, ?hy13⟩) hHeld ?hr13
              case hy13 =>
                intro w hSw
                try dsimp only at hSw
                simp only [List.getElem_toArray, List.getElem_cons_zero, List.getElem_cons_succ]
                go_simp
                try with_reducible rfl
              simp only [List.getElem_toArray, List.getElem_cons_zero, List.getElem_cons_succ, Act.put, List.setIfInBounds_toArray, List.set_cons_zero, List.set_cons_succ]
              refine wpAnyH_take (i := 14) (v := ?vv14) rfl (by kernel_rfl) (by kernel_rfl) (by kernel_rfl) (fun _ _ _ h => h) (Or.inl ⟨by rfl, ?hy14⟩) hHeld ?hr14
              case hy14 =>
                intro w hSw
                try dsimp only at hSw
                simp only [List.getElem_toArray, List.getElem_cons_zero, List.getElem_cons_succ]
                go_simp
                try with_reducible rfl
              simp only [List.getElem_toArray, List.getElem_cons_zero, List.getElem_cons_succ, Act.put, List.setIfInBounds_toArray, List.set_cons_zero, List.set_cons_succ]
              refine wpAnyH_take (i := 15) (v := ?vv15) rfl (by kernel_rfl) (by kernel_rfl) (by kernel_rfl) (fun _ _ _ h => h) (Or.inl ⟨by rfl, ?hy15⟩) hHeld ?hr15
              case hy15 =>
                intro w hSw
                try dsimp only at hSw
                simp only [List.getElem_toArray, List.getElem_cons_zero, List.getElem_cons_succ]
                go_simp
                try with_reducible rfl
              simp only [List.getElem_toArray, List.getElem_cons_zero, List.getElem_cons_succ, Act.put, List.setIfInBounds_toArray, List.set_cons_zero, List.set_cons_succ]
              refine wpAnyH_take (i := 16) (v := ?vv16) rfl (by kernel_rfl) (by kernel_rfl) (by kernel_rfl) (fun _ _ _ h => h) (Or.inl ⟨by rfl, ?hy16⟩) hHeld ?hr16
              case hy16 =>
                intro w hSw
                try dsimp only at hSw
                simp only [List.getElem_toArray, List.getElem_cons_zero, List.getElem_cons_succ]
                go_simp
                try with_reducible rfl
              simp only [List.getElem_toArray, List.getElem_cons_zero, List.getElem_cons_succ, Act.put, List.setIfInBounds_toArray, List.set_cons_zero, List.set_cons_succ]
              refine wpAnyH_take (i := 18) (v := ?vv18) rfl (by kernel_rfl) (by kernel_rfl) (by kernel_rfl) (fun _ _ _ h => h) (Or.inl ⟨by rfl, ?hy18⟩) hHeld ?hr18
              case hy18 =>
                intro w hSw
                try dsimp only at hSw
                simp only [List.getElem_toArray, List.getElem_cons_zero, List.getElem_cons_succ]
                go_simp
                try with_reducible rfl
              simp only [List.getElem_toArray, List.getElem_cons_zero, List.getElem_cons_succ, Act.put, List.setIfInBounds_toArray, List.set_cons_zero, List.set_cons_succ]
              refine wpAnyH_take (i := 19) (v := ?vv19) rfl (by kernel_rfl) (by kernel_rfl) (by kernel_rfl) (fun _ _ _ h => h) (Or.inl ⟨by rfl, ?hy19⟩) hHeld ?hr19
              case hy19 =>
                intro w hSw
                try dsimp only at hSw
                simp only [List.getElem_toArray, List.getElem_cons_zero, List.getElem_cons_succ]
                go_simp
                try with_reducible rfl
              simp only [List.getElem_toArray, List.getElem_cons_zero, List.getElem_cons_succ, Act.put, List.setIfInBounds_toArray, List.set_cons_zero, List.set_cons_succ]
              refine wpAnyH_take (i := 20) (v := ?vv20) rfl (by kernel_rfl) (by kernel_rfl) (by kernel_rfl) (fun _ _ _ h => h) (Or.inl ⟨by rfl, ?hy20⟩) hHeld ?hr20
              case hy20 =>
                intro w hSw
                try dsimp only at hSw
                simp only [List.getElem_toArray, List.getElem_cons_zero, List.getElem_cons_succ]
                go_simp
                try with_reducible rfl
              simp only [List.getElem_toArray, List.getElem_cons_zero, List.getElem_cons_succ, Act.put, List.setIfInBounds_toArray, List.set_cons_zero, List.set_cons_succ]
              refine wpAnyH_take (i := 21) (v := ?vv21) rfl (by kernel_rfl) (by kernel_rfl) (by kernel_rfl) (fun _ _ _ h => h) (Or.inl ⟨by rfl, ?hy21⟩) hHeld ?hr21
              case hy21 =>
                intro w hSw
                try dsimp only at hSw
                simp only [List.getElem_toArray, List.getElem_cons_zero, List.getElem_cons_succ]
                go_simp
                try with_reducible rfl
              simp only [List.getElem_toArray, List.getElem_cons_zero, List.getElem_cons_succ, Act.put, List.setIfInBounds_toArray, List.set_cons_zero, List.set_cons_succ]
              refine wpAnyH_take (i := 22) (v := ?vv22) rfl (by kernel_rfl) (by kernel_rfl) (by kernel_rfl) (fun _ _ _ h => h) (Or.inl ⟨by rfl, ?hy22⟩) hHeld ?hr22
              case hy22 =>
                intro w hSw
                try dsimp only at hSw
                simp only [List.getElem_toArray, List.getElem_cons_zero, List.getElem_cons_succ]
                go_simp
                try with_reducible rfl
              simp only [List.getElem_toArray, List.getElem_cons_zero, List.getElem_cons_succ, Act.put, List.setIfInBounds_toArray, List.set_cons_zero, List.set_cons_succ]
              refine wpAnyH_take (i := 23) (v := ?vv23) rfl (by kernel_rfl) (by kernel_rfl) (by kernel_rfl) (fun _ _ _ h => h) (Or.inl ⟨by rfl, ?hy23⟩) hHeld ?hr23
              case hy23 =>
                intro w hSw
                try dsimp only at hSw
                simp only [List.getElem_toArray, List.getElem_cons_zero, List.getElem_cons_succ]
                go_simp
                try with_reducible rfl
              simp only [List.getElem_toArray, List.getElem_cons_zero, List.getElem_cons_succ, Act.put, List.setIfInBounds_toArray, List.set_cons_zero, List.set_cons_succ]
              refine wpAnyH_take (i := 24) (v := ?vv24) rfl (by kernel_rfl) (by kernel_rfl) (by kernel_rfl) (fun _ _ _ h => h) (Or.inl ⟨by rfl, ?hy24⟩) hHeld ?hr24
              case hy24 =>
                intro w hSw
                try dsimp only at hSw
                simp only [List.getElem_toArray, List.getElem_cons_zero, List.getElem_cons_succ]
                go_simp
                try with_reducible rfl
              simp only [List.getElem_toArray, List.getElem_cons_zero, List.getElem_cons_succ, Act.put, List.setIfInBounds_toArray, List.set_cons_zero, List.set_cons_succ]
              refine wpAnyH_ready (rs := [17]) (by kernel_rfl) (by simp) ?_
              refine AllReadyH.cons rfl (fun K hK => ?_) AllReadyH.nil
              try simp only [List.getElem_toArray, List.getElem_cons_zero, List.getElem_cons_succ]
              go_simp
              refine (plain_any d _).mono ?_
              rintro e w4 ⟨rfl, hk4⟩
              have HKX := Lib.hid (hHeld.1.trans hk4)
              have FS4 := Lib.hid (FN.out w4 HKX.out)
              simp only [Nd.val]
              clear hk4
              go_wp2_with fail
              refine hK.out _ _ (FS4.out) (fun hHeld => ?_)
              clear hK K
              try simp only [List.getElem_toArray, List.getElem_cons_zero, List.getElem_cons_succ, Act.put, List.setIfInBounds_toArray, List.set_cons_zero, List.set_cons_succ]
              refine wpAnyH_take (i := 25) (v := ?vv25) rfl (by kernel_rfl) (by kernel_rfl) (by kernel_rfl) (fun _ _ _ h => h) (Or.inl ⟨by rfl, ?hy25⟩) hHeld ?hr25
              case hy25 =>
                intro w hSw
                try dsimp only at hSw
                simp only [List.getElem_toArray, List.getElem_cons_zero, List.getElem_cons_succ]
                go_simp
                try with_reducible rfl
              simp only [List.getElem_toArray, List.getElem_cons_zero, List.getElem_cons_succ, Act.put, List.setIfInBounds_toArray, List.set_cons_zero, List.set_cons_succ]
              refine wpAnyH_take (i := 26) (v := ?vv26) rfl (by kernel_rfl) (by kernel_rfl) (by kernel_rfl) (fun _ _ _ h => h) (Or.inl ⟨by rfl, ?hy26⟩) hHeld ?hr26
              case hy26 =>
                intro w hSw
                try dsimp only at hSw
                simp only [List.getElem_toArray, List.getElem_cons_zero, List.getElem_cons_succ]
                go_simp
                try with_reducible rfl
              simp only [List.getElem_toArray, List.getElem_cons_zero, List.getElem_cons_succ, Act.put, List.setIfInBounds_toArray, List.set_cons_zero, List.set_cons_succ]
              refine wpAnyH_take (i := 27) (v := ?vv27) rfl (by kernel_rfl) (by kernel_rfl) (by kernel_rfl) (fun _ _ _ h => h) (Or.inl ⟨by rfl, ?hy27⟩) hHeld ?hr27
              case hy27 =>
                intro w hSw
                try dsimp only at hSw
                simp only [List.getElem_toArray, List.getElem_cons_zero, List.getElem_cons_succ]
                go_simp
                try with_reducible rfl
              simp only [List.getElem_toArray, List.getElem_cons_zero, List.getElem_cons_succ, Act.put, List.setIfInBounds_toArray, List.set_cons_zero, List.set_cons_succ]
              refine wpAnyH_take (i := 28) (v := ?vv28) rfl (by kernel_rfl) (by kernel_rfl) (by kernel_rfl) (fun _ _ _ h => h) (Or.inl ⟨by rfl, ?hy28⟩) hHeld ?hr28
              case hy28 =>
                intro w hSw
                try dsimp only at hSw
                simp only [List.getElem_toArray, List.getElem_cons_zero, List.getElem_cons_succ]
                go_simp
                try with_reducible rfl
              simp only [List.getElem_toArray, List.getElem_cons_zero, List.getElem_cons_succ, Act.put, List.setIfInBounds_toArray, List.set_cons_zero, List.set_cons_succ]
              refine wpAnyH_take (i := 29) (v := ?vv29) rfl (by kernel_rfl) (by kernel_rfl) (by kernel_rfl) (fun _ _ _ h => h) (Or.inl ⟨by rfl, ?hy29⟩) hHeld ?hr29
              case hy29 =>
                intro w hSw
                try dsimp only at hSw
                simp only [List.getElem_toArray, List.getElem_cons_zero, List.getElem_cons_succ]
                go_simp
                try with_reducible rfl
              simp only [List.getElem_toArray, List.getElem_cons_zero, List.getElem_cons_succ, Act.put, List.setIfInBounds_toArray, List.set_cons_zero, List.set_cons_succ]
              refine wpAnyH_take (i := 30) (v := ?vv30) rfl (by kernel_rfl) (by kernel_rfl) (by kernel_rfl) (fun _ _ _ h => h) (Or.inl ⟨by rfl, ?hy30⟩) hHeld ?hr30
              case hy30 =>
                intro w hSw
                try dsimp only at hSw
                simp only [List.getElem_toArray, List.getElem_cons_zero, List.getElem_cons_succ]
                go_simp
                try with_reducible rfl
              simp only [List.getElem_toArray, List.getElem_cons_zero, List.getElem_cons_succ, Act.put, List.setIfInBounds_toArray, List.set_cons_zero, List.set_cons_succ]
              refine wpAnyH_take (i := 31) (v := ?vv31) rfl (by kernel_rfl) (by kernel_rfl) (by kernel_rfl) (fun _ _ _ h => h) (Or.inl ⟨by rfl, ?hy31⟩) hHeld ?hr31
              case hy31 =>
                intro w hSw
                try dsimp only at hSw
                simp only [List.getElem_toArray, List.getElem_cons_zero, List.getElem_cons_succ]
                go_simp
                try with_reducible rfl
              simp only [List.getElem_toArray, List.getElem_cons_zero, List.getElem_cons_succ, Act.put, List.setIfInBounds_toArray, List.set_cons_zero, List.set_cons_succ]
              refine wpAnyH_take (i := 32) (v := undef) rfl (by kernel_rfl) (by kernel_rfl) (by kernel_rfl) (fun _ _ _ h => h) (Or.inr ⟨by rfl, rfl⟩) hHeld ?hr32
              try simp only [List.getElem_toArray, List.getElem_cons_zero, List.getElem_cons_succ, Act.put, List.setIfInBounds_toArray, List.set_cons_zero, List.set_cons_succ]
              refine wpAnyH_take (i := 33) (v := undef) rfl (by kernel_rfl) (by kernel_rfl) (by kernel_rfl) (fun _ _ _ h => h) (Or.inr ⟨by rfl, rfl⟩) hHeld ?hr33
              try simp only [List.getElem_toArray, List.getElem_cons_zero, List.getElem_cons_succ, Act.put, List.setIfInBounds_toArray, List.set_cons_zero, List.set_cons_succ]
              refine wpAnyH_take (i := 34) (v := undef) rfl (by kernel_rfl) (by kernel_rfl) (by kernel_rfl) (fun _ _ _ h => h) (Or.inr ⟨by rfl, rfl⟩) hHeld ?hr34
              try simp only [List.getElem_toArray, List.getElem_cons_zero, List.getElem_cons_succ, Act.put, List.setIfInBounds_toArray, List.set_cons_zero, List.set_cons_succ]
              refine wpAnyH_take (i := 35) (v := ?vv35) rfl (by kernel_rfl) (by kernel_rfl) (by kernel_rfl) (fun _ _ _ h => h) (Or.inl ⟨by rfl, ?hy35⟩) hHeld ?hr35
              case hy35 =>
                intro w hSw
                try dsimp only at hSw
                simp only [List.getElem_toArray, List.getElem_cons_zero, List.getElem_cons_succ]
                go_simp
                try with_reducible rfl
              simp only [List.getElem_toArray, List.getElem_cons_zero, List.getElem_cons_succ, Act.put, List.setIfInBounds_toArray, List.set_cons_zero, List.set_cons_succ]
              refine wpAnyH_take (i := 36) (v := ?vv36) rfl (by kernel_rfl) (by kernel_rfl) (by kernel_rfl) (fun _ _ _ h => h) (Or.inl ⟨by rfl, ?hy36⟩) hHeld ?hr36
              case hy36 =>
                intro w hSw
                try dsimp only at hSw
                simp only [List.getElem_toArray, List.getElem_cons_zero, List.getElem_cons_succ]
                go_simp
                try with_reducible rfl
              simp only [List.getElem_toArray, List.getElem_cons_zero, List.getElem_cons_succ, Act.put, List.setIfInBounds_toArray, List.set_cons_zero, List.set_cons_succ]
              refine wpAnyH_done (by kernel_rfl) ?_ _
              go_wp2
              go_roundw
              case rel => exact ⟨_, by omega, by omega, rfl, HS.out.kept (HK3.out.trans HKX.out)⟩
              case measure => simp [intOf] <;> omega
            · obtain rfl : i = (LL.length : Int) := by omega
              have HB : Hid (hasB LL.length (LL.length : Int) = false) := by show _ = _; simp [hasB]
              have HN : Hid (nodeAt LL (LL.length : Int) = nd0) := by show _ = _; unfold nodeAt; rw [HB.out]; rfl
              have hq := fun w => neq_node nd0 nd0 w
              rw [Nd.eqb_self] at hq
              simp only [Nd.val, nd0, Bool.not_true] at hq
              have k0 : (0 : Int) ≤ (LL.length : Int) := Int.natCast_nonneg _
              have FC : Hid (∀ w', Kept wr w' → w'.cell? ⟨h, 0, none⟩ = some (.slice aR LL.length cR)) := fun w' hk => hk.cell cR0
              go_wp2_with fail
              refine (node_any HB2.out.G (LL.length : Int)).mono ?_
              rintro e w2 ⟨rfl, hk2⟩
              rw [HB.out, HN.out]
              simp only [Nd.val, nd0]
              have HS2 := Lib.hid (HS.out.kept hk2)
              have cR2 := FC.out w2 hk2
              have hhl := World.block_lt_of_cell? w2 _ cR2
              simp only at hhl
              have hhn : h ≠ w2.heap.size := Nat.ne_of_lt hhl
              clear hk2
              go_wp2_with fail
              go_quiet (fail)
              go_wp2
              go_roundw
              case rel => exact ⟨_, by omega, by omega, rfl, (by first | exact (HS2.out.kept ((Kept.refl _).alloc _)).drewN _ | exact (HS2.out.kept ((Kept.refl _).alloc _)).drew | exact HS2.out.kept ((Kept.refl _).alloc _))⟩
              case measure => simp [intOf] <;> omega
        · obtain rfl : i = (LL.length : Int) + 1 := by omega
          go_wp2_with (go_at_call 10; refine (works_any _ (HL.out.kept HB2.out.K)).mono ?_; rintro e w5 ⟨rfl, hk5⟩)
          go_ret
          exact ⟨rfl, HB2.out.K.trans hk5⟩
theorem termadds_any (la : Option Addr) (n lc : Nat) (ds : List Nd) (w : World) (hds : n ≤ 100 → NodesAt w la n ds) (hL : Laid w) :
    Calls Tryd.prog 3 #[.slice la n lc] w fun e w' => e = .returned (.bool true) ∧ Kept w w' := by
  by_cases hn : n ≤ 100
  · exact termadds_few la n lc ds w (hds hn) hn hL
  · exact termadds_many la n lc w (by omega) hL
end Go.Proofs.YtjhmbbioplhcgaaDoor
