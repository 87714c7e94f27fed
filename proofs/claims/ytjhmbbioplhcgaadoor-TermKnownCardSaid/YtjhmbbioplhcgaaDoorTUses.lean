/-
  Layer 2: the contract of Uses.
-/
import Derived.Test.YtjhmbbioplhcgaaDoorTSortM
import Derived.StillTailTactics
namespace Go.Proofs.YtjhmbbioplhcgaaDoor
open Go Go.RowKit

/-- A slice of numbers that came in. -/
structure RootsAt (w : World) (ra : Option Addr) (n : Nat) (zs : List Int) : Prop where
  len : zs.length = n
  inr : ∀ x ∈ zs, InR x
  at_ : 0 < n → ∃ b off, ra = some ⟨b, off, none⟩ ∧ ∀ j x, zs[j]? = some x → w.cell? ⟨b, off + j, none⟩ = some (.int .i64 x)

/-- The world at the head of the first loop's rounds. -/
def RelA (L : List Nd) (roots : List Int) (w : World) (bs bu ms j : Nat) (wr : World) : Prop :=
  ∃ a c U, SeeAt w.heap.size wr bs bu ms a c U ∧ Kept w wr ∧ UInv L roots (roots.take j) U
/-- .. and of the second's. -/
def RelB (L : List Nd) (roots : List Int) (w : World) (bs bu ms j : Nat) (wr : World) : Prop :=
  ∃ a c U, SeeAt w.heap.size wr bs bu ms a c U ∧ Kept w wr ∧ UInv L roots roots U ∧ Clo L U j ∧ j ≤ U.length

theorem SeeAt.keptOn {N : Nat} {w wr wr' : World} {bs bu ms c : Nat} {a : Option Addr} {U : List Int} (h : SeeAt N wr bs bu ms a c U) (hN : w.heap.size ≤ N) (hk : Kept w wr) (ht : Turned (SeeT bu ms a) wr wr') : Kept w wr' := by
  refine ⟨ht.os.trans hk.os, ht.tape.trans hk.tape, ht.output.trans hk.output, Nat.le_trans hk.size ht.size, fun q hq => (ht.block q (Nat.lt_of_lt_of_le hq hk.size) ?_).trans (hk.block q hq)⟩
  rintro (e | e | ⟨x, hx, e⟩)
  · have := h.low.2.1; omega
  · have := h.low.2.2; omega
  · have := (h.rowOf x.block (by rw [hx]; rfl)).2.2.2.2
    omega
theorem SeeAt.cellAt {N : Nat} {w : World} {bs bu ms c : Nat} {a : Option Addr} {U : List Int} (h : SeeAt N w bs bu ms a c U) (hn : 0 < U.length) :
    ∃ ur, a = some ⟨ur, 0, none⟩ ∧ U.length ≤ c ∧ c ≤ maxLen ∧ ∀ j x, U[j]? = some x → w.cell? ⟨ur, j, none⟩ = some (.int .i64 x) := by
  rcases h.row.2 with ⟨_, h0⟩ | ⟨r, cap, cur, hv, _, hblk, hle, hmx, hsz, htk⟩
  · omega
  · have ha : a = some ⟨r, 0, none⟩ := by injection hv with h1 _ _
    have hc : c = cap := by injection hv with _ _ h3
    subst hc
    refine ⟨r, ha, hle, hmx, fun j x hx => ?_⟩
    have hj : j < U.length := (List.getElem?_eq_some_iff.1 hx).1
    rw [cell_of_row w r _ _ _ _ hblk]
    have h2 : (U.map (Value.int .i64))[j]? = some (.int .i64 x) := by rw [List.getElem?_map, hx]; rfl
    rw [← htk, List.getElem?_take, if_pos (by omega)] at h2
    simpa using h2
theorem clo_step {L : List Nd} {U V : List Int} {q : Nat} {u : Int} (h : Clo L U q) (hq : U[q]? = some u) (hV : ∃ Z, V = U ++ Z) (hp : ∀ p ∈ partsOf (ndAt L u), p ∈ V) : Clo L V (q + 1) := by
  obtain ⟨Z, rfl⟩ := hV
  have hql : q < U.length := (List.getElem?_eq_some_iff.1 hq).1
  intro j v hj hv p hpp
  rw [List.getElem?_append_left (by omega)] at hv
  by_cases hjq : j = q
  · subst hjq
    rw [hq] at hv
    cases hv
    exact hp p hpp
  · exact List.mem_append_left _ (h j v (by omega) hv p hpp)
theorem see2_prefix (U : List Int) (x y : Int) : ∃ Z, seeL (seeL U x) y = U ++ Z := by
  obtain ⟨V, h1⟩ := seeL_prefix U x
  obtain ⟨Z, h2⟩ := seeL_prefix (seeL U x) y
  exact ⟨V ++ Z, by rw [h2, h1, List.append_assoc]⟩
theorem has_inR {n : Nat} {i : Int} (h : hasB n i = true) (hn : n ≤ 900) : InR i := by
  obtain ⟨h0, h1⟩ := (hasB_iff _ _).1 h
  exact ⟨by omega, by omega⟩

theorem uses_start (w : World) : SeeAt w.heap.size (((w.alloc (.cells #[.slice none 0 0] 43)).alloc (.map #[] 0)).alloc (.cells #[.map (some (w.heap.size + 1))] 90)) (w.heap.size + 1 + 1) w.heap.size (w.heap.size + 1) none 0 [] ∧ Kept w (((w.alloc (.cells #[.slice none 0 0] 43)).alloc (.map #[] 0)).alloc (.cells #[.map (some (w.heap.size + 1))] 90)) := by
  have e1 := (MapKept.heap_alloc w (.cells #[.slice none 0 0] 43)).1
  have s1 : (w.alloc (.cells #[.slice none 0 0] 43)).heap.size = w.heap.size + 1 := by simp
  have s2 : ((w.alloc (.cells #[.slice none 0 0] 43)).alloc (.map #[] 0)).heap.size = w.heap.size + 1 + 1 := by simp
  have e3 := (MapKept.heap_alloc ((w.alloc (.cells #[.slice none 0 0] 43)).alloc (.map #[] 0)) (.cells #[.map (some (w.heap.size + 1))] 90)).1
  rw [s2] at e3
  have om := (World.ownsMap_made (w.alloc (.cells #[.slice none 0 0] 43)) Tryd.prog 30 (unitElem (H := Unit))).alloc (.cells #[.map (some (w.heap.size + 1))] 90)
  rw [s1] at om
  exact ⟨⟨e3, Kept.row (((Kept.refl _).alloc _).alloc _) e1, World.ownsRow_nil _ _ _ _, om, by omega, (fun x hx => by cases hx), ⟨by omega, by omega, by omega⟩, by simp⟩, (((Kept.refl w).alloc _).alloc _).alloc _⟩
set_option maxRecDepth 100000 in
set_option maxHeartbeats 8000000 in
theorem uses_any {B g m c : Nat} {sa : Option Addr} {L : List Nd} {w : World} (h : GraphAt B w g m sa c L) (hlen : L.length ≤ 900) (ra : Option Addr) (n rc : Nat) (zs : List Int) (hz : RootsAt w ra n zs) (hn : n ≤ 100000) :
    Calls Tryd.prog 23 #[.pointer (some ⟨g, 0, none⟩), .slice ra n rc] w fun e w' => ∃ a' c' R, e = .returned (.slice a' R.length c') ∧ UsesSpec L zs R ∧ w'.ownsRow w.heap.size 30 1 (.slice a' R.length c') R.length (R.map (Value.int .i64)) ∧ Kept w w' := by
  have hmm := @run_makeMap Tryd.prog
  have HH := Lib.hid h
  have HZ := Lib.hid hz
  clear h hz
  go_enter Tryd.func23, Tryd.ntmps23
  go_wp2
  have HS := Lib.hid (uses_start w)
  change Code.wp _ _ _ _ (((w.alloc (.cells #[.slice none 0 0] 43)).alloc (.map #[] 0)).alloc (.cells #[.map (some (w.heap.size + 1))] 90))
  generalize ((w.alloc (.cells #[.slice none 0 0] 43)).alloc (.map #[] 0)).alloc (.cells #[.map (some (w.heap.size + 1))] 90) = W1 at *
  generalize hbs : w.heap.size + 1 + 1 = bs at *
  generalize hms : w.heap.size + 1 = ms at *
  generalize hbu : w.heap.size = bu at *
  have HBS := Lib.hid hbs; have HMS := Lib.hid hms; have HBU := Lib.hid hbu
  clear hbs hms hbu
  go_loopw [17] (fun i wr => ∃ j : Nat, j ≤ n ∧ i = .int .i64 j ∧ RelA L zs w bs bu ms j wr) (fun i _ => n - (intOf i).toNat)
  case atStart =>
    refine ⟨0, Nat.zero_le _, rfl, none, 0, [], ?_, HS.out.2, UInv.nil L zs⟩
    rw [HBU.out]; exact HS.out.1
  case round =>
    obtain ⟨j, hj, rfl, hR⟩ := hrel
    by_cases hlt : j < n
    · obtain ⟨b, off, hra, hcz⟩ := HZ.out.at_ (by omega)
      subst hra
      obtain ⟨a1, c1, U, hS, hK, hI⟩ := hR
      have hzl := HZ.out.len
      have hjz : j < zs.length := by omega
      have hx0 := hK.cell (hcz j _ (List.getElem?_eq_getElem hjz))
      have hxr := HZ.out.inr _ (List.getElem_mem hjz)
      have htk : zs.take (j + 1) = zs.take j ++ [zs[j]] := List.take_succ_eq_append_getElem hjz
      have hmem : zs[j] ∈ zs := List.getElem_mem hjz
      have HTK := Lib.hid htk; have HMEM := Lib.hid hmem; have HXR := Lib.hid hxr
      clear htk hmem hxr hcz
      generalize zs[j] = x at *
      have g0 := (HH.out.kept hK).cell0
      have HS1 := Lib.hid hS; have HK1 := Lib.hid hK; have HI1 := Lib.hid hI
      clear hS hK hI hzl hjz
      have hj0 : (0 : Int) ≤ (j : Int) := Int.natCast_nonneg _
      have hj1 : (j : Int) < (n : Int) := by omega
      have hU := HI1.out.len
      cases hb : hasB L.length x with
      | true =>
        have HB := Lib.hid hb; clear hb
        go_wp2_with (first
          | (go_at_call 36; refine (has_cell _ _ _ _ _ _ g0).mono ?_; rintro e w' ⟨rfl, rfl⟩; rw [HB.out])
          | (go_at_call 43; refine (see_any HS1.out x HXR.out (by omega)).mono ?_; rintro e w2 ⟨rfl, a2, c2, hS2, hT2, _⟩; have HS2 := Lib.hid hS2; have HT2 := Lib.hid hT2; clear hS2 hT2))
        go_roundw
        case rel => exact ⟨j + 1, by omega, by go_num, a2, c2, _, HS2.out, HS1.out.keptOn (Nat.le_refl _) HK1.out HT2.out, by rw [HTK.out]; exact HI1.out.root HMEM.out HB.out⟩
        case measure => simp [intOf]; omega
      | false =>
        have HB := Lib.hid hb; clear hb
        go_wp2_with (go_at_call 36; refine (has_cell _ _ _ _ _ _ g0).mono ?_; rintro e w' ⟨rfl, rfl⟩; rw [HB.out])
        go_roundw
        case rel => exact ⟨j + 1, by omega, by go_num, a1, c1, U, HS1.out, HK1.out, by rw [HTK.out]; exact HI1.out.pass HB.out⟩
        case measure => simp [intOf]; omega
    · have hjn : j = n := by omega
      subst hjn
      obtain ⟨a1, c1, U, hS, hK, hI⟩ := hR
      have htk : zs.take j = zs := List.take_of_length_le (by rw [HZ.out.len]; exact Nat.le_refl _)
      rw [htk] at hI
      clear htk
      have HS1 := Lib.hid hS; have HK1 := Lib.hid hK; have HI1 := Lib.hid hI
      clear hS hK hI
      go_upto_region 11 with (fail)
      obtain ⟨wo, rfl⟩ : ∃ wo : World, wo = wr := ⟨_, rfl⟩
      go_loopw [10] (fun i wr => ∃ q : Nat, i = .int .i64 q ∧ RelB L zs w bs bu ms q wr) (fun i _ => 1000 - (intOf i).toNat)
      case atStart => exact ⟨0, rfl, a1, c1, U, HS1.out, HK1.out, HI1.out, (fun j u hj => absurd hj (Nat.not_lt_zero _)), Nat.zero_le _⟩
      case round =>
        obtain ⟨q, rfl, a2, c2, U2, hS, hK, hI, hC, hq⟩ := hrel
        have hU := hI.len
        have cu := hS.cu
        by_cases hql : q < U2.length
        · obtain ⟨ur, rfl, hcap2, hmx2, hcu⟩ := hS.cellAt (by omega)
          obtain ⟨u, hu⟩ : ∃ u, U2[q]? = some u := ⟨_, List.getElem?_eq_getElem hql⟩
          have hum : u ∈ U2 := List.mem_of_getElem? hu
          have hub := hI.has u hum
          obtain ⟨hu0, hu1⟩ := (hasB_iff _ _).1 hub
          obtain ⟨k, rfl⟩ : ∃ k : Nat, u = k := ⟨u.toNat, by omega⟩
          have hkl : k < L.length := by omega
          obtain ⟨r0, rfl, _, _, _, hcap0, hmx0, hcell⟩ := (HH.out.kept hK).rowAt (by omega)
          have hkd : (kAt (kps L) (k : Int)).d = ndAt L (k : Int) := by
            rw [kAt_d hkl]; rfl
          have hq0 := hcell k _ (kAt_get hkl)
          have m0 := hq0 0 _ rfl
          have m1 := hq0 1 _ rfl
          have m2 := hq0 2 _ rfl
          have m3 := hq0 3 _ rfl
          have m4 := hq0 4 _ rfl
          have m5 := hq0 5 _ rfl
          simp only [Nat.add_zero, hkd] at m0 m1 m2 m3 m4 m5
          have hmay : mayB k (ndAt L (k : Int)) = true := by rw [ndAt_get hkl]; exact HH.out.good.may k hkl
          have hparts := may_parts hmay
          have g0 := (HH.out.kept hK).cell0
          have huc := hcu q _ hu
          clear hq0 hcell hkd hcu
          have HHU := Lib.hid hu; have HUM := Lib.hid hum
          have HS2 := Lib.hid hS; have HK2 := Lib.hid hK; have HI2 := Lib.hid hI; have HC2 := Lib.hid hC
          clear hS hK hI hC hu hum hub hu0 hu1
          unfold maxLen at hmx0 hmx2
          have q0 : (0 : Int) ≤ (q : Int) := Int.natCast_nonneg _
          have q1 : (q : Int) < (U2.length : Int) := by omega
          have k0 : (0 : Int) ≤ (k : Int) := Int.natCast_nonneg _
          have k1 : (k : Int) < (L.length : Int) := by omega
          have HPT := Lib.hid hparts; clear hparts
          obtain ⟨d, hd⟩ : ∃ d, ndAt L (k : Int) = d := ⟨_, rfl⟩
          rw [hd] at m0 m1 m2 m3 m4 m5 hmay
          have HD := Lib.hid hd; clear hd
          have HMAY := Lib.hid hmay; clear hmay
          by_cases k3 : d.k = 3
          · have K3 := Lib.hid k3
            have HYR : Hid (InR d.y) := by
              have := HPT.out d.y (by rw [HD.out]; unfold partsOf; rw [if_pos k3]; simp)
              exact ⟨by omega, by omega⟩
            rw [k3] at m0
            clear k3
            have SK : Hid (∀ w', Kept wr w' → w'.cell? ⟨g, 0, none⟩ = some (.slice (some ⟨r0, 0, none⟩) L.length c) ∧ w'.cell? ⟨bu, 0, none⟩ = some (.slice (some ⟨ur, 0, none⟩) U2.length c2) ∧ w'.cell? ⟨ur, q, none⟩ = some (.int .i64 (k : Int)) ∧
                          w'.cell? ⟨r0, k * 8, none⟩ = some (.int .u8 3) ∧ w'.cell? ⟨r0, k * 8 + 1, none⟩ = some (.int .i64 d.n) ∧ w'.cell? ⟨r0, k * 8 + 2, none⟩ = some (.int .i64 d.a) ∧ w'.cell? ⟨r0, k * 8 + 3, none⟩ = some (.int .u8 d.o) ∧ w'.cell? ⟨r0, k * 8 + 4, none⟩ = some (.int .i64 d.x) ∧ w'.cell? ⟨r0, k * 8 + 5, none⟩ = some (.int .i64 d.y)) := fun w' hk =>
              ⟨hk.cell g0, hk.cell cu, hk.cell huc, hk.cell m0, hk.cell m1, hk.cell m2, hk.cell m3, hk.cell m4, hk.cell m5⟩
            clear m0 m1 m2 m3 m4 m5 huc g0 cu
            have hK0 := Kept.refl wr
            obtain ⟨g0, cu, huc, m0, m1, m2, m3, m4, m5⟩ := SK.out wr hK0
            go_wp2_with fail
            go_region_held3 (fun w' => w'.cell? ⟨g, 0, none⟩ = some (.slice (some ⟨r0, 0, none⟩) L.length c) ∧ w'.cell? ⟨bu, 0, none⟩ = some (.slice (some ⟨ur, 0, none⟩) U2.length c2) ∧ w'.cell? ⟨ur, q, none⟩ = some (.int .i64 (k : Int)) ∧
                          w'.cell? ⟨r0, k * 8, none⟩ = some (.int .u8 3) ∧ w'.cell? ⟨r0, k * 8 + 1, none⟩ = some (.int .i64 d.n) ∧ w'.cell? ⟨r0, k * 8 + 2, none⟩ = some (.int .i64 d.a) ∧ w'.cell? ⟨r0, k * 8 + 3, none⟩ = some (.int .u8 d.o) ∧ w'.cell? ⟨r0, k * 8 + 4, none⟩ = some (.int .i64 d.x) ∧ w'.cell? ⟨r0, k * 8 + 5, none⟩ = some (.int .i64 d.y))
              (first | exact SK.out _ (Kept.refl _) | exact SK.out _ (Kept.drew (Kept.refl _)) | exact SK.out _ (by assumption))
              ((go_at_call 40; refine (parts3 _ _ _ _ _ _).mono ?_; rintro e w3 ⟨pb, rfl, hk, hpb, p0⟩; replace hk := (Kept.drew hK0).trans hk))
            have HK0 := Lib.hid hk
            have HS4 := Lib.hid (HS2.out.kept HK0.out)
            have HK4 := Lib.hid (HK2.out.trans HK0.out)
            clear hk
            go_wp2
            refine wp_loop_rounds 2 ?_
            rw [rounds_succ]
            go_wp2_with fail
            refine (see_any HS4.out d.y HYR.out (by omega)).mono ?_
            rintro e w5 ⟨rfl, a5, c5, hS5, hT5, _⟩
            have HS5 := Lib.hid hS5
            have HK5 := Lib.hid (HS4.out.keptOn (Nat.le_refl _) HK4.out hT5)
            clear hS5 hT5
            go_wp2
            rw [rounds_succ]
            go_wp2
            go_roundw
            case rel =>
              have hd : partsOf (ndAt L (k : Int)) = [d.y] := by rw [HD.out]; unfold partsOf; rw [if_pos K3.out]
              refine ⟨q + 1, by go_num, a5, c5, _, HS5.out, HK5.out, HI2.out.part HH.out.good HUM.out (by rw [hd]; simp), clo_step HC2.out HHU.out (seeL_prefix _ _) (by rw [hd]; intro p hp; rw [List.mem_singleton.1 hp]; exact (mem_seeL _ _ _).2 (Or.inr rfl)), ?_⟩
              obtain ⟨Z, hZ⟩ := seeL_prefix U2 d.y
              rw [hZ, List.length_append]; omega
            case measure => simp [intOf]; omega
          · by_cases k4 : d.k = 4
            · have K4 := Lib.hid k4
              have HXR : Hid (InR d.x) := by
                have := HPT.out d.x (by rw [HD.out]; unfold partsOf; rw [if_neg k3, if_pos k4]; simp)
                exact ⟨by omega, by omega⟩
              have HYR : Hid (InR d.y) := by
                have := HPT.out d.y (by rw [HD.out]; unfold partsOf; rw [if_neg k3, if_pos k4]; simp)
                exact ⟨by omega, by omega⟩
              rw [k4] at m0
              clear k3 k4
              have SK : Hid (∀ w', Kept wr w' → w'.cell? ⟨g, 0, none⟩ = some (.slice (some ⟨r0, 0, none⟩) L.length c) ∧ w'.cell? ⟨bu, 0, none⟩ = some (.slice (some ⟨ur, 0, none⟩) U2.length c2) ∧ w'.cell? ⟨ur, q, none⟩ = some (.int .i64 (k : Int)) ∧
                            w'.cell? ⟨r0, k * 8, none⟩ = some (.int .u8 4) ∧ w'.cell? ⟨r0, k * 8 + 1, none⟩ = some (.int .i64 d.n) ∧ w'.cell? ⟨r0, k * 8 + 2, none⟩ = some (.int .i64 d.a) ∧ w'.cell? ⟨r0, k * 8 + 3, none⟩ = some (.int .u8 d.o) ∧ w'.cell? ⟨r0, k * 8 + 4, none⟩ = some (.int .i64 d.x) ∧ w'.cell? ⟨r0, k * 8 + 5, none⟩ = some (.int .i64 d.y)) := fun w' hk =>
                ⟨hk.cell g0, hk.cell cu, hk.cell huc, hk.cell m0, hk.cell m1, hk.cell m2, hk.cell m3, hk.cell m4, hk.cell m5⟩
              clear m0 m1 m2 m3 m4 m5 huc g0 cu
              have hK0 := Kept.refl wr
              obtain ⟨g0, cu, huc, m0, m1, m2, m3, m4, m5⟩ := SK.out wr hK0
              go_wp2_with fail
              go_region_held3 (fun w' => w'.cell? ⟨g, 0, none⟩ = some (.slice (some ⟨r0, 0, none⟩) L.length c) ∧ w'.cell? ⟨bu, 0, none⟩ = some (.slice (some ⟨ur, 0, none⟩) U2.length c2) ∧ w'.cell? ⟨ur, q, none⟩ = some (.int .i64 (k : Int)) ∧
                            w'.cell? ⟨r0, k * 8, none⟩ = some (.int .u8 4) ∧ w'.cell? ⟨r0, k * 8 + 1, none⟩ = some (.int .i64 d.n) ∧ w'.cell? ⟨r0, k * 8 + 2, none⟩ = some (.int .i64 d.a) ∧ w'.cell? ⟨r0, k * 8 + 3, none⟩ = some (.int .u8 d.o) ∧ w'.cell? ⟨r0, k * 8 + 4, none⟩ = some (.int .i64 d.x) ∧ w'.cell? ⟨r0, k * 8 + 5, none⟩ = some (.int .i64 d.y))
                (first | exact SK.out _ (Kept.refl _) | exact SK.out _ (Kept.drew (Kept.refl _)) | exact SK.out _ (by assumption))
                ((go_at_call 40; refine (parts4 _ _ _ _ _ _).mono ?_; rintro e w3 ⟨pb, rfl, hk, hpb, p0, p1⟩; replace hk := (Kept.drew hK0).trans hk))
              have HK0 := Lib.hid hk
              have HS4 := Lib.hid (HS2.out.kept HK0.out)
              have HK4 := Lib.hid (HK2.out.trans HK0.out)
              clear hk
              have HPB : Hid (¬ SeeT bu ms (some ⟨ur, 0, none⟩) pb) := by
                have h1 := (Array.getElem?_eq_some_iff.1 HS2.out.hu).1
                have h2 := HS2.out.map.lt
                have h3 := HS2.out.rowOf ur rfl
                have h4 : wr.heap.size ≤ pb := hpb
                rintro (e | e | ⟨y, hy, e⟩)
                · omega
                · omega
                · have : y = ⟨ur, 0, none⟩ := by simpa using hy.symm
                  subst this
                  simp only at e
                  omega
              go_wp2
              refine wp_loop_rounds 3 ?_
              rw [rounds_succ]
              go_wp2_with fail
              refine (see_any HS4.out d.x HXR.out (by omega)).mono ?_
              rintro e w5 ⟨rfl, a5, c5, hS5, hT5, _⟩
              have p1x := hT5.cell p1 HPB.out
              have HS5 := Lib.hid hS5
              have HK5 := Lib.hid (HS4.out.keptOn (Nat.le_refl _) HK4.out hT5)
              clear hS5 hT5 p1 p0
              go_wp2
              rw [rounds_succ]
              go_wp2_with fail
              have hlen5 : (seeL U2 d.x).length ≤ 100000 := by
                have h1 := (HI2.out.part HH.out.good HUM.out (p := d.x) (by rw [HD.out]; unfold partsOf; rw [if_neg (by rw [K4.out]; decide), if_pos K4.out]; simp)).len
                omega
              refine (see_any HS5.out d.y HYR.out hlen5).mono ?_
              rintro e w6 ⟨rfl, a6, c6, hS6, hT6, _⟩
              have HS6 := Lib.hid hS6
              have HK6 := Lib.hid (HS5.out.keptOn (Nat.le_refl _) HK5.out hT6)
              clear hS6 hT6 hlen5
              go_wp2
              rw [rounds_succ]
              go_wp2
              go_roundw
              case rel =>
                have hd : partsOf (ndAt L (k : Int)) = [d.x, d.y] := by rw [HD.out]; unfold partsOf; rw [if_neg (by rw [K4.out]; decide), if_pos K4.out]
                have hI5 := HI2.out.part HH.out.good HUM.out (p := d.x) (by rw [hd]; simp)
                refine ⟨q + 1, by go_num, a6, c6, _, HS6.out, HK6.out, hI5.part HH.out.good ((mem_seeL _ _ _).2 (Or.inl HUM.out)) (by rw [hd]; simp), clo_step HC2.out HHU.out (see2_prefix _ _ _) (by
                  rw [hd]; intro p hp
                  rcases List.mem_cons.1 hp with e | e
                  · rw [e]; exact (mem_seeL _ _ _).2 (Or.inl ((mem_seeL _ _ _).2 (Or.inr rfl)))
                  · rw [List.mem_singleton.1 e]; exact (mem_seeL _ _ _).2 (Or.inr rfl)), ?_⟩
                obtain ⟨Z, hZ⟩ := see2_prefix U2 d.x d.y
                rw [hZ, List.length_append]; omega
              case measure => simp [intOf]; omega
            · replace k3 : (d.k == 3) = false := by simpa using k3
              replace k4 : (d.k == 4) = false := by simpa using k4
              have SK : Hid (∀ w', Kept wr w' → w'.cell? ⟨g, 0, none⟩ = some (.slice (some ⟨r0, 0, none⟩) L.length c) ∧ w'.cell? ⟨bu, 0, none⟩ = some (.slice (some ⟨ur, 0, none⟩) U2.length c2) ∧ w'.cell? ⟨ur, q, none⟩ = some (.int .i64 (k : Int)) ∧
                            w'.cell? ⟨r0, k * 8, none⟩ = some (.int .u8 d.k) ∧ w'.cell? ⟨r0, k * 8 + 1, none⟩ = some (.int .i64 d.n) ∧ w'.cell? ⟨r0, k * 8 + 2, none⟩ = some (.int .i64 d.a) ∧ w'.cell? ⟨r0, k * 8 + 3, none⟩ = some (.int .u8 d.o) ∧ w'.cell? ⟨r0, k * 8 + 4, none⟩ = some (.int .i64 d.x) ∧ w'.cell? ⟨r0, k * 8 + 5, none⟩ = some (.int .i64 d.y)) := fun w' hk =>
                ⟨hk.cell g0, hk.cell cu, hk.cell huc, hk.cell m0, hk.cell m1, hk.cell m2, hk.cell m3, hk.cell m4, hk.cell m5⟩
              clear m0 m1 m2 m3 m4 m5 huc g0 cu
              have hK0 := Kept.refl wr
              obtain ⟨g0, cu, huc, m0, m1, m2, m3, m4, m5⟩ := SK.out wr hK0
              go_wp2_with fail
              go_region_held3 (fun w' => w'.cell? ⟨g, 0, none⟩ = some (.slice (some ⟨r0, 0, none⟩) L.length c) ∧ w'.cell? ⟨bu, 0, none⟩ = some (.slice (some ⟨ur, 0, none⟩) U2.length c2) ∧ w'.cell? ⟨ur, q, none⟩ = some (.int .i64 (k : Int)) ∧
                            w'.cell? ⟨r0, k * 8, none⟩ = some (.int .u8 d.k) ∧ w'.cell? ⟨r0, k * 8 + 1, none⟩ = some (.int .i64 d.n) ∧ w'.cell? ⟨r0, k * 8 + 2, none⟩ = some (.int .i64 d.a) ∧ w'.cell? ⟨r0, k * 8 + 3, none⟩ = some (.int .u8 d.o) ∧ w'.cell? ⟨r0, k * 8 + 4, none⟩ = some (.int .i64 d.x) ∧ w'.cell? ⟨r0, k * 8 + 5, none⟩ = some (.int .i64 d.y))
                (first | exact SK.out _ (Kept.refl _) | exact SK.out _ (Kept.drew (Kept.refl _)) | exact SK.out _ (by assumption))
                ((go_at_call 40; refine (parts0 _ _ _ _ _ _ _ k3 k4).mono ?_; rintro e w3 ⟨rfl, hk⟩; replace hk := (Kept.drew hK0).trans hk))
              have HK0 := Lib.hid hk
              have HS4 := Lib.hid (HS2.out.kept HK0.out)
              have HK4 := Lib.hid (HK2.out.trans HK0.out)
              clear hk
              go_wp2
              refine wp_loop_rounds 1 ?_
              rw [rounds_succ]
              go_wp2
              go_roundw
              case rel => exact ⟨q + 1, by go_num, _, c2, U2, HS4.out, HK4.out, HI2.out, clo_step HC2.out HHU.out ⟨[], by simp⟩ (by rw [HD.out]; unfold partsOf; rw [if_neg (by simpa using k3), if_neg (by simpa using k4)]; simp), by omega⟩
              case measure => simp [intOf]; omega
        · obtain rfl : q = U2.length := by omega
          have hsp := uses_end (S := U2.mergeSort fun x y => decide (x ≤ y)) hI hC (List.mergeSort_perm _ _) (by
            have hp := List.pairwise_mergeSort (le := fun x y : Int => decide (x ≤ y)) (fun a b c h1 h2 => by simp at h1 h2 ⊢; omega) (fun a b => by simp; omega) U2
            exact hp.imp fun h => of_decide_eq_true h)
          have hsl : (U2.mergeSort fun x y => decide (x ≤ y)).length = U2.length := List.length_mergeSort _
          have HSP := Lib.hid hsp; have HSL := Lib.hid hsl
          have HS2 := Lib.hid hS; have HK2 := Lib.hid hK
          clear hsp hsl hS hK hI hC
          by_cases h0 : U2.length = 0
          · obtain rfl : U2 = [] := List.eq_nil_of_length_eq_zero h0
            clear h0 hql hq hU
            go_wp2_with fail
            refine (AnyM.slices_Sort_int_none Tryd.laysSort _ _ _).mono ?_
            rintro e w3 ⟨rfl, hw3⟩
            subst hw3
            go_wp2
            go_ret
            have e0 : ([] : List Int).mergeSort (fun x y => decide (x ≤ y)) = [] := by simp
            exact ⟨a2, c2, [], rfl, e0 ▸ HSP.out, HS2.out.row, HK2.out⟩
          · obtain ⟨ur, rfl, hcap2, hmx2, hcu⟩ := HS2.out.cellAt (by omega)
            clear hcu hcap2 hmx2
            go_wp2_with fail
            refine (Tryd.slices_Sort_ID ur 0 c2 U2 wr (sort_holds HS2.out.row) (HS2.out.row.lt ur rfl).2 (by omega)).mono ?_
            rintro e w3 ⟨rfl, nn, os, hw3⟩
            have hsr := sorted_row (n := nn) (os := os) HS2.out.row HSL.out
            rw [← hw3] at hsr
            have HSR := Lib.hid hsr
            clear hsr hw3
            have cu3 : w3.cell? ⟨bu, 0, none⟩ = some (.slice (some ⟨ur, 0, none⟩) U2.length c2) := HSR.out.2.cell cu (fun e => (HS2.out.rowOf ur rfl).2.1 e.symm)
            go_wp2
            go_ret
            refine ⟨some ⟨ur, 0, none⟩, c2, U2.mergeSort fun x y => decide (x ≤ y), (by rw [HSL.out]; rfl), HSP.out, by rw [HSL.out]; exact HSR.out.1, ?_⟩
            refine HS2.out.keptOn (Nat.le_refl _) HK2.out (HSR.out.2.mono fun q _ hq => Or.inr (Or.inr ⟨_, rfl, hq⟩))
end Go.Proofs.YtjhmbbioplhcgaaDoor
