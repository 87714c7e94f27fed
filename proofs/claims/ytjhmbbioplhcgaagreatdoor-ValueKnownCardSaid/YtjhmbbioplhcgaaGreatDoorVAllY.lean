/-
  Layer 3: contracts of All and Of.
-/
import Derived.Test.YtjhmbbioplhcgaaGreatDoorVAll
namespace Go.Proofs.YtjhmbbioplhcgaaGreatDoor
open Go Go.RowKit Go.ChangeMaps Go.MapKept Go.WideMaps
open Go.Maps (Keyed)

/-- A map that reads as a function of numbers. -/
structure ValIs (D : DataW Unit) (f : Int → Int) : Prop where
  map : Maps.IsMap D
  at_ : ∀ x, D.atKey (.int .i64 x) (.lit (.int .i64 0)) = .lit (.int .i64 (f x))
theorem ValIs.nil : ValIs (.map []) (fun _ => 0) := ⟨Maps.isMap_empty, fun _ => rfl⟩
theorem ValIs.put {D : DataW Unit} {f g : Int → Int} (h : ValIs D f) {u v : Int} (hu : g u = v) (hg : ∀ x, x ≠ u → g x = f x) : ValIs (D.put (.int .i64 u) (.lit (.int .i64 v))) g := by
  refine ⟨h.map.put _ _, fun x => ?_⟩
  by_cases e : x = u
  · subst e
    rw [Maps.atKey_put_same h.map (show WideAt.IsKeyLit (.int .i64 x) from trivial), hu]
  · rw [Maps.atKey_put_other (fun h => e (by simpa using h)), h.at_ x, hg x e]
theorem vals_look {D : DataW Unit} {f : Int → Int} {w : World} {mv n : Nat} (h : w.ownsMap Tryz.prog 44 (plainElem Tryz.prog 2) mv n D) (hV : ValIs D f) {x : Int} (hx : InR x) :
    (Instr.lookup 77 (.map (some mv)) (.int .i64 x) false).run Tryz.prog w = .ok (.int .i64 (f x)) w := by
  obtain ⟨c, hrun, hat, _⟩ := h.lookup_int lawId Tryz.underlying77 Tryz.underlying2 (zeroI64 w) (Maps.keyOf_int_mk Tryz.underlying44 (wf_i64 hx))
  rw [hV.at_ x] at hat
  have : f x = c := by simpa using hat
  rw [this]; exact hrun
/-- The values so far. -/
def soFar (S : List Int) (C : List Cl) (L : List Nd) (V : List Int) (x : Int) : Int := if memB V x then valI S C L x else 0
theorem soFar_in {S : List Int} {C : List Cl} {L : List Nd} {V : List Int} {x : Int} (h : x ∈ V) : soFar S C L V x = valI S C L x := by
  unfold soFar; rw [if_pos ((memB_iff V x).2 h)]
theorem soFar_snoc {S : List Int} {C : List Cl} {L : List Nd} {V : List Int} {u x : Int} (h : x ≠ u) : soFar S C L (V ++ [u]) x = soFar S C L V x := by
  unfold soFar
  have : memB (V ++ [u]) x = memB V x := by
    unfold memB
    rw [List.any_append]
    simp [Ne.symm h]
  rw [this]
theorem take_mem {U : List Int} (hU : U.Pairwise (· < ·)) {j : Nat} {u p : Int} (hj : U[j]? = some u) (hp : p ∈ U) (hlt : p < u) : p ∈ U.take j := by
  obtain ⟨hjl, hju⟩ := List.getElem?_eq_some_iff.1 hj
  have h1 : U = U.take j ++ u :: U.drop (j + 1) := by
    rw [← hju]
    have := List.take_append_drop j U
    rw [List.drop_eq_getElem_cons hjl] at this
    exact this.symm
  rw [h1] at hp hU
  rcases List.mem_append.1 hp with h | h
  · exact h
  · rw [List.pairwise_append] at hU
    rcases List.mem_cons.1 h with e | e
    · omega
    · have := (List.pairwise_cons.1 hU.2.1).1 p e
      omega
theorem valF_eq {S : List Int} {C : List Cl} {L : List Nd} (hG : Good L) {k : Nat} (hk : k < L.length) {f : Int → Int} (hf : ∀ p ∈ partsOf L[k], f p = valI S C L p) : valF S C f L[k] = valI S C L (k : Int) := by
  unfold partsOf at hf
  unfold valF
  rcases may_kind (hG.may k hk) with h | h | h | h
  · rw [if_pos h, valI_1 hG hk h]
  · rw [if_neg (by omega), if_pos h, valI_2 hG hk h]
  · rw [if_pos h] at hf
    rw [if_neg (by omega), if_neg (by omega), if_pos h, valI_3 hG hk h, hf _ (by simp)]
  · rw [if_neg (by omega), if_pos h] at hf
    rw [if_neg (by omega), if_neg (by omega), if_neg (by omega), valI_4 hG hk h, hf _ (by simp), hf _ (by simp)]

theorem infoI64 : (Tryz.prog.info? 2).map (fun i => (i.zero, i.size, i.bytes)) = some (some (.int .i64 0), 1, 8) := by kernel_rfl
set_option maxRecDepth 100000 in
set_option maxHeartbeats 16000000 in
theorem all_yes {B g m c : Nat} {sa : Option Addr} {L : List Nd} {w : World} (hG : GraphAt B w g m sa c L) (hlen : L.length ≤ 900) {s : Sl} {S : List Int} {C : List Cl} (hE : EnvAt w s.sa s.sn s.ca s.cn S C) (hs : s.sn ≤ 100000) (hc : s.cn ≤ 100000)
    (la : Option Addr) (n lc : Nat) (ids : List Int) (hz : RootsAt w la n ids) (hn : n ≤ 100000) (hb : ∀ x ∈ ids, hasB L.length x = true) :
    Calls Tryz.prog 17 #[.pointer (some ⟨g, 0, none⟩), .agg #[.slice s.sa s.sn s.sc, .slice s.ca s.cn s.cc], .slice la n lc] w fun e w' => ∃ bt, e = .returned (.tuple #[.slice (some ⟨bt, 0, none⟩) n n, .bool true]) ∧ RootsAt w' (some ⟨bt, 0, none⟩) n (ids.map (valI S C L)) ∧ Kept w w' := by
  have HK0 := Lib.hid ((Kept.refl w).alloc (.cells #[.slice s.sa s.sn s.sc, .slice s.ca s.cn s.cc] 26))
  have HB0 := Lib.hid ((MapKept.heap_alloc w (.cells #[.slice s.sa s.sn s.sc, .slice s.ca s.cn s.cc] 26)).1)
  have HG := Lib.hid (hG.kept HK0.out)
  have HGD := Lib.hid hG.good
  have HE := Lib.hid (hE.kept HK0.out)
  have HZ := Lib.hid (hz.kept HK0.out)
  have HB := Lib.hid hb
  clear hG hE hz hb
  go_enter Tryz.func17, Tryz.ntmps17
  go_upto_region 1 with (fail)
  change Code.wp _ _ _ _ (w.alloc (.cells #[.slice s.sa s.sn s.sc, .slice s.ca s.cn s.cc] 26))
  generalize w.alloc (.cells #[.slice s.sa s.sn s.sc, .slice s.ca s.cn s.cc] 26) = W at *
  obtain ⟨b4, hb4⟩ : ∃ b4 : Nat, b4 = w.heap.size := ⟨_, rfl⟩
  rw [← hb4] at HB0 ⊢
  clear hb4
  go_wp2
  go_loopw [24] (fun i wr => ∃ j : Nat, j ≤ n ∧ i = .int .i64 j ∧ Kept W wr) (fun i _ => n - (intOf i).toNat)
  case atStart => exact ⟨0, Nat.zero_le _, rfl, Kept.refl _⟩
  case round =>
    obtain ⟨j, hj, rfl, hK⟩ := hrel
    have HK := Lib.hid hK; clear hK
    have j0 : (0 : Int) ≤ (j : Int) := Int.natCast_nonneg _
    by_cases hjn : j < n
    · have j1 : (j : Int) < (n : Int) := by omega
      obtain ⟨b, off, rfl, hcz⟩ := (HZ.out.kept HK.out).at_ (by omega)
      have hjl : j < ids.length := by rw [HZ.out.len]; exact hjn
      obtain ⟨x, hx⟩ : ∃ x, ids[j]? = some x := ⟨_, List.getElem?_eq_getElem hjl⟩
      have x0 := hcz j x hx
      have HBX := Lib.hid (HB.out x (List.mem_of_getElem? hx))
      clear hcz hx hjl
      go_wp2_with fail
      refine (node_any (HG.out.kept HK.out) x).mono ?_
      rintro e w2 ⟨rfl, hk2⟩
      rw [HBX.out]
      simp only [Nd.val]
      have HK2 := Lib.hid (HK.out.trans hk2); clear hk2
      go_wp2
      go_roundw
      case rel => exact ⟨j + 1, by omega, by go_num, HK2.out.trans ((Kept.refl _).alloc _)⟩
      case measure => simp [intOf]; omega
    · obtain rfl : j = n := by omega
      go_wp2_with fail
      refine (uses_any (HG.out.kept HK.out) hlen la j lc ids (HZ.out.kept HK.out) hn).mono ?_
      rintro e w3 ⟨a3, c3, U, rfl, hU, hrow3, hk3⟩
      have HU := Lib.hid hU
      have HUH : Hid (∀ u ∈ U, hasB L.length u = true) := fun u hu => by
        obtain ⟨r, _, hrb, hr⟩ := (hU.2 u).1 hu
        exact (hr.le HGD.out hrb).2
      have HUL : Hid (U.length ≤ 900) := by
        have h5 := nodup_len L.length (U.map Int.toNat) (by
          unfold List.Nodup
          rw [List.pairwise_map]
          refine List.Pairwise.imp_of_mem (fun {a b} ha hb hab => ?_) hU.1
          have h6 := ((hasB_iff _ _).1 (HUH.out a ha)).1
          have h7 := ((hasB_iff _ _).1 (HUH.out b hb)).1
          omega) (fun x hx => by
          obtain ⟨v, hv, rfl⟩ := List.mem_map.1 hx
          obtain ⟨h6, h7⟩ := (hasB_iff _ _).1 (HUH.out v hv)
          omega)
        have h8 : U.length ≤ L.length := by simpa using h5
        show _ ≤ _
        omega
      have HUR : Hid (∀ u ∈ U, InR u) := fun u hu => has_inR (HUH.out u hu) hlen
      have HR3 : Hid (RootsAt w3 a3 U.length U) := roots_of_row hrow3 rfl HUR.out
      have HK3 := Lib.hid (HK.out.trans hk3)
      clear hU hrow3 hk3
      have hul := HUL.out
      obtain ⟨q, hq⟩ : ∃ q : Nat, q = U.length := ⟨_, rfl⟩
      have HQ := Lib.hid hq
      rw [← hq] at HR3 hul ⊢
      clear hq
      have hmm := fun (w : World) => run_makeMap_hint Tryz.underlying77 (q : Int) w
      have HM0 := Lib.hid (World.ownsMap_made w3 Tryz.prog 44 (plainElem (H := Unit) Tryz.prog 2))
      have HKM := Lib.hid ((Kept.refl w3).alloc (.map #[] 0))
      go_upto_region 10 with (fail)
      change Code.wp _ _ _ _ (w3.alloc (.map #[] 0))
      generalize w3.alloc (.map #[] 0) = w4 at *
      obtain ⟨mv, hmv⟩ : ∃ mv : Nat, mv = w3.heap.size := ⟨_, rfl⟩
      have HMV := Lib.hid hmv
      rw [← hmv] at HM0 ⊢
      clear hmv hmm
      have HK4 := Lib.hid (HK3.out.trans HKM.out)
      have e0 : w4.cell? ⟨b4, 0, none⟩ = some (.slice s.sa s.sn s.sc) := by rw [cell_of_row _ _ _ _ _ _ (HK4.out.row HB0.out)]; rfl
      have e1 : w4.cell? ⟨b4, 1, none⟩ = some (.slice s.ca s.cn s.cc) := by rw [cell_of_row _ _ _ _ _ _ (HK4.out.row HB0.out)]; rfl
      go_wp2_with fail
      refine (reckoner_any (s := s) (HE.out.kept HK4.out) hs hc mv).mono ?_
      rintro e w5 ⟨b2, b5, b3, bf, be, rfl, hR, hk5⟩
      have HR := Lib.hid hR; have HK5 := Lib.hid hk5
      clear hR hk5 e0 e1
      have HM5 : Hid (w5.ownsMap Tryz.prog 44 (plainElem Tryz.prog 2) mv 0 (.map [])) := ownsMap_block HM0.out (HK5.out.block mv HM0.out.lt)
      have HKW5 := Lib.hid (HK4.out.trans HK5.out)
      have HLOE := Lib.hid (HE.out.low)
      have hWm : Hid (W.heap.size ≤ mv) := by have h1 := HMV.out; have h2 := HK3.out.size; show _ ≤ _; omega
      go_wp2
      have HK35 := Lib.hid (HKM.out.trans HK5.out)
      go_loopw [48] (fun i wr => ∃ (t n : Nat) (D : DataW Unit), t ≤ q ∧ i = .int .i64 t ∧ wr.ownsMap Tryz.prog 44 (plainElem Tryz.prog 2) mv n D ∧ n ≤ t ∧ ValIs D (soFar S C L (U.take t)) ∧ ReckAt w4.heap.size wr b2 b5 b3 bf be mv s S C ∧ Kept w3 wr) (fun i _ => q - (intOf i).toNat)
      case atStart => exact ⟨0, 0, .map [], Nat.zero_le _, rfl, HM5.out, Nat.le_refl _, ValIs.nil, HR.out, HK35.out⟩
      case round =>
        obtain ⟨t, nt, D, ht, rfl, hM, hnt, hV, hR, hKt⟩ := hrel
        have HMT := Lib.hid hM; have HVT := Lib.hid hV; have HRT := Lib.hid hR; have HKT := Lib.hid hKt
        clear hM hV hR hKt
        have t0 : (0 : Int) ≤ (t : Int) := Int.natCast_nonneg _
        have HKWT := Lib.hid (HK3.out.trans HKT.out)
        by_cases htq : t < q
        · have t1 : (t : Int) < (q : Int) := by omega
          obtain ⟨ub, uo, rfl, hcu⟩ := (HR3.out.kept HKT.out).at_ (by omega)
          have htl : t < U.length := by have := HQ.out; omega
          obtain ⟨u, hu⟩ : ∃ u, U[t]? = some u := ⟨_, List.getElem?_eq_getElem htl⟩
          have x0 := hcu t u hu
          have hum : u ∈ U := List.mem_of_getElem? hu
          have HBU := Lib.hid (HUH.out u hum)
          have HINU := Lib.hid (HUR.out u hum)
          obtain ⟨h0, h1⟩ := (hasB_iff _ _).1 HBU.out
          obtain ⟨k, rfl⟩ : ∃ k : Nat, u = k := ⟨u.toNat, by omega⟩
          have hk : k < L.length := by omega
          obtain ⟨d, hd⟩ : ∃ d, L[k] = d := ⟨_, rfl⟩
          have HN : Hid (nodeAt L (k : Int) = d) := by
            show _ = _
            unfold nodeAt
            rw [HBU.out, Int.toNat_natCast, List.getD_eq_getElem?_getD, List.getElem?_eq_getElem hk, hd]
            rfl
          have HOK : Hid d.Ok := by rw [← hd]; exact HGD.out.ok _ (List.getElem_mem hk)
          have HKD : Hid (d.k = 1 ∨ d.k = 2 ∨ d.k = 3 ∨ d.k = 4) := by rw [← hd]; exact may_kind (HGD.out.may k hk)
          have HPT : Hid (∀ p ∈ partsOf d, p ∈ U.take t ∧ InR p) := fun p hp => by
            have hp' : p ∈ partsOf (ndAt L (k : Int)) := by rw [ndAt_get hk, hd]; exact hp
            obtain ⟨p0, p1, p2⟩ := part_lt HGD.out HBU.out hp'
            have hpU : p ∈ U := by
              obtain ⟨r, hr, hrb, hrr⟩ := (HU.out.2 _).1 hum
              exact (HU.out.2 p).2 ⟨r, hr, hrb, hrr.snoc hp'⟩
            exact ⟨take_mem HU.out.1 hu hpU p1, has_inR p2 hlen⟩
          have HE4 : Hid (valF S C (soFar S C L (U.take t)) d = valI S C L (k : Int)) := by
            show _ = _
            rw [← hd]
            refine valF_eq HGD.out hk fun p hp => ?_
            rw [hd] at hp
            exact soFar_in (HPT.out p hp).1
          have HTK : Hid (U.take (t + 1) = U.take t ++ [(k : Int)]) := by
            show _ = _
            rw [List.take_succ_eq_append_getElem htl, (List.getElem?_eq_some_iff.1 hu).2]
          clear hcu hu hum h0 h1 hd htl
          go_wp2_with fail
          refine (node_any (HG.out.kept HKWT.out) (k : Int)).mono ?_
          rintro e w6 ⟨rfl, hk6⟩
          rw [HBU.out, HN.out]
          simp only [Nd.val]
          have HK6 := Lib.hid hk6; clear hk6
          go_upto_region 15 with (fail)
          have HBN := Lib.hid (MapKept.heap_alloc w6 (nodeObj d)).1
          have HK7 := Lib.hid (HK6.out.trans ((Kept.refl w6).alloc (nodeObj d)))
          change Code.wp _ _ _ _ (w6.alloc (nodeObj d))
          generalize w6.alloc (nodeObj d) = w7 at *
          generalize w6.heap.size = bn at *
          obtain ⟨f0, f1, f2, f3, f4, f5⟩ := box_facts HBN.out (Kept.refl w7)
          have HM7 := Lib.hid (ownsMap_block HMT.out (HK7.out.block mv HMT.out.lt))
          have HIN := Lib.hid (fun x => valI_in HE.out.syms.inr HE.out.cells.ok HGD.out x : ∀ x, InR (valI S C L x))
          have hN7 : w4.heap.size ≤ w7.heap.size := by
            have h1 := HRT.out.find.low.1
            have h2 := HRT.out.find.bfLt
            have h3 := HK7.out.size
            omega
          go_wp2_with fail
          refine (reckon_any (HRT.out.kept HK7.out) hN7 d HOK.out HKD.out (soFar S C L (U.take t)) (fun p hp => by rw [soFar_in (HPT.out p hp).1]; exact HIN.out p) (fun w' k' p hp => vals_look (ownsMap_block HM7.out (k'.block mv HM7.out.lt)) HVT.out (HPT.out p hp).2)).mono ?_
          rintro e w8 ⟨rfl, hR8, hT8⟩
          rw [HE4.out]
          have hmf : mv ≠ bf := by
            have h1 := HRT.out.find.low.1
            have h2 := HMV.out
            have h3 := HM0.out.lt
            omega
          obtain ⟨w9, hrun, hmap9, hgrow9⟩ := (ownsMap_block HM7.out (hT8.block mv HM7.out.lt hmf)).update lawId Tryz.underlying77 (by unfold maxLen; omega) (Maps.keyOf_int_mk Tryz.underlying44 (wf_i64 HINU.out)) (plainElem_int Tryz.underlying2 (wf_i64 (HIN.out (k : Int))))
          have HT9 := Lib.hid (Turned.grown (T := fun q => q = mv) hgrow9 (fun k hk => by simpa using hk.symm))
          have HMP := Lib.hid hmap9
          have HR8 := Lib.hid hR8; have HT8 := Lib.hid hT8
          have HR9 : Hid (ReckAt w4.heap.size w9 b2 b5 b3 bf be mv s S C) := by
            refine hR8.turned HT9.out (fun q hq e => ?_) (fun hp q hq e => ?_) (fun hp q hq e => ?_)
            · have h3 := HM0.out.lt; have h4 : q = mv := e; omega
            · have h3 := HLOE.out.1 hp q hq; have h4 : q.block = mv := e; have h5 := hWm.out; omega
            · have h3 := HLOE.out.2 hp q hq; have h4 : q.block = mv := e; have h5 := hWm.out; omega
          have HK9 : Hid (Kept w3 w9) := by
            have h1 := HKT.out.trans HK7.out
            have hb1 := HRT.out.find.low.1
            have hb2 := HMV.out
            have hb3 := HM0.out.lt
            refine ⟨HT9.out.os.trans (HT8.out.os.trans h1.os), HT9.out.tape.trans (HT8.out.tape.trans h1.tape), HT9.out.output.trans (HT8.out.output.trans h1.output), Nat.le_trans h1.size (Nat.le_trans HT8.out.size HT9.out.size), fun q hq => ?_⟩
            refine (HT9.out.block q (Nat.lt_of_lt_of_le hq (Nat.le_trans h1.size HT8.out.size)) (by omega)).trans ((HT8.out.block q (Nat.lt_of_lt_of_le hq h1.size) (by omega)).trans (h1.block q hq))
          clear hmap9 hgrow9 hR8 hT8 hmf f0 f1 f2 f3 f4 f5
          go_wp2
          go_roundw
          case rel =>
            refine ⟨t + 1, nt + 1, _, by omega, by go_num, HMP.out, by omega, ?_, HR9.out, HK9.out⟩
            rw [HTK.out]
            exact HVT.out.put (soFar_in (by simp)) (fun x hx => soFar_snoc hx)
          case measure => simp [intOf]; omega
        · obtain rfl : t = q := by omega
          obtain ⟨ik, hik, hz0, hz1, hz2⟩ := info_parts infoI64
          have HIK := Lib.hid (And.intro hik (And.intro hz0 (And.intro hz1 hz2))); clear hik hz0 hz1 hz2
          go_wp2_with (refine wpList_make_full _ rfl _ _ _ rfl wr.heap.size 2 ik (.int .i64 0) 1 Tryz.underlying23 HIK.out.1 HIK.out.2.1 HIK.out.2.2.1 .i64 .i64 _ _ j rfl rfl rfl rfl (by rw [HIK.out.2.2.2]; omega) (by unfold maxLen; omega) (Nat.le_refl _) ?_; intro w10 hown10 hgrow10; have HOW := Lib.hid hown10; have HGR := Lib.hid hgrow10; clear hown10 hgrow10)
          obtain ⟨bt, hbt⟩ : ∃ bt : Nat, bt = wr.heap.size := ⟨_, rfl⟩
          have HBT := Lib.hid hbt
          rw [← hbt] at HOW ⊢
          clear hbt
          have HKA := Lib.hid (HKWT.out)
          have HMA := Lib.hid HMT.out
          have HK10 : Hid (Kept wr w10) := ⟨HGR.out.os, HGR.out.tape, HGR.out.output, HGR.out.size, fun k hk => HGR.out.block k hk (by simp)⟩
          have HVF : Hid (ValIs D (soFar S C L U)) := by
            have h1 := HVT.out
            rwa [HQ.out, List.take_length] at h1
          have HSO : Hid (∀ x ∈ ids, soFar S C L U x = valI S C L x ∧ InR x) := fun x hx => by
            have hbx := HB.out x hx
            exact ⟨soFar_in ((HU.out.2 x).2 ⟨x, hx, hbx, .refl _⟩), has_inR hbx hlen⟩
          obtain ⟨wa, rfl⟩ : ∃ wa : World, wa = wr := ⟨_, rfl⟩
          go_loopw [69] (fun i wr => ∃ r : Nat, r ≤ j ∧ i = .int .i64 r ∧ wr.ownsRow bt 2 1 (.slice (some ⟨bt, 0, none⟩) j j) j (((ids.take r).map (valI S C L) ++ List.replicate (j - r) 0).map (Value.int .i64)) ∧ Kept wa wr) (fun i _ => j - (intOf i).toNat)
          case atStart =>
            refine ⟨0, Nat.zero_le _, rfl, ?_, HK10.out⟩
            have h1 := HOW.out
            have e : (madeCells (Value.int .i64 0).cells (j * 1)).toList = (((ids.take 0).map (valI S C L) ++ List.replicate (j - 0) 0).map (Value.int .i64)) := by
              rw [Nat.mul_one]
              refine (toList_madeCells_one (.int .i64 0) j).trans ?_
              simp
            rw [e] at h1
            exact h1
          case round =>
            obtain ⟨r, hr, rfl, hO, hKr⟩ := hrel
            have HO := Lib.hid hO; have HKR := Lib.hid hKr
            clear hO hKr
            have r0 : (0 : Int) ≤ (r : Int) := Int.natCast_nonneg _
            by_cases hrj : r < j
            · have r1 : (r : Int) < (j : Int) := by omega
              obtain ⟨b, off, rfl, hcz⟩ := (HZ.out.kept (HKA.out.trans HKR.out)).at_ (by omega)
              have hrl : r < ids.length := by rw [HZ.out.len]; exact hrj
              obtain ⟨x, hx⟩ : ∃ x, ids[r]? = some x := ⟨_, List.getElem?_eq_getElem hrl⟩
              have x0 := hcz r x hx
              have HX := Lib.hid (HSO.out x (List.mem_of_getElem? hx))
              have l0 := vals_look (ownsMap_block HMA.out (HKR.out.block mv HMA.out.lt)) HVF.out HX.out.2
              rw [HX.out.1] at l0
              have HST := Lib.hid ((HO.out.stored r (.int .i64 (valI S C L x))).1)
              have HKS := Lib.hid (HKR.out.setCell (p := ⟨bt, r, none⟩) (by rw [HBT.out]; exact Nat.le_refl _) (.int .i64 (valI S C L x)))
              have z0 := HO.out.frozenAt r
              have HSET : Hid ((((ids.take r).map (valI S C L) ++ List.replicate (j - r) 0).map (Value.int .i64)).set r (.int .i64 (valI S C L x)) = (((ids.take (r + 1)).map (valI S C L) ++ List.replicate (j - (r + 1)) 0).map (Value.int .i64))) := by
                show _ = _
                rw [List.take_succ_eq_append_getElem hrl, (List.getElem?_eq_some_iff.1 hx).2]
                have e1 : j - r = (j - (r + 1)) + 1 := by omega
                rw [e1, List.replicate_succ, List.map_append, List.map_append, List.map_append, List.map_cons]
                have e2 : r = (((ids.take r).map (valI S C L)).map (Value.int .i64)).length := by
                  rw [List.length_map, List.length_map, List.length_take]; omega
                rw [List.set_append_right _ _ (by rw [← e2]; exact Nat.le_refl _), ← e2, Nat.sub_self]
                simp
              have HCE : Hid (wr.cell? ⟨bt, r, none⟩ = some (.int .i64 0)) := by
                show _ = _
                rw [HO.out.cellAt r (by omega)]
                rw [List.getElem?_map, List.getElem?_append_right (by rw [List.length_map, List.length_take]; omega), List.length_map, List.length_take, Nat.min_eq_left (by omega), Nat.sub_self]
                rw [List.getElem?_replicate, if_pos (by omega)]
                rfl
              have y0 := HCE.out
              clear hcz hx hrl
              go_wp2
              go_roundw
              case rel =>
                refine ⟨r + 1, by omega, by go_num, ?_, HKS.out⟩
                rw [← HSET.out]
                exact HST.out
              case measure => simp [intOf]; omega
            · obtain rfl : r = j := by omega
              go_wp2
              go_ret2
              have h1 := HO.out
              rw [← HZ.out.len, List.take_length, HZ.out.len, Nat.sub_self, List.replicate_zero, List.append_nil] at h1
              refine ⟨bt, rfl, roots_of_row h1 (by rw [List.length_map, HZ.out.len]) (fun x hx => ?_), HK0.out.trans (HKA.out.trans HKR.out)⟩
              obtain ⟨y, hy, rfl⟩ := List.mem_map.1 hx
              exact valI_in HE.out.syms.inr HE.out.cells.ok HGD.out y

set_option maxRecDepth 100000 in
set_option maxHeartbeats 4000000 in
/-- A number of no term: nothing, and false. -/
theorem all_no {B g m c : Nat} {sa : Option Addr} {L : List Nd} {w : World} (hG : GraphAt B w g m sa c L) {s : Sl}
    (la : Option Addr) (n lc : Nat) (ids : List Int) (hz : RootsAt w la n ids) (hn : n ≤ 100000) (hb : ∃ x ∈ ids, hasB L.length x = false) :
    Calls Tryz.prog 17 #[.pointer (some ⟨g, 0, none⟩), .agg #[.slice s.sa s.sn s.sc, .slice s.ca s.cn s.cc], .slice la n lc] w fun e w' => e = .returned (.tuple #[.slice none 0 0, .bool false]) ∧ Kept w w' := by
  have HK0 := Lib.hid ((Kept.refl w).alloc (.cells #[.slice s.sa s.sn s.sc, .slice s.ca s.cn s.cc] 26))
  have HG := Lib.hid (hG.kept HK0.out)
  have HZ := Lib.hid (hz.kept HK0.out)
  have HB := Lib.hid hb
  clear hG hz hb
  go_enter Tryz.func17, Tryz.ntmps17
  go_upto_region 1 with (fail)
  change Code.wp _ _ _ _ (w.alloc (.cells #[.slice s.sa s.sn s.sc, .slice s.ca s.cn s.cc] 26))
  generalize w.alloc (.cells #[.slice s.sa s.sn s.sc, .slice s.ca s.cn s.cc] 26) = W at *
  go_wp2
  go_loopw [24] (fun i wr => ∃ j : Nat, j ≤ n ∧ i = .int .i64 j ∧ (∀ x ∈ ids.take j, hasB L.length x = true) ∧ Kept W wr) (fun i _ => n - (intOf i).toNat)
  case atStart => exact ⟨0, Nat.zero_le _, rfl, by simp, Kept.refl _⟩
  case round =>
    obtain ⟨j, hj, rfl, hA, hK⟩ := hrel
    have HK := Lib.hid hK; have HA := Lib.hid hA
    clear hK hA
    have j0 : (0 : Int) ≤ (j : Int) := Int.natCast_nonneg _
    by_cases hjn : j < n
    · have j1 : (j : Int) < (n : Int) := by omega
      obtain ⟨b, off, rfl, hcz⟩ := (HZ.out.kept HK.out).at_ (by omega)
      have hjl : j < ids.length := by rw [HZ.out.len]; exact hjn
      obtain ⟨x, hx⟩ : ∃ x, ids[j]? = some x := ⟨_, List.getElem?_eq_getElem hjl⟩
      have x0 := hcz j x hx
      have HTK : Hid (ids.take (j + 1) = ids.take j ++ [x]) := by
        show _ = _
        rw [List.take_succ_eq_append_getElem hjl, (List.getElem?_eq_some_iff.1 hx).2]
      clear hcz hx hjl
      cases hbx : hasB L.length x with
      | true =>
        have HBX := Lib.hid hbx; clear hbx
        go_wp2_with fail
        refine (node_any (HG.out.kept HK.out) x).mono ?_
        rintro e w2 ⟨rfl, hk2⟩
        rw [HBX.out]
        simp only [Nd.val]
        have HK2 := Lib.hid (HK.out.trans hk2); clear hk2
        go_wp2
        go_roundw
        case rel =>
          refine ⟨j + 1, by omega, by go_num, fun y hy => ?_, HK2.out.trans ((Kept.refl _).alloc _)⟩
          rw [HTK.out] at hy
          rcases List.mem_append.1 hy with hy | hy
          · exact HA.out y hy
          · rw [List.mem_singleton.1 hy]; exact HBX.out
        case measure => simp [intOf]; omega
      | false =>
        have HBX := Lib.hid hbx; clear hbx
        go_wp2_with fail
        refine (node_any (HG.out.kept HK.out) x).mono ?_
        rintro e w2 ⟨rfl, hk2⟩
        rw [HBX.out]
        simp only [Nd.val]
        have HK2 := Lib.hid (HK0.out.trans (HK.out.trans hk2)); clear hk2
        go_wp2
        go_ret2
        exact ⟨rfl, HK2.out.trans ((Kept.refl _).alloc _)⟩
    · exfalso
      obtain rfl : j = n := by omega
      obtain ⟨x, hx, hbx⟩ := HB.out
      have h1 := HA.out x (by rw [← HZ.out.len, List.take_length]; exact hx)
      rw [hbx] at h1; cases h1

def ofI (S : List Int) (C : List Cl) (L : List Nd) (i : Int) : Int := if hasB L.length i then valI S C L i else 0
set_option maxHeartbeats 2000000 in
theorem of_any {B g m c : Nat} {sa : Option Addr} {L : List Nd} {w : World} (hG : GraphAt B w g m sa c L) (hlen : L.length ≤ 900) {s : Sl} {S : List Int} {C : List Cl} (hE : EnvAt w s.sa s.sn s.ca s.cn S C) (hs : s.sn ≤ 100000) (hc : s.cn ≤ 100000) (id : Int) (hid : InR id) :
    Calls Tryz.prog 16 #[.pointer (some ⟨g, 0, none⟩), .agg #[.slice s.sa s.sn s.sc, .slice s.ca s.cn s.cc], .int .i64 id] w fun e w' => e = .returned (.tuple #[.int .i64 (ofI S C L id), .bool (hasB L.length id)]) ∧ Kept w w' := by
  have HK0 := Lib.hid ((Kept.refl w).alloc (.cells #[.slice s.sa s.sn s.sc, .slice s.ca s.cn s.cc] 26))
  have HB0 := Lib.hid ((MapKept.heap_alloc w (.cells #[.slice s.sa s.sn s.sc, .slice s.ca s.cn s.cc] 26)).1)
  have HG := Lib.hid (hG.kept HK0.out)
  have HE := Lib.hid (hE.kept HK0.out)
  have HI := Lib.hid hid
  clear hG hE hid
  go_enter Tryz.func16, Tryz.ntmps16
  go_upto_region 1 with (fail)
  change Code.wp _ _ _ _ (w.alloc (.cells #[.slice s.sa s.sn s.sc, .slice s.ca s.cn s.cc] 26))
  generalize w.alloc (.cells #[.slice s.sa s.sn s.sc, .slice s.ca s.cn s.cc] 26) = W at *
  obtain ⟨b4, hb4⟩ : ∃ b4 : Nat, b4 = w.heap.size := ⟨_, rfl⟩
  rw [← hb4] at HB0 ⊢
  clear hb4
  have e0 : W.cell? ⟨b4, 0, none⟩ = some (.slice s.sa s.sn s.sc) := by rw [cell_of_row _ _ _ _ _ _ HB0.out]; rfl
  have e1 : W.cell? ⟨b4, 1, none⟩ = some (.slice s.ca s.cn s.cc) := by rw [cell_of_row _ _ _ _ _ _ HB0.out]; rfl
  have HKA := Lib.hid ((Kept.refl W).alloc (.cells #[.int .i64 id] 44))
  have HZ : Hid (RootsAt (W.alloc (.cells #[.int .i64 id] 44)) (some ⟨W.heap.size, 0, none⟩) 1 [id]) :=
    ⟨rfl, fun x hx => by rw [List.mem_singleton.1 hx]; exact HI.out, fun _ => ⟨_, 0, rfl, fun j x hx => by
      rw [cell_of_row _ _ _ _ _ _ (MapKept.heap_alloc W (.cells #[.int .i64 id] 44)).1]
      match j, hx with
      | 0, hx => cases hx; rfl⟩⟩
  by_cases hb : hasB L.length id = true
  · have HB := Lib.hid hb
    have HO : Hid (ofI S C L id = valI S C L id) := by show _ = _; unfold ofI; rw [if_pos hb]
    clear hb
    go_wp2_with fail
    refine (all_yes (s := s) (HG.out.kept HKA.out) hlen (HE.out.kept HKA.out) hs hc _ 1 1 [id] HZ.out (by omega) (fun x hx => by rw [List.mem_singleton.1 hx]; exact HB.out)).mono ?_
    rintro e w2 ⟨bt, rfl, hR, hk2⟩
    obtain ⟨b, off, hbo, hcz⟩ := hR.at_ (by omega)
    cases hbo
    have x0 := hcz 0 _ rfl
    have HK2 := Lib.hid (HK0.out.trans (HKA.out.trans hk2))
    clear hcz hR hk2 e0 e1
    go_wp2
    go_ret2
    rw [HO.out, HB.out]
    exact ⟨rfl, HK2.out⟩
  · have HO : Hid (ofI S C L id = 0) := by show _ = _; unfold ofI; rw [if_neg hb]
    have hb' : hasB L.length id = false := by simpa using hb
    have HB := Lib.hid hb'
    clear hb hb'
    go_wp2_with fail
    refine (all_no (s := s) (HG.out.kept HKA.out) _ 1 1 [id] HZ.out (by omega) ⟨id, by simp, HB.out⟩).mono ?_
    rintro e w2 ⟨rfl, hk2⟩
    have HK2 := Lib.hid (HK0.out.trans (HKA.out.trans hk2))
    clear hk2 e0 e1
    go_wp2
    go_ret2
    rw [HO.out, HB.out]
    exact ⟨rfl, HK2.out⟩
end Go.Proofs.YtjhmbbioplhcgaaGreatDoor
