/-
  Layer 5: the contract of the program's newFollower.
-/
import Derived.Test.YtlikokeknfhejaaGreatDoorCFolB
import Derived.Test.YtlikokeknfhejaaGreatDoorCWo
namespace Go.Proofs.YtlikokeknfhejaaGreatDoor
open Go Go.RowKit Go.Lib

def usesN (D : List (List Int)) (l : Int) : List Int := (usesOf D l).map fun (i : Nat) => (i : Int)
def openN (D : List (List Int)) : List Int := D.map fun d => (d.length : Int)
theorem usesN_snoc (D : List (List Int)) (d : List Int) : usesN (D ++ [d]) = fun l => usesN D l ++ if l ∈ d then [(D.length : Int)] else [] := by
  funext l
  unfold usesN
  rw [usesOf_snoc, List.map_append]
  by_cases h : l ∈ d <;> simp [h]
/-- The follower that is made. -/
def NewPost (C : List (List Int)) (w : World) (e : Ending) (w' : World) : Prop :=
  Kept w w' ∧ ∃ N base fb um km s n vs CB DU D, e = .returned (.pointer (some ⟨fb, 0, none⟩)) ∧ FolAt N base w' fb um km s n 0 vs CB DU D (openN D) [] [] (usesN D) ∧ Cleans C D ∧ s.fa = none ∧ s.fn = 0 ∧ s.on = D.length ∧ D.length ≤ C.length ∧
    w.heap.size ≤ fb ∧ w.heap.size ≤ um ∧ w.heap.size ≤ km ∧ w.heap.size ≤ N ∧ n ≤ 1000000 * C.length ∧ N ≤ w'.heap.size
abbrev fo0 : Fo := ⟨none, 0, 0, none, 0, 0, none, 0, 0⟩
theorem fol_init (w1 : World) : FolAt (w1.heap.size + 3) (w1.heap.size + 1) (((w1.alloc (.map #[] 0)).alloc (.map #[] 0)).alloc (folObj w1.heap.size (w1.heap.size + 1) fo0)) (w1.heap.size + 2) w1.heap.size (w1.heap.size + 1) fo0 0 0 [] (fun _ => False) (.map []) [] [] [] [] (fun _ => []) := by
  have z2 : (w1.alloc (.map #[] 0)).heap.size = w1.heap.size + 1 := by simp
  have z3 : ((w1.alloc (.map #[] 0)).alloc (.map #[] 0)).heap.size = w1.heap.size + 2 := by simp
  have k1 : Kept (w1.alloc (.map #[] 0)) (((w1.alloc (.map #[] 0)).alloc (.map #[] 0)).alloc (folObj w1.heap.size (w1.heap.size + 1) fo0)) := ((Kept.refl _).alloc _).alloc _
  have k2 : Kept ((w1.alloc (.map #[] 0)).alloc (.map #[] 0)) (((w1.alloc (.map #[] 0)).alloc (.map #[] 0)).alloc (folObj w1.heap.size (w1.heap.size + 1) fo0)) := (Kept.refl _).alloc _
  have hg := World.ownsGroups_made (H := Unit) w1 Tryz.prog 3 3 .i64
  have hsh : (w1.alloc (.map #[] 0)).Shuns w1.heap.size (fun _ => True) := World.Shuns_made w1 _
  have hm := World.ownsMap_made (w1.alloc (.map #[] 0)) Tryz.prog 3 (plainElem (H := Unit) Tryz.prog 3)
  have hb := (MapKept.heap_alloc ((w1.alloc (.map #[] 0)).alloc (.map #[] 0)) (folObj w1.heap.size (w1.heap.size + 1) fo0)).1
  rw [z3] at hb
  rw [z2] at hm
  have hlt : w1.heap.size < (w1.alloc (.map #[] 0)).heap.size := by rw [z2]; omega
  exact {
    blk := hb
    cls := RowsV.nil _ _ _
    opn := World.ownsRow_nil _ _ _ _
    fnd := World.ownsRow_nil _ _ _ _
    grp := grp_off hg (k1.turned fun _ => False) (fun e => e) (shuns_sub hsh fun _ e => e.elim)
    use := UsesD.nil
    shun := shuns_off (shuns_sub hsh fun _ _ => trivial) (k1.turned fun _ => False) hlt (fun e => e)
    kn := KnowAt.kept ⟨.map [], hm, KnowsD.nil⟩ k2
    cbLt := fun _ e => e.elim
    cbF := fun e => e
    cbU := fun e => e
    cbK := fun e => e
    cbO := fun _ _ e => e
    cbFa := fun _ _ e => e
    co := fun q e => by cases e
    cf := fun q e => by cases e
    of := fun q e => by cases e
    fu := by omega
    fk := by omega
    uk := by omega
    lf := by omega
    lu := by omega
    lk := by omega }
set_option maxRecDepth 100000 in
set_option maxHeartbeats 8000000 in
theorem new_any (V : Int) (ca : Option Addr) (cn cc : Nat) (C : List (List Int)) (w : World) (hC : ClsAt w ca cn C) (hcn : cn ≤ 1000000) (hS : ∀ c ∈ C, c.length ≤ 1000000) :
    Calls Tryz.prog 92 #[.agg #[.int .i64 V, .slice ca cn cc]] w (NewPost C w) := by
  have HC := Lib.hid hC; have HS := Lib.hid hS; clear hC hS
  have HLN := Lib.hid HC.out.len
  have HB := Lib.hid (MapKept.heap_alloc w (fObj V ca cn cc)).1
  obtain ⟨B, hB⟩ : ∃ B : Nat, B = w.heap.size := ⟨_, rfl⟩
  rw [← hB] at HB
  have hmm := fun w => run_makeMap_none Tryz.underlying153 w
  have hmu := fun w => run_makeMap_none Tryz.underlying156 w
  go_enter Tryz.func92, Tryz.ntmps92
  go_upto_region 2 with (fail)
  clear hmm hmu
  obtain ⟨w0, hw0⟩ : ∃ w0 : World, w0 = w.alloc (fObj V ca cn cc) := ⟨_, rfl⟩
  have hza : w0.heap.size = w.heap.size + 1 := by rw [hw0]; simp
  have HI := Lib.hid (fol_init w0)
  have HKI := Lib.hid ((((Kept.refl w0).alloc (.map #[] 0)).alloc (.map #[] 0)).alloc (folObj w0.heap.size (w0.heap.size + 1) fo0))
  have HKW : Hid (Kept w w0) := by rw [hw0]; exact (Kept.refl w).alloc _
  change Code.wp _ _ _ _ ((((w.alloc (fObj V ca cn cc)).alloc (.map #[] 0)).alloc (.map #[] 0)).alloc (.cells #[.slice none 0 0, .map (some (w.heap.size + 1)), .slice none 0 0, .map (some (w.heap.size + 1 + 1)), .slice none 0 0] 158))
  rw [← hw0, ← hza]
  have HB0 : Hid (w0.heap[B]? = some (fObj V ca cn cc)) := by rw [hw0]; exact HB.out
  obtain ⟨um, hum⟩ : ∃ um : Nat, um = w0.heap.size := ⟨_, rfl⟩
  obtain ⟨w1, hw1⟩ : ∃ w1 : World, w1 = ((w0.alloc (.map #[] 0)).alloc (.map #[] 0)).alloc (folObj w0.heap.size (w0.heap.size + 1) fo0) := ⟨_, rfl⟩
  change Code.wp _ _ _ _ (((w0.alloc (.map #[] 0)).alloc (.map #[] 0)).alloc (folObj w0.heap.size (w0.heap.size + 1) fo0))
  rw [← hw1] at HI HKI ⊢
  rw [← hum] at HI ⊢
  have HUM : Hid (w.heap.size < um) := by show _ < um; omega
  have HB1 := Lib.hid (HKI.out.row HB0.out)
  have HK1 := Lib.hid (HKW.out.trans HKI.out)
  obtain ⟨y0, y1⟩ := box_facts HB1.out (Kept.refl w1)
  rw [← hB]
  obtain ⟨km, hkm⟩ : ∃ km : Nat, km = um + 1 := ⟨_, rfl⟩
  obtain ⟨fb, hfb⟩ : ∃ fb : Nat, fb = um + 2 := ⟨_, rfl⟩
  obtain ⟨N, hN⟩ : ∃ N : Nat, N = um + 3 := ⟨_, rfl⟩
  obtain ⟨base, hbase⟩ : ∃ base : Nat, base = um + 1 := ⟨_, rfl⟩
  have HI2 : Hid (FolAt N base w1 fb um km fo0 0 0 [] (fun _ => False) (.map []) [] [] [] [] (fun _ => [])) := by rw [hN, hfb, hkm, hbase]; exact HI.out
  have HN : Hid (w.heap.size < um ∧ km = um + 1 ∧ fb = um + 2 ∧ N = um + 3 ∧ base = um + 1) := ⟨HUM.out, hkm, hfb, hN, hbase⟩
  rw [show um + 1 + 1 = fb by omega, ← hkm]
  clear hw0 hza hum hw1 hB HB HB0 HKI HKW hkm hfb hN hbase HI HUM
  obtain ⟨ii, hi, hz0, hz1, hz2⟩ := info_parts infoInt
  have HII := Lib.hid (And.intro hi (And.intro hz0 (And.intro hz1 hz2))); clear hi hz0 hz1 hz2
  obtain ⟨ij, hi, hz0, hz1, hz2⟩ := info_parts infoInts
  have HIJ := Lib.hid (And.intro hi (And.intro hz0 (And.intro hz1 hz2))); clear hi hz0 hz1 hz2
  go_wp2
  go_loopw [17] (fun i wr => ∃ (j n : Nat) (s : Fo) (vs : List Value) (CB : Nat → Prop) (DU : DataW Unit) (D : List (List Int)), j ≤ cn ∧ i = .int .i64 j ∧ FolAt N base wr fb um km s n 0 vs CB DU D (openN D) [] [] (usesN D) ∧ Cleans (C.take j) D ∧ s.fa = none ∧ s.fn = 0 ∧ s.on = D.length ∧ s.ck = D.length ∧ D.length ≤ j ∧ n ≤ 1000000 * j ∧ Kept w wr) (fun i _ => cn - (intOf i).toNat)
  case atStart => exact ⟨0, 0, fo0, [], fun _ => False, .map [], [], Nat.zero_le _, rfl, HI2.out, Cleans.nil, rfl, rfl, rfl, rfl, Nat.le_refl _, Nat.le_refl _, HK1.out⟩
  case round =>
    obtain ⟨j, n, s, vs, CB, DU, D, hj, rfl, hfol, hcl, hfa, hfn, hon, hck, hDj, hnj, hK⟩ := hrel
    have HF := Lib.hid hfol; have HCL := Lib.hid hcl; have HK := Lib.hid hK; have HFA := Lib.hid hfa; have HFN := Lib.hid hfn; have HON := Lib.hid hon; have HCK := Lib.hid hck
    clear hfol hcl hK hfa hfn hon hck
    have j0 : (0 : Int) ≤ (j : Int) := Int.natCast_nonneg _
    by_cases hjn : j < cn
    · have j1 : (j : Int) < (cn : Int) := by omega
      obtain ⟨b, off, rfl, hc⟩ := HC.out.at_ (by omega)
      have hjl : j < C.length := by rw [HLN.out]; exact hjn
      obtain ⟨cl, hcj⟩ : ∃ c, C[j]? = some c := ⟨_, List.getElem?_eq_getElem hjl⟩
      obtain ⟨a2, k2, cap2, x0, hIc, hz2, hkc⟩ := hc j cl hcj
      replace x0 := HK.out.cell x0
      have HIC := Lib.hid (hIc.kept HK.out)
      have HZ2 := Lib.hid hz2
      have hk2 : k2 ≤ 1000000 := by have := HS.out cl (List.mem_of_getElem? hcj); rw [hIc.len] at this; exact this
      have HTK2 := Lib.hid (show C.take (j + 1) = C.take j ++ [cl] by rw [List.take_succ_eq_append_getElem hjl, (List.getElem?_eq_some_iff.1 hcj).2])
      clear hc hcj hjl hIc hz2 hkc
      go_wp2_with fail
      refine (clean_any a2 k2 cap2 cl wr HIC.out hk2 HZ2.out).mono ?_
      rintro e w2 ⟨hk3, hpost⟩
      have HK3 := Lib.hid hk3; clear hk3
      rcases hpost with ⟨hno, rfl⟩ | ⟨aK, k, cK, K, hyes, rfl, hIK, hFK, hKl, hnew⟩
      · have HNO := Lib.hid hno; clear hno
        go_wp2
        go_roundw
        case rel =>
          refine ⟨j + 1, n, s, vs, CB, DU, D, by omega, by go_num, HF.out.kept HK3.out, ?_, HFA.out, HFN.out, HON.out, HCK.out, by omega, by omega, HK.out.trans HK3.out⟩
          rw [HTK2.out]; exact HCL.out.skip HNO.out
        case measure => simp [intOf]; omega
      · have HYES := Lib.hid hyes
        have hkb : k ≤ 1000000 := by rw [← hIK.len]; have h1 := HIC.out.len; omega
        have HLK := Lib.hid hIK.len
        have HFM : Hid (FolAt N base w2 fb um km s n 0 vs (fun q => CB q ∨ (At aK q ∧ q < w2.heap.size)) DU D (openN D) [] [] (usesN D)) :=
          HF.out.more HK3.out (fun q hq => Or.inl hq) fun q hq => hq.imp id fun e => ⟨by
            have h1 := e.1
            unfold At at h1
            cases aK with
            | none => cases h1
            | some ad => have h2 : ad.block = q := by simpa using h1
                         rw [← h2]; exact hnew ad rfl, e.2⟩
        have HCV : Hid (ClauseV w2 (fun q => ¬ (CB q ∨ (At aK q ∧ q < w2.heap.size))) (.slice aK k cK) K) := by
          refine ⟨aK, k, cK, rfl, hIK, hFK, fun h0 ad had hc => hc (Or.inr ⟨by rw [had]; rfl, ?_⟩)⟩
          obtain ⟨b', off', hl, hcc⟩ := hIK.at_ h0
          rw [had] at hl
          cases hl
          obtain ⟨x, hx⟩ : ∃ x, K[0]? = some x := ⟨_, List.getElem?_eq_getElem (by rw [hIK.len]; exact h0)⟩
          exact World.block_lt_of_cell? w2 _ (hcc 0 x hx)
        generalize hCB2 : (fun q => CB q ∨ (At aK q ∧ q < w2.heap.size)) = CB2 at HFM
        have HCV2 : Hid (ClauseV w2 (fun q => ¬ CB2 q) (.slice aK k cK) K) := by rw [← hCB2]; exact HCV.out
        have HK2W := Lib.hid (HK.out.trans HK3.out)
        clear hyes hIK hFK hKl hnew hCB2 HCV HF HK HK3 x0 HIC
        have HND : Hid (K.Nodup) := HYES.out.2.1.nodup
        have HMB : Hid (D.length ≤ 1000000) := by show _ ≤ _; omega
        have d1 : (0 : Int) ≤ (s.ck : Int) := Int.natCast_nonneg _
        have d2 : (s.ck : Int) ≤ 1000000 := by have := HCK.out; omega
        go_wp2
        go_loopw [30] (fun i wq => ∃ (t n' : Nat) (DU' : DataW Unit), t ≤ k ∧ i = .int .i64 t ∧ FolAt N base wq fb um km s n' 0 vs CB2 DU' D (openN D) [] [] (fun l => usesN D l ++ if l ∈ K.take t then [(D.length : Int)] else []) ∧ ClauseV wq (fun q => ¬ CB2 q) (.slice aK k cK) K ∧ n' ≤ n + t ∧ Kept w wq) (fun i _ => k - (intOf i).toNat)
        case atStart => exact ⟨0, n, DU, Nat.zero_le _, rfl, by simpa using HFM.out, HCV2.out, Nat.le_refl _, HK2W.out⟩
        case round =>
          obtain ⟨t, n', DU', ht, rfl, hfol, hcv, hn', hK⟩ := hrel
          have HF := Lib.hid hfol; have HCV := Lib.hid hcv; have HK := Lib.hid hK
          clear hfol hcv hK
          have t0 : (0 : Int) ≤ (t : Int) := Int.natCast_nonneg _
          by_cases htk : t < k
          · have t1 : (t : Int) < (k : Int) := by omega
            obtain ⟨aK', k', cK', hv, hIK, hFK, hCK⟩ := HCV.out
            obtain ⟨rfl, rfl, rfl⟩ : aK = aK' ∧ k = k' ∧ cK = cK' := by injection hv with h1 h2 h3; exact ⟨h1, h2, h3⟩
            obtain ⟨b, off, rfl, hc⟩ := hIK.at_ (by omega)
            have htl : t < K.length := by rw [HLK.out]; exact htk
            obtain ⟨l, hl⟩ : ∃ l, K[t]? = some l := ⟨_, List.getElem?_eq_getElem htl⟩
            have x0 := hc t l hl
            have HIL := Lib.hid (hIK.inr l (List.mem_of_getElem? hl))
            have HTK : Hid (K.take (t + 1) = K.take t ++ [l]) := by
              show _ = _
              rw [List.take_succ_eq_append_getElem htl, (List.getElem?_eq_some_iff.1 hl).2]
            have HNL : Hid (l ∉ K.take t) := by
              intro hm
              obtain ⟨i, hi⟩ := List.mem_iff_getElem?.1 hm
              rw [List.getElem?_take] at hi
              split at hi
              · rename_i hit
                have h1 := List.pairwise_iff_getElem.1 HND.out i t (by omega) htl hit
                rw [(List.getElem?_eq_some_iff.1 hl).2, (List.getElem?_eq_some_iff.1 hi).2] at h1
                exact h1 rfl
              · cases hi
            clear hc hl htl hv hIK hFK hCK
            obtain ⟨f, hfu⟩ : ∃ f : Int → List Int, f = fun l => usesN D l ++ if l ∈ K.take t then [(D.length : Int)] else [] := ⟨_, rfl⟩
            rw [← hfu] at HF
            have HFU := Lib.hid hfu; clear hfu
            obtain ⟨v, hv, hlk⟩ := grp_look HF.out.grp (by unfold maxLen; omega) HF.out.use HIL.out
            have HV := Lib.hid hv; have HLO := Lib.hid hlk; clear hv hlk
            have hfl : (f l).length ≤ n' := HV.out.len
            have HSH : Hid (∀ q, v.ownBlock = some q → ¬ No CB2 fb km s q) := HV.out.shun _ HF.out.shun
            have HSU : Hid (v.ownBlock ≠ some um) := fun e => by have h1 := (HV.out.own.1.lt um e).1; have := HN.out; omega
            have HSK : Hid (∀ w' : World, w'.heap[fb]? = wr.heap[fb]? → w'.heap[um]? = wr.heap[um]? → w'.cell? ⟨fb, 0, none⟩ = some (.slice s.ca s.ck s.cc) ∧ w'.cell? ⟨fb, 1, none⟩ = some (.map (some um))) := fun w' h1 h2 => by
              have h3 := h1.trans HF.out.blk
              exact ⟨by rw [cell_of_row _ _ _ _ _ _ h3]; rfl, by rw [cell_of_row _ _ _ _ _ _ h3]; rfl⟩
            have HLT := Lib.hid HF.out.ltF
            have HSA : Hid (∀ o, (wr.drew.alloc o).heap[fb]? = wr.heap[fb]? ∧ (wr.drew.alloc o).heap[um]? = wr.heap[um]?) := fun o => ⟨((Kept.drew (Kept.refl wr)).alloc o).block fb HLT.out.1, ((Kept.drew (Kept.refl wr)).alloc o).block um HLT.out.2.1⟩
            obtain ⟨f', hf'⟩ : ∃ f' : Int → List Int, f' = fun y => usesN D y ++ if y ∈ K.take (t + 1) then [(D.length : Int)] else [] := ⟨_, rfl⟩
            have HGL : Hid (f' l = f l ++ [(s.ck : Int)]) := by
              show _ = _
              rw [hf', HFU.out, HTK.out, HCK.out]
              simp [HNL.out]
            have HGO : Hid (∀ y, y ≠ l → f' y = f y) := fun y hy => by
              rw [hf', HFU.out, HTK.out]
              simp [hy]
            have HF' := Lib.hid hf'; clear hf'
            have HFD := Lib.hid (HF.out.kept (Kept.drew (Kept.refl wr)))
            have HNG : Hid (∀ gg, (v.ownBlock = some gg ∨ gg = wr.heap.size + 1) → ¬ No CB2 fb km s gg) := fun gg h hno => by
              rcases h with h | h
              · exact HSH.out gg h hno
              · have := HF.out.noLt gg hno; omega
            go_wp2
            clear x0
            have lk0 := HLO.out wr rfl
            have lk1 := HLO.out wr.drew rfl
            obtain ⟨q0, q1⟩ := HSK.out wr rfl rfl
            have q2 := HLT.out.1
            have q3 := Nat.ne_of_lt HLT.out.1
            have lk2 := HLO.out (wr.alloc (.cells #[.int .i64 (s.ck : Int)] 3)) (((Kept.refl wr).alloc _).block um HLT.out.2.1)
            have lk3 := HLO.out (wr.alloc (.cells #[.int .i64 (s.ck : Int)] 3)).drew (((Kept.refl wr).alloc _).block um HLT.out.2.1)
            go_region_held3 (fun w' => w'.cell? ⟨fb, 0, none⟩ = some (.slice s.ca s.ck s.cc) ∧ w'.cell? ⟨fb, 1, none⟩ = some (.map (some um)))
              (first | exact HSK.out _ rfl rfl | exact HSK.out _ (HSA.out _).1 (HSA.out _).2 | exact hs4 | exact hs5)
              ((refine step_append_lies _ (by rfl) _ _ _ (by rfl) base 3 ii _ 1 8 Tryz.underlying22 HII.out.1 HII.out.2.1 HII.out.2.2.1 HII.out.2.2.2 rfl (by omega) v (f l).length ((f l).map (Value.int .i64)) (by rfl) ((row_keptR HV.out.own.1 (Kept.drew (Kept.refl _))).alloc _) ⟨wr.heap.size, 0, none⟩ 1 1 [.int .i64 (s.ck : Int)] (by rfl) (by rfl) (World.news_of_block (cs := #[.int .i64 (s.ck : Int)]) (t := 3) (fr := (0, 0)) (heap_alloc_new wr.drew _)) (by simp [Value.oneCell']) (by omega) (by unfold maxLen; omega) (by omega) (by have := HLT.out; have := HN.out; simp; omega) (wr.heap.size + 1) (by simp) ?_; intro gg cap w4 hown4 hgrow4' hat4 hlt4; have hgrow4 : (wr.drew.alloc (.cells #[.int .i64 (s.ck : Int)] 3)).grownBy w4 v.ownBlock := ⟨hgrow4'.os, hgrow4'.tape, hgrow4'.output, hgrow4'.size, hgrow4'.block⟩; clear hgrow4'; have hs4 := HSK.out w4 ((hgrow4.block fb (by have := HLT.out.1; simp; omega) (fun e => HSH.out fb e.symm (Or.inr (Or.inl rfl)))).trans (HSA.out _).1) ((hgrow4.block um (by have := HLT.out.2.1; simp; omega) (fun e => HSU.out e.symm)).trans (HSA.out _).2); obtain ⟨w5, DU5, hrun5, hg5, hu5, hgr5, hsh5⟩ := AtG.store (g := f') (x := (s.ck : Int)) (No := No CB2 fb km s) (HV.out.drew.alloc HLT.out.2.1 _) (HFD.out.grp_alloc _) HF.out.use HIL.out ⟨by omega, by omega⟩ (by unfold maxLen; omega) (HFD.out.shun_alloc _) hown4 hgrow4 (by rcases hat4 with h1 | h1; exact Or.inl h1; exact Or.inr (by rw [h1]; simp)) (HNG.out gg hat4) HGL.out HGO.out; have HG5 := Lib.hid (FolAt.used HFD.out HSH.out HSU.out hgrow4 hgr5 hg5 hu5 hsh5); have hs5 : w5.cell? ⟨fb, 0, none⟩ = some (.slice s.ca s.ck s.cc) ∧ w5.cell? ⟨fb, 1, none⟩ = some (.map (some um)) := ⟨(fol_facts HG5.out.1.blk (Kept.refl _)).1, (fol_facts HG5.out.1.blk (Kept.refl _)).2.1⟩; have HGR4 := Lib.hid hgrow4; clear hgrow4 hgr5 hg5 hu5 hsh5 hown4 hat4 hlt4))
            all_goals
              have HCV5 : Hid (ClauseV w5 (fun q => ¬ CB2 q) (.slice (some ⟨b, off, none⟩) k cK) K) :=
                (HCV.out.turned ((Kept.drew (Kept.refl wr)).turned _) (fun _ _ e => e)).turned (HG5.out.2.mono fun q _ e hc => by
                  rcases e with e | e
                  · exact HSH.out q e (Or.inl hc)
                  · subst e; exact HF.out.cbU hc) (fun _ _ e => e)
              have HK5 : Hid (Kept w w5) := HG5.out.2.from (Kept.drew HK.out) fun q hq e => by
                have := HN.out
                rcases e with e | e
                · have h1 := (HV.out.own.1.lt q e).1; omega
                · omega
              clear q0 q1 q2 q3 lk0 lk1 lk2 lk3 hs4 hs5 hrun5
              go_wp2
              go_roundw
              case rel =>
                refine ⟨t + 1, n' + 1, DU5, by omega, by go_num, ?_, HCV5.out, by omega, HK5.out⟩
                rw [← HF'.out]
                exact HG5.out.1
              case measure => simp [intOf]; omega
          · obtain rfl : t = k := by omega
            have hKt : K.take t = K := by rw [← HLK.out]; exact List.take_length
            rw [hKt, ← usesN_snoc] at HF
            clear hKt
            obtain ⟨c0, c1, c2, c3, c4⟩ := fol_facts HF.out.blk (Kept.refl wr)
            have HBK := Lib.hid HF.out.blk
            have hckb : s.ck ≤ 1000000 := by have := HCK.out; omega
            have HLT := Lib.hid HF.out.ltF
            have HLO := Lib.hid HF.out.low
            have HFL := Lib.hid (And.intro HF.out.lf (And.intro HF.out.lu HF.out.lk))
            go_upto_region 13 with (at_builtin; refine wpList_append_lies _ rfl _ _ _ rfl N 22 ij _ 1 24 Tryz.underlying23 HIJ.out.1 HIJ.out.2.1 HIJ.out.2.2.1 HIJ.out.2.2.2 rfl (by omega) (.slice s.ca s.ck s.cc) s.ck vs rfl (HF.out.cls.row.alloc _) ⟨wr.heap.size, 0, none⟩ 1 1 [.slice aK t cK] rfl rfl (World.news_of_block (cs := #[.slice aK t cK]) (t := 22) (fr := (0, 0)) (heap_alloc_new wr _)) (by simp [Value.oneCell']) (by omega) (by unfold maxLen; omega) (by omega) (by have := HN.out; have := HLT.out; simp; omega) (wr.heap.size + 1) (by simp) ?_; intro gg cap w4 hown4 hgrow4 hat4 hlt4; have hb4 : w4.heap[fb]? = some (folObj um km s) := (hgrow4.block fb (by have := HLT.out.1; simp; omega) (fun e => by have h1 := (HLO.out.1 fb (At.own.1 e.symm)).1; have := HFL.out.1; omega)).trans (((Kept.refl wr).alloc _).row HBK.out); have z0 := (fol_facts hb4 (Kept.refl w4)).1; have z1 := frozen_of_row hb4 0; have HOW := Lib.hid hown4; have HGR := Lib.hid hgrow4; have HAT := Lib.hid hat4; clear hown4 hgrow4 hat4 hlt4 hb4)
            have HE := Lib.hid (HF.out.snocC HCV.out HOW.out HGR.out HAT.out)
            have HK5 : Hid (Kept w (w4.setCell ⟨fb, 0, none⟩ (.slice (some ⟨gg, 0, none⟩) (s.ck + 1) cap))) := HE.out.2.from HK.out fun q hq e => by
              have := HN.out
              rcases e with e | e
              · omega
              · have h1 := (HLO.out.1 q e).1; omega
            clear c0 c1 c2 c3 c4 z0 z1 HOW HGR HAT
            generalize w4.setCell ⟨fb, 0, none⟩ (.slice (some ⟨gg, 0, none⟩) (s.ck + 1) cap) = w5 at *
            have HF5 := Lib.hid HE.out.1
            clear HE HF HBK HLT HLO HFL
            obtain ⟨s1, hs1⟩ : ∃ s1 : Fo, s1 = { s with ca := some ⟨gg, 0, none⟩, ck := s.ck + 1, cc := cap } := ⟨_, rfl⟩
            have HS1 : Hid (s1.fa = s.fa ∧ s1.fn = s.fn ∧ s1.on = s.on ∧ s1.ck = s.ck + 1) := by rw [hs1]; exact ⟨rfl, rfl, rfl, rfl⟩
            rw [← hs1] at HF5
            clear hs1
            obtain ⟨c0, c1, c2, c3, c4⟩ := fol_facts HF5.out.blk (Kept.refl w5)
            have HBK := Lib.hid HF5.out.blk
            have honb : s1.on ≤ 1000000 := by have h1 := HON.out; have h2 := HS1.out.2.2.1; omega
            have HLT := Lib.hid HF5.out.ltF
            have HLO := Lib.hid HF5.out.low
            have HFL := Lib.hid (And.intro HF5.out.lf (And.intro HF5.out.lu HF5.out.lk))
            go_upto_region 14 with (at_builtin; refine wpList_append_lies _ rfl _ _ _ rfl N 3 ii _ 1 8 Tryz.underlying22 HII.out.1 HII.out.2.1 HII.out.2.2.1 HII.out.2.2.2 rfl (by omega) (.slice s1.oa s1.on s1.oc) s1.on ((openN D).map (Value.int .i64)) rfl (HF5.out.opn.alloc _) ⟨w5.heap.size, 0, none⟩ 1 1 [.int .i64 (t : Int)] rfl rfl (World.news_of_block (cs := #[.int .i64 (t : Int)]) (t := 3) (fr := (0, 0)) (heap_alloc_new w5 _)) (by simp [Value.oneCell']) (by omega) (by unfold maxLen; omega) (by omega) (by have := HN.out; have := HLT.out; simp; omega) (w5.heap.size + 1) (by simp) ?_; intro g2 cap2 w6 hown4 hgrow4 hat4 hlt4; have hb4 : w6.heap[fb]? = some (folObj um km s1) := (hgrow4.block fb (by have := HLT.out.1; simp; omega) (fun e => by have h1 := (HLO.out.2.1 fb (At.own.1 e.symm)).1; have := HFL.out.1; omega)).trans (((Kept.refl w5).alloc _).row HBK.out); have z0 := (fol_facts hb4 (Kept.refl w6)).2.2.1; have z1 := frozen_of_row hb4 2; have HOW := Lib.hid hown4; have HGR := Lib.hid hgrow4; have HAT := Lib.hid hat4; clear hown4 hgrow4 hat4 hlt4 hb4)
            have HE := Lib.hid (HF5.out.snocO HOW.out HGR.out HAT.out)
            have HK6 : Hid (Kept w (w6.setCell ⟨fb, 2, none⟩ (.slice (some ⟨g2, 0, none⟩) (s1.on + 1) cap2))) := HE.out.2.from HK5.out fun q hq e => by
              have := HN.out
              rcases e with e | e
              · omega
              · have h1 := (HLO.out.2.1 q e).1; omega
            clear c0 c1 c2 c3 c4 z0 z1 HOW HGR HAT
            generalize w6.setCell ⟨fb, 2, none⟩ (.slice (some ⟨g2, 0, none⟩) (s1.on + 1) cap2) = w7 at *
            have HOP : Hid (openN (D ++ [K]) = openN D ++ [(t : Int)]) := by
              show _ = _
              unfold openN
              rw [List.map_append, ← HLK.out]; rfl
            have hDl : (D ++ [K]).length = D.length + 1 := by simp
            have HDL := Lib.hid hDl; clear hDl
            go_wp2
            go_roundw
            case rel =>
              have h1 := HS1.out
              have h2 := HON.out
              have h3 := HCK.out
              refine ⟨j + 1, n', { s1 with oa := some ⟨g2, 0, none⟩, on := s1.on + 1, oc := cap2 }, vs ++ [.slice aK t cK], CB2, DU', D ++ [K], by omega, by go_num, ?_, ?_, by rw [← HFA.out, ← h1.1], by rw [← HFN.out, ← h1.2.1], by rw [HDL.out, ← h2, ← h1.2.2.1], by rw [HDL.out, ← h3]; exact h1.2.2.2, by rw [HDL.out]; omega, by omega, HK6.out⟩
              · rw [HOP.out]; exact HE.out.1
              · rw [HTK2.out]; exact HCL.out.snoc HYES.out
            case measure => simp [intOf]; omega
    · obtain rfl : j = cn := by omega
      go_wp2
      go_ret
      have htk : C.take j = C := by rw [← HLN.out]; exact List.take_length
      have hcl := HCL.out
      rw [htk] at hcl
      have hlen := HLN.out
      have hum := HN.out
      exact ⟨HK.out, N, base, fb, um, km, s, n, vs, CB, DU, D, rfl, HF.out, hcl, HFA.out, HFN.out, HON.out, by omega, by omega, by omega, by omega, by omega, by rw [hlen]; exact hnj, by have h9 := HF.out.ltF.1; omega⟩
end Go.Proofs.YtlikokeknfhejaaGreatDoor
