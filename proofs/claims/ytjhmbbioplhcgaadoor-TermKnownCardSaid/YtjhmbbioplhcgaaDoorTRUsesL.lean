/-
  Layer 2: the contract of the reference's Uses.
-/
import Derived.Test.YtjhmbbioplhcgaaDoorTRUses
namespace Go.Proofs.YtjhmbbioplhcgaaDoor
open Go Go.RowKit

/-- A row of one's own grows: all that was there is as it was. -/
theorem grow_kept {N s n : Nat} {e : TypeId} {v : Value} {xs : List Value} {w1 wr w4 : World} {o : Obj} (h1 : wr.ownsRow N e s v n xs) (hk : Kept w1 wr) (hN : w1.heap.size ≤ N) (hg : (wr.alloc o).grownBy w4 v.ownBlock) : Kept w1 w4 := by
  have tg : Turned (fun q => v.ownBlock = some q) (wr.alloc o) w4 := Turned.grown hg fun k hk => hk
  have k2 := hk.alloc o
  refine ⟨tg.os.trans k2.os, tg.tape.trans k2.tape, tg.output.trans k2.output, Nat.le_trans k2.size tg.size, fun q hq => (tg.block q (Nat.lt_of_lt_of_le hq k2.size) fun e => ?_).trans (k2.block q hq)⟩
  have := (h1.lt q e).1
  omega
theorem infoInt : (Tryd.prog.info? 3).map (fun i => (i.zero, i.size, i.bytes)) = some (some (.int .i64 0), 1, 8) := by kernel_rfl

/-- The used terms below k, rising. -/
def UV (L : List Nd) (roots : List Int) (k : Nat) (V : List Int) : Prop := V.Pairwise (· < ·) ∧ (∀ i, i ∈ V ↔ (0 ≤ i ∧ i < k) ∧ Used L roots i) ∧ V.length ≤ k
theorem UV.nil (L : List Nd) (roots : List Int) : UV L roots 0 [] := ⟨.nil, fun i => ⟨fun h => (by cases h), fun h => (by have := h.1; omega)⟩, Nat.le_refl _⟩
theorem UV.yes {L : List Nd} {roots V : List Int} {k : Nat} (h : UV L roots k V) (hu : Used L roots (k : Int)) : UV L roots (k + 1) (V ++ [(k : Int)]) := by
  obtain ⟨h1, h2, h3⟩ := h
  refine ⟨?_, fun i => ?_, by simp; exact h3⟩
  · rw [List.pairwise_append]
    refine ⟨h1, List.pairwise_singleton _ _, fun x hx y hy => ?_⟩
    rw [List.mem_singleton.1 hy]
    exact ((h2 x).1 hx).1.2
  · rw [List.mem_append, h2, List.mem_singleton]
    constructor
    · rintro (⟨⟨a, b⟩, c⟩ | e)
      · exact ⟨⟨a, by omega⟩, c⟩
      · rw [e]; exact ⟨⟨by omega, by omega⟩, hu⟩
    · rintro ⟨⟨a, b⟩, c⟩
      by_cases e : i = k
      · exact Or.inr e
      · exact Or.inl ⟨⟨a, by omega⟩, c⟩
theorem UV.no {L : List Nd} {roots V : List Int} {k : Nat} (h : UV L roots k V) (hu : ¬ Used L roots (k : Int)) : UV L roots (k + 1) V := by
  obtain ⟨h1, h2, h3⟩ := h
  refine ⟨h1, fun i => ?_, by omega⟩
  rw [h2]
  constructor
  · rintro ⟨⟨a, b⟩, c⟩
    exact ⟨⟨a, by omega⟩, c⟩
  · rintro ⟨⟨a, b⟩, c⟩
    by_cases e : i = k
    · subst e; exact absurd c hu
    · exact ⟨⟨a, by omega⟩, c⟩
theorem used_nil (L : List Nd) (i : Int) : ¬ Used L [] i := fun ⟨_, h, _⟩ => by cases h
theorem used_take {L : List Nd} {roots : List Int} {j : Nat} {r i : Int} (hr : roots[j]? = some r) : Used L (roots.take (j + 1)) i ↔ Used L (roots.take j) i ∨ (hasB L.length r = true ∧ Reach L r i) := by
  obtain ⟨hj, hr'⟩ := List.getElem?_eq_some_iff.1 hr
  rw [List.take_succ_eq_append_getElem hj, hr']
  unfold Used
  constructor
  · rintro ⟨x, hx, hb, hR⟩
    rcases List.mem_append.1 hx with hx | hx
    · exact Or.inl ⟨x, hx, hb, hR⟩
    · rw [List.mem_singleton.1 hx] at hb hR; exact Or.inr ⟨hb, hR⟩
  · rintro (⟨x, hx, hb, hR⟩ | ⟨hb, hR⟩)
    · exact ⟨x, by simp [hx], hb, hR⟩
    · exact ⟨r, by simp, hb, hR⟩

set_option maxRecDepth 100000 in
set_option maxHeartbeats 8000000 in
theorem ruses_any {N h c : Nat} {a : Option Addr} {L : List Nd} {w : World} (hR : RefAt N w h a c L) (hG : Good L) (hl : L.length ≤ 900) (la : Option Addr) (n lc : Nat) (roots : List Int) (hz : RootsAt w la n roots) (hn : n ≤ 1000) :
    Calls Tryd.prog 24 #[.pointer (some ⟨h, 0, none⟩), .slice la n lc] w fun e w' => ∃ a' c' V, e = .returned (.slice a' V.length c') ∧ UV L roots L.length V ∧ w'.ownsRow w.heap.size 3 1 (.slice a' V.length c') V.length (V.map (Value.int .i64)) ∧ Kept w w' := by
  have HR := Lib.hid hR
  have HZ := Lib.hid hz
  have HG := Lib.hid hG
  obtain ⟨ii, hi, hz0, hz1, hz2⟩ := info_parts infoInt
  have HI := Lib.hid (And.intro hi (And.intro hz0 (And.intro hz1 hz2))); clear hi hz0 hz1 hz2
  clear hR hz hG
  go_enter Tryd.func24, Tryd.ntmps24
  go_wp2
  go_loopw [5, 6] (fun v i wr => ∃ (k : Nat) (a' : Option Addr) (c' : Nat) (V : List Int), k ≤ L.length ∧ i = .int .i64 k ∧ v = .slice a' V.length c' ∧ UV L roots k V ∧ wr.ownsRow w.heap.size 3 1 (.slice a' V.length c') V.length (V.map (Value.int .i64)) ∧ Kept w wr) (fun _ i _ => L.length - (intOf i).toNat)
  case atStart => exact ⟨0, none, 0, [], Nat.zero_le _, rfl, rfl, UV.nil L roots, World.ownsRow_nil _ _ _ _, Kept.refl _⟩
  case round =>
    obtain ⟨k, a', c', V, hk, rfl, rfl, hV, hrow, hK⟩ := hrel
    have HV := Lib.hid hV; have HROW := Lib.hid hrow; have HK := Lib.hid hK
    have hVl : V.length ≤ k := hV.2.2
    clear hV hrow hK
    have g0 := (HR.out.kept HK.out).cell0
    have k0 : (0 : Int) ≤ (k : Int) := Int.natCast_nonneg _
    by_cases hlt : k < L.length
    · have k1 : (k : Int) < (L.length : Int) := by omega
      obtain ⟨wo, rfl⟩ : ∃ wo : World, wo = wr := ⟨_, rfl⟩
      go_wp2
      clear g0
      go_loopw [7, 8] (fun b i wr => ∃ (j : Nat) (t : Bool), j ≤ n ∧ i = .int .i64 j ∧ b = .bool t ∧ Tells t (Used L (roots.take j) (k : Int)) ∧ Kept wo wr) (fun _ i _ => n - (intOf i).toNat)
      case atStart => exact ⟨0, false, Nat.zero_le _, rfl, rfl, Tells.no (used_nil L _), Kept.refl _⟩
      case round =>
        obtain ⟨j, t, hj, rfl, rfl, hT, hK⟩ := hrel
        have HT := Lib.hid hT; have HKJ := Lib.hid hK
        clear hT hK
        have j0 : (0 : Int) ≤ (j : Int) := Int.natCast_nonneg _
        by_cases hjn : j < n
        · obtain ⟨b, off, rfl, hc⟩ := HZ.out.at_ (by omega)
          have hjl : j < roots.length := by rw [HZ.out.len]; exact hjn
          obtain ⟨r, hr⟩ : ∃ r, roots[j]? = some r := ⟨_, List.getElem?_eq_getElem hjl⟩
          have HRC := Lib.hid (hc j r hr)
          have HRR := Lib.hid hr
          have hrr := HZ.out.inr r (List.mem_of_getElem? hr)
          have HRIN := Lib.hid hrr
          clear hc hr hjl hrr
          have j1 : (j : Int) < (n : Int) := by omega
          cases t with
          | true =>
            go_wp2_with fail
            go_quiet (fail)
            go_wp2
            go_roundw
            case rel => exact ⟨j + 1, true, by omega, by go_num, rfl, Tells.yes ((used_take HRR.out).2 (Or.inl (HT.out.1 rfl))), HKJ.out.trans ⟨rfl, rfl, rfl, Nat.le_refl _, fun _ _ => rfl⟩⟩
            case measure => simp [intOf]; omega
          | false =>
            have HNU : Hid (¬ Used L (roots.take j) (k : Int)) := fun e => by have := HT.out.2 e; cases this
            cases hb : hasB L.length r with
            | false =>
              have HB := Lib.hid hb; clear hb
              have g0 := (HR.out.kept (HK.out.trans HKJ.out)).cell0
              have x0 := (HK.out.trans HKJ.out).cell HRC.out
              have HH : Hid (∀ w', Calls Tryd.prog 37 #[.int .i64 (L.length : Int), .int .i64 r] w' fun e w'' => e = .returned (.bool false) ∧ w'' = w') := fun w' => by
                have h1 := refhas_any L.length r w'
                rw [HB.out] at h1
                exact h1.mono fun e w'' h => ⟨h.1, h.2.symm⟩
              go_wp2_with fail
              go_quiet ((go_at_call 37; exact Calls.quiet_of_same (HH.out _)))
              go_wp2
              go_roundw
              case rel => exact ⟨j + 1, false, by omega, by go_num, rfl, Tells.no (fun e => ((used_take HRR.out).1 e).elim HNU.out (fun h => by rw [HB.out] at h; cases h.1)), HKJ.out.trans ⟨rfl, rfl, rfl, Nat.le_refl _, fun _ _ => rfl⟩⟩
              case measure => simp [intOf]; omega
            | true =>
              have HB := Lib.hid hb; clear hb
              have hex : ∃ t2 : Bool, Tells t2 (Reach L r (k : Int)) := by
                rcases Classical.em (Reach L r (k : Int)) with e | e
                · exact ⟨true, Tells.yes e⟩
                · exact ⟨false, Tells.no e⟩
              obtain ⟨t2, ht2⟩ := hex
              have HT2 := Lib.hid ht2; clear ht2
              have HK2 := Lib.hid (HK.out.trans HKJ.out)
              have SK : Hid (∀ w', Kept wr w' → Kept wr w' ∧ w'.cell? ⟨h, 0, none⟩ = some (.slice a L.length c) ∧ w'.cell? ⟨b, off + j, none⟩ = some (.int .i64 r)) := fun w' hk =>
                ⟨hk, (HR.out.kept (HK2.out.trans hk)).cell0, (HK2.out.trans hk).cell HRC.out⟩
              go_wp2_with fail
              go_region_held3 (fun w' => Kept wr w' ∧ w'.cell? ⟨h, 0, none⟩ = some (.slice a L.length c) ∧ w'.cell? ⟨b, off + j, none⟩ = some (.int .i64 r))
                (first | exact SK.out _ (Kept.refl _) | exact SK.out _ (Kept.drew (Kept.refl _)) | assumption | exact SK.out _ (Kept.trans (And.left ‹Kept wr _ ∧ _›) (by assumption)))
                ((first
                  | (go_at_call 37; refine (refhas_any _ _ _).mono ?_; rintro e w' ⟨rfl, rfl⟩; rw [HB.out])
                  | (go_at_call 45; refine (ruses_has HG.out hl (k : Int) (r.toNat + 1) r t2 _ (by have := ((hasB_iff _ _).1 HB.out).1; omega) HB.out (by exact HR.out.kept (HK2.out.trans (And.left ‹Kept wr _ ∧ _›))) HT2.out).mono ?_; rintro e w7 ⟨rfl, hk7⟩)))
              all_goals
                have HKE := Lib.hid (HKJ.out.trans (And.left ‹Kept wr _ ∧ _›))
                go_wp2
                go_roundw
                case rel =>
                  refine ⟨j + 1, t2, by omega, by go_num, rfl, ?_, HKE.out⟩
                  refine HT2.out.trans (Iff.trans ?_ (used_take HRR.out).symm)
                  exact ⟨fun e => Or.inr ⟨HB.out, e⟩, fun e => (e.resolve_left HNU.out).2⟩
                case measure => simp [intOf]; omega
        · obtain rfl : j = n := by omega
          have HTE : Hid (Tells t (Used L roots (k : Int))) := by
            have h1 := HT.out
            rwa [← HZ.out.len, List.take_length] at h1
          have HK2 := Lib.hid (HK.out.trans HKJ.out)
          have HROW2 : Hid ((wr.alloc (.cells #[.int .i64 (k : Int)] 3)).ownsRow w.heap.size 3 1 (.slice a' V.length c') V.length (V.map (Value.int .i64))) :=
            World.ownsRow.alloc (ownsRow_block HROW.out fun q hq => HKJ.out.block q (HROW.out.lt q hq).2) _
          have HROW3 : Hid (wr.ownsRow w.heap.size 3 1 (.slice a' V.length c') V.length (V.map (Value.int .i64))) :=
            ownsRow_block HROW.out fun q hq => HKJ.out.block q (HROW.out.lt q hq).2
          cases t with
          | true =>
            go_wp2_with (at_builtin; refine wpList_append_lies _ rfl _ _ _ rfl w.heap.size 3 ii _ 1 8 Tryd.underlying51 HI.out.1 HI.out.2.1 HI.out.2.2.1 HI.out.2.2.2 rfl (by omega) (.slice a' V.length c') V.length _ rfl HROW2.out ⟨wr.heap.size, 0, none⟩ 1 1 [.int .i64 (k : Int)] rfl rfl (World.news_of_block (cs := #[.int .i64 (k : Int)]) (t := 3) (fr := (0, 0)) (heap_alloc_new wr _)) (by simp [Value.oneCell']) (by omega) (by unfold maxLen; omega) (by omega) (by have := HK2.out.size; simp; omega) (wr.heap.size + 1) (by simp) ?_; intro gg cap w4 hown4 hgrow4 hat4 hlt4; have HOW4 := Lib.hid hown4; have HGR4 := Lib.hid hgrow4; clear hown4 hgrow4 hat4 hlt4)
            have HKE := Lib.hid (grow_kept HROW3.out HK2.out (Nat.le_refl _) HGR4.out)
            go_roundw
            case rel =>
              refine ⟨k + 1, some ⟨gg, 0, none⟩, cap, V ++ [(k : Int)], by omega, by go_num, ?_, HV.out.yes (HTE.out.1 rfl), ?_, HKE.out⟩
              · rw [List.length_append, List.length_singleton]
              · rw [List.length_append, List.length_singleton, List.map_append]
                exact HOW4.out
            case measure => simp [intOf]; omega
          | false =>
            go_wp2
            go_roundw
            case rel => exact ⟨k + 1, _, _, V, by omega, by go_num, rfl, HV.out.no (fun e => by have := HTE.out.2 e; cases this), HROW3.out, HK2.out⟩
            case measure => simp [intOf]; omega
    · obtain rfl : k = L.length := by omega
      go_wp2
      go_ret
      exact ⟨a', c', V, rfl, HV.out, HROW.out, HK.out⟩
end Go.Proofs.YtjhmbbioplhcgaaDoor
