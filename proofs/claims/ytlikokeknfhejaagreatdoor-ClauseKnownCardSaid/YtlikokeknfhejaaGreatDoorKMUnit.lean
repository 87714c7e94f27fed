/-
  Layer 5, ClauseUnits: the law's walk.
  Before it: Layer 5, plain: the reference's way to what follows: rounds, and a sort by insertion. Nothing of the program. / Layer 5: the contract of the reference's Units. / Layer 5: the contract of the reference's Assign.
-/
import Derived.Test.YtlikokeknfhejaaGreatDoorCUnit
import Derived.Test.YtlikokeknfhejaaGreatDoorCOwnI
import Derived.Test.YtlikokeknfhejaaGreatDoorCUnits
import Derived.Deep.DeepCutAuto
import Derived.Test.YtlikokeknfhejaaGreatDoorCAssign
import Derived.Test.YtlikokeknfhejaaGreatDoorKMText
namespace Go.Proofs.YtlikokeknfhejaaGreatDoor

/-- A round over the clauses, i of which were looked at: what was found at its start, and is by now; b: was something found? -/
structure RU (C : List (List Int)) (F0 F : List Int) (i : Nat) (b : Bool) : Prop where
  reach : Reach C F
  same : b = false → F = F0 ∧ ∀ c ∈ C.take i, Quiet c F0
  more : b = true → F0.length < F.length
theorem RU.start {C : List (List Int)} {F : List Int} (h : Reach C F) : RU C F F 0 false := ⟨h, fun _ => ⟨rfl, by simp⟩, fun h => by cases h⟩
theorem take_at {α : Type} {C : List α} {i : Nat} {c : α} (h : C[i]? = some c) : C.take (i + 1) = C.take i ++ [c] := by
  have hl := (List.getElem?_eq_some_iff.1 h).1
  rw [List.take_succ_eq_append_getElem hl, (List.getElem?_eq_some_iff.1 h).2]
theorem RU.quiet {C : List (List Int)} {F0 F : List Int} {i : Nat} {b : Bool} (h : RU C F0 F i b) {c : List Int} (hc : C[i]? = some c) (hq : Quiet c F) : RU C F0 F (i + 1) b := by
  refine ⟨h.reach, fun hb => ?_, h.more⟩
  obtain ⟨rfl, h2⟩ := h.same hb
  refine ⟨rfl, fun d hd => ?_⟩
  rw [take_at hc] at hd
  rcases List.mem_append.1 hd with hd | hd
  · exact h2 d hd
  · rw [List.mem_singleton.1 hd]; exact hq
theorem RU.step {C : List (List Int)} {F0 F : List Int} {i : Nat} {b : Bool} (h : RU C F0 F i b) {c : List Int} {l : Int} (hc : C[i]? = some c) (hs : Steps c F l) : RU C F0 (F ++ [l]) (i + 1) true := by
  refine ⟨.step h.reach (List.mem_of_getElem? hc) hs, (fun h => by cases h), fun _ => ?_⟩
  rw [List.length_append, List.length_singleton]
  cases b with
  | false => obtain ⟨rfl, _⟩ := h.same rfl; omega
  | true => have := h.more rfl; omega
theorem RU.done {C : List (List Int)} {F0 F : List Int} (h : RU C F0 F C.length false) : ∀ c ∈ C, Quiet c F := by
  obtain ⟨rfl, h2⟩ := h.same rfl
  rw [List.take_length] at h2
  exact h2

theorem insAt_perm (S : List Int) (x : Int) (k : Nat) : (insAt S x k).Perm (S ++ [x]) := by
  unfold insAt
  refine List.perm_middle.trans ?_
  rw [List.take_append_drop]
  exact (List.perm_append_singleton x S).symm
structure SortR (F L : List Int) (i : Nat) : Prop where
  perm : L.Perm F
  sorted : SortedV (L.take i)
theorem SortR.start (F : List Int) : SortR F F 0 := ⟨.refl _, SortedV.nil⟩
structure SortI (F S R : List Int) (x : Int) (k : Nat) : Prop where
  perm : (insAt S x k ++ R).Perm F
  sorted : SortedV S
  post : ∀ y ∈ S.drop k, vr x < vr y
  le : k ≤ S.length
theorem SortR.at_ {F L : List Int} {i : Nat} (h : SortR F L i) {x : Int} (hx : L[i]? = some x) : SortI F (L.take i) (L.drop (i + 1)) x i ∧ insAt (L.take i) x i ++ L.drop (i + 1) = L ∧ (L.take i).length = i := by
  have hl := (List.getElem?_eq_some_iff.1 hx).1
  have e1 : (L.take i).length = i := by rw [List.length_take]; omega
  have e2 : insAt (L.take i) x i = L.take i ++ [x] := by
    have := insAt_end (L.take i) x
    rwa [e1] at this
  have e : insAt (L.take i) x i ++ L.drop (i + 1) = L := by
    rw [e2, ← take_at hx, List.take_append_drop]
  refine ⟨⟨by rw [e]; exact h.perm, h.sorted, fun y hy => ?_, by omega⟩, e, e1⟩
  rw [List.drop_eq_nil_of_le (by omega)] at hy
  cases hy
theorem SortI.at_x {F S R : List Int} {x : Int} {k : Nat} (h : SortI F S R x k) : (insAt S x k ++ R)[k]? = some x := by
  rw [List.getElem?_append_left (by rw [insAt_len]; have := h.le; omega)]
  exact insAt_get S x k h.le
theorem SortI.at_p {F S R : List Int} {x p : Int} {k : Nat} (_h : SortI F S R x (k + 1)) (hp : S[k]? = some p) : (insAt S x (k + 1) ++ R)[k]? = some p := by
  obtain ⟨hk, hp'⟩ := List.getElem?_eq_some_iff.1 hp
  rw [List.getElem?_append_left (by rw [insAt_len]; omega), insAt_pred S x k hk, hp']
theorem SortI.swap {F S R : List Int} {x p : Int} {k : Nat} (_h : SortI F S R x (k + 1)) (hp : S[k]? = some p) : ((insAt S x (k + 1) ++ R).set (k + 1) p).set k x = insAt S x k ++ R := by
  obtain ⟨hk, hp'⟩ := List.getElem?_eq_some_iff.1 hp
  rw [List.set_append_left _ _ (by rw [insAt_len]; omega), List.set_append_left _ _ (by rw [List.length_set, insAt_len]; omega), ← hp', insAt_swap S x k hk]
theorem SortI.step {F S R : List Int} {x p : Int} {k : Nat} (h : SortI F S R x (k + 1)) (hp : S[k]? = some p) (hlt : vr x < vr p) : SortI F S R x k := by
  obtain ⟨hk, hp'⟩ := List.getElem?_eq_some_iff.1 hp
  refine ⟨((insAt_perm S x k).trans (insAt_perm S x (k + 1)).symm).append_right R |>.trans h.perm, h.sorted, ?_, by omega⟩
  exact insAt_post_step hk h.post (by rw [hp']; exact hlt)
theorem SortI.done {F S R : List Int} {x : Int} {k : Nat} (h : SortI F S R x k) (hF : Cons F) (hk : ∀ y, 0 < k → S[k - 1]? = some y → ¬ vr x < vr y) : SortR F (insAt S x k ++ R) (S.length + 1) := by
  refine ⟨h.perm, ?_⟩
  have e : (insAt S x k ++ R).take (S.length + 1) = insAt S x k := by
    rw [List.take_append_of_le_length (by rw [insAt_len]; omega), ← insAt_len S x k, List.take_length]
  rw [e]
  refine insAt_sorted h.sorted h.le h.post fun y h0 hy => ?_
  have h1 := hk y h0 hy
  have hyS : y ∈ S := List.mem_of_getElem? hy
  have hxF : x ∈ F := h.perm.mem_iff.1 (List.mem_append_left _ ((insAt_mem S x k x).2 (Or.inl rfl)))
  have hyF : y ∈ F := h.perm.mem_iff.1 (List.mem_append_left _ ((insAt_mem S x k y).2 (Or.inr hyS)))
  have hn : (insAt S x k ++ R).Nodup := h.perm.nodup_iff.2 hF.nodup
  have hn1 : (S ++ [x]).Nodup := (insAt_perm S x k).nodup_iff.1 (List.nodup_append.1 hn).1
  have hne : y ≠ x := (List.nodup_append.1 hn1).2.2 y hyS x (by simp)
  rcases Int.lt_or_eq_of_le (Int.not_lt.1 h1) with h2 | h2
  · exact h2
  · rcases vr_eq h2 with h3 | h3
    · exact absurd h3 hne
    · rw [h3] at hyF
      exact absurd hyF (hF.one x hxF)
theorem SortR.done {F L : List Int} {n : Nat} (h : SortR F L n) (hn : L.length = n) : SortedV L ∧ ∀ x, x ∈ L ↔ x ∈ F := by
  have h2 := h.sorted
  rw [← hn, List.take_length] at h2
  exact ⟨h2, fun x => h.perm.mem_iff⟩
end Go.Proofs.YtlikokeknfhejaaGreatDoor

namespace Go.Proofs.YtlikokeknfhejaaGreatDoor
open Go Go.RowKit Go.Sort Go.Lib

def slLen : Value → Nat
  | .slice _ n _ => n
  | _ => 0
def boN : Value → Nat
  | .bool true => 1
  | _ => 0
theorem before_is (x y : Int) (b : Bool) (hx : -16777216 ≤ x ∧ x ≤ 16777216) (hy : -16777216 ≤ y ∧ y ≤ 16777216) (h : decide (vr x < vr y) = b) (w : World) :
    Calls Tryz.prog 85 #[.int .i64 x, .int .i64 y] w fun e w' => e = .returned (.bool b) ∧ w' = w := by
  rw [← h]
  exact (before_any x y w (by omega) (by omega) (by omega) (by omega)).mono fun _ _ k => ⟨k.1, k.2.symm⟩
theorem has_is {la : Option Addr} {n c : Nat} {L : List Int} {w : World} (x : Int) (b : Bool) (hL : IntsAt w la n L) (hn : n ≤ 1000000) (h : hasI L x = b) :
    Calls Tryz.prog 84 #[.slice la n c, .int .i64 x] w fun e w' => e = .returned (.bool b) ∧ w' = w := by
  rw [← h]; exact (rhas_any x la n c L w hL (by omega)).mono fun _ _ k => ⟨k.1, k.2.symm⟩
theorem left_take {F cl : List Int} {t : Nat} {y : Int} (hy : cl[t]? = some y) : leftOf F (cl.take (t + 1)) = if (hasI F (-y) || hasI F y || hasI (leftOf F (cl.take t)) y) = true then leftOf F (cl.take t) else leftOf F (cl.take t) ++ [y] := by
  rw [take_at hy, leftOf_snoc]; rfl
theorem left_mem {F cl : List Int} {t : Nat} {x : Int} (h : x ∈ leftOf F (cl.take t)) : x ∈ cl := List.mem_of_mem_take ((leftOf_is F (cl.take t)).2 x |>.1 h).1
theorem left_len {F cl : List Int} {t : Nat} : (leftOf F (cl.take t)).length ≤ cl.length := nodup_sub_len _ _ (leftOf_is F _).1 fun _ hx => left_mem hx
theorem any_holds {F cl : List Int} (h : cl.any (hasI F) = true) : Quiet cl F := by
  obtain ⟨x, hx, hxF⟩ := List.any_eq_true.1 h
  exact Or.inl ⟨x, hx, (hasI_iff F x).1 hxF⟩
theorem any_not {F cl : List Int} (h : cl.any (hasI F) = false) : ∀ x ∈ cl, x ∉ F := fun x hx hxF => by
  have := List.any_eq_true.2 ⟨x, hx, (hasI_iff F x).2 hxF⟩
  rw [h] at this; cases this

set_option maxRecDepth 100000 in
set_option maxHeartbeats 16000000 in
theorem runits_any (V : Int) (ca : Option Addr) (cn cc : Nat) (C : List (List Int)) (w : World) (hV : InR V) (hC : ClsAt w ca cn C) (hcn : cn ≤ 1000000) (hS : ∀ c ∈ C, c.length ≤ 1000000) (hT : C.flatten.length ≤ 1000000) :
    Calls Tryz.prog 51 #[.agg #[.int .i64 V, .slice ca cn cc]] w (UPost V C w) := by
  have HC := Lib.hid hC; have HS := Lib.hid hS; have HTT := Lib.hid hT; clear hC hS hT
  have HLN := Lib.hid HC.out.len
  have HVR := Lib.hid hV; clear hV
  have HB := Lib.hid (MapKept.heap_alloc w (rObj V ca cn cc)).1
  have HK0 := Lib.hid ((Kept.refl w).alloc (rObj V ca cn cc))
  obtain ⟨B, hBe⟩ : ∃ B : Nat, B = w.heap.size := ⟨_, rfl⟩
  go_enter Tryz.func51, Tryz.ntmps51
  go_upto_region 1 with (fail)
  obtain ⟨w1, hw1⟩ : ∃ w1 : World, w1 = w.alloc (rObj V ca cn cc) := ⟨_, rfl⟩
  change Code.wp _ _ _ _ (w.alloc (rObj V ca cn cc))
  rw [← hBe] at HB ⊢
  rw [← hw1] at HB HK0 ⊢
  clear hw1 hBe
  obtain ⟨y0, y1⟩ := rbox_facts HB.out (Kept.refl w1)
  have HCR := Lib.hid (rright_any V ca cn cc C w1 HVR.out (HC.out.kept HK0.out) hcn HS.out)
  cases hr : rightB V C with
  | false =>
    rw [hr] at HCR
    have HR := Lib.hid hr; clear hr
    go_wp2_with fail
    refine HCR.out.mono ?_
    rintro e w2 ⟨rfl, hk2⟩
    have HK2 := Lib.hid hk2; clear hk2
    go_wp2
    go_ret2
    exact ⟨HK0.out.trans HK2.out, Or.inl ⟨HR.out, rfl⟩⟩
  | true =>
    rw [hr] at HCR
    have HR := Lib.hid hr; clear hr
    have HRI := Lib.hid ((rightB_iff V C).1 HR.out)
    have v0 := HRI.out.1
    have v1 := HRI.out.2.1
    have HNZ : Hid (NoZero C) := fun c hc x hx => (HRI.out.2.2.2 c hc x hx).1
    have HLI : Hid (∀ c ∈ C, ∀ x ∈ c, -16777216 ≤ x ∧ x ≤ 16777216) := fun c hc x hx => by
      have h1 := HRI.out.2.2.2 c hc x hx
      omega
    have HFB : Hid (∀ F, Reach C F → F.length ≤ 1000000) := fun F hF => by
      have h1 := nodup_sub_len F C.flatten (hF.cons HNZ.out).nodup fun x hx => by
        obtain ⟨c, hc, hxc⟩ := hF.from x hx
        exact List.mem_flatten.2 ⟨c, hc, hxc⟩
      have := HTT.out
      omega
    have HFR : Hid (∀ F, Reach C F → ∀ x ∈ F, -16777216 ≤ x ∧ x ≤ 16777216) := fun F hF x hx => by
      obtain ⟨c, hc, hxc⟩ := hF.from x hx
      exact HLI.out c hc x hxc
    have HFI : Hid (∀ F, Reach C F → ∀ x ∈ F, InR x) := fun F hF x hx => by
      have := HFR.out F hF x hx
      unfold InR; omega
    go_wp2_with fail
    refine HCR.out.mono ?_
    rintro e w2 ⟨rfl, hk2⟩
    have HK2 := Lib.hid hk2
    clear hk2 y0 y1 HCR
    go_wp2
    go_loopw [4, 5] (fun v4 v5 wr => ∃ (F : List Int) (b : Bool) (fa : Option Addr) (fn fc : Nat), v4 = .slice fa fn fc ∧ v5 = .bool b ∧ Hid (Reach C F) ∧ Hid (b = false → ∀ c ∈ C, Quiet c F) ∧ Hid (F.length = fn) ∧ Hid (wr.ownsRow w1.heap.size 3 1 (.slice fa fn fc) fn (F.map (Value.int .i64))) ∧ Hid (Kept w1 wr)) (fun v4 v5 _ => 2 * (1000001 - slLen v4) + boN v5)
    case atStart => exact ⟨[], true, none, 0, 0, rfl, rfl, Reach.nil, (fun h => by cases h), rfl, World.ownsRow_nil _ _ _ _, HK2.out⟩
    case round =>
      obtain ⟨F0, b, fa0, fn0, fc0, rfl, rfl, HRE0, HQ0, HFL0, HROW0, HKI0⟩ := hrel
      have hfn0 : fn0 ≤ 1000000 := by rw [← HFL0.out]; exact HFB.out F0 HRE0.out
      cases b with
      | true =>
        clear HQ0
        go_wp2
        go_loopw [4, 5, 6] (fun v4 v5 i wr => ∃ (jj : Nat) (F : List Int) (b : Bool) (fa : Option Addr) (fn fc : Nat), jj ≤ cn ∧ i = .int .i64 jj ∧ v4 = .slice fa fn fc ∧ v5 = .bool b ∧ Hid (RU C F0 F jj b) ∧ Hid (F.length = fn) ∧ Hid (wr.ownsRow w1.heap.size 3 1 (.slice fa fn fc) fn (F.map (Value.int .i64))) ∧ Hid (Kept w1 wr)) (fun _ _ i _ => cn - (intOf i).toNat)
        case atStart => exact ⟨0, F0, false, fa0, fn0, fc0, Nat.zero_le _, rfl, rfl, rfl, RU.start HRE0.out, HFL0.out, HROW0.out, HKI0.out⟩
        case round =>
          obtain ⟨jj, F, b, fa, fn, fc, hj, rfl, rfl, rfl, HRU, HFL, HROW, HKI⟩ := hrel
          have hfn : fn ≤ 1000000 := by rw [← HFL.out]; exact HFB.out F HRU.out.reach
          have j0 : (0 : Int) ≤ (jj : Int) := Int.natCast_nonneg _
          obtain ⟨wo, rfl⟩ : ∃ wo : World, wo = wr := ⟨_, rfl⟩
          obtain ⟨y0, y1⟩ := rbox_facts HB.out HKI.out
          by_cases hjn : jj < cn
          · have j1 : (jj : Int) < (cn : Int) := by omega
            have HCW := Lib.hid (HC.out.kept (HK0.out.trans HKI.out))
            obtain ⟨cb, off, rfl, hc⟩ := HCW.out.at_ (by omega)
            have hjl : jj < C.length := by rw [HLN.out]; exact hjn
            obtain ⟨cl, hcj⟩ : ∃ c, C[jj]? = some c := ⟨_, List.getElem?_eq_getElem hjl⟩
            obtain ⟨a2, k2, cap2, x0, hIc, hz2, hkc⟩ := hc jj cl hcj
            have HX0 := Lib.hid x0
            have HIC := Lib.hid hIc
            have HCJ := Lib.hid hcj
            have hk2 : k2 ≤ 1000000 := by have := HS.out cl (List.mem_of_getElem? hcj); rw [hIc.len] at this; exact this
            have HLT := Lib.hid (fun (y : Int) (hy : y ∈ cl) => HLI.out cl (List.mem_of_getElem? hcj) y hy)
            clear hc hcj hjl hIc hz2 hkc x0
            have HFA := Lib.hid (ints_of_row HROW.out HFL.out (HFI.out F HRU.out.reach))
            go_wp2
            clear y0 y1
            go_loopw [7, 8, 9] (fun v7 v8 i wr => ∃ (t : Nat) (a3 : Option Addr) (k3 c3 : Nat), t ≤ k2 ∧ i = .int .i64 t ∧ v8 = .slice a3 k3 c3 ∧ Hid (v7 = .bool ((cl.take t).any (hasI F))) ∧ Hid ((leftOf F (cl.take t)).length = k3) ∧ Hid (wr.ownsRow wo.heap.size 3 1 (.slice a3 k3 c3) k3 ((leftOf F (cl.take t)).map (Value.int .i64))) ∧ Hid (Kept wo wr)) (fun _ _ i _ => k2 - (intOf i).toNat)
            case atStart => exact ⟨0, none, 0, 0, Nat.zero_le _, rfl, rfl, rfl, rfl, World.ownsRow_nil _ _ _ _, Kept.refl _⟩
            case round =>
              obtain ⟨t, a3, k3, c3, ht, rfl, rfl, hv7, HK3, HLR, HKL⟩ := hrel
              obtain ⟨hb, hhb⟩ : ∃ hb : Bool, hb = (cl.take t).any (hasI F) := ⟨_, rfl⟩
              have hv := hv7.out
              rw [← hhb] at hv
              subst hv
              have HHB := Lib.hid hhb
              clear hhb hv7
              have t0 : (0 : Int) ≤ (t : Int) := Int.natCast_nonneg _
              have hk3b : k3 ≤ 1000000 := by
                have h1 := left_len (F := F) (cl := cl) (t := t)
                have h2 := HK3.out
                have h3 := HIC.out.len
                omega
              obtain ⟨y0, y1⟩ := rbox_facts HB.out (HKI.out.trans HKL.out)
              have x0 := HKL.out.cell HX0.out
              by_cases htk : t < k2
              · have t1 : (t : Int) < (k2 : Int) := by omega
                have HIW := Lib.hid (HIC.out.kept HKL.out)
                obtain ⟨b2, o2, rfl, hcc⟩ := HIW.out.at_ (by omega)
                have htl : t < cl.length := by rw [HIC.out.len]; exact htk
                obtain ⟨y, hy⟩ : ∃ y, cl[t]? = some y := ⟨_, List.getElem?_eq_getElem htl⟩
                have x1 := hcc t y hy
                have hyv := HLT.out y (List.mem_of_getElem? hy)
                obtain ⟨l2, l3⟩ := hyv
                have HFT := Lib.hid (left_take (F := F) hy)
                have HAT := Lib.hid (any_takeI (lits := F) hy)
                have HFW := Lib.hid (HFA.out.kept HKL.out)
                have HLW : Hid (IntsAt wr a3 k3 (leftOf F (cl.take t))) := ints_of_row HLR.out HK3.out fun x hx => HIC.out.inr x (left_mem hx)
                clear hcc htl hy
                have HH1 : Hid (∀ b, hasI F y = b → Calls Tryz.prog 84 #[.slice fa fn fc, .int .i64 y] wr fun e w' => e = .returned (.bool b) ∧ w' = wr) := fun b hb => has_is y b HFW.out hfn hb
                have HH2 : Hid (∀ b, hasI F (-y) = b → Calls Tryz.prog 84 #[.slice fa fn fc, .int .i64 (-y)] wr fun e w' => e = .returned (.bool b) ∧ w' = wr) := fun b hb => has_is (-y) b HFW.out hfn hb
                have HH3 : Hid (∀ b, hasI (leftOf F (cl.take t)) y = b → Calls Tryz.prog 84 #[.slice a3 k3 c3, .int .i64 y] wr fun e w' => e = .returned (.bool b) ∧ w' = wr) := fun b hb => has_is y b HLW.out hk3b hb
                go_upto_region 16 with (fail)
                clear y0 y1 x0 x1
                go_cut [7] (fun s wx => s = .bool (hb || hasI F y) ∧ wx = wr)
                case first =>
                  cases hb with
                  | true =>
                    go_wp2
                    go_meet
                    case rel => exact ⟨rfl, rfl⟩
                  | false =>
                    cases hy : hasI F y with
                    | true =>
                      go_wp2_with fail
                      refine (HH1.out true hy).mono ?_
                      rintro e w' ⟨rfl, rfl⟩
                      have HYhy := Lib.hid hy; clear hy
                      go_wp2
                      go_meet
                      case rel => exact ⟨by rw [HYhy.out]; rfl, rfl⟩
                    | false =>
                      go_wp2_with fail
                      refine (HH1.out false hy).mono ?_
                      rintro e w' ⟨rfl, rfl⟩
                      have HYhy := Lib.hid hy; clear hy
                      go_wp2
                      go_meet
                      case rel => exact ⟨by rw [HYhy.out]; rfl, rfl⟩
                case rest =>
                  obtain ⟨rfl, rfl⟩ := hcut
                  have HHB2 : Hid ((cl.take (t + 1)).any (hasI F) = (hb || hasI F y)) := by show _ = _; rw [HAT.out, HHB.out]
                  go_upto_region 17 with (fail)
                  go_cut [7, 64] (fun v s wx => v = .bool (hb || hasI F y) ∧ s = .bool (!(hasI F (-y) || hasI F y || hasI (leftOf F (cl.take t)) y)) ∧ wx = wc)
                  case first =>
                    cases h1 : hasI F (-y) with
                    | true =>
                      go_wp2_with fail
                      refine (HH2.out true h1).mono ?_
                      rintro e w' ⟨rfl, rfl⟩
                      have HYh1 := Lib.hid h1; clear h1
                      go_wp2
                      go_meet
                      case rel => exact ⟨rfl, by rw [HYh1.out]; rfl, rfl⟩
                    | false =>
                      go_wp2_with fail
                      refine (HH2.out false h1).mono ?_
                      rintro e w' ⟨rfl, rfl⟩
                      have HYh1 := Lib.hid h1; clear h1
                      cases h2 : hasI F y with
                      | true =>
                        go_wp2_with fail
                        refine (HH1.out true h2).mono ?_
                        rintro e w' ⟨rfl, rfl⟩
                        have HYh2 := Lib.hid h2; clear h2
                        go_wp2
                        go_meet
                        case rel => exact ⟨by first | rfl | (rw [HYh2.out]; simp), by rw [HYh1.out, HYh2.out]; rfl, rfl⟩
                      | false =>
                        go_wp2_with fail
                        refine (HH1.out false h2).mono ?_
                        rintro e w' ⟨rfl, rfl⟩
                        have HYh2 := Lib.hid h2; clear h2
                        cases h3 : hasI (leftOf F (cl.take t)) y with
                        | true =>
                          go_wp2_with fail
                          refine (HH3.out true h3).mono ?_
                          rintro e w' ⟨rfl, rfl⟩
                          have HYh3 := Lib.hid h3; clear h3
                          go_wp2
                          go_meet
                          case rel => exact ⟨by first | rfl | (rw [HYh2.out]; simp), by rw [HYh1.out, HYh2.out, HYh3.out]; rfl, rfl⟩
                        | false =>
                          go_wp2_with fail
                          refine (HH3.out false h3).mono ?_
                          rintro e w' ⟨rfl, rfl⟩
                          have HYh3 := Lib.hid h3; clear h3
                          go_wp2
                          go_meet
                          case rel => exact ⟨by first | rfl | (rw [HYh2.out]; simp), by rw [HYh1.out, HYh2.out, HYh3.out]; rfl, rfl⟩
                  case rest =>
                    obtain ⟨rfl, rfl, rfl⟩ := hcut
                    cases hx : (hasI F (-y) || hasI F y || hasI (leftOf F (cl.take t)) y) with
                    | true =>
                      rw [hx, if_pos rfl] at HFT
                      clear hx
                      go_wp2
                      go_roundw
                      case rel => exact ⟨t + 1, a3, k3, c3, by omega, by go_num, rfl, (by show _ = _; rw [HHB2.out]), by show _ = _; rw [HFT.out]; exact HK3.out, by show World.ownsRow _ _ _ _ _ _ _; rw [HFT.out]; exact HLR.out, HKL.out⟩
                      case measure => simp [intOf]; omega
                    | false =>
                      rw [hx, if_neg (by simp)] at HFT
                      clear hx
                      go_wp2_with (at_builtin; refine wpList_append_int (w0 := wc) rfl _ _ rfl wo.heap.size a3 k3 c3 _ rfl HLR.out y rfl rfl (by omega) HKL.out.size ?_; intro a4 c4 w4 hown4 hgrow4; have HOW4 := Lib.hid hown4; have HGR4 := Lib.hid hgrow4; clear hown4 hgrow4)
                      have HK4 := Lib.hid (grow_kept HLR.out HKL.out (Nat.le_refl _) HGR4.out)
                      go_roundw
                      case rel => exact ⟨t + 1, a4, k3 + 1, c4, by omega, by go_num, rfl, (by show _ = _; rw [HHB2.out]), by show _ = _; rw [HFT.out, List.length_append, HK3.out]; rfl, by show World.ownsRow _ _ _ _ _ _ _; rw [HFT.out]; exact HOW4.out, HK4.out⟩
                      case measure => simp [intOf]; omega
              · obtain rfl : t = k2 := by omega
                have htt : cl.take t = cl := by rw [← HIC.out.len]; exact List.take_length
                rw [htt] at HHB HK3 HLR
                clear htt
                have HROW3 := Lib.hid (row_keptR HROW.out HKL.out)
                have HKW3 := Lib.hid (HKI.out.trans HKL.out)
                cases hb with
                | true =>
                  have HQ := Lib.hid (any_holds HHB.out.symm)
                  go_wp2
                  go_roundw
                  case rel => exact ⟨jj + 1, F, b, fa, fn, fc, by omega, by go_num, rfl, rfl, HRU.out.quiet HCJ.out HQ.out, HFL.out, HROW3.out, HKW3.out⟩
                  case measure => simp [intOf]; omega
                | false =>
                  have HNF := Lib.hid (any_not HHB.out.symm)
                  match k3, HK3, HLR, hk3b with
                  | 0, HK3, HLR, _ =>
                    have HNO : Hid (UnitsRes C none) := ⟨F, HRU.out.reach, cl, List.mem_of_getElem? HCJ.out, left_none HNF.out HK3.out⟩
                    go_wp2
                    go_ret2
                    exact ⟨HK0.out.trans HKW3.out, Or.inr ⟨HR.out, Or.inl ⟨HNO.out, rfl⟩⟩⟩
                  | 1, HK3, HLR, _ =>
                    obtain ⟨l, hl⟩ : ∃ l, leftOf F cl = [l] := List.length_eq_one_iff.1 HK3.out
                    have HST := Lib.hid (left_one HNF.out hl)
                    have hrow := HLR.out
                    rw [hl] at hrow
                    obtain ⟨r, rfl, _, _, _⟩ := row_some hrow (by omega)
                    have x5 : wr.cell? ⟨r, 0, none⟩ = some (.int .i64 l) := by rw [hrow.cellAt 0 (by omega)]; rfl
                    clear hrow hl
                    go_wp2_with (at_builtin; refine wpList_append_int (w0 := wr) rfl _ _ rfl w1.heap.size fa fn fc _ rfl HROW3.out l rfl rfl (by omega) HKW3.out.size ?_; intro a4 c4 w4 hown4 hgrow4; have HOW4 := Lib.hid hown4; have HGR4 := Lib.hid hgrow4; clear hown4 hgrow4)
                    have HK4 := Lib.hid (grow_kept HROW3.out HKW3.out (Nat.le_refl _) HGR4.out)
                    go_wp2
                    go_roundw
                    case rel => exact ⟨jj + 1, F ++ [l], true, a4, fn + 1, c4, by omega, by go_num, rfl, rfl, HRU.out.step HCJ.out HST.out, by show _ = _; rw [List.length_append, HFL.out]; rfl, HOW4.out, HK4.out⟩
                    case measure => simp [intOf]; omega
                  | k3 + 2, HK3, HLR, hk3b =>
                    have HQ : Hid (Quiet cl F) := left_two (by rw [HK3.out]; omega)
                    have d0 : (((k3 + 2 : Nat) : Int) == 0) = false := beq_eq_false_iff_ne.2 (by omega)
                    have d1 : (((k3 + 2 : Nat) : Int) == 1) = false := beq_eq_false_iff_ne.2 (by omega)
                    obtain ⟨k4, hk4⟩ : ∃ k4 : Nat, k4 = k3 + 2 := ⟨_, rfl⟩
                    rw [← hk4] at d0 d1 ⊢
                    go_wp2
                    go_roundw
                    case rel => exact ⟨jj + 1, F, b, fa, fn, fc, by omega, by go_num, rfl, rfl, HRU.out.quiet HCJ.out HQ.out, HFL.out, HROW3.out, HKW3.out⟩
                    case measure => simp [intOf]; omega
          · obtain rfl : jj = cn := by omega
            have hru := HRU.out
            rw [← HLN.out] at hru
            have HRU2 := Lib.hid hru
            clear hru
            go_wp2
            go_roundw
            case rel => exact ⟨F, b, fa, fn, fc, rfl, rfl, HRU2.out.reach, (fun h => by subst h; exact HRU2.out.done), HFL.out, HROW.out, HKI.out⟩
            case measure =>
              have h1 := HFL.out
              have h2 := HFL0.out
              cases b with
              | true =>
                have h3 := HRU2.out.more rfl
                simp [slLen, boN]; omega
              | false =>
                obtain ⟨h3, _⟩ := HRU2.out.same rfl
                subst h3
                simp [slLen, boN]; omega
      | false =>
        have HQ := Lib.hid (HQ0.out rfl)
        have HCO := Lib.hid (HRE0.out.cons HNZ.out)
        have HRG := Lib.hid (HFR.out F0 HRE0.out)
        clear HQ0
        go_wp2
        obtain ⟨q, hq⟩ : ∃ q : Nat, q = fn0 := ⟨_, rfl⟩
        rw [← hq] at HFL0 HROW0 hfn0 ⊢
        clear hq
        go_loopw [11] (fun i wr => ∃ (p : Nat) (L : List Int), p ≤ q ∧ i = .int .i64 p ∧ Hid (SortR F0 L p) ∧ Hid (wr.ownsRow w1.heap.size 3 1 (.slice fa0 q fc0) q (L.map (Value.int .i64))) ∧ Hid (Kept w1 wr)) (fun i _ => q - (intOf i).toNat)
        case atStart => exact ⟨0, F0, Nat.zero_le _, rfl, SortR.start F0, HROW0.out, HKI0.out⟩
        case round =>
          obtain ⟨p, L, hp, rfl, HSR, HROWL, HKL⟩ := hrel
          have p0 : (0 : Int) ≤ (p : Int) := Int.natCast_nonneg _
          have HLL : Hid (L.length = q) := by show _ = _; rw [HSR.out.perm.length_eq]; exact HFL0.out
          by_cases hpq : p < q
          · have p1 : (p : Int) < (q : Int) := by omega
            obtain ⟨x, hx⟩ : ∃ x, L[p]? = some x := ⟨_, List.getElem?_eq_getElem (by rw [HLL.out]; exact hpq)⟩
            obtain ⟨hsi, he, hsl⟩ := HSR.out.at_ hx
            obtain ⟨S, hS⟩ : ∃ S, S = L.take p := ⟨_, rfl⟩
            obtain ⟨R, hR⟩ : ∃ R, R = L.drop (p + 1) := ⟨_, rfl⟩
            rw [← hS, ← hR] at hsi he
            rw [← hS] at hsl
            have HSI := Lib.hid hsi
            have HE := Lib.hid he
            have HSL := Lib.hid hsl
            have HXR : Hid (-16777216 ≤ x ∧ x ≤ 16777216) := HRG.out x (HSR.out.perm.mem_iff.1 (List.mem_of_getElem? hx))
            obtain ⟨l2, l3⟩ := HXR.out
            have HRW0 : Hid (wr.ownsRow w1.heap.size 3 1 (.slice fa0 q fc0) q ((insAt S x p ++ R).map (Value.int .i64))) := by show World.ownsRow _ _ _ _ _ _ _; rw [HE.out]; exact HROWL.out
            obtain ⟨r, hr, _, _, _⟩ := row_some HROWL.out (by omega)
            clear hx hsi he hsl hS hR HSR HROWL HLL HE
            obtain ⟨wo, rfl⟩ : ∃ wo : World, wo = wr := ⟨_, rfl⟩
            subst hr
            go_wp2
            go_loopw [12] (fun i wr => ∃ (k : Nat), k ≤ p ∧ i = .int .i64 k ∧ Hid (SortI F0 S R x k) ∧ Hid (wr.ownsRow w1.heap.size 3 1 (.slice (some ⟨r, 0, none⟩) q fc0) q ((insAt S x k ++ R).map (Value.int .i64))) ∧ Hid (Kept w1 wr)) (fun i _ => (intOf i).toNat)
            case atStart => exact ⟨p, Nat.le_refl _, rfl, HSI.out, HRW0.out, HKL.out⟩
            case round =>
              obtain ⟨k, hk, rfl, HSK, HRK, HKK⟩ := hrel
              have k0 : (0 : Int) ≤ (k : Int) := Int.natCast_nonneg _
              rcases Nat.eq_zero_or_pos k with hz | hz
              · subst hz
                have HN := Lib.hid (HSK.out.done HCO.out (fun y h0 => absurd h0 (Nat.lt_irrefl 0)))
                rw [HSL.out] at HN
                go_wp2_with fail
                go_quiet (fail)
                go_wp2
                go_roundw
                case rel => exact ⟨p + 1, _, by omega, by go_num, HN.out, HRK.out, Kept.drewN HKK.out _⟩
                case measure => simp [intOf]; omega
              · obtain ⟨m, hm⟩ : ∃ m : Nat, k = m + 1 := ⟨k - 1, by omega⟩
                have HM := Lib.hid hm
                have hml : m < S.length := by have := HSL.out; omega
                obtain ⟨pv, hp⟩ : ∃ pv, S[m]? = some pv := ⟨_, List.getElem?_eq_getElem hml⟩
                have HPV := Lib.hid hp
                have hpr : -16777216 ≤ pv ∧ pv ≤ 16777216 := HRG.out pv (HSK.out.perm.mem_iff.1 (List.mem_append_left _ ((insAt_mem S x k pv).2 (Or.inr (List.mem_of_getElem? hp)))))
                have HPR := Lib.hid hpr
                have HCK : Hid (∀ (j : Nat) (z : Int), j < q → (insAt S x k ++ R)[j]? = some z → wr.cell? ⟨r, j, none⟩ = some (.int .i64 z)) := fun j z hjq hj => by
                  rw [HRK.out.cellAt j (by omega), List.getElem?_map, hj]; rfl
                have i1 := HCK.out k x (by omega) HSK.out.at_x
                have i2 := HCK.out m pv (by omega) (by rw [hm]; rw [hm] at HSK; exact HSK.out.at_p hp)
                have hw1 : IntKind.i64.wrap ((k : Int) - 1) = (m : Int) := by rw [IntWalk.i64_in _ (by omega)]; omega
                have q1 : (0 : Int) < (k : Int) := by omega
                have q2 : (k : Int) < (q : Int) := by omega
                have q3 : (0 : Int) ≤ (m : Int) := Int.natCast_nonneg _
                have q4 : (m : Int) < (q : Int) := by omega
                clear hm hml hp hpr
                by_cases hlt : vr x < vr pv
                · have HBF : Hid (∀ w, Calls Tryz.prog 85 #[.int .i64 x, .int .i64 pv] w fun e w' => e = .returned (.bool true) ∧ w' = w) := fun w => before_is x pv true HXR.out HPR.out (decide_eq_true hlt) w
                  have HST : Hid (SortI F0 S R x m) := by have h := HSK.out; rw [HM.out] at h; exact h.step HPV.out hlt
                  have HSW : Hid (((insAt S x k ++ R).set k pv).set m x = insAt S x m ++ R) := by have h := HSK.out; rw [HM.out] at h ⊢; exact h.swap HPV.out
                  have hs1 := HRK.out.stored k (.int .i64 pv)
                  have hs2 := HRK.out.stored m (.int .i64 x)
                  have hkm : k ≠ m := by have := HM.out; omega
                  have c1' : (wr.setCell ⟨r, k, none⟩ (.int .i64 pv)).cell? ⟨r, m, none⟩ = some (.int .i64 pv) := by
                    rw [hs1.1.cellAt m (by omega), List.getElem?_set_ne hkm, ← HRK.out.cellAt m (by omega)]; exact i2
                  have c2' : (wr.setCell ⟨r, m, none⟩ (.int .i64 x)).cell? ⟨r, k, none⟩ = some (.int .i64 x) := by
                    rw [hs2.1.cellAt k (by omega), List.getElem?_set_ne (Ne.symm hkm), ← HRK.out.cellAt k (by omega)]; exact i1
                  have f1 := HRK.out.frozenAt k
                  have f2 := HRK.out.frozenAt m
                  have f1' := hs2.1.frozenAt k
                  have f2' := hs1.1.frozenAt m
                  clear hs1 hs2 hlt
                  go_wp2_with fail
                  go_quiet ((go_at_call 85; exact Calls.quiet_of_same (HBF.out _)))
                  go_wp2_with fail
                  go_region
                  clear i1 i2 c1' c2' f1 f2 f1' f2'
                  generalize hwx : wr.drewN _ = wx
                  have HKX2 : Hid (Kept w1 wx) := by
                    show Kept w1 wx
                    rw [← hwx]
                    exact Kept.drewN HKK.out _
                  have HRX2 : Hid (wx.ownsRow w1.heap.size 3 1 (.slice (some ⟨r, 0, none⟩) q fc0) q ((insAt S x k ++ R).map (Value.int .i64))) := by
                    show wx.ownsRow _ _ _ _ _ _
                    rw [← hwx]
                    exact HRK.out
                  clear hwx
                  have hgl : w1.heap.size ≤ r := (HRX2.out.lt r rfl).1
                  have HEND : Hid (((wx.setCell ⟨r, k, none⟩ (.int .i64 pv)).setCell ⟨r, m, none⟩ (.int .i64 x)).ownsRow w1.heap.size 3 1 (.slice (some ⟨r, 0, none⟩) q fc0) q ((insAt S x m ++ R).map (Value.int .i64))) := by
                    have h9 := ((HRX2.out.stored k (.int .i64 pv)).1.stored m (.int .i64 x)).1
                    rw [← HSW.out, List.map_set, List.map_set]
                    exact h9
                  have HEND3 := Lib.hid ((HKX2.out.setCell (p := ⟨r, k, none⟩) hgl (.int .i64 pv)).setCell (p := ⟨r, m, none⟩) hgl (.int .i64 x))
                  go_wp2
                  go_roundw
                  case rel => exact ⟨m, by have := HM.out; omega, by go_num, HST.out, HEND.out, HEND3.out⟩
                  case measure => have := HM.out; simp [intOf]; omega
                · have HBF : Hid (∀ w, Calls Tryz.prog 85 #[.int .i64 x, .int .i64 pv] w fun e w' => e = .returned (.bool false) ∧ w' = w) := fun w => before_is x pv false HXR.out HPR.out (decide_eq_false hlt) w
                  have HN := Lib.hid (HSK.out.done HCO.out (fun y _ hy => by
                    have e : k - 1 = m := by have := HM.out; omega
                    rw [e, HPV.out] at hy
                    cases hy
                    exact hlt))
                  rw [HSL.out] at HN
                  clear hlt
                  go_wp2_with fail
                  go_quiet ((go_at_call 85; exact Calls.quiet_of_same (HBF.out _)))
                  go_wp2
                  go_roundw
                  case rel => exact ⟨p + 1, _, by omega, by go_num, HN.out, HRK.out, Kept.drewN HKK.out _⟩
                  case measure => simp [intOf]; omega
          · obtain rfl : p = q := by omega
            obtain ⟨hs, hm⟩ := HSR.out.done HLL.out
            have HYES : Hid (UnitsRes C (some L)) := ⟨F0, HRE0.out, HQ.out, hs, hm⟩
            have HIL : Hid (IntsAt wr fa0 p L) := ints_of_row HROWL.out HLL.out fun x hx => HFI.out F0 HRE0.out x ((hm x).1 hx)
            have HFIT := Lib.hid (row_fit HROWL.out)
            clear hs hm
            go_wp2
            go_ret2
            exact ⟨HK0.out.trans HKL.out, Or.inr ⟨HR.out, Or.inr ⟨fa0, p, fc0, L, HYES.out, rfl, HIL.out, HFIT.out⟩⟩⟩
end Go.Proofs.YtlikokeknfhejaaGreatDoor

namespace Go.Proofs.YtlikokeknfhejaaGreatDoor
open Go Go.RowKit Go.Sort Go.Lib

def OkTo (V : Int) (lits : List Int) (j : Nat) : Prop := ∀ x ∈ lits.take j, litB V x = true ∧ hasI lits (-x) = false
theorem OkTo.snoc {V : Int} {lits : List Int} {j : Nat} {x : Int} (h : OkTo V lits j) (hx : lits[j]? = some x) (h1 : litB V x = true) (h2 : hasI lits (-x) = false) : OkTo V lits (j + 1) := by
  intro y hy
  rw [List.take_succ_eq_append_getElem (List.getElem?_eq_some_iff.1 hx).1, (List.getElem?_eq_some_iff.1 hx).2] at hy
  rcases List.mem_append.1 hy with hy | hy
  · exact h y hy
  · rw [List.mem_singleton.1 hy]; exact ⟨h1, h2⟩
theorem OkTo.ok {V : Int} {C : List (List Int)} {lits : List Int} (h : OkTo V lits lits.length) (hr : rightB V C = true) : AsgOk V C lits := by
  unfold OkTo at h
  rw [List.take_length] at h
  exact ⟨hr, (allB_iff V lits).2 fun x hx => (litB_iff V x).1 (h x hx).1, fun x hx => (hasI_no _ _).1 (h x hx).2⟩
theorem not_ok_lit {V : Int} {C : List (List Int)} {lits : List Int} {x : Int} (hx : x ∈ lits) (h : litB V x = false) : ¬ AsgOk V C lits := fun k => by
  have := (litB_iff V x).2 ((allB_iff V lits).1 k.2.1 x hx)
  rw [h] at this; cases this
theorem not_ok_has {V : Int} {C : List (List Int)} {lits : List Int} {x : Int} (hx : x ∈ lits) (h : hasI lits (-x) = true) : ¬ AsgOk V C lits := fun k => k.2.2 x hx ((hasI_iff _ _).1 h)

set_option maxRecDepth 100000 in
set_option maxHeartbeats 8000000 in
theorem rassign_any (V : Int) (ca la : Option Addr) (cn cc n c : Nat) (C : List (List Int)) (lits : List Int) (w : World) (hV : InR V) (hC : ClsAt w ca cn C) (hcn : cn ≤ 1000000) (hS : ∀ c ∈ C, c.length ≤ 1000000) (hL : IntsAt w la n lits) (hn : n ≤ 1000000) :
    Calls Tryz.prog 49 #[.agg #[.int .i64 V, .slice ca cn cc], .slice la n c] w (AsgPost V C lits w) := by
  have HC := Lib.hid hC; have HL := Lib.hid hL; have HS := Lib.hid hS; clear hC hL hS
  have HLN := Lib.hid HC.out.len
  have HLL := Lib.hid HL.out.len
  have HVR := Lib.hid hV; clear hV
  obtain ⟨B, hBe⟩ : ∃ B : Nat, B = w.heap.size := ⟨_, rfl⟩
  obtain ⟨R0, hRe⟩ : ∃ R0 : Nat, R0 = w.heap.size + 1 := ⟨_, rfl⟩
  have e2 : (w.alloc (rObj V ca cn cc)).heap.size = w.heap.size + 1 := by simp
  have HB := Lib.hid (MapKept.heap_alloc w (rObj V ca cn cc)).1
  have HR := Lib.hid (MapKept.heap_alloc (w.alloc (rObj V ca cn cc)) zM).1
  rw [e2, ← hRe] at HR
  rw [← hBe] at HB
  have HK0 := Lib.hid (((Kept.refl w).alloc (rObj V ca cn cc)).alloc zM)
  have HB1 : Hid (((w.alloc (rObj V ca cn cc)).alloc zM).heap[B]? = some (rObj V ca cn cc)) := ((Kept.refl _).alloc _).row HB.out
  have HRL := Lib.hid (show w.heap.size ≤ R0 by omega)
  clear e2
  go_enter Tryz.func49, Tryz.ntmps49
  go_upto_region 1 with (fail)
  rw [← hRe, ← hBe]
  obtain ⟨w1, hw1⟩ : ∃ w1 : World, w1 = (w.alloc (rObj V ca cn cc)).alloc zM := ⟨_, rfl⟩
  change Code.wp _ _ _ _ ((w.alloc (rObj V ca cn cc)).alloc zM)
  rw [← hw1] at HB1 HR HK0 ⊢
  clear hw1 hBe hRe HB
  obtain ⟨y0, y1⟩ := rbox_facts HB1.out (Kept.refl w1)
  obtain ⟨r0, r1⟩ := rbox_facts HR.out (Kept.refl w1)
  have HCR := Lib.hid (rright_any V ca cn cc C w1 HVR.out (HC.out.kept HK0.out) hcn HS.out)
  cases hr : rightB V C with
  | false =>
    have HNO : Hid (¬ AsgOk V C lits) := fun h => by have h1 := h.1; rw [hr] at h1; cases h1
    rw [hr] at HCR
    clear hr
    go_wp2_with fail
    refine HCR.out.mono ?_
    rintro e w2 ⟨rfl, hk2⟩
    have HK2 := Lib.hid hk2
    have f0 := frozen_of_row (hk2.row HR.out) 0
    have f1 := frozen_of_row (hk2.row HR.out) 1
    replace r0 := hk2.cell r0; replace r1 := hk2.cell r1
    clear hk2 y0 y1 HCR
    go_wp2
    have HR4 := Lib.hid (set2 (u := .int .i64 0) (v := .slice none 0 0) (HK2.out.row HR.out))
    have HK4 := Lib.hid (((HK0.out.trans HK2.out).setCell (p := ⟨R0, 0, none⟩) HRL.out (.int .i64 0)).setCell (p := ⟨R0, 1, none⟩) HRL.out (.slice none 0 0))
    generalize (w2.setCell ⟨R0, 0, none⟩ (.int .i64 0)).setCell ⟨R0, 1, none⟩ (.slice none 0 0) = w4 at *
    clear r0 r1 f0 f1
    obtain ⟨r0, r1⟩ := rbox_facts HR4.out (Kept.refl w4)
    exact bodyPost_ret (v := .tuple #[.agg #[.int .i64 0, .slice none 0 0], .bool false]) (by simp [results, Tryz.results49, go_sem, r0, r1]) rfl ⟨HK4.out, Or.inl ⟨HNO.out, rfl⟩⟩
  | true =>
    rw [hr] at HCR
    have HRR := Lib.hid hr; clear hr
    have HRI := Lib.hid ((rightB_iff V C).1 HRR.out)
    have v0 := HRI.out.1
    have v1 := HRI.out.2.1
    go_wp2_with fail
    refine HCR.out.mono ?_
    rintro e w2 ⟨rfl, hk2⟩
    have HK2 := Lib.hid hk2
    clear hk2 y0 y1 r0 r1 HCR
    go_wp2
    go_loopw [6] (fun i wr => ∃ j : Nat, j ≤ n ∧ i = .int .i64 j ∧ OkTo V lits j ∧ Kept w1 wr) (fun i _ => n - (intOf i).toNat)
    case atStart => exact ⟨0, Nat.zero_le _, rfl, (fun x hx => by simp at hx), HK2.out⟩
    case round =>
      obtain ⟨j, hj, rfl, hok, hK⟩ := hrel
      have HOK := Lib.hid hok
      have HK1 := Lib.hid hK
      clear hok hK
      have j0 : (0 : Int) ≤ (j : Int) := Int.natCast_nonneg _
      obtain ⟨y0, y1⟩ := rbox_facts HB1.out HK1.out
      by_cases hjn : j < n
      · have j1 : (j : Int) < (n : Int) := by omega
        have HLK := Lib.hid (HL.out.kept (HK0.out.trans HK1.out))
        obtain ⟨b, off, rfl, hc⟩ := HLK.out.at_ (by omega)
        have hjl : j < lits.length := by rw [HLL.out]; exact hjn
        obtain ⟨l, hl⟩ : ∃ l, lits[j]? = some l := ⟨_, List.getElem?_eq_getElem hjl⟩
        have x0 := hc j l hl
        have HX := Lib.hid hl
        have hlr := HLK.out.inr l (List.mem_of_getElem? hl)
        obtain ⟨l0, l1⟩ : -9223372036854775808 ≤ l ∧ l ≤ 9223372036854775807 := hlr
        have HLC : Hid (∀ w, Calls Tryz.prog 88 #[.int .i64 l, .int .i64 V] w fun e w' => e = .returned (.bool (litB V l)) ∧ w' = w) := fun w => (lit_any l V w (by omega) (by omega)).mono fun _ _ h => ⟨h.1, h.2.symm⟩
        clear hc hl hjl
        cases hlt : litB V l with
        | false =>
          rw [hlt] at HLC
          have HNO := Lib.hid (not_ok_lit (C := C) (List.mem_of_getElem? HX.out) hlt)
          clear hlt
          go_wp2_with fail
          go_quiet ((go_at_call 88; exact Calls.quiet_of_same (HLC.out _)))
          have HK5 := Lib.hid (Kept.drewN HK1.out nq)
          generalize wr.drewN nq = w5 at *
          clear y0 y1 x0
          have f0 := frozen_of_row (HK5.out.row HR.out) 0
          have f1 := frozen_of_row (HK5.out.row HR.out) 1
          obtain ⟨r0, r1⟩ := rbox_facts HR.out HK5.out
          go_wp2
          have HR4 := Lib.hid (set2 (u := .int .i64 0) (v := .slice none 0 0) ((HK5.out).row HR.out))
          have HK4 := Lib.hid (((HK0.out.trans (HK5.out)).setCell (p := ⟨R0, 0, none⟩) HRL.out (.int .i64 0)).setCell (p := ⟨R0, 1, none⟩) HRL.out (.slice none 0 0))
          generalize (w5.setCell ⟨R0, 0, none⟩ (.int .i64 0)).setCell ⟨R0, 1, none⟩ (.slice none 0 0) = w4 at *
          clear r0 r1 f0 f1
          obtain ⟨r0, r1⟩ := rbox_facts HR4.out (Kept.refl w4)
          exact bodyPost_ret (v := .tuple #[.agg #[.int .i64 0, .slice none 0 0], .bool false]) (by simp [results, Tryz.results49, go_sem, r0, r1]) rfl ⟨HK4.out, Or.inl ⟨HNO.out, rfl⟩⟩
        | true =>
          rw [hlt] at HLC
          have hlv := (litB_iff V l).1 hlt
          have l2 : -16777216 ≤ l := by omega
          have l3 : l ≤ 16777216 := by omega
          have HLT := Lib.hid hlt
          clear hlt hlv
          cases hneg : hasI lits (-l) with
          | true =>
            have HNO := Lib.hid (not_ok_has (V := V) (C := C) (List.mem_of_getElem? HX.out) hneg)
            have HNG := Lib.hid hneg
            clear hneg
            go_wp2_with fail
            go_quiet ((first | (go_at_call 88; exact Calls.quiet_of_same (HLC.out _)) | (go_at_call 84; exact Calls.quiet_of_same (has_true (-l) (by first | exact HLK.out | exact HLK.out.kept (Kept.drewN (Kept.refl _) _) | exact HLK.out.kept (Kept.drew (Kept.refl _))) (by omega) HNG.out))))
            have HK5 := Lib.hid (Kept.drewN HK1.out nq)
            generalize wr.drewN nq = w5 at *
            clear y0 y1 x0
            have f0 := frozen_of_row (HK5.out.row HR.out) 0
            have f1 := frozen_of_row (HK5.out.row HR.out) 1
            obtain ⟨r0, r1⟩ := rbox_facts HR.out HK5.out
            go_wp2
            have HR4 := Lib.hid (set2 (u := .int .i64 0) (v := .slice none 0 0) ((HK5.out).row HR.out))
            have HK4 := Lib.hid (((HK0.out.trans (HK5.out)).setCell (p := ⟨R0, 0, none⟩) HRL.out (.int .i64 0)).setCell (p := ⟨R0, 1, none⟩) HRL.out (.slice none 0 0))
            generalize (w5.setCell ⟨R0, 0, none⟩ (.int .i64 0)).setCell ⟨R0, 1, none⟩ (.slice none 0 0) = w4 at *
            clear r0 r1 f0 f1
            obtain ⟨r0, r1⟩ := rbox_facts HR4.out (Kept.refl w4)
            exact bodyPost_ret (v := .tuple #[.agg #[.int .i64 0, .slice none 0 0], .bool false]) (by simp [results, Tryz.results49, go_sem, r0, r1]) rfl ⟨HK4.out, Or.inl ⟨HNO.out, rfl⟩⟩
          | false =>
            have HNG := Lib.hid hneg
            clear hneg
            go_wp2_with fail
            go_quiet ((first | (go_at_call 88; exact Calls.quiet_of_same (HLC.out _)) | (go_at_call 84; exact Calls.quiet_of_same (has_false (-l) (by first | exact HLK.out | exact HLK.out.kept (Kept.drewN (Kept.refl _) _) | exact HLK.out.kept (Kept.drew (Kept.refl _))) (by omega) HNG.out))))
            go_wp2
            go_roundw
            case rel => exact ⟨j + 1, by omega, by go_num, HOK.out.snoc HX.out HLT.out HNG.out, Kept.drewN HK1.out _⟩
            case measure => simp [intOf]; omega
      · obtain rfl : n = j := by omega
        have hok := HOK.out
        rw [← HLL.out] at hok
        have HOKA := Lib.hid (hok.ok HRR.out)
        clear hok HOK
        obtain ⟨w6, rfl⟩ : ∃ w6 : World, w6 = wr := ⟨_, rfl⟩
        have HKW6 := Lib.hid (HK0.out.trans HK1.out)
        have HB6 := Lib.hid (HK1.out.row HB1.out)
        have HR6 := Lib.hid (HK1.out.row HR.out)
        have HH := Lib.hid (MapKept.heap_alloc w6 (f2Obj V none 0 0 83)).1
        have HKH := Lib.hid ((Kept.refl w6).alloc (f2Obj V none 0 0 83))
        clear HB1 HR HK1 HK0 HK2
        go_upto_region 9 with (fail)
        obtain ⟨h, hh⟩ : ∃ h : Nat, h = w6.heap.size := ⟨_, rfl⟩
        rw [← hh] at HH ⊢
        obtain ⟨w7, hw7⟩ : ∃ w7 : World, w7 = w6.alloc (f2Obj V none 0 0 83) := ⟨_, rfl⟩
        change Code.wp _ _ _ _ (w6.alloc (f2Obj V none 0 0 83))
        rw [← hw7] at HH HKH ⊢
        have HHE := Lib.hid hh
        have HWH : Hid (w.heap.size ≤ h ∧ h < w7.heap.size ∧ B < h ∧ R0 < h) :=
          ⟨by rw [HHE.out]; exact HKW6.out.size, (Array.getElem?_eq_some_iff.1 HH.out).1, by rw [HHE.out]; exact (Array.getElem?_eq_some_iff.1 HB6.out).1, by rw [HHE.out]; exact (Array.getElem?_eq_some_iff.1 HR6.out).1⟩
        clear hw7 hh y0 y1
        have HKW7 := Lib.hid (HKW6.out.trans HKH.out)
        have HR7 := Lib.hid (HKH.out.row HR6.out)
        have HB7 := Lib.hid (HKH.out.row HB6.out)
        clear HR6 HB6 HKH HKW6
        obtain ⟨ii, hi, hz0, hz1, hz2⟩ := info_parts infoInts
        have HI := Lib.hid (And.intro hi (And.intro hz0 (And.intro hz1 hz2))); clear hi hz0 hz1 hz2
        go_wp2
        go_loopw [8] (fun i wr => ∃ (jj : Nat) (a : Option Addr) (k c' : Nat) (vs : List Value), jj ≤ cn ∧ i = .int .i64 jj ∧ wr.heap[h]? = some (f2Obj V a k c' 83) ∧ RowsV w7.heap.size wr (TG (fun q => q ≤ h) a) a k c' vs (asg (C.take jj) lits) ∧ Turned (fun q => q = h) w7 wr) (fun i _ => cn - (intOf i).toNat)
        case atStart => exact ⟨0, none, 0, 0, [], Nat.zero_le _, rfl, HH.out, RowsV.nil _ _ _, Turned.refl _ _⟩
        case round =>
          obtain ⟨jj, a, k, c', vs, hj, rfl, hblk, hrows, ht⟩ := hrel
          have HBK := Lib.hid hblk; have HRW := Lib.hid hrows; have HT := Lib.hid ht
          have HKWR := Lib.hid (ht.from HKW7.out fun q hq e => by have := HWH.out.1; omega)
          have HBR : Hid (wr.heap[B]? = some (rObj V ca cn cc)) := (ht.block B (Array.getElem?_eq_some_iff.1 HB7.out).1 (by have := HWH.out; omega)).trans HB7.out
          clear hblk hrows ht
          have j0 : (0 : Int) ≤ (jj : Int) := Int.natCast_nonneg _
          by_cases hjn : jj < cn
          · have j1 : (jj : Int) < (cn : Int) := by omega
            have HCW := Lib.hid (HC.out.kept HKWR.out)
            obtain ⟨b, off, rfl, hc⟩ := HCW.out.at_ (by omega)
            have hjl : jj < C.length := by rw [HLN.out]; exact hjn
            obtain ⟨cl, hcj⟩ : ∃ c, C[jj]? = some c := ⟨_, List.getElem?_eq_getElem hjl⟩
            obtain ⟨a2, k2, cap2, x0, hIc, hz2, hkc⟩ := hc jj cl hcj
            have HX0 := Lib.hid x0
            have HIC := Lib.hid hIc
            have hk2 : k2 ≤ 1000000 := by have := HS.out cl (List.mem_of_getElem? hcj); rw [hIc.len] at this; exact this
            have HTK := Lib.hid (show C.take (jj + 1) = C.take jj ++ [cl] by rw [List.take_succ_eq_append_getElem hjl, (List.getElem?_eq_some_iff.1 hcj).2])
            have HLT := Lib.hid (fun (y : Int) (hy : y ∈ cl) => HRI.out.2.2.2 cl (List.mem_of_getElem? hcj) y hy)
            clear hc hcj hjl hIc hz2 hkc x0
            obtain ⟨wo, rfl⟩ : ∃ wo : World, wo = wr := ⟨_, rfl⟩
            obtain ⟨y0, y1⟩ := rbox_facts HBR.out (Kept.refl wo)
            go_wp2
            clear y0 y1
            go_loopw [9, 10, 11] (fun v9 v10 i wr => ∃ (t : Nat) (a3 : Option Addr) (k3 c3 : Nat), t ≤ k2 ∧ i = .int .i64 t ∧ v9 = .slice a3 k3 c3 ∧ Hid (v10 = .bool ((cl.take t).any (hasI lits))) ∧ k3 = ((cl.take t).filter fun x => !hasI lits (-x)).length ∧ wr.ownsRow wo.heap.size 3 1 (.slice a3 k3 c3) k3 (((cl.take t).filter fun x => !hasI lits (-x)).map (Value.int .i64)) ∧ Kept wo wr) (fun _ _ i _ => k2 - (intOf i).toNat)
            case atStart => exact ⟨0, none, 0, 0, Nat.zero_le _, rfl, rfl, rfl, rfl, World.ownsRow_nil _ _ _ _, Kept.refl _⟩
            case round =>
              obtain ⟨t, a3, k3, c3, ht, rfl, rfl, hv10, hk3, hrow, hK⟩ := hrel
              have HROW := Lib.hid hrow; have HK3 := Lib.hid hk3; have HKI := Lib.hid hK
              clear hrow hk3 hK
              obtain ⟨hb, hhb⟩ : ∃ hb : Bool, hb = (cl.take t).any (hasI lits) := ⟨_, rfl⟩
              have hv := hv10.out
              rw [← hhb] at hv
              subst hv
              have HHB := Lib.hid hhb
              clear hhb hv10
              have t0 : (0 : Int) ≤ (t : Int) := Int.natCast_nonneg _
              obtain ⟨y0, y1⟩ := rbox_facts HBR.out HKI.out
              have x0 := HKI.out.cell HX0.out
              by_cases htk : t < k2
              · have t1 : (t : Int) < (k2 : Int) := by omega
                have HIW := Lib.hid (HIC.out.kept HKI.out)
                obtain ⟨b2, o2, rfl, hcc⟩ := HIW.out.at_ (by omega)
                have htl : t < cl.length := by rw [HIC.out.len]; exact htk
                obtain ⟨y, hy⟩ : ∃ y, cl[t]? = some y := ⟨_, List.getElem?_eq_getElem htl⟩
                have x1 := hcc t y hy
                have hyv := HLT.out y (List.mem_of_getElem? hy)
                have l2 : -16777216 ≤ y := by omega
                have l3 : y ≤ 16777216 := by omega
                have HFT := Lib.hid (fil_take (lits := lits) hy)
                have HAT := Lib.hid (any_takeI (lits := lits) hy)
                have HLW := Lib.hid (HL.out.kept (HKWR.out.trans HKI.out))
                have hk3b : k3 ≤ 1000000 := by
                  rw [HK3.out]
                  have h1 := List.length_filter_le (fun x => !hasI lits (-x)) (cl.take t)
                  have h2 := List.length_take_le t cl
                  omega
                have HYI := Lib.hid (HIC.out.inr y (List.mem_of_getElem? hy))
                clear hcc htl hyv hy
                have HH1 : Hid (∀ b, hasI lits y = b → Calls Tryz.prog 84 #[.slice la n c, .int .i64 y] wr fun e w' => e = .returned (.bool b) ∧ w' = wr) := fun b hb => by
                  rw [← hb]; exact (rhas_any y la n c lits wr HLW.out (by omega)).mono fun _ _ k => ⟨k.1, k.2.symm⟩
                have HH2 : Hid (∀ b, hasI lits (-y) = b → Calls Tryz.prog 84 #[.slice la n c, .int .i64 (-y)] wr fun e w' => e = .returned (.bool b) ∧ w' = wr) := fun b hb => by
                  rw [← hb]; exact (rhas_any (-y) la n c lits wr HLW.out (by omega)).mono fun _ _ k => ⟨k.1, k.2.symm⟩
                go_upto_region 18 with (fail)
                clear y0 y1 x0 x1
                go_cut [10] (fun s wx => s = .bool (hb || hasI lits y) ∧ wx = wr)
                case first =>
                  cases hb with
                  | true =>
                    go_wp2
                    go_meet
                    case rel => exact ⟨rfl, rfl⟩
                  | false =>
                    cases hy : hasI lits y with
                    | true =>
                      go_wp2_with fail
                      refine (HH1.out true hy).mono ?_
                      rintro e w' ⟨rfl, rfl⟩
                      have HYhy := Lib.hid hy; clear hy
                      go_wp2
                      go_meet
                      case rel => exact ⟨by simp [HYhy.out], rfl⟩
                    | false =>
                      go_wp2_with fail
                      refine (HH1.out false hy).mono ?_
                      rintro e w' ⟨rfl, rfl⟩
                      have HYhy := Lib.hid hy; clear hy
                      go_wp2
                      go_meet
                      case rel => exact ⟨by simp [HYhy.out], rfl⟩
                case rest =>
                  obtain ⟨rfl, rfl⟩ := hcut
                  have HHB2 : Hid ((cl.take (t + 1)).any (hasI lits) = (hb || hasI lits y)) := by show _ = _; rw [HAT.out, HHB.out]
                  cases hy : hasI lits (-y) with
                  | true =>
                    rw [hy, if_pos rfl, List.append_nil] at HFT
                    have HCALL := Lib.hid (HH2.out true hy)
                    clear hy
                    go_wp2_with fail
                    refine HCALL.out.mono ?_
                    rintro e w' ⟨rfl, rfl⟩
                    go_wp2
                    go_roundw
                    case rel => exact ⟨t + 1, a3, k3, c3, by omega, by go_num, rfl, (by show _ = _; rw [HHB2.out]), by rw [HFT.out]; exact HK3.out, by rw [HFT.out]; exact HROW.out, HKI.out⟩
                    case measure => simp [intOf]; omega
                  | false =>
                    rw [hy, if_neg (by simp)] at HFT
                    have HCALL := Lib.hid (HH2.out false hy)
                    clear hy
                    go_wp2_with fail
                    refine HCALL.out.mono ?_
                    rintro e w' ⟨rfl, rfl⟩
                    go_wp2_with (at_builtin; refine wpList_append_int (w0 := w') rfl _ _ rfl wo.heap.size a3 k3 c3 _ rfl HROW.out y rfl rfl (by omega) HKI.out.size ?_; intro a4 c4 w4 hown4 hgrow4; have HOW4 := Lib.hid hown4; have HGR4 := Lib.hid hgrow4; clear hown4 hgrow4)
                    have HK4 := Lib.hid (grow_kept HROW.out HKI.out (Nat.le_refl _) HGR4.out)
                    go_wp2
                    go_roundw
                    case rel => exact ⟨t + 1, a4, k3 + 1, c4, by omega, by go_num, rfl, (by show _ = _; rw [HHB2.out]), by rw [HFT.out, List.length_append, ← HK3.out]; rfl, by rw [HFT.out]; exact HOW4.out, HK4.out⟩
                    case measure => simp [intOf]; omega
              · obtain rfl : t = k2 := by omega
                have htt : cl.take t = cl := by rw [← HIC.out.len]; exact List.take_length
                rw [htt] at HHB HK3 HROW
                clear htt
                have HSN := Lib.hid (asg_snoc (C.take jj) cl lits)
                have HBK3 := Lib.hid (HKI.out.row HBK.out)
                have HRW3 := Lib.hid (HRW.out.kept HKI.out)
                cases hb with
                | true =>
                  rw [← HHB.out, if_pos rfl, List.append_nil] at HSN
                  go_wp2
                  go_roundw
                  case rel =>
                    refine ⟨jj + 1, a, k, c', vs, by omega, by go_num, HBK3.out, ?_, HT.out.trans (HKI.out.turned _)⟩
                    rw [HTK.out, HSN.out]
                    exact HRW3.out
                  case measure => simp [intOf]; omega
                | false =>
                  rw [← HHB.out, if_neg (by simp)] at HSN
                  obtain ⟨R, hR⟩ : ∃ R : List Int, R = cl.filter fun x => !hasI lits (-x) := ⟨_, rfl⟩
                  have HRI2 : Hid (∀ x ∈ R, InR x) := fun x hx => by rw [hR] at hx; exact HIC.out.inr x (List.mem_filter.1 hx).1
                  rw [← hR] at HSN HK3 HROW
                  clear hR
                  have HNH : Hid ((Value.slice a k c').ownBlock ≠ some h) := by
                    intro e
                    have h1 := (HRW.out.row.lt h e).1
                    have := HWH.out.2.1
                    omega
                  have hkb : k ≤ 1000000 := by have h1 := HRW.out.len; have h2 := asg_len (C.take jj) lits; have h3 := List.length_take_le jj C; omega
                  have HCV : Hid (ClauseV wr (TG (fun q => q ≤ h) a) (.slice a3 k3 c3) R) := by
                    refine clauseV_new HROW.out HK3.out.symm HRI2.out fun q hq hTq => ?_
                    rcases hTq with h1 | h1
                    · have h2 := (Array.getElem?_eq_some_iff.1 HBK.out).1
                      omega
                    · have h2 := (HRW.out.row.lt q (by cases a with | none => cases h1 | some ad => simpa [Value.ownBlock] using h1)).2
                      omega
                  obtain ⟨q0, q1⟩ := rbox_facts HBK3.out (Kept.refl wr)
                  have q2 := frozen_of_row HBK3.out 1
                  have q3 := (Array.getElem?_eq_some_iff.1 HBK3.out).1
                  have HSZ := Lib.hid (show w7.heap.size ≤ wr.heap.size from Nat.le_trans HT.out.size HKI.out.size)
                  have z1 : (wr.alloc (.cells #[.slice a3 k3 c3] 22)).cell? ⟨h, 1, none⟩ = some (.slice a k c') := ((Kept.refl wr).alloc _).cell q1
                  have z2 : (wr.alloc (.cells #[.slice a3 k3 c3] 22)).frozen? ⟨h, 1, none⟩ = false := frozen_of_row (((Kept.refl wr).alloc _).row HBK3.out) 1
                  have z3 : h < (wr.alloc (.cells #[.slice a3 k3 c3] 22)).heap.size := by simp; omega
                  go_wp2_with (at_builtin; refine wpList_append_lies _ rfl _ _ _ rfl w7.heap.size 22 ii _ 1 24 Tryz.underlying23 HI.out.1 HI.out.2.1 HI.out.2.2.1 HI.out.2.2.2 rfl (by omega) (.slice a k c') k vs rfl (HRW3.out.row.alloc _) ⟨wr.heap.size, 0, none⟩ 1 1 [.slice a3 k3 c3] rfl rfl (World.news_of_block (cs := #[.slice a3 k3 c3]) (t := 22) (fr := (0, 0)) (heap_alloc_new wr _)) (by simp [Value.oneCell']) (by omega) (by unfold maxLen; omega) (by omega) (by have := HSZ.out; simp; omega) (wr.heap.size + 1) (by simp) ?_; intro gg cap w10 hown10 hgrow10 hat10 hlt10; have c10 : w10.cell? ⟨h, 1, none⟩ = some (.slice a k c') := (hgrow10.cell_far ⟨h, 1, none⟩ z3 (Ne.symm HNH.out)).trans z1; have z10 : w10.frozen? ⟨h, 1, none⟩ = false := (hgrow10.frozen_far ⟨h, 1, none⟩ z3 (Ne.symm HNH.out)).trans z2; have HGR := Lib.hid hgrow10; have HOW := Lib.hid hown10; have HAT := Lib.hid hat10; clear hgrow10 hown10 hat10 hlt10)
                  have hE := own_end (T0 := fun q => q ≤ h) (Nat.le_refl h) HBK3.out HRW3.out (Kept.refl wr) HWH.out.2.1 HOW.out HGR.out HAT.out HCV.out HSZ.out
                  have HE := Lib.hid hE
                  clear hE c10 z10 q0 q1 q2 q3 z1 z2 z3
                  go_roundw
                  case rel =>
                    refine ⟨jj + 1, some ⟨gg, 0, none⟩, k + 1, cap, vs ++ [.slice a3 k3 c3], by omega, by go_num, HE.out.1, ?_, ?_⟩
                    · rw [HTK.out, HSN.out]; exact HE.out.2.1
                    · refine (((HT.out.trans (HKI.out.turned _)).mono fun q _ e => Or.inl e).trans HE.out.2.2).mono fun q hq hTq => ?_
                      rcases hTq with h1 | h1
                      · exact h1
                      · have h2 := (HRW.out.row.lt q (by cases a with | none => cases h1 | some ad => simpa [Value.ownBlock] using h1)).1
                        omega
                  case measure => simp [intOf]; omega
          · obtain rfl : jj = cn := by omega
            have htk : C.take jj = C := by rw [← HLN.out]; exact List.take_length
            rw [htk] at HRW
            obtain ⟨q0, q1⟩ := rbox_facts HBK.out (Kept.refl wr)
            obtain ⟨y0, y1⟩ := rbox_facts HBR.out (Kept.refl wr)
            have HRB : Hid (wr.heap[R0]? = some zM) := (HT.out.block R0 (Array.getElem?_eq_some_iff.1 HR7.out).1 (by have := HWH.out; omega)).trans HR7.out
            have f0 := frozen_of_row HRB.out 0
            have f1 := frozen_of_row HRB.out 1
            obtain ⟨r0, r1⟩ := rbox_facts HRB.out (Kept.refl wr)
            go_wp2
            have HR9 := Lib.hid (set2 (u := .int .i64 V) (v := .slice a k c') HRB.out)
            have HK9 := Lib.hid ((HKWR.out.setCell (p := ⟨R0, 0, none⟩) HRL.out (.int .i64 V)).setCell (p := ⟨R0, 1, none⟩) HRL.out (.slice a k c'))
            have HROW : Hid (∀ w9, Turned (fun q => q = R0) wr w9 → ClsAt w9 a k (asg C lits)) := fun w9 ht9 => by
              refine RowsV.cls (HRW.out.turned (HRW.out.row.kept (row := some R0) ⟨ht9.os, ht9.tape, ht9.output, ht9.size, fun q hq hne => ht9.block q hq (fun e => hne (by rw [e]))⟩ ?_) (ht9.mono fun q _ e => Or.inl (by have := HWH.out; omega)))
              refine Or.inr fun e => ?_
              have h1 := (HRW.out.row.lt R0 e).1
              have := HWH.out
              omega
            have HT9 := Lib.hid ((Turned.setCell (T := fun q => q = R0) wr ⟨R0, 0, none⟩ (.int .i64 V) rfl).trans (Turned.setCell (T := fun q => q = R0) _ ⟨R0, 1, none⟩ (.slice a k c') rfl))
            have HCL := Lib.hid (HROW.out _ HT9.out)
            generalize (wr.setCell ⟨R0, 0, none⟩ (.int .i64 V)).setCell ⟨R0, 1, none⟩ (.slice a k c') = w9 at *
            clear r0 r1 f0 f1 q0 q1 y0 y1
            obtain ⟨r0, r1⟩ := rbox_facts HR9.out (Kept.refl w9)
            exact bodyPost_ret (v := .tuple #[.agg #[.int .i64 V, .slice a k c'], .bool true]) (by simp [results, Tryz.results49, go_sem, r0, r1]) rfl ⟨HK9.out, Or.inr ⟨HOKA.out, a, k, c', rfl, HCL.out⟩⟩
end Go.Proofs.YtlikokeknfhejaaGreatDoor

namespace Go.Proofs.YtlikokeknfhejaaGreatDoor
open Go Go.RowKit Go.Lib

theorem few_len' {C : List (List Int)} {top : Int} (h : fewF C top = true) : (C.length : Int) ≤ top ∧ ∀ c ∈ C, c.length ≤ 30 := by
  unfold fewF at h
  simpa using h
theorem right_nz' {V : Int} {C : List (List Int)} (h : rightB V C = true) : NoZero C := fun c hc x hx => (((rightB_iff V C).1 h).2.2.2 c hc x hx).1
def AFact (V : Int) (C : List (List Int)) (lits : List Int) (LV : Int) (D : List (List Int)) (ok : Bool) : Prop :=
  (AsgOk V C lits ∧ LV = V ∧ D = asg C lits ∧ ok = true) ∨ (¬ AsgOk V C lits ∧ LV = 0 ∧ D = [] ∧ ok = false)
theorem AFact.eq {V : Int} {C : List (List Int)} {lits : List Int} {L1 L2 : Int} {D1 D2 : List (List Int)} {o1 o2 : Bool} (h : AFact V C lits L1 D1 o1) (k : AFact V C lits L2 D2 o2) : L2 = L1 ∧ D2 = D1 ∧ o2 = o1 := by
  rcases h with ⟨h1, rfl, rfl, rfl⟩ | ⟨h1, rfl, rfl, rfl⟩ <;> rcases k with ⟨k1, rfl, rfl, rfl⟩ | ⟨k1, rfl, rfl, rfl⟩
  · exact ⟨rfl, rfl, rfl⟩
  · exact absurd h1 k1
  · exact absurd k1 h1
  · exact ⟨rfl, rfl, rfl⟩
theorem AFact.small {V : Int} {C : List (List Int)} {lits : List Int} {L1 : Int} {D : List (List Int)} {o1 : Bool} (h : AFact V C lits L1 D o1) {b : Nat} (hC : ∀ c ∈ C, c.length ≤ b) : D.length ≤ C.length ∧ ∀ c ∈ D, c.length ≤ b := by
  rcases h with ⟨_, _, rfl, _⟩ | ⟨_, _, rfl, _⟩
  · refine ⟨asg_len C lits, fun c hc => ?_⟩
    obtain ⟨d, hd, h1, _⟩ := asg_lit hc
    exact Nat.le_trans h1 (hC d hd)
  · exact ⟨Nat.zero_le _, fun c hc => by cases hc⟩
theorem AsgPost.told {V : Int} {C : List (List Int)} {lits : List Int} {w w' : World} {e : Ending} (h : AsgPost V C lits w e w') : Kept w w' ∧ ∃ LV a k c ok D, e = .returned (.tuple #[.agg #[.int .i64 LV, .slice a k c], .bool ok]) ∧ ClsAt w' a k D ∧ AFact V C lits LV D ok := by
  obtain ⟨hk, ⟨ho, rfl⟩ | ⟨ho, a, k, c, rfl, hC⟩⟩ := h
  · exact ⟨hk, 0, none, 0, 0, false, [], rfl, ClsAt.nil _ _, Or.inr ⟨ho, rfl, rfl, rfl⟩⟩
  · exact ⟨hk, V, a, k, c, true, _, rfl, hC, Or.inl ⟨ho, rfl, rfl, rfl⟩⟩
def UFact (V : Int) (C : List (List Int)) (K : List Int) (ok : Bool) : Prop :=
  (rightB V C = true ∧ ok = true ∧ UnitsRes C (some K)) ∨ (K = [] ∧ ok = false ∧ (rightB V C = true → UnitsRes C none))
theorem UFact.eq {V : Int} {C : List (List Int)} {K1 K2 : List Int} {o1 o2 : Bool} (h : UFact V C K1 o1) (k : UFact V C K2 o2) : K2 = K1 ∧ o2 = o1 := by
  rcases h with ⟨h1, rfl, h2⟩ | ⟨rfl, rfl, h2⟩ <;> rcases k with ⟨k1, rfl, k2⟩ | ⟨rfl, rfl, k2⟩
  · exact ⟨Option.some.inj (UnitsRes.eq (right_nz' h1) k2 h2), rfl⟩
  · have := UnitsRes.eq (right_nz' h1) (k2 h1) h2; cases this
  · have := UnitsRes.eq (right_nz' k1) (h2 k1) k2; cases this
  · exact ⟨rfl, rfl⟩
theorem UFact.len {V : Int} {C : List (List Int)} {K : List Int} {ok : Bool} (h : UFact V C K ok) : K.length ≤ C.flatten.length := by
  rcases h with ⟨_, _, F, hF, _, hs, hm⟩ | ⟨rfl, _, _⟩
  · refine nodup_sub_len K C.flatten hs.nodup fun x hx => ?_
    obtain ⟨c, hc, hxc⟩ := hF.from x ((hm x).1 hx)
    exact List.mem_flatten.2 ⟨c, hc, hxc⟩
  · exact Nat.zero_le _
theorem UPost.told {V : Int} {C : List (List Int)} {w w' : World} {e : Ending} (h : UPost V C w e w') : Kept w w' ∧ ∃ a k c ok K, e = .returned (.tuple #[.slice a k c, .bool ok]) ∧ IntsAt w' a k K ∧ UFact V C K ok := by
  obtain ⟨hk, ⟨hno, rfl⟩ | ⟨hr, ⟨hu, rfl⟩ | ⟨a, k, c, K, hu, rfl, hI, _⟩⟩⟩ := h
  · exact ⟨hk, none, 0, 0, false, [], rfl, IntsAt.nil _ _, Or.inr ⟨rfl, rfl, fun h => by rw [hno] at h; cases h⟩⟩
  · exact ⟨hk, none, 0, 0, false, [], rfl, IntsAt.nil _ _, Or.inr ⟨rfl, rfl, fun _ => hu⟩⟩
  · exact ⟨hk, a, k, c, true, K, rfl, hI, Or.inl ⟨hr, rfl, hu⟩⟩
theorem mbox_facts {W w : World} {b : Nat} {V : Int} {ca : Option Addr} {cn cc : Nat} (h : W.heap[b]? = some (mObj V ca cn cc)) (hk : Kept W w) :
    w.cell? ⟨b, 0, none⟩ = some (.int .i64 V) ∧ w.cell? ⟨b, 1, none⟩ = some (.slice ca cn cc) := rbox_facts h hk

set_option maxRecDepth 100000 in
set_option maxHeartbeats 16000000 in
theorem clauseunits_any (V : Int) (ca la : Option Addr) (cn cc n c : Nat) (C : List (List Int)) (lits : List Int) (w : World) (hV : InR V) (hC : ClsAt w ca cn C) (hFC : Fit ca cn cc) (hL : IntsAt w la n lits) (hFL : Fit la n c) (hW : Laid w) :
    Calls Tryz.prog 9 #[.agg #[.int .i64 V, .slice ca cn cc], .slice la n c] w fun e w' => e = .returned (.bool true) ∧ Kept w w' := by
  have HK0 := Lib.hid ((Kept.refl w).alloc (fObj V ca cn cc))
  have HC := Lib.hid (hC.kept HK0.out)
  have HL := Lib.hid (hL.kept HK0.out)
  have HW := Lib.hid (hW.kept HK0.out)
  have HB := Lib.hid (MapKept.heap_alloc w (fObj V ca cn cc)).1
  have HV := Lib.hid hV
  have HFL := Lib.hid hFL
  have HFC := Lib.hid hFC
  clear hC hL hW hV hFL hFC
  go_enter Tryz.func9, Tryz.ntmps9
  go_upto_region 1 with (fail)
  change Code.wp _ _ _ _ (w.alloc (fObj V ca cn cc))
  generalize w.alloc (fObj V ca cn cc) = W at *
  obtain ⟨fb, hfb⟩ : ∃ b : Nat, b = w.heap.size := ⟨_, rfl⟩
  rw [← hfb] at HB ⊢
  clear hfb
  obtain ⟨f0, f1⟩ := box_facts HB.out (Kept.refl W)
  go_wp2_with fail
  refine (few_any V 60 ca cn cc C W HC.out (Nat.le_trans HFC.out.2.1 HFC.out.2.2) (by unfold InR; decide)).mono ?_
  rintro e w1 ⟨rfl, hk1⟩
  have HK1 := Lib.hid hk1
  clear hk1 f0 f1
  cases hfew : fewF C 60 with
  | false =>
    clear hfew
    go_wp2_with fail
    refine (works_any _ (HW.out.kept HK1.out)).mono ?_
    rintro e w2 ⟨rfl, hk2⟩
    have HK2 := Lib.hid (HK0.out.trans (HK1.out.trans hk2))
    clear hk2
    go_wp2
    go_ret
    exact ⟨rfl, HK2.out⟩
  | true =>
  have HFW : Hid (C.length ≤ 60 ∧ ∀ c ∈ C, c.length ≤ 30) := by
    have := few_len' hfew
    exact ⟨by omega, this.2⟩
  clear hfew
  have hcn : cn ≤ 60 := by rw [← HC.out.len]; exact HFW.out.1
  have HSH : Hid (∀ c ∈ C, c.length ≤ 1000000) := fun c hc => Nat.le_trans (HFW.out.2 c hc) (by decide)
  have HFLAT : Hid (C.flatten.length ≤ 1000000) := Nat.le_trans (flat_len HFW.out.2) (by have := HFW.out.1; omega)
  by_cases h30 : n ≤ 30
  case neg =>
    have d30 : decide ((30 : Int) < (n : Int)) = true := decide_eq_true (by omega)
    clear h30
    go_wp2_with fail
    refine (works_any _ (HW.out.kept HK1.out)).mono ?_
    rintro e w3 ⟨rfl, hk3⟩
    have HK3 := Lib.hid (HK0.out.trans (HK1.out.trans hk3))
    clear hk3
    go_wp2
    go_ret
    exact ⟨rfl, HK3.out⟩
  have d30 : decide ((30 : Int) < (n : Int)) = false := decide_eq_false (by omega)
  have H30 := Lib.hid h30
  clear h30
  obtain ⟨f0, f1⟩ := box_facts HB.out HK1.out
  go_wp2_with fail
  refine (fplain_any V ca cn cc w1).mono ?_
  rintro e w2 ⟨rfl, hk2⟩
  have HK2 := Lib.hid (HK1.out.trans hk2)
  clear hk2 f0 f1 d30
  go_upto_region 4 with (fail)
  have HBM := Lib.hid (MapKept.heap_alloc w2 (mObj V ca cn cc)).1
  have HKM := Lib.hid (HK2.out.trans ((Kept.refl w2).alloc (mObj V ca cn cc)))
  change Code.wp _ _ _ _ (w2.alloc (mObj V ca cn cc))
  generalize w2.alloc (mObj V ca cn cc) = W3 at *
  obtain ⟨mb, hmb⟩ : ∃ b : Nat, b = w2.heap.size := ⟨_, rfl⟩
  rw [← hmb] at HBM ⊢
  clear hmb
  obtain ⟨f0, f1⟩ := box_facts HB.out HKM.out
  go_wp2_with fail
  refine (assign_any V ca la cn cc n c C lits W3 HV.out (HC.out.kept HKM.out) (by omega) HSH.out (HL.out.kept HKM.out) (by have := H30.out; omega)).mono ?_
  rintro e w4 hpost
  obtain ⟨hk4, LV, a1, k1, c1, ok1, D1, rfl, hD1, hA1⟩ := hpost.told
  have HD1 := Lib.hid hD1
  have HA1 := Lib.hid hA1
  have HK4 := Lib.hid hk4
  clear hpost hD1 hA1 hk4 f0 f1
  go_upto_region 5 with (fail)
  have HBA := Lib.hid (MapKept.heap_alloc w4 (fObj LV a1 k1 c1)).1
  have HKA := Lib.hid ((Kept.refl w4).alloc (fObj LV a1 k1 c1))
  change Code.wp _ _ _ _ (w4.alloc (fObj LV a1 k1 c1))
  generalize w4.alloc (fObj LV a1 k1 c1) = W5 at *
  obtain ⟨ab, hab⟩ : ∃ b : Nat, b = w4.heap.size := ⟨_, rfl⟩
  rw [← hab] at HBA ⊢
  clear hab
  have HK5 := Lib.hid (HKM.out.trans (HK4.out.trans HKA.out))
  have HBM5 := Lib.hid ((HK4.out.trans HKA.out).row HBM.out)
  have HD5 := Lib.hid (HD1.out.kept HKA.out)
  clear HD1 HBM HKA HK4
  obtain ⟨g0, g1⟩ := mbox_facts HBM5.out (Kept.refl W5)
  go_wp2_with fail
  refine (rassign_any V ca la cn cc n c C lits W5 HV.out (HC.out.kept HK5.out) (by omega) HSH.out (HL.out.kept HK5.out) (by have := H30.out; omega)).mono ?_
  rintro e w6 hpost
  obtain ⟨hk6, LW, a2, k2, c2, ok2, D2, rfl, hD2, hA2⟩ := hpost.told
  obtain ⟨rfl, rfl, rfl⟩ := HA1.out.eq hA2
  have HD2 := Lib.hid hD2
  have HK6 := Lib.hid hk6
  clear hpost hD2 hA2 hk6 g0 g1
  go_upto_region 6 with (fail)
  have HBR := Lib.hid (MapKept.heap_alloc w6 (mObj LW a2 k2 c2)).1
  have HKR := Lib.hid ((Kept.refl w6).alloc (mObj LW a2 k2 c2))
  change Code.wp _ _ _ _ (w6.alloc (mObj LW a2 k2 c2))
  generalize w6.alloc (mObj LW a2 k2 c2) = W7 at *
  obtain ⟨rb, hrb⟩ : ∃ b : Nat, b = w6.heap.size := ⟨_, rfl⟩
  rw [← hrb] at HBR ⊢
  clear hrb
  have HK7 := Lib.hid (HK5.out.trans (HK6.out.trans HKR.out))
  have HBM7 := Lib.hid ((HK6.out.trans HKR.out).row HBM5.out)
  have HBA7 := Lib.hid ((HK6.out.trans HKR.out).row HBA.out)
  have HD7 := Lib.hid (HD5.out.kept (HK6.out.trans HKR.out))
  have HE7 := Lib.hid (HD2.out.kept HKR.out)
  clear HD5 HD2 HBM5 HBA HKR HK6
  obtain ⟨f0, f1⟩ := box_facts HB.out HK7.out
  go_wp2_with fail
  refine (units_any V ca cn cc C W7 HV.out (HC.out.kept HK7.out) (by omega) HSH.out HFLAT.out).mono ?_
  rintro e w8 hpost
  obtain ⟨hk8, ua, uk, uc, okU, K, rfl, hI8, hU8⟩ := hpost.told
  have HK8 := Lib.hid hk8
  have HI8 := Lib.hid hI8
  have HU8 := Lib.hid hU8
  have HKW8 := Lib.hid (HK7.out.trans hk8)
  clear hpost hI8 hU8 hk8 f0 f1
  obtain ⟨g0, g1⟩ := mbox_facts HBM7.out HK8.out
  go_wp2_with fail
  refine (runits_any V ca cn cc C w8 HV.out (HC.out.kept HKW8.out) (by omega) HSH.out HFLAT.out).mono ?_
  rintro e w9 hpost
  obtain ⟨hk9, va, vk, vc, okV, K2, rfl, hI9, hU9⟩ := hpost.told
  obtain ⟨rfl, rfl⟩ := HU8.out.eq hU9
  have HI9 := Lib.hid hI9
  have HK9 := Lib.hid (HK8.out.trans hk9)
  have HI89 := Lib.hid (HI8.out.kept hk9)
  clear hpost hI9 hU9 hk9 g0 g1
  obtain ⟨p0, p1⟩ := box_facts HBA7.out HK9.out
  obtain ⟨g0, g1⟩ := mbox_facts HBR.out HK9.out
  have b0 : (ok2 == ok2) = true := by simp
  have b1 : (okV == okV) = true := by simp
  have hk1 : k1 ≤ 1000000 := by
    have h1 := HD7.out.len
    have h2 := (HA1.out.small HFW.out.2).1
    have h3 := HFW.out.1
    omega
  have huk : uk ≤ 1000000 := by
    have h1 := HI8.out.len
    have h2 := HU8.out.len
    have h3 := HFLAT.out
    omega
  go_wp2_with fail
  refine (fsame_any LW a1 a2 k1 c1 k2 c2 D2 w9 (HD7.out.kept HK9.out) (HE7.out.kept HK9.out) hk1 (fun c hc => Nat.le_trans ((HA1.out.small HFW.out.2).2 c hc) (by decide))).mono ?_
  rintro e w10 ⟨rfl, hk10⟩
  have HK10 := Lib.hid hk10
  clear hk10 p0 p1 g0 g1
  go_wp2_with fail
  refine (same_true ua va uk uc vk vc K2 K2 w10 (HI89.out.kept HK10.out) (HI9.out.kept HK10.out) rfl (by omega)).mono ?_
  rintro e w11 ⟨rfl, hk11⟩
  have HK11 := Lib.hid (HK10.out.trans hk11)
  clear hk11
  go_wp2_with fail
  refine (works_any _ (HW.out.kept (HK7.out.trans (HK9.out.trans HK11.out)))).mono ?_
  rintro e w12 ⟨rfl, hk12⟩
  have HK12 := Lib.hid (HK0.out.trans (HK7.out.trans (HK9.out.trans (HK11.out.trans hk12))))
  clear hk12
  go_wp2
  go_ret
  exact ⟨rfl, HK12.out⟩
end Go.Proofs.YtlikokeknfhejaaGreatDoor
