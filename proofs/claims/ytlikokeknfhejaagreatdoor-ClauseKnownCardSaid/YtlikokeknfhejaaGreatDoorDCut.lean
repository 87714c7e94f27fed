/-
  Layer 5: the contracts of bytes.Cut at the end of a line, of bytes.Equal, of strconv.Atoi.
-/
import Derived.Test.YtlikokeknfhejaaGreatDoorDFldM
import Derived.Test.YtlikokeknfhejaaGreatDoorShelf
import Derived.Lib.IndexLaws
namespace Go.Proofs.YtlikokeknfhejaaGreatDoor
open Go Go.RowKit Go.Lib

/-- A text, cut at its first end of a line. -/
def CutRes (L L1 L2 : List UInt8) : Prop := (10 : UInt8) ∉ L1 ∧ (L = L1 ++ 10 :: L2 ∨ (L = L1 ∧ L2 = []))
theorem CutRes.at_ {x y L1 L2 : List UInt8} (h : CutRes (x ++ 10 :: y) L1 L2) (hx : (10 : UInt8) ∉ x) : L1 = x ∧ L2 = y := by
  obtain ⟨h1, h2⟩ := h
  have key : ∀ (x L1 y L2 : List UInt8), (10 : UInt8) ∉ x → (10 : UInt8) ∉ L1 → x ++ 10 :: y = L1 ++ 10 :: L2 → L1 = x ∧ L2 = y := by
    intro x
    induction x with
    | nil =>
      intro L1 y L2 _ hl e
      cases L1 with
      | nil => simp at e; exact ⟨rfl, e.symm⟩
      | cons c r => simp at e; exact absurd (by rw [e.1]; simp) hl
    | cons c x ih =>
      intro L1 y L2 hx hl e
      cases L1 with
      | nil => simp at e; exact absurd (by rw [e.1]; simp) hx
      | cons d r =>
        simp only [List.cons_append, List.cons.injEq] at e
        obtain ⟨e1, e2⟩ := ih r y L2 (fun h => hx (by simp [h])) (fun h => hl (by simp [h])) e.2
        exact ⟨by rw [e1, e.1], e2⟩
  rcases h2 with h2 | ⟨h2, _⟩
  · exact key x L1 y L2 hx h1 h2
  · exact absurd (by rw [← h2]; simp) h1
theorem CutRes.short {L L1 L2 : List UInt8} (h : CutRes L L1 L2) : L1.length ≤ L.length ∧ L2.length ≤ L.length ∧ (L ≠ [] → L2.length < L.length) := by
  rcases h.2 with h2 | ⟨h2, h3⟩
  · rw [h2]; simp; omega
  · subst h2; subst h3
    refine ⟨Nat.le_refl _, Nat.zero_le _, fun h => ?_⟩
    have := List.length_pos_iff.2 h
    simpa using this
theorem bytesOf_map (L : List UInt8) : Lib.bytesOf (L.map fun x => (x.toNat : Int)) = L := map_ofNat L
theorem not_mem_take {L : List UInt8} {i : Nat} {c : UInt8} (h : ∀ k, k < i → L[k]? ≠ some c) : c ∉ L.take i := by
  intro hm
  obtain ⟨k, hk⟩ := List.mem_iff_getElem?.1 hm
  rw [List.getElem?_take] at hk
  split at hk
  · rename_i hlt; exact h k hlt hk
  · cases hk
def CutPost (a : Option Addr) (n : Nat) (L : List UInt8) (w : World) (e : Ending) (w' : World) : Prop :=
  Kept w w' ∧ ∃ a1 n1 c1 a2 n2 c2 ok L1 L2, e = .returned (.tuple #[.slice a1 n1 c1, .slice a2 n2 c2, .bool ok]) ∧ (∀ W, BytesAt W a n L → BytesAt W a1 n1 L1 ∧ BytesAt W a2 n2 L2) ∧ Fit a1 n1 c1 ∧ Fit a2 n2 c2 ∧ CutRes L L1 L2
theorem cut_any (a : Option Addr) (n c sb so sd : Nat) (L : List UInt8) (w : World) (hL : BytesAt w a n L) (hF : Fit a n c) (hn : n ≤ 1000000) (hs : w.cell? ⟨sb, so, none⟩ = some (.int .u8 10)) :
    Calls Tryz.prog 116 #[.slice a n c, .slice (some ⟨sb, so, none⟩) 1 sd] w (CutPost a n L w) := by
  have hlen := hL.len
  have hidx : Calls Tryz.prog 163 #[.slice a n c, .slice (some ⟨sb, so, none⟩) 1 sd] w fun e w' => e = .returned (.int .i64 (Lib.indexByte L 10)) ∧ ∃ q, w' = w.drewN q := by
    by_cases h0 : n = 0
    · subst h0
      have hnil : L = [] := List.eq_nil_of_length_eq_zero hlen
      subst hnil
      cases a with
      | none =>
        obtain ⟨_, h2⟩ := hF.1 rfl
        subst h2
        exact (Tryz.bytes_Index_one_nil sb so sd 10 w hs).mono fun _ _ h => ⟨h.1, 0, h.2⟩
      | some ad =>
        obtain ⟨b, off, spot⟩ := ad
        cases spot with
        | none => exact (Tryz.bytes_Index_one b off 0 c sb so sd [] 10 w rfl (fun i hi => absurd hi (Nat.not_lt_zero _)) hs).mono fun _ _ h => ⟨h.1, 0, h.2⟩
        | some sp => exact (Tryz.bytes_Index_one_at ⟨b, off, some sp⟩ 0 c sb so sd [] 10 w rfl (fun i hi => absurd hi (Nat.not_lt_zero _)) hs).mono fun _ _ h => ⟨h.1, 0, h.2⟩
    · obtain ⟨b, off, rfl, hc⟩ := hL.at_ (by omega)
      have h := Tryz.bytes_Index_one b off n c sb so sd (L.map fun x => (x.toNat : Int)) 10 w (by rw [List.length_map]; exact hlen) (fun i hi => by
        have hl : i < L.length := by rw [hlen]; exact hi
        rw [hc i _ (List.getElem?_eq_getElem hl), List.getD_eq_getElem?_getD, List.getElem?_map, List.getElem?_eq_getElem hl]; rfl) hs
      rw [bytesOf_map] at h
      exact h.mono fun _ _ h => ⟨h.1, 0, h.2⟩
  have hge := Lib.indexByte_ge L 10
  have hroom : 0 ≤ Lib.indexByte L 10 → Lib.indexByte L 10 + 1 ≤ n := fun h => by
    obtain ⟨o, ho⟩ : ∃ o : Nat, Lib.indexByte L 10 = o := ⟨(Lib.indexByte L 10).toNat, by omega⟩
    have h2 := (Lib.indexByte_some ho).1
    have := (List.getElem?_eq_some_iff.1 h2).1
    omega
  refine (Tryz.bytes_Cut_of a (some ⟨sb, so, none⟩) n c 1 sd _ w hF.2.1 hge hroom (by omega) hidx).mono ?_
  rintro e w' ⟨rfl, q, rfl⟩
  have hK : Kept w (w.drewN q) := Kept.drewN (Kept.refl w) q
  refine ⟨hK, ?_⟩
  by_cases h0 : 0 ≤ Lib.indexByte L 10
  · obtain ⟨o, ho⟩ : ∃ o : Nat, Lib.indexByte L 10 = o := ⟨(Lib.indexByte L 10).toNat, by omega⟩
    obtain ⟨h1, h2⟩ := Lib.indexByte_some ho
    have hol := (List.getElem?_eq_some_iff.1 h1).1
    obtain ⟨b, off, rfl, hc⟩ := hL.at_ (by omega)
    have hsub1 : ∀ W, BytesAt W (some ⟨b, off, none⟩) n L → BytesAt W (some ⟨b, off, none⟩) o (L.take o) := fun W hW => by
      have h := hW.sub 0 o (by omega)
      rwa [Nat.add_zero, List.drop_zero] at h
    have hcut : CutRes L (L.take o) (L.drop (o + 1)) := by
      refine ⟨not_mem_take h2, Or.inl ?_⟩
      have := drop_at h1
      rw [← this, List.take_append_drop]
    rw [ho]
    have e : Lib.cutV (some ⟨b, off, none⟩) n c 1 (o : Int) = .tuple #[.slice (some ⟨b, off, none⟩) o c, Lib.fromV (some ⟨b, off, none⟩) n c (o + 1), .bool true] := by
      unfold Lib.cutV
      rw [if_pos (by omega)]; simp
    rw [e]
    have hc2 := hF.2
    by_cases hce : c = o + 1
    · have hno : n - (o + 1) = 0 := by omega
      refine ⟨_, o, c, some ⟨b, off, none⟩, n - (o + 1), c - (o + 1), true, _, _, by unfold Lib.fromV; rw [if_pos hce], fun W hW => ⟨hsub1 W hW, ?_⟩, ⟨(fun h => by cases h), by omega, hc2.2⟩, ⟨(fun h => by cases h), by omega, by omega⟩, hcut⟩
      have : L.drop (o + 1) = [] := List.drop_eq_nil_of_le (by omega)
      rw [hno, this]
      exact BytesAt.nil _ _
    · have hsub2 : ∀ W, BytesAt W (some ⟨b, off, none⟩) n L → BytesAt W (some ⟨b, off + (o + 1), none⟩) (n - (o + 1)) ((L.drop (o + 1)).take (n - (o + 1))) := fun W hW => hW.sub (o + 1) (n - (o + 1)) (by omega)
      have ht : (L.drop (o + 1)).take (n - (o + 1)) = L.drop (o + 1) := by
        rw [← hlen, ← List.length_drop]; exact List.take_length
      rw [ht] at hsub2
      refine ⟨_, o, c, some ⟨b, off + (o + 1), none⟩, n - (o + 1), c - (o + 1), true, _, _, ?_, fun W hW => ⟨hsub1 W hW, hsub2 W hW⟩, ⟨(fun h => by cases h), by omega, hc2.2⟩, ⟨(fun h => by cases h), by omega, by omega⟩, hcut⟩
      unfold Lib.fromV
      rw [if_neg hce]
      simp [Addr.add]
  · have hm1 : Lib.indexByte L 10 = -1 := by omega
    have hnone := Lib.indexByte_none hm1
    have hcut : CutRes L L [] := by
      refine ⟨fun hm => ?_, Or.inr ⟨rfl, rfl⟩⟩
      obtain ⟨k, hk⟩ := List.mem_iff_getElem?.1 hm
      exact hnone k hk
    refine ⟨a, n, c, none, 0, 0, false, L, [], ?_, fun W hW => ⟨hW, BytesAt.nil _ _⟩, hF, ⟨fun _ => ⟨rfl, rfl⟩, Nat.le_refl _, by omega⟩, hcut⟩
    unfold Lib.cutV
    rw [if_neg h0]
/-- strconv.Atoi: a number, and nil; or an error. -/
def AtoiPost (s : List UInt8) (w : World) (e : Ending) (w' : World) : Prop :=
  Kept w w' ∧ ∃ v er, e = .returned (.tuple #[.int .i64 v, er]) ∧ InR v ∧ ((er = .nilIface ∧ Lib.atoiAll s = .ok v) ∨ ((∃ t p, er = .iface t p) ∧ ∀ x, Lib.atoiAll s ≠ .ok x))
/-- What the two variables hold: an error each. -/
def Errs (w : World) : Prop := (∃ ev, w.cell? ⟨5, 0, none⟩ = some ev ∧ (ev = .nilIface ∨ ∃ te pe, ev = .iface te pe)) ∧ ∃ ev, w.cell? ⟨6, 0, none⟩ = some ev ∧ (ev = .nilIface ∨ ∃ te pe, ev = .iface te pe)
theorem Errs.kept {w w' : World} (h : Errs w) (k : Kept w w') : Errs w' := by
  obtain ⟨⟨e1, h1, h2⟩, e2, h3, h4⟩ := h
  exact ⟨⟨e1, k.cell h1, h2⟩, e2, k.cell h3, h4⟩
theorem atoi_any (s : List UInt8) (w : World) (hs : s.length ≤ 1000000) (hE : Errs w) : Calls Tryz.prog 118 #[.string ⟨s.toArray⟩] w (AtoiPost s w) := by
  have hz : (⟨s.toArray⟩ : ByteArray).size = s.length := by simp [ByteArray.size]
  have hd : (⟨s.toArray⟩ : ByteArray).data.toList = s := by simp
  obtain ⟨⟨e1, h1, h2⟩, e2, h3, h4⟩ := hE
  cases h : Lib.atoiAll s with
  | ok v =>
    refine (Tryz.strconv_Atoi_ok ⟨s.toArray⟩ (by omega) v (by rw [hd]; exact h) w).mono fun e w' hh => ?_
    obtain ⟨rfl, hw⟩ := hh
    refine ⟨?_, v, _, rfl, Lib.atoiAll_bounds h, Or.inl ⟨rfl, h⟩⟩
    rcases hw with rfl | ⟨t, rfl⟩
    · exact Kept.refl _
    · exact ⟨rfl, rfl, rfl, by rw [Lib.bytesWorld_size]; omega, fun q hq => Lib.bytesWorld_at_old w _ _ q hq⟩
  | range =>
    refine (Tryz.strconv_Atoi_range ⟨s.toArray⟩ (by omega) (by rw [hd]; exact h) e2 w h3 h4).mono fun e w' hh => ?_
    obtain ⟨N, rfl, _, _, hk⟩ := hh
    exact ⟨hk, _, _, rfl, by unfold Lib.atoiSat InR; split <;> omega, Or.inr ⟨⟨_, _, rfl⟩, fun x hx => by rw [h] at hx; cases hx⟩⟩
  | _ =>
    refine (Tryz.strconv_Atoi_syntax ⟨s.toArray⟩ (by omega) (by rw [hd, h]; rfl) e1 w h1 h2).mono fun e w' hh => ?_
    obtain ⟨N, rfl, _, _, hk⟩ := hh
    exact ⟨hk, 0, _, rfl, by unfold InR; omega, Or.inr ⟨⟨_, _, rfl⟩, fun x hx => by rw [h] at hx; cases hx⟩⟩
end Go.Proofs.YtlikokeknfhejaaGreatDoor
