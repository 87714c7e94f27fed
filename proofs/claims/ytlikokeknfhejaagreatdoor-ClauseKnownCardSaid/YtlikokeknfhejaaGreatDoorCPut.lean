/-
  Layer 5: the contract of the program's Put.
-/
import Derived.Test.YtlikokeknfhejaaGreatDoorCText
import Derived.Test.YtlikokeknfhejaaGreatDoorCClean
import Derived.Test.YtlikokeknfhejaaGreatDoorCFirst
namespace Go.Proofs.YtlikokeknfhejaaGreatDoor
open Go Go.RowKit Go.Lib

def litT (l : Int) : List UInt8 := Lib.itoa l ++ [32]
def lineT (c : List Int) : List UInt8 := c.flatMap litT ++ [48, 10]
def headT (V : Int) (n : Nat) : List UInt8 := [112, 32, 99, 110, 102, 32] ++ Lib.itoa V ++ [32] ++ Lib.itoa (n : Int) ++ [10]
/-- A formula's text. -/
def putT (V : Int) (C : List (List Int)) : List UInt8 := headT V C.length ++ C.flatMap lineT
def PutPost5 (V : Int) (C : List (List Int)) (w : World) (e : Ending) (w' : World) : Prop :=
  Kept w w' ∧ ((rightB V C = false ∧ e = .returned (.tuple #[.slice none 0 0, .int .i64 2])) ∨
    (rightB V C = true ∧ ∃ a c L, L = putT V C ∧ e = .returned (.tuple #[.slice a L.length c, .int .i64 0]) ∧ ∃ B, w'.ownsRow B 5 1 (.slice a L.length c) L.length (byteCells L)))
set_option maxRecDepth 100000 in
set_option maxHeartbeats 8000000 in
theorem put_small (u : Nat) (hu : u < 100) (ca : Option Addr) (cn cc : Nat) (C : List (List Int)) (w : World) (hVV : InR (u : Int)) (hC : ClsAt w ca cn C) (hcn : cn ≤ 1000) (hS : ∀ c ∈ C, c.length ≤ 1000) (hW : Laid w) :
    Calls Tryz.prog 6 #[.agg #[.int .i64 (u : Int), .slice ca cn cc]] w (PutPost5 (u : Int) C w) := by
  have HC := Lib.hid hC; have HS := Lib.hid hS; clear hC hS
  have HLN := Lib.hid HC.out.len
  have HVR := Lib.hid hVV; clear hVV
  have HB := Lib.hid (MapKept.heap_alloc w (fObj (u : Int) ca cn cc)).1
  have HK0 := Lib.hid ((Kept.refl w).alloc (fObj (u : Int) ca cn cc))
  obtain ⟨B, hBe⟩ : ∃ B : Nat, B = w.heap.size := ⟨_, rfl⟩
  go_enter Tryz.func6, Tryz.ntmps6
  go_upto_region 1 with (fail)
  obtain ⟨w1, hw1⟩ : ∃ w1 : World, w1 = w.alloc (fObj (u : Int) ca cn cc) := ⟨_, rfl⟩
  change Code.wp _ _ _ _ (w.alloc (fObj (u : Int) ca cn cc))
  rw [← hBe] at HB ⊢
  rw [← hw1] at HB HK0 ⊢
  clear hw1 hBe
  obtain ⟨y0, y1⟩ := box_facts HB.out (Kept.refl w1)
  cases hr : rightB (u : Int) C with
  | false =>
    have HR := Lib.hid hr; clear hr
    go_wp2_with fail
    refine (right_any (u : Int) ca cn cc C w1 HVR.out (HC.out.kept HK0.out) (by omega) (fun c hc => Nat.le_trans (HS.out c hc) (by decide))).mono ?_
    rw [HR.out]
    rintro e w2 ⟨rfl, hk2⟩
    have HK2 := Lib.hid hk2; clear hk2
    go_wp2
    go_ret2
    exact ⟨HK0.out.trans HK2.out, Or.inl ⟨HR.out, rfl⟩⟩
  | true =>
    have HR := Lib.hid hr; clear hr
    go_wp2_with fail
    refine (right_any (u : Int) ca cn cc C w1 HVR.out (HC.out.kept HK0.out) (by omega) (fun c hc => Nat.le_trans (HS.out c hc) (by decide))).mono ?_
    rw [HR.out]
    rintro e w2 ⟨rfl, hk2⟩
    have HK2 := Lib.hid (HK0.out.trans hk2)
    have HB2 := Lib.hid (hk2.row HB.out)
    have HW2 := Lib.hid (hW.kept HK2.out)
    clear hk2 y0 y1
    have hcv := Lib.run_convert_bytes_const (P := Tryz.prog) w2 26 5 #[.int .u8 112, .int .u8 32, .int .u8 99, .int .u8 110, .int .u8 102, .int .u8 32] 6 6 Tryz.underlying26 Tryz.underlying5
    go_upto_region 4 with (fail)
    clear hcv
    obtain ⟨w3, hw3⟩ : ∃ w3 : World, w3 = w2.alloc (.cells #[.int .u8 112, .int .u8 32, .int .u8 99, .int .u8 110, .int .u8 102, .int .u8 32] 5 (6, 7)) := ⟨_, rfl⟩
    obtain ⟨g3, hg3⟩ : ∃ g3 : Nat, g3 = w2.heap.size := ⟨_, rfl⟩
    have HBK3 : Hid (w3.heap[g3]? = some (.cells #[.int .u8 112, .int .u8 32, .int .u8 99, .int .u8 110, .int .u8 102, .int .u8 32] 5 (6, 7))) := by rw [hw3, hg3]; exact (MapKept.heap_alloc w2 _).1
    have HK3 : Hid (Kept w2 w3) := by rw [hw3]; exact (Kept.refl w2).alloc _
    change Code.wp _ _ _ _ (w2.alloc (.cells #[.int .u8 112, .int .u8 32, .int .u8 99, .int .u8 110, .int .u8 102, .int .u8 32] 5 (6, 7)))
    rw [← hw3, ← hg3]
    clear hw3 hg3
    have HF := Lib.hid (first_int u hu g3 6 [112, 32, 99, 110, 102, 32] rfl (by omega) w3 (fun j v hj => by
      rw [cell_of_row _ _ _ _ _ _ HBK3.out]
      have e : (#[.int .u8 112, .int .u8 32, .int .u8 99, .int .u8 110, .int .u8 102, .int .u8 32] : Array Value).toList = byteCells [112, 32, 99, 110, 102, 32] := rfl
      rw [← e] at hj
      simpa using hj))
    obtain ⟨y0, y1⟩ := box_facts HB2.out HK3.out
    go_wp2_with fail
    refine HF.out.mono ?_
    rintro e w4 ⟨a4, c4, L4, hL4, rfl, hT4⟩
    have HL4 := Lib.hid hL4; have HT4 := Lib.hid hT4
    have HKW : Hid (Kept w w3) := HK2.out.trans HK3.out
    have hl4 : L4.length ≤ 27 := by
      rw [hL4, List.length_append]
      have := Lib.itoa_length_le (u : Int) (by omega) (by omega)
      simp; omega
    clear hL4 hT4 HF y0 y1 HBK3
    go_upto_region 6 with (at_builtin; refine wpList_append_text rfl _ _ rfl a4 c4 L4 rfl HT4.out [32] #[.int .u8 32] rfl 1 rfl (by omega) rfl rfl (by omega) (by omega) ?_; intro a5 c5 w5 L5 hL5 hT5; have HL5 := Lib.hid hL5; have HT5 := Lib.hid hT5; clear hL5 hT5)
    have hl5 : L5.length ≤ 28 := by rw [HL5.out, List.length_append]; simp; omega
    have HB5 := Lib.hid (HT5.out.kept.row (HK3.out.row HB2.out))
    obtain ⟨y0, y1⟩ := box_facts HB5.out (Kept.refl w5)
    have HW3 := Lib.hid (HW2.out.kept HK3.out)
    have HA5 := Lib.hid (append_int HW3.out (cn : Int) ⟨by omega, by omega⟩ a5 c5 L5 HT5.out (by omega))
    go_wp2_with fail
    refine HA5.out.mono ?_
    rintro e w6 ⟨a6, c6, L6, hL6, rfl, hT6⟩
    have HL6 := Lib.hid hL6; have HT6 := Lib.hid hT6
    have hl6 : L6.length ≤ 49 := by
      rw [hL6, List.length_append]
      have := Lib.itoa_length_le (cn : Int) (by omega) (by omega)
      omega
    clear hL6 hT6 HA5 y0 y1
    go_upto_region 8 with (at_builtin; refine wpList_append_text rfl _ _ rfl a6 c6 L6 rfl HT6.out [10] #[.int .u8 10] rfl 1 rfl (by omega) rfl rfl (by omega) (by omega) ?_; intro a7 c7 w7 L7 hL7 hT7; have HL7 := Lib.hid hL7; have HT7 := Lib.hid hT7; clear hL7 hT7)
    have hl7 : L7.length ≤ 50 := by rw [HL7.out, List.length_append]; simp; omega
    have HH7 : Hid (L7 = headT (u : Int) C.length) := by
      show _ = _
      rw [HL7.out, HL6.out, HL5.out, HL4.out, HLN.out]; rfl
    have HB7 := Lib.hid (HT7.out.kept.row (HK3.out.row HB2.out))
    obtain ⟨y0, y1⟩ := box_facts HB7.out (Kept.refl w7)
    clear HL7 HL6 HL5 HL4 HT4 HT5 HT6 HB5
    go_wp2
    clear y0 y1
    go_loopw [4, 32] (fun v i wr => ∃ (j : Nat) (a : Option Addr) (c : Nat) (L : List UInt8), j ≤ cn ∧ i = .int .i64 j ∧ v = .slice a L.length c ∧ L = headT (u : Int) C.length ++ (C.take j).flatMap lineT ∧ TextAt w3 wr a c L ∧ L.length ≤ 50 + 22002 * j) (fun _ i _ => cn - (intOf i).toNat)
    case atStart => exact ⟨0, a7, c7, L7, Nat.zero_le _, rfl, rfl, by rw [HH7.out]; simp, HT7.out, by omega⟩
    case round =>
      obtain ⟨j, a, c, L, hj, rfl, rfl, hL, hT, hlen⟩ := hrel
      have HL := Lib.hid hL; have HT := Lib.hid hT
      clear hL hT
      have j0 : (0 : Int) ≤ (j : Int) := Int.natCast_nonneg _
      by_cases hjn : j < cn
      · have j1 : (j : Int) < (cn : Int) := by omega
        obtain ⟨b, off, rfl, hc⟩ := HC.out.at_ (by omega)
        have hjl : j < C.length := by rw [HLN.out]; exact hjn
        obtain ⟨cl, hcj⟩ : ∃ c, C[j]? = some c := ⟨_, List.getElem?_eq_getElem hjl⟩
        obtain ⟨a2, k2, cap2, x0, hIc, _, hkc⟩ := hc j cl hcj
        have HKW2 := Lib.hid (HKW.out.trans HT.out.kept)
        replace x0 := HKW2.out.cell x0
        have HIC := Lib.hid hIc
        have hk2 : k2 ≤ 1000 := by have := HS.out cl (List.mem_of_getElem? hcj); rw [hIc.len] at this; exact this
        have HTK := Lib.hid (show C.take (j + 1) = C.take j ++ [cl] by rw [List.take_succ_eq_append_getElem hjl, (List.getElem?_eq_some_iff.1 hcj).2])
        clear hc hcj hjl hIc hkc
        go_wp2
        clear x0
        go_loopw [4, 38] (fun v i wq => ∃ (t : Nat) (a : Option Addr) (c : Nat) (L' : List UInt8), t ≤ k2 ∧ i = .int .i64 t ∧ v = .slice a L'.length c ∧ L' = L ++ (cl.take t).flatMap litT ∧ TextAt w3 wq a c L' ∧ L'.length ≤ L.length + 22 * t) (fun _ i _ => k2 - (intOf i).toNat)
        case atStart => exact ⟨0, a, c, L, Nat.zero_le _, rfl, rfl, by simp, HT.out, by omega⟩
        case round =>
          obtain ⟨t, a, c, L', ht, rfl, rfl, hL', hT', hlen'⟩ := hrel
          have HL' := Lib.hid hL'; have HT' := Lib.hid hT'
          clear hL' hT'
          have t0 : (0 : Int) ≤ (t : Int) := Int.natCast_nonneg _
          by_cases htk : t < k2
          · have t1 : (t : Int) < (k2 : Int) := by omega
            obtain ⟨b2, o2, rfl, hcc⟩ := HIC.out.at_ (by omega)
            have htl : t < cl.length := by rw [HIC.out.len]; exact htk
            obtain ⟨l, hl⟩ : ∃ l, cl[t]? = some l := ⟨_, List.getElem?_eq_getElem htl⟩
            have x1 := (HKW.out.trans HT'.out.kept).cell (hcc t l hl)
            have hlr := HIC.out.inr l (List.mem_of_getElem? hl)
            have HTT := Lib.hid (show cl.take (t + 1) = cl.take t ++ [l] by rw [List.take_succ_eq_append_getElem htl, (List.getElem?_eq_some_iff.1 hl).2])
            have HA := Lib.hid (append_int HW3.out l hlr a c L' HT'.out (by omega))
            have HIT := Lib.hid (Lib.itoa_length_le l hlr.1 hlr.2)
            clear hcc hl htl hlr
            go_wp2_with fail
            refine HA.out.mono ?_
            rintro e w8 ⟨a8, c8, L8, hL8, rfl, hT8⟩
            have HL8 := Lib.hid hL8; have HT8 := Lib.hid hT8
            have hl8 : L8.length ≤ L'.length + 21 := by
              rw [hL8, List.length_append]
              have := HIT.out
              omega
            clear hL8 hT8 HA x1
            go_upto_region 16 with (at_builtin; refine wpList_append_text rfl _ _ rfl a8 c8 L8 rfl HT8.out [32] #[.int .u8 32] rfl 1 rfl (by omega) rfl rfl (by omega) (by omega) ?_; intro a9 c9 w9 L9 hL9 hT9; have HL9 := Lib.hid hL9; have HT9 := Lib.hid hT9; clear hL9 hT9)
            have hl9 : L9.length ≤ L8.length + 1 := by rw [HL9.out, List.length_append]; simp
            go_wp2
            go_roundw
            case rel =>
              refine ⟨t + 1, a9, c9, L9, by omega, by go_num, rfl, ?_, HT9.out, by omega⟩
              rw [HTT.out, List.flatMap_append, HL9.out, HL8.out, HL'.out]
              simp [litT]
            case measure => simp [intOf]; omega
          · obtain rfl : t = k2 := by omega
            have htt : cl.take t = cl := by rw [← HIC.out.len]; exact List.take_length
            rw [htt] at HL'
            have HTT := Lib.hid htt; clear htt
            go_upto_region 18 with (at_builtin; refine wpList_append_text rfl _ _ rfl a c L' rfl HT'.out [48, 10] #[.int .u8 48, .int .u8 10] rfl 2 rfl (by omega) rfl rfl (by omega) (by omega) ?_; intro a9 c9 w9 L9 hL9 hT9; have HL9 := Lib.hid hL9; have HT9 := Lib.hid hT9; clear hL9 hT9)
            have hl9 : L9.length ≤ L'.length + 2 := by rw [HL9.out, List.length_append]; simp
            go_wp2
            go_roundw
            case rel =>
              refine ⟨j + 1, a9, c9, L9, by omega, by go_num, rfl, ?_, HT9.out, by omega⟩
              rw [HTK.out, List.flatMap_append, HL9.out, HL'.out, HL.out]
              simp [lineT]
            case measure => simp [intOf]; omega
      · obtain rfl : j = cn := by omega
        have htt : C.take j = C := by rw [← HLN.out]; exact List.take_length
        rw [htt] at HL
        clear htt
        go_wp2
        go_ret2
        exact ⟨HKW.out.trans HT.out.kept, Or.inr ⟨HR.out, a, c, L, HL.out, rfl, _, HT.out.row⟩⟩
end Go.Proofs.YtlikokeknfhejaaGreatDoor
