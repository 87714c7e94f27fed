/-
  Layer 5: the contract of the program's Resolve.
-/
import Derived.Test.YtlikokeknfhejaaGreatDoorCWo
import Derived.Test.YtlikokeknfhejaaGreatDoorCRows
namespace Go.Proofs.YtlikokeknfhejaaGreatDoor
open Go Go.RowKit Go.Sort Go.Lib

theorem cont_any (la : Option Addr) (n c : Nat) (L : List Int) (x : Int) (w : World) (hL : IntsAt w la n L) (hn : n ≤ 1000000) :
    Calls Tryz.prog 82 #[.slice la n c, .int .i64 x] w fun e w' => e = .returned (.bool (decide (x ∈ L))) ∧ w = w' := by
  by_cases h0 : n = 0
  · subst h0
    have hnil := List.eq_nil_of_length_eq_zero hL.len
    subst hnil
    exact (Tryz.slices_Contains_int_empty la c x w).mono fun _ _ h => ⟨h.1, h.2.symm⟩
  · obtain ⟨b, off, rfl, _⟩ := hL.at_ (by omega)
    have h1 := Tryz.slices_Contains_int b off n c L x w (by rw [hL.len]; exact Nat.le_refl _) (by omega) (hL.all (by omega))
    rw [← hL.len, List.take_length] at h1
    rw [← hL.len]
    refine h1.mono fun e w' ⟨he, hw⟩ => ⟨?_, hw.symm⟩
    rw [he]; congr 2; rw [Bool.eq_iff_iff]; simp
theorem cont_yes {la : Option Addr} {n : Nat} {L : List Int} {x : Int} {w : World} (c : Nat) (hL : IntsAt w la n L) (hn : n ≤ 1000000) (h : x ∈ L) :
    Calls Tryz.prog 82 #[.slice la n c, .int .i64 x] w fun e w' => e = .returned (.bool true) ∧ w = w' := by
  have h1 := cont_any la n c L x w hL hn
  rwa [decide_eq_true h] at h1
theorem cont_no {la : Option Addr} {n : Nat} {L : List Int} {x : Int} {w : World} (c : Nat) (hL : IntsAt w la n L) (hn : n ≤ 1000000) (h : x ∉ L) :
    Calls Tryz.prog 82 #[.slice la n c, .int .i64 x] w fun e w' => e = .returned (.bool false) ∧ w = w' := by
  have h1 := cont_any la n c L x w hL hn
  rwa [decide_eq_false h] at h1

theorem grown_refl (w : World) (r : Option Nat) : w.grownBy w r := ⟨rfl, rfl, rfl, Nat.le_refl _, fun _ _ _ => rfl⟩
set_option maxRecDepth 100000 in
/-- append(v, xs...), v a row of one's own, xs whatever slice. -/
theorem wpList_append_spread {w : World} {ops : Array Oper} {rest : List Oper} {o : Oper} {a : Act} {Q : Exit → Act → World → Prop} (hgd : o.guard = none) (s x : Operand) (t : TypeId)
    (ho : o.op = .call { callee := .builtin .append, args := #[s, x], argTypes := #[t, t] })
    (base : Nat) (e : TypeId) (i : TypeInfo) (z : Value) (size bytes : Nat) (ht : Tryz.prog.underlying t = some (.slice e)) (hi : Tryz.prog.info? e = some i) (hz : i.zero = some z)
    (hsize : i.size = size) (hby : i.bytes = bytes) (hzs : z.cells.size = size) (hsz : 0 < size)
    (v : Value) (n : Nat) (xs : List Value) (hs : a.eval s = v) (hown : w.ownsRow base e size v n xs)
    (sa : Option Addr) (m c : Nat) (news : List Value) (hx : a.eval x = .slice sa m c) (hnil : sa = none → m = 0 ∧ c = 0) (hl : news.length = m * size) (hnews : ∀ ad, sa = some ad → ∀ j u, news[j]? = some u → w.cell? (ad.add j) = some u) (h1 : ∀ u ∈ news, u.oneCell' = true)
    (h63 : n + m ≤ maxLen) (hbytes : (n + m) * bytes ≤ 140737488355328) (hbase : base ≤ w.heap.size)
    (h : ∀ a' c' w', w'.ownsRow base e size (.slice a' (n + m) c') (n + m) (xs ++ news) → w.grownBy w' v.ownBlock → wpList Tryz.prog ops Q rest (a.put o.dst (.slice a' (n + m) c')) w') : wpList Tryz.prog ops Q (o :: rest) a w := by
  cases sa with
  | none =>
    obtain ⟨rfl, rfl⟩ := hnil rfl
    have hn0 : news = [] := List.eq_nil_of_length_eq_zero (by rw [hl]; omega)
    subst hn0
    refine wpList_append_own_none hgd s x t ho base e i size ht hi v n xs hs hown hx ?_
    obtain ⟨a', c', rfl⟩ := slice_of_row hown
    exact h a' c' w (by rw [List.append_nil]; exact hown) (grown_refl _ _)
  | some ad =>
    refine wpList_append_own w hgd s x t ho base e i z size bytes ht hi hz hsize hby hzs hsz v n xs hs hown ad m c news hx hl (hnews ad rfl) h1 h63 hbytes hbase fun v' w' h2 h3 _ => ?_
    obtain ⟨a', c', rfl⟩ := slice_of_row h2
    exact h a' c' w' h2 h3
theorem ints_one (S : List Int) : ∀ u ∈ S.map (Value.int .i64), u.oneCell' = true := by
  intro u hu
  obtain ⟨x, _, rfl⟩ := List.mem_map.1 hu
  rfl
theorem addr_at (b o j : Nat) : (⟨b, o, none⟩ : Addr).add j = ⟨b, o + j, none⟩ := by
  unfold Addr.add
  by_cases h0 : j = 0
  · subst h0; simp
  · simp [h0]
theorem IntsAt.news {w : World} {sa : Option Addr} {n : Nat} {S : List Int} (h : IntsAt w sa n S) : ∀ ad, sa = some ad → ∀ j u, (S.map (Value.int .i64))[j]? = some u → w.cell? (ad.add j) = some u := by
  intro ad ha j u hj
  have hjl : j < S.length := by
    have := (List.getElem?_eq_some_iff.1 hj).1
    simpa using this
  obtain ⟨b, off, hl, hc⟩ := h.at_ (by rw [← h.len]; omega)
  rw [ha] at hl
  cases hl
  rw [List.getElem?_map, List.getElem?_eq_getElem hjl] at hj
  cases hj
  rw [addr_at]
  exact hc j _ (List.getElem?_eq_getElem hjl)

/-- May two clauses be put together by a variable? -/
def ResOk (a b : List Int) (v : Int) : Prop := 0 < v ∧ v ∈ a ∧ -v ∈ b ∧ -v ∉ a ∧ v ∉ b
/-- What Resolve answers. -/
def ResPost (a b : List Int) (v : Int) (w : World) (e : Ending) (w' : World) : Prop :=
  Kept w w' ∧ (((¬ ResOk a b v ∨ CleanRes (both a b v) none) ∧ e = .returned (.tuple #[.slice none 0 0, .bool false])) ∨
    (ResOk a b v ∧ ∃ r k c K, CleanRes (both a b v) (some K) ∧ e = .returned (.tuple #[.slice r k c, .bool true]) ∧ IntsAt w' r k K ∧ K.length ≤ a.length + b.length))
theorem ResPost.no {a b : List Int} {v : Int} {w w' : World} (h : ¬ ResOk a b v) (hk : Kept w w') : ResPost a b v w (.returned (.tuple #[.slice none 0 0, .bool false])) w' := ⟨hk, Or.inl ⟨Or.inl h, rfl⟩⟩
def ofB (v x : Int) : Bool := decide (x = v) || decide (x = -v)
set_option maxHeartbeats 1000000 in
theorem of_both (v y : Int) (B : Nat) (W : World) (h1 : 0 < v) (h2 : v ≤ 9223372036854775807) (hc : W.cell? ⟨B, 0, none⟩ = some (.int .i64 v)) :
    Calls Tryz.prog 86 #[.int .i64 y, .pointer (some ⟨B, 0, none⟩)] W (BoolPost (ofB v y) W) := by
  by_cases c1 : y = v
  · have d1 : (y == v) = true := by simpa using c1
    have HB : Hid (ofB v y = true) := by show _ = _; unfold ofB; simp [c1]
    clear c1
    go_enter Tryz.func86, Tryz.ntmps86
    go_wp2
    go_ret
    exact ⟨ret_bool HB.out.symm, Kept.refl _⟩
  · have d1 : (y == v) = false := by simpa using c1
    by_cases c2 : y = -v
    · have d2 : (y == -v) = true := by simpa using c2
      have HB : Hid (ofB v y = true) := by show _ = _; unfold ofB; simp [c2]
      clear c1 c2
      go_enter Tryz.func86, Tryz.ntmps86
      go_wp2
      go_ret
      exact ⟨ret_bool HB.out.symm, Kept.refl _⟩
    · have d2 : (y == -v) = false := by simpa using c2
      have HB : Hid (ofB v y = false) := by show _ = _; unfold ofB; simp [c1, c2]
      clear c1 c2
      go_enter Tryz.func86, Tryz.ntmps86
      go_wp2
      go_ret
      exact ⟨ret_bool HB.out.symm, Kept.refl _⟩
theorem both_of {a b : List Int} {v : Int} (h : ResOk a b v) : (a.filter fun x => !ofB v x) ++ (b.filter fun x => !ofB v x) = both a b v := by
  unfold both
  congr 1
  · apply List.filter_congr
    intro x hx
    have : x ≠ -v := fun e => h.2.2.2.1 (e ▸ hx)
    unfold ofB
    by_cases hv : x = v <;> simp [hv, this]
  · apply List.filter_congr
    intro x hx
    have : x ≠ v := fun e => h.2.2.2.2 (e ▸ hx)
    unfold ofB
    by_cases hv : x = -v <;> simp [hv, this]

set_option maxRecDepth 100000 in
set_option maxHeartbeats 4000000 in
theorem resolve_any (la lb : Option Addr) (n c m d : Nat) (a b : List Int) (v : Int) (w : World) (hA : IntsAt w la n a) (hB : IntsAt w lb m b) (hn : n ≤ 1000) (hm : m ≤ 1000) (hz : la = none → n = 0 ∧ c = 0) (hz2 : lb = none → m = 0 ∧ d = 0) (hv : InR v) :
    Calls Tryz.prog 43 #[.slice la n c, .slice lb m d, .int .i64 v] w (ResPost a b v w) := by
  have HA := Lib.hid hA; have HB := Lib.hid hB; have HZ := Lib.hid hz; have HZ2 := Lib.hid hz2
  clear hA hB hz hz2
  have HX := Lib.hid (MapKept.heap_alloc w (.cells #[.int .i64 v] 3)).1
  have HK0 := Lib.hid ((Kept.refl w).alloc (.cells #[.int .i64 v] 3))
  obtain ⟨B, hBe⟩ : ∃ B : Nat, B = w.heap.size := ⟨_, rfl⟩
  have v2 : v ≤ 9223372036854775807 := hv.2
  go_enter Tryz.func43, Tryz.ntmps43
  go_upto_region 1 with (fail)
  obtain ⟨w1, hw1⟩ : ∃ w1 : World, w1 = w.alloc (.cells #[.int .i64 v] 3) := ⟨_, rfl⟩
  rw [← hBe] at HX ⊢
  rw [← hw1] at HX HK0 ⊢
  clear hw1 hv
  have HBE := Lib.hid hBe; clear hBe
  have x0 : w1.cell? ⟨B, 0, none⟩ = some (.int .i64 v) := by rw [cell_of_row _ _ _ _ _ _ HX.out]; rfl
  have HA1 := Lib.hid (HA.out.kept HK0.out)
  have HB1 := Lib.hid (HB.out.kept HK0.out)
  by_cases c0 : v ≤ 0
  · have d0 : decide (v ≤ 0) = true := decide_eq_true c0
    have HNO : Hid (¬ ResOk a b v) := fun h => by have := h.1; omega
    clear c0
    go_wp2
    go_ret2
    exact ResPost.no HNO.out HK0.out
  · have d0 : decide (v ≤ 0) = false := decide_eq_false c0
    have v1 : 0 < v := by omega
    clear c0
    by_cases c1 : v ∈ a
    · have H1 := Lib.hid (cont_yes c HA1.out (by omega) c1)
      have HC1 := Lib.hid c1; clear c1
      by_cases c2 : -v ∈ b
      · have H2 := Lib.hid (cont_yes d HB1.out (by omega) c2)
        have HC2 := Lib.hid c2; clear c2
        by_cases c3 : -v ∈ a
        · have H3 := Lib.hid (cont_yes c HA1.out (by omega) c3)
          have HNO : Hid (¬ ResOk a b v) := fun h => h.2.2.2.1 c3
          clear c3
          go_wp2_with fail
          refine H1.out.mono ?_; rintro e w' ⟨rfl, rfl⟩
          go_wp2_with fail
          refine H2.out.mono ?_; rintro e w' ⟨rfl, rfl⟩
          go_wp2_with fail
          refine H3.out.mono ?_; rintro e w' ⟨rfl, rfl⟩
          go_wp2
          go_ret2
          exact ResPost.no HNO.out HK0.out
        · have H3 := Lib.hid (cont_no c HA1.out (by omega) c3)
          have HC3 := Lib.hid c3; clear c3
          by_cases c4 : v ∈ b
          · have H4 := Lib.hid (cont_yes d HB1.out (by omega) c4)
            have HNO : Hid (¬ ResOk a b v) := fun h => h.2.2.2.2 c4
            clear c4
            go_wp2_with fail
            refine H1.out.mono ?_; rintro e w' ⟨rfl, rfl⟩
            go_wp2_with fail
            refine H2.out.mono ?_; rintro e w' ⟨rfl, rfl⟩
            go_wp2_with fail
            refine H3.out.mono ?_; rintro e w' ⟨rfl, rfl⟩
            go_wp2_with fail
            refine H4.out.mono ?_; rintro e w' ⟨rfl, rfl⟩
            go_wp2
            go_ret2
            exact ResPost.no HNO.out HK0.out
          · have H4 := Lib.hid (cont_no d HB1.out (by omega) c4)
            have HOK : Hid (ResOk a b v) := ⟨v1, HC1.out, HC2.out, HC3.out, c4⟩
            clear c4
            have eg : ∀ args w, (callFunc 86 args).run Tryz.prog w = .ok (.enter 86 args) w := enters_of Tryz.func86 (by kernel_rfl) rfl
            have HEG := Lib.hid eg; clear eg
            have HP : Hid (∀ w', Kept w1 w' → ∀ L, Pred_c 86 (.pointer (some ⟨B, 0, none⟩)) (ofB v) L w') := fun w' hk L y _ W hkW =>
              of_both v y B W v1 v2 (by rw [cell_of_row _ _ _ _ _ _ ((hk.trans hkW).row HX.out)]; rfl)
            have HW1 := Lib.hid (without_c 86 (.pointer (some ⟨B, 0, none⟩)) (ofB v) la n c a w1 HEG.out HA1.out (by omega) HZ.out (HP.out w1 (Kept.refl _) a))
            go_wp2_with fail
            refine H1.out.mono ?_; rintro e w' ⟨rfl, rfl⟩
            go_wp2_with fail
            refine H2.out.mono ?_; rintro e w' ⟨rfl, rfl⟩
            go_wp2_with fail
            refine H3.out.mono ?_; rintro e w' ⟨rfl, rfl⟩
            go_wp2_with fail
            refine H4.out.mono ?_; rintro e w' ⟨rfl, rfl⟩
            go_wp2_with fail
            refine HW1.out.mono ?_
            rintro e w2 ⟨a2, c2, rfl, hrow2, hk2⟩
            have HR2 := Lib.hid hrow2; have HK2 := Lib.hid hk2; clear hrow2 hk2 x0
            have HW2 := Lib.hid (without_c 86 (.pointer (some ⟨B, 0, none⟩)) (ofB v) lb m d b w2 HEG.out (HB1.out.kept HK2.out) (by omega) HZ2.out (HP.out w2 HK2.out b))
            go_wp2_with fail
            refine HW2.out.mono ?_
            rintro e w3 ⟨a3, c3, rfl, hrow3, hk3⟩
            have HR3 := Lib.hid hrow3; have HK3 := Lib.hid hk3; clear hrow3 hk3
            have HBO := Lib.hid (both_of HOK.out)
            obtain ⟨R, hR⟩ : ∃ R : List Int, R = a.filter fun x => !ofB v x := ⟨_, rfl⟩
            obtain ⟨S, hS⟩ : ∃ S : List Int, S = b.filter fun x => !ofB v x := ⟨_, rfl⟩
            have hRl : R.length ≤ n := by rw [hR, ← HA.out.len]; exact List.length_filter_le _ _
            have hSl : S.length ≤ m := by rw [hS, ← HB.out.len]; exact List.length_filter_le _ _
            have HRI : Hid (∀ x ∈ R, InR x) := fun x hx => by rw [hR] at hx; exact HA.out.inr x (List.mem_filter.1 hx).1
            have HSI : Hid (∀ x ∈ S, InR x) := fun x hx => by rw [hS] at hx; exact HB.out.inr x (List.mem_filter.1 hx).1
            rw [← hR, ← hS] at HBO
            rw [← hR] at HR2 ⊢
            rw [← hS] at HR3 ⊢
            clear hR hS
            have HR23 := Lib.hid (row_keptR HR2.out HK3.out)
            have HS3 := Lib.hid (ints_of_row HR3.out rfl HSI.out)
            have HF3 := Lib.hid (row_fit HR3.out)
            obtain ⟨ii, hi, hz0, hz1, hz2⟩ := info_parts infoInt
            have HI := Lib.hid (And.intro hi (And.intro hz0 (And.intro hz1 hz2))); clear hi hz0 hz1 hz2
            have HSZ := Lib.hid (show w1.heap.size ≤ w3.heap.size from Nat.le_trans HK2.out.size HK3.out.size)
            go_wp2_with (at_builtin; refine wpList_append_spread (by rfl) _ _ _ (by rfl) w1.heap.size 3 ii _ 1 8 Tryz.underlying22 HI.out.1 HI.out.2.1 HI.out.2.2.1 HI.out.2.2.2 rfl (by omega) (.slice a2 R.length c2) R.length (R.map (Value.int .i64)) rfl HR23.out a3 S.length c3 (S.map (Value.int .i64)) rfl HF3.out.1 (by simp) HS3.out.news (ints_one S) (by unfold maxLen; omega) (by omega) HSZ.out ?_; intro a4 c4 w4 hown4 hgrow4; have HOW4 := Lib.hid hown4; have HGR4 := Lib.hid hgrow4; clear hown4 hgrow4)
            have HK4 : Hid (Kept w1 w4) := by
              have tg : Turned (fun q => (Value.slice a2 R.length c2).ownBlock = some q) w3 w4 := Turned.grown HGR4.out fun k hk => hk
              exact tg.from (HK2.out.trans HK3.out) fun q hq e => by have := (HR2.out.lt q e).1; omega
            have HI4 : Hid (IntsAt w4 a4 (R.length + S.length) (both a b v)) := by
              have h1 := HOW4.out
              rw [← List.map_append] at h1
              rw [← HBO.out]
              exact ints_of_row h1 (by simp) fun x hx => by
                rcases List.mem_append.1 hx with hx | hx
                · exact HRI.out x hx
                · exact HSI.out x hx
            have HF4 := Lib.hid (row_fit HOW4.out)
            go_wp2_with fail
            refine (clean_any a4 (R.length + S.length) c4 (both a b v) w4 HI4.out (by omega) HF4.out.1).mono ?_
            rintro e w5 ⟨hk5, hpost⟩
            have HK5 := Lib.hid (HK0.out.trans (HK4.out.trans hk5))
            have HLB : Hid ((both a b v).length ≤ a.length + b.length) := by
              show _ ≤ _
              unfold both
              rw [List.length_append]
              have h1 := List.length_filter_le (fun x => x != v) a
              have h2 := List.length_filter_le (fun x => x != -v) b
              omega
            clear hk5
            rcases hpost with ⟨hcn, rfl⟩ | ⟨r, k, c', K, hcy, rfl, hI, _, hlen, _⟩
            · have HCN := Lib.hid hcn; clear hcn
              go_wp2
              go_ret2
              exact ⟨HK5.out, Or.inl ⟨Or.inr HCN.out, rfl⟩⟩
            · have HCY := Lib.hid hcy; have HIK := Lib.hid hI; have HLE := Lib.hid hlen; clear hcy hI hlen
              go_wp2
              go_ret2
              exact ⟨HK5.out, Or.inr ⟨HOK.out, r, k, c', K, HCY.out, rfl, HIK.out, Nat.le_trans HLE.out HLB.out⟩⟩
      · have H2 := Lib.hid (cont_no d HB1.out (by omega) c2)
        have HNO : Hid (¬ ResOk a b v) := fun h => c2 h.2.2.1
        clear c2
        go_wp2_with fail
        refine H1.out.mono ?_; rintro e w' ⟨rfl, rfl⟩
        go_wp2_with fail
        refine H2.out.mono ?_; rintro e w' ⟨rfl, rfl⟩
        go_wp2
        go_ret2
        exact ResPost.no HNO.out HK0.out
    · have H1 := Lib.hid (cont_no c HA1.out (by omega) c1)
      have HNO : Hid (¬ ResOk a b v) := fun h => c1 h.2.1
      clear c1
      go_wp2_with fail
      refine H1.out.mono ?_; rintro e w' ⟨rfl, rfl⟩
      go_wp2
      go_ret2
      exact ResPost.no HNO.out HK0.out
end Go.Proofs.YtlikokeknfhejaaGreatDoor
