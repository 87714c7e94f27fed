/-
  Layer 4: the contract of norm.next: the first rule that applies, or the term.
-/
import Derived.Test.YtgkjdmojbndicaaGreatDoorMI
namespace Go.Proofs.YtgkjdmojbndicaaGreatDoor
open Go Go.RowKit

/-- What next makes of the graph and a form. -/
def RzA (Bx : List Nd → Int → List Nd → Int → Int → Prop) (L L' : List Nd) (f f' : Fm) : Out → Prop
  | .add => L' = addL L (bN f.o f.x f.y) ∧ f' = ⟨0, addR L (bN f.o f.x f.y), 0⟩
  | out => Rz Bx L L' out f'
theorem rzA_of {Bx : List Nd → Int → List Nd → Int → Int → Prop} {L L' : List Nd} {f f' : Fm} {out : Out} (h : Rz Bx L L' out f') : RzA Bx L L' f f' out := by
  cases out <;> first | exact h | exact absurd h (fun h => h)
theorem gex_kept {B g m : Nat} {a : Option Addr} {w w1 w2 : World} {L1 : List Nd} (h : GEx B g m a w w1 L1) (k : Kept w1 w2) : GEx B g m a w w2 L1 := by
  obtain ⟨a1, c1, h⟩ := h
  exact ⟨a1, c1, h.thenKept k⟩
def NextQ (Bx : List Nd → Int → List Nd → Int → Int → Prop) (B g m : Nat) (a : Option Addr) (L : List Nd) (f : Fm) (w : World) (e : Ending) (w' : World) : Prop :=
  ∃ f' L', e = .returned (formV f') ∧ GEx B g m a w w' L' ∧ RzA Bx L L' f f' (nx L f)
/-- What a rule is asked for. -/
def RuleC (Bx : List Nd → Int → List Nd → Int → Int → Prop) (B g m : Nat) (a : Option Addr) (L : List Nd) (F : Nat) (i : Nat) (o x y : Int) (l r : Nd) : Prop :=
  ∀ (c : Nat) (w : World), GraphAt B w g m a c L → LaidN B w → Calls Tryz.prog F #[askV o x y g l r] w (RuleQ Bx B g m a L (oF L o x y l r i) (cB L o x y l r i) w)
structure RulesC (Bx : List Nd → Int → List Nd → Int → Int → Prop) (B g m : Nat) (a : Option Addr) (L : List Nd) (o x y : Int) (l r : Nd) : Prop where
  r0 : RuleC Bx B g m a L 92 0 o x y l r
  r1 : RuleC Bx B g m a L 94 1 o x y l r
  r2 : RuleC Bx B g m a L 95 2 o x y l r
  r3 : RuleC Bx B g m a L 99 3 o x y l r
  r4 : RuleC Bx B g m a L 101 4 o x y l r
  r5 : RuleC Bx B g m a L 103 5 o x y l r
  r6 : RuleC Bx B g m a L 104 6 o x y l r
  r7 : RuleC Bx B g m a L 105 7 o x y l r
  r8 : RuleC Bx B g m a L 106 8 o x y l r
  r9 : RuleC Bx B g m a L 107 9 o x y l r
  r10 : RuleC Bx B g m a L 109 10 o x y l r
  r11 : RuleC Bx B g m a L 110 11 o x y l r
  r12 : RuleC Bx B g m a L 111 12 o x y l r
  r13 : RuleC Bx B g m a L 112 13 o x y l r
  r14 : RuleC Bx B g m a L 114 14 o x y l r
  r15 : RuleC Bx B g m a L 115 15 o x y l r
set_option maxRecDepth 100000 in
set_option maxHeartbeats 16000000 in
theorem next_walk {Bx : List Nd → Int → List Nd → Int → Int → Prop} {B g m c : Nat} {sa : Option Addr} {L : List Nd} {w : World} (h : GraphAt B w g m sa c L) (o x y : Int) (hf : Fw L ⟨o, x, y⟩) (hL : LaidN B w) (hlen : L.length ≤ 999999999)
    (hR : RulesC Bx B g m sa L o x y (ndAt L x) (ndAt L y)) :
    Calls Tryz.prog 44 #[.pointer (some ⟨g, 0, none⟩), formV ⟨o, x, y⟩] w (NextQ Bx B g m sa L ⟨o, x, y⟩ w) := by
  have HO := Lib.hid (nown_start h hL o x y)
  have HX := Lib.hid (nodeAt_has hf.x)
  have HY := Lib.hid (nodeAt_has hf.y)
  have HF := Lib.hid hf
  have HLEN := Lib.hid hlen
  have HR := Lib.hid hR
  clear h hL hf hlen hR
  simp only [formV]
  go_enter Tryz.func44, Tryz.ntmps44
  go_upto_region 2 with (fail)
  change Code.wp _ _ _ _ (((w.alloc (formO o x y)).alloc (formO 0 0 0)).alloc (askO o x y g nd0 nd0))
  generalize ((w.alloc (formO o x y)).alloc (formO 0 0 0)).alloc (askO o x y g nd0 nd0) = W at *
  obtain ⟨b, hb⟩ : ∃ b : Nat, b = w.heap.size := ⟨_, rfl⟩
  rw [← hb] at HO ⊢
  clear hb
  have gg := form_facts HO.out.box
  have g0 := gg.1
  have g1 := gg.2.1
  have g2 := gg.2.2.1
  clear gg
  go_wp2_with fail
  refine (node_any HO.out.gr x).mono ?_
  rintro e w2 ⟨rfl, hk2⟩
  rw [HX.out]
  simp only [Nd.val]
  have HO2 := Lib.hid (HO.out.then hk2)
  clear hk2 HO g0 g1 g2
  have gg := form_facts HO2.out.box
  have g0 := gg.1
  have g1 := gg.2.1
  have g2 := gg.2.2.1
  clear gg
  have q := ask_free HO2.out.ask
  have q4 := q 4
  have q5 := q 5
  have q6 := q 6
  have q7 := q 7
  have q8 := q 8
  have q9 := q 9
  have qs : b + 2 < w2.heap.size := (Array.getElem?_eq_some_iff.1 HO2.out.ask).1
  obtain ⟨f0, f1, f2, f3, f4, f5, f6, f7, f8, f9, f10, f11, f12, f13, f14, f15⟩ := ask_facts HO2.out.ask
  clear q
  go_upto_region 3 with (fail)
  have HO := Lib.hid (HO2.out.left (ndAt L x))
  clear q4 q5 q6 q7 q8 q9 qs f0 f1 f2 f3 f4 f5 f6 f7 f8 f9 f10 f11 f12 f13 f14 f15 g0 g1 g2 HO2
  change Code.wp _ _ _ _ (put6 w2 (b + 2) 4 (ndAt L x))
  generalize put6 w2 (b + 2) 4 (ndAt L x) = W at *
  have gg := form_facts HO.out.box
  have g0 := gg.1
  have g1 := gg.2.1
  have g2 := gg.2.2.1
  clear gg
  go_wp2_with fail
  refine (node_any HO.out.gr y).mono ?_
  rintro e w3 ⟨rfl, hk2⟩
  rw [HY.out]
  simp only [Nd.val]
  have HO2 := Lib.hid (HO.out.then hk2)
  clear hk2 HO g0 g1 g2
  have q := ask_free HO2.out.ask
  have q4 := q 10
  have q5 := q 11
  have q6 := q 12
  have q7 := q 13
  have q8 := q 14
  have q9 := q 15
  have qs : b + 2 < w3.heap.size := (Array.getElem?_eq_some_iff.1 HO2.out.ask).1
  obtain ⟨f0, f1, f2, f3, f4, f5, f6, f7, f8, f9, f10, f11, f12, f13, f14, f15⟩ := ask_facts HO2.out.ask
  clear q
  go_upto_region 4 with (fail)
  have HO := Lib.hid (HO2.out.right (ndAt L y))
  clear q4 q5 q6 q7 q8 q9 qs f0 f1 f2 f3 f4 f5 f6 f7 f8 f9 f10 f11 f12 f13 f14 f15 HO2
  change Code.wp _ _ _ _ (put6 w3 (b + 2) 10 (ndAt L y))
  generalize put6 w3 (b + 2) 10 (ndAt L y) = W at *
  generalize Value.agg #[Value.int IntKind.u8 (ndAt L x).k, Value.int IntKind.i64 (ndAt L x).n, Value.int IntKind.i64 (ndAt L x).a, Value.int IntKind.u8 (ndAt L x).o, Value.int IntKind.i64 (ndAt L x).x, Value.int IntKind.i64 (ndAt L x).y] = NX
  go_wp2
  have HPX : Hid (∀ m, m < 0 → cB L o x y (ndAt L x) (ndAt L y) m = false) := fun m hm => absurd hm (Nat.not_lt_zero m)
  have ix0 : ∀ w, (Instr.index 110 (.agg #[.func (.func 63) #[] #[], .func (.func 64) #[] #[], .func (.func 65) #[] #[]]) (.int .i64 0)).run Tryz.prog w = .ok (.func (.func 63) #[] #[]) w := fun _ => by kernel_rfl
  have ix1 : ∀ w, (Instr.index 110 (.agg #[.func (.func 63) #[] #[], .func (.func 64) #[] #[], .func (.func 65) #[] #[]]) (.int .i64 1)).run Tryz.prog w = .ok (.func (.func 64) #[] #[]) w := fun _ => by kernel_rfl
  have ix2 : ∀ w, (Instr.index 110 (.agg #[.func (.func 63) #[] #[], .func (.func 64) #[] #[], .func (.func 65) #[] #[]]) (.int .i64 2)).run Tryz.prog w = .ok (.func (.func 65) #[] #[]) w := fun _ => by kernel_rfl
  refine wp_loop_rounds 4 ?_
  rw [rounds_succ]
  go_wp2_with fail
  refine (rows_all _).mono ?_
  rintro e wr0 ⟨br0, rfl, hrow0, hbr0, hk2⟩
  have HO2 := Lib.hid (HO.out.then hk2)
  clear hk2 HO
  have HO := HO2
  clear HO2
  have HROW0 := Lib.hid hrow0
  clear hrow0 hbr0
  go_wp2
  refine wp_loop_rounds 7 ?_
  as_aux_lemma =>
    rw [rounds_succ]
    have cf : wr0.cell? ⟨br0, 0, none⟩ = some (.func (.func 92) #[] #[]) := by rw [cell_of_row _ _ _ _ _ _ HROW0.out]; rfl
    obtain ⟨f0, f1, f2, f3, f4, f5, f6, f7, f8, f9, f10, f11, f12, f13, f14, f15⟩ := ask_facts HO.out.ask
    go_wp2_with fail
    refine (HR.out.r0 c _ HO.out.gr HO.out.laid).mono ?_
    rintro e wq0 ⟨⟨fo, fx, fy⟩, rfl, hno, hyes⟩
    simp only [formV]
    clear cf f0 f1 f2 f3 f4 f5 f6 f7 f8 f9 f10 f11 f12 f13 f14 f15
    cases hb : cB L o x y (ndAt L x) (ndAt L y) 0 with
    | true =>
      obtain ⟨L1, ⟨a1, c1, hT⟩, hZ⟩ := hyes hb
      have HNX := Lib.hid (nx_at (L := L) (f := ⟨o, x, y⟩) HF.out.ne (j := 0) (by decide) HPX.out hb)
      have HT2 := Lib.hid hT
      have HZ := Lib.hid hZ
      have HF2 := Lib.hid (HT2.out.row HO.out.frm HO.out.off.2.1)
      clear hno hyes hb hT hZ
      obtain ⟨k0, k1, k2, z0, z1, z2, ks⟩ := form_facts HF2.out
      have hne : b + 1 ≠ wq0.heap.size := Nat.ne_of_lt ks
      go_wp2
      have HRR := Lib.hid (Kept.row ((Kept.refl (put3 wq0 (b + 1) ⟨fo, fx, fy⟩)).alloc (formO fo fx fy)) (put3_row HF2.out ⟨fo, fx, fy⟩))
      have HE := Lib.hid (gex_kept (HO.out.end2 HT2.out ⟨fo, fx, fy⟩) ((Kept.refl (put3 wq0 (b + 1) ⟨fo, fx, fy⟩)).alloc (formO fo fx fy)))
      clear k0 k1 k2 z0 z1 z2 ks hne
      change bodyPost _ _ _ _ _ ((put3 wq0 (b + 1) ⟨fo, fx, fy⟩).alloc (formO fo fx fy))
      generalize (put3 wq0 (b + 1) ⟨fo, fx, fy⟩).alloc (formO fo fx fy) = w99 at *
      have gg := form_facts HRR.out
      have k0 := gg.1
      have k1 := gg.2.1
      have k2 := gg.2.2.1
      clear gg
      exact bodyPost_ret (v := formV ⟨fo, fx, fy⟩) (by simp [results, Tryz.results44, go_sem, formV, k0, k1, k2]) rfl ⟨⟨fo, fx, fy⟩, L1, rfl, HE.out, rzA_of (by rw [HNX.out]; exact HZ.out)⟩
    | false =>
      have HPY : Hid (∀ m, m < 1 → cB L o x y (ndAt L x) (ndAt L y) m = false) := fun m hm => by
        by_cases e : m = 0
        · rw [e]; exact hb
        · exact HPX.out m (by omega)
      clear HPX
      have HPX := HPY
      clear HPY
      have HK := Lib.hid ((hno hb).alloc (.cells #[.int .u8 fo, .int .i64 fx, .int .i64 fy] 81))
      clear hno hyes hb
      go_wp2
      have HO2 := Lib.hid (HO.out.then HK.out)
      have HROWT := Lib.hid (HK.out.row HROW0.out)
      clear HO HROW0 HK
      have HO := HO2
      have HROW0 := HROWT
      clear HO2 HROWT
      generalize wq0.alloc (.cells #[.int .u8 fo, .int .i64 fx, .int .i64 fy] 81) = wa0 at *
      as_aux_lemma =>
        rw [rounds_succ]
        have cf : wa0.cell? ⟨br0, 1, none⟩ = some (.func (.func 94) #[] #[]) := by rw [cell_of_row _ _ _ _ _ _ HROW0.out]; rfl
        obtain ⟨f0, f1, f2, f3, f4, f5, f6, f7, f8, f9, f10, f11, f12, f13, f14, f15⟩ := ask_facts HO.out.ask
        go_wp2_with fail
        refine (HR.out.r1 c _ HO.out.gr HO.out.laid).mono ?_
        rintro e wq1 ⟨⟨fo, fx, fy⟩, rfl, hno, hyes⟩
        simp only [formV]
        clear cf f0 f1 f2 f3 f4 f5 f6 f7 f8 f9 f10 f11 f12 f13 f14 f15
        cases hb : cB L o x y (ndAt L x) (ndAt L y) 1 with
        | true =>
          obtain ⟨L1, ⟨a1, c1, hT⟩, hZ⟩ := hyes hb
          have HNX := Lib.hid (nx_at (L := L) (f := ⟨o, x, y⟩) HF.out.ne (j := 1) (by decide) HPX.out hb)
          have HT2 := Lib.hid hT
          have HZ := Lib.hid hZ
          have HF2 := Lib.hid (HT2.out.row HO.out.frm HO.out.off.2.1)
          clear hno hyes hb hT hZ
          obtain ⟨k0, k1, k2, z0, z1, z2, ks⟩ := form_facts HF2.out
          have hne : b + 1 ≠ wq1.heap.size := Nat.ne_of_lt ks
          go_wp2
          have HRR := Lib.hid (Kept.row ((Kept.refl (put3 wq1 (b + 1) ⟨fo, fx, fy⟩)).alloc (formO fo fx fy)) (put3_row HF2.out ⟨fo, fx, fy⟩))
          have HE := Lib.hid (gex_kept (HO.out.end2 HT2.out ⟨fo, fx, fy⟩) ((Kept.refl (put3 wq1 (b + 1) ⟨fo, fx, fy⟩)).alloc (formO fo fx fy)))
          clear k0 k1 k2 z0 z1 z2 ks hne
          change bodyPost _ _ _ _ _ ((put3 wq1 (b + 1) ⟨fo, fx, fy⟩).alloc (formO fo fx fy))
          generalize (put3 wq1 (b + 1) ⟨fo, fx, fy⟩).alloc (formO fo fx fy) = w99 at *
          have gg := form_facts HRR.out
          have k0 := gg.1
          have k1 := gg.2.1
          have k2 := gg.2.2.1
          clear gg
          exact bodyPost_ret (v := formV ⟨fo, fx, fy⟩) (by simp [results, Tryz.results44, go_sem, formV, k0, k1, k2]) rfl ⟨⟨fo, fx, fy⟩, L1, rfl, HE.out, rzA_of (by rw [HNX.out]; exact HZ.out)⟩
        | false =>
          have HPY : Hid (∀ m, m < 2 → cB L o x y (ndAt L x) (ndAt L y) m = false) := fun m hm => by
            by_cases e : m = 1
            · rw [e]; exact hb
            · exact HPX.out m (by omega)
          clear HPX
          have HPX := HPY
          clear HPY
          have HK := Lib.hid ((hno hb).alloc (.cells #[.int .u8 fo, .int .i64 fx, .int .i64 fy] 81))
          clear hno hyes hb
          go_wp2
          have HO2 := Lib.hid (HO.out.then HK.out)
          have HROWT := Lib.hid (HK.out.row HROW0.out)
          clear HO HROW0 HK
          have HO := HO2
          have HROW0 := HROWT
          clear HO2 HROWT
          generalize wq1.alloc (.cells #[.int .u8 fo, .int .i64 fx, .int .i64 fy] 81) = wa1 at *
          as_aux_lemma =>
            rw [rounds_succ]
            have cf : wa1.cell? ⟨br0, 2, none⟩ = some (.func (.func 95) #[] #[]) := by rw [cell_of_row _ _ _ _ _ _ HROW0.out]; rfl
            obtain ⟨f0, f1, f2, f3, f4, f5, f6, f7, f8, f9, f10, f11, f12, f13, f14, f15⟩ := ask_facts HO.out.ask
            go_wp2_with fail
            refine (HR.out.r2 c _ HO.out.gr HO.out.laid).mono ?_
            rintro e wq2 ⟨⟨fo, fx, fy⟩, rfl, hno, hyes⟩
            simp only [formV]
            clear cf f0 f1 f2 f3 f4 f5 f6 f7 f8 f9 f10 f11 f12 f13 f14 f15
            cases hb : cB L o x y (ndAt L x) (ndAt L y) 2 with
            | true =>
              obtain ⟨L1, ⟨a1, c1, hT⟩, hZ⟩ := hyes hb
              have HNX := Lib.hid (nx_at (L := L) (f := ⟨o, x, y⟩) HF.out.ne (j := 2) (by decide) HPX.out hb)
              have HT2 := Lib.hid hT
              have HZ := Lib.hid hZ
              have HF2 := Lib.hid (HT2.out.row HO.out.frm HO.out.off.2.1)
              clear hno hyes hb hT hZ
              obtain ⟨k0, k1, k2, z0, z1, z2, ks⟩ := form_facts HF2.out
              have hne : b + 1 ≠ wq2.heap.size := Nat.ne_of_lt ks
              go_wp2
              have HRR := Lib.hid (Kept.row ((Kept.refl (put3 wq2 (b + 1) ⟨fo, fx, fy⟩)).alloc (formO fo fx fy)) (put3_row HF2.out ⟨fo, fx, fy⟩))
              have HE := Lib.hid (gex_kept (HO.out.end2 HT2.out ⟨fo, fx, fy⟩) ((Kept.refl (put3 wq2 (b + 1) ⟨fo, fx, fy⟩)).alloc (formO fo fx fy)))
              clear k0 k1 k2 z0 z1 z2 ks hne
              change bodyPost _ _ _ _ _ ((put3 wq2 (b + 1) ⟨fo, fx, fy⟩).alloc (formO fo fx fy))
              generalize (put3 wq2 (b + 1) ⟨fo, fx, fy⟩).alloc (formO fo fx fy) = w99 at *
              have gg := form_facts HRR.out
              have k0 := gg.1
              have k1 := gg.2.1
              have k2 := gg.2.2.1
              clear gg
              exact bodyPost_ret (v := formV ⟨fo, fx, fy⟩) (by simp [results, Tryz.results44, go_sem, formV, k0, k1, k2]) rfl ⟨⟨fo, fx, fy⟩, L1, rfl, HE.out, rzA_of (by rw [HNX.out]; exact HZ.out)⟩
            | false =>
              have HPY : Hid (∀ m, m < 3 → cB L o x y (ndAt L x) (ndAt L y) m = false) := fun m hm => by
                by_cases e : m = 2
                · rw [e]; exact hb
                · exact HPX.out m (by omega)
              clear HPX
              have HPX := HPY
              clear HPY
              have HK := Lib.hid ((hno hb).alloc (.cells #[.int .u8 fo, .int .i64 fx, .int .i64 fy] 81))
              clear hno hyes hb
              go_wp2
              have HO2 := Lib.hid (HO.out.then HK.out)
              have HROWT := Lib.hid (HK.out.row HROW0.out)
              clear HO HROW0 HK
              have HO := HO2
              have HROW0 := HROWT
              clear HO2 HROWT
              generalize wq2.alloc (.cells #[.int .u8 fo, .int .i64 fx, .int .i64 fy] 81) = wa2 at *
              as_aux_lemma =>
                rw [rounds_succ]
                have cf : wa2.cell? ⟨br0, 3, none⟩ = some (.func (.func 99) #[] #[]) := by rw [cell_of_row _ _ _ _ _ _ HROW0.out]; rfl
                obtain ⟨f0, f1, f2, f3, f4, f5, f6, f7, f8, f9, f10, f11, f12, f13, f14, f15⟩ := ask_facts HO.out.ask
                go_wp2_with fail
                refine (HR.out.r3 c _ HO.out.gr HO.out.laid).mono ?_
                rintro e wq3 ⟨⟨fo, fx, fy⟩, rfl, hno, hyes⟩
                simp only [formV]
                clear cf f0 f1 f2 f3 f4 f5 f6 f7 f8 f9 f10 f11 f12 f13 f14 f15
                cases hb : cB L o x y (ndAt L x) (ndAt L y) 3 with
                | true =>
                  obtain ⟨L1, ⟨a1, c1, hT⟩, hZ⟩ := hyes hb
                  have HNX := Lib.hid (nx_at (L := L) (f := ⟨o, x, y⟩) HF.out.ne (j := 3) (by decide) HPX.out hb)
                  have HT2 := Lib.hid hT
                  have HZ := Lib.hid hZ
                  have HF2 := Lib.hid (HT2.out.row HO.out.frm HO.out.off.2.1)
                  clear hno hyes hb hT hZ
                  obtain ⟨k0, k1, k2, z0, z1, z2, ks⟩ := form_facts HF2.out
                  have hne : b + 1 ≠ wq3.heap.size := Nat.ne_of_lt ks
                  go_wp2
                  have HRR := Lib.hid (Kept.row ((Kept.refl (put3 wq3 (b + 1) ⟨fo, fx, fy⟩)).alloc (formO fo fx fy)) (put3_row HF2.out ⟨fo, fx, fy⟩))
                  have HE := Lib.hid (gex_kept (HO.out.end2 HT2.out ⟨fo, fx, fy⟩) ((Kept.refl (put3 wq3 (b + 1) ⟨fo, fx, fy⟩)).alloc (formO fo fx fy)))
                  clear k0 k1 k2 z0 z1 z2 ks hne
                  change bodyPost _ _ _ _ _ ((put3 wq3 (b + 1) ⟨fo, fx, fy⟩).alloc (formO fo fx fy))
                  generalize (put3 wq3 (b + 1) ⟨fo, fx, fy⟩).alloc (formO fo fx fy) = w99 at *
                  have gg := form_facts HRR.out
                  have k0 := gg.1
                  have k1 := gg.2.1
                  have k2 := gg.2.2.1
                  clear gg
                  exact bodyPost_ret (v := formV ⟨fo, fx, fy⟩) (by simp [results, Tryz.results44, go_sem, formV, k0, k1, k2]) rfl ⟨⟨fo, fx, fy⟩, L1, rfl, HE.out, rzA_of (by rw [HNX.out]; exact HZ.out)⟩
                | false =>
                  have HPY : Hid (∀ m, m < 4 → cB L o x y (ndAt L x) (ndAt L y) m = false) := fun m hm => by
                    by_cases e : m = 3
                    · rw [e]; exact hb
                    · exact HPX.out m (by omega)
                  clear HPX
                  have HPX := HPY
                  clear HPY
                  have HK := Lib.hid ((hno hb).alloc (.cells #[.int .u8 fo, .int .i64 fx, .int .i64 fy] 81))
                  clear hno hyes hb
                  go_wp2
                  have HO2 := Lib.hid (HO.out.then HK.out)
                  have HROWT := Lib.hid (HK.out.row HROW0.out)
                  clear HO HROW0 HK
                  have HO := HO2
                  have HROW0 := HROWT
                  clear HO2 HROWT
                  generalize wq3.alloc (.cells #[.int .u8 fo, .int .i64 fx, .int .i64 fy] 81) = wa3 at *
                  as_aux_lemma =>
                    rw [rounds_succ]
                    have cf : wa3.cell? ⟨br0, 4, none⟩ = some (.func (.func 101) #[] #[]) := by rw [cell_of_row _ _ _ _ _ _ HROW0.out]; rfl
                    obtain ⟨f0, f1, f2, f3, f4, f5, f6, f7, f8, f9, f10, f11, f12, f13, f14, f15⟩ := ask_facts HO.out.ask
                    go_wp2_with fail
                    refine (HR.out.r4 c _ HO.out.gr HO.out.laid).mono ?_
                    rintro e wq4 ⟨⟨fo, fx, fy⟩, rfl, hno, hyes⟩
                    simp only [formV]
                    clear cf f0 f1 f2 f3 f4 f5 f6 f7 f8 f9 f10 f11 f12 f13 f14 f15
                    cases hb : cB L o x y (ndAt L x) (ndAt L y) 4 with
                    | true =>
                      obtain ⟨L1, ⟨a1, c1, hT⟩, hZ⟩ := hyes hb
                      have HNX := Lib.hid (nx_at (L := L) (f := ⟨o, x, y⟩) HF.out.ne (j := 4) (by decide) HPX.out hb)
                      have HT2 := Lib.hid hT
                      have HZ := Lib.hid hZ
                      have HF2 := Lib.hid (HT2.out.row HO.out.frm HO.out.off.2.1)
                      clear hno hyes hb hT hZ
                      obtain ⟨k0, k1, k2, z0, z1, z2, ks⟩ := form_facts HF2.out
                      have hne : b + 1 ≠ wq4.heap.size := Nat.ne_of_lt ks
                      go_wp2
                      have HRR := Lib.hid (Kept.row ((Kept.refl (put3 wq4 (b + 1) ⟨fo, fx, fy⟩)).alloc (formO fo fx fy)) (put3_row HF2.out ⟨fo, fx, fy⟩))
                      have HE := Lib.hid (gex_kept (HO.out.end2 HT2.out ⟨fo, fx, fy⟩) ((Kept.refl (put3 wq4 (b + 1) ⟨fo, fx, fy⟩)).alloc (formO fo fx fy)))
                      clear k0 k1 k2 z0 z1 z2 ks hne
                      change bodyPost _ _ _ _ _ ((put3 wq4 (b + 1) ⟨fo, fx, fy⟩).alloc (formO fo fx fy))
                      generalize (put3 wq4 (b + 1) ⟨fo, fx, fy⟩).alloc (formO fo fx fy) = w99 at *
                      have gg := form_facts HRR.out
                      have k0 := gg.1
                      have k1 := gg.2.1
                      have k2 := gg.2.2.1
                      clear gg
                      exact bodyPost_ret (v := formV ⟨fo, fx, fy⟩) (by simp [results, Tryz.results44, go_sem, formV, k0, k1, k2]) rfl ⟨⟨fo, fx, fy⟩, L1, rfl, HE.out, rzA_of (by rw [HNX.out]; exact HZ.out)⟩
                    | false =>
                      have HPY : Hid (∀ m, m < 5 → cB L o x y (ndAt L x) (ndAt L y) m = false) := fun m hm => by
                        by_cases e : m = 4
                        · rw [e]; exact hb
                        · exact HPX.out m (by omega)
                      clear HPX
                      have HPX := HPY
                      clear HPY
                      have HK := Lib.hid ((hno hb).alloc (.cells #[.int .u8 fo, .int .i64 fx, .int .i64 fy] 81))
                      clear hno hyes hb
                      go_wp2
                      have HO2 := Lib.hid (HO.out.then HK.out)
                      have HROWT := Lib.hid (HK.out.row HROW0.out)
                      clear HO HROW0 HK
                      have HO := HO2
                      have HROW0 := HROWT
                      clear HO2 HROWT
                      generalize wq4.alloc (.cells #[.int .u8 fo, .int .i64 fx, .int .i64 fy] 81) = wa4 at *
                      as_aux_lemma =>
                        rw [rounds_succ]
                        have cf : wa4.cell? ⟨br0, 5, none⟩ = some (.func (.func 103) #[] #[]) := by rw [cell_of_row _ _ _ _ _ _ HROW0.out]; rfl
                        obtain ⟨f0, f1, f2, f3, f4, f5, f6, f7, f8, f9, f10, f11, f12, f13, f14, f15⟩ := ask_facts HO.out.ask
                        go_wp2_with fail
                        refine (HR.out.r5 c _ HO.out.gr HO.out.laid).mono ?_
                        rintro e wq5 ⟨⟨fo, fx, fy⟩, rfl, hno, hyes⟩
                        simp only [formV]
                        clear cf f0 f1 f2 f3 f4 f5 f6 f7 f8 f9 f10 f11 f12 f13 f14 f15
                        cases hb : cB L o x y (ndAt L x) (ndAt L y) 5 with
                        | true =>
                          obtain ⟨L1, ⟨a1, c1, hT⟩, hZ⟩ := hyes hb
                          have HNX := Lib.hid (nx_at (L := L) (f := ⟨o, x, y⟩) HF.out.ne (j := 5) (by decide) HPX.out hb)
                          have HT2 := Lib.hid hT
                          have HZ := Lib.hid hZ
                          have HF2 := Lib.hid (HT2.out.row HO.out.frm HO.out.off.2.1)
                          clear hno hyes hb hT hZ
                          obtain ⟨k0, k1, k2, z0, z1, z2, ks⟩ := form_facts HF2.out
                          have hne : b + 1 ≠ wq5.heap.size := Nat.ne_of_lt ks
                          go_wp2
                          have HRR := Lib.hid (Kept.row ((Kept.refl (put3 wq5 (b + 1) ⟨fo, fx, fy⟩)).alloc (formO fo fx fy)) (put3_row HF2.out ⟨fo, fx, fy⟩))
                          have HE := Lib.hid (gex_kept (HO.out.end2 HT2.out ⟨fo, fx, fy⟩) ((Kept.refl (put3 wq5 (b + 1) ⟨fo, fx, fy⟩)).alloc (formO fo fx fy)))
                          clear k0 k1 k2 z0 z1 z2 ks hne
                          change bodyPost _ _ _ _ _ ((put3 wq5 (b + 1) ⟨fo, fx, fy⟩).alloc (formO fo fx fy))
                          generalize (put3 wq5 (b + 1) ⟨fo, fx, fy⟩).alloc (formO fo fx fy) = w99 at *
                          have gg := form_facts HRR.out
                          have k0 := gg.1
                          have k1 := gg.2.1
                          have k2 := gg.2.2.1
                          clear gg
                          exact bodyPost_ret (v := formV ⟨fo, fx, fy⟩) (by simp [results, Tryz.results44, go_sem, formV, k0, k1, k2]) rfl ⟨⟨fo, fx, fy⟩, L1, rfl, HE.out, rzA_of (by rw [HNX.out]; exact HZ.out)⟩
                        | false =>
                          have HPY : Hid (∀ m, m < 6 → cB L o x y (ndAt L x) (ndAt L y) m = false) := fun m hm => by
                            by_cases e : m = 5
                            · rw [e]; exact hb
                            · exact HPX.out m (by omega)
                          clear HPX
                          have HPX := HPY
                          clear HPY
                          have HK := Lib.hid ((hno hb).alloc (.cells #[.int .u8 fo, .int .i64 fx, .int .i64 fy] 81))
                          clear hno hyes hb
                          go_wp2
                          have HO2 := Lib.hid (HO.out.then HK.out)
                          have HROWT := Lib.hid (HK.out.row HROW0.out)
                          clear HO HROW0 HK
                          have HO := HO2
                          have HROW0 := HROWT
                          clear HO2 HROWT
                          generalize wq5.alloc (.cells #[.int .u8 fo, .int .i64 fx, .int .i64 fy] 81) = wa5 at *
                          rw [rounds_succ]
                          go_wp2
                          rw [rounds_succ]
                          go_wp2_with fail
                          refine (rows_num _).mono ?_
                          rintro e wr1 ⟨br1, rfl, hrow1, hbr1, hk2⟩
                          have HO2 := Lib.hid (HO.out.then hk2)
                          clear hk2 HO
                          have HO := HO2
                          clear HO2
                          have HROW1 := Lib.hid hrow1
                          clear hrow1 hbr1
                          go_wp2
                          refine wp_loop_rounds 6 ?_
                          as_aux_lemma =>
                            rw [rounds_succ]
                            have cf : wr1.cell? ⟨br1, 0, none⟩ = some (.func (.func 104) #[] #[]) := by rw [cell_of_row _ _ _ _ _ _ HROW1.out]; rfl
                            obtain ⟨f0, f1, f2, f3, f4, f5, f6, f7, f8, f9, f10, f11, f12, f13, f14, f15⟩ := ask_facts HO.out.ask
                            go_wp2_with fail
                            refine (HR.out.r6 c _ HO.out.gr HO.out.laid).mono ?_
                            rintro e wq6 ⟨⟨fo, fx, fy⟩, rfl, hno, hyes⟩
                            simp only [formV]
                            clear cf f0 f1 f2 f3 f4 f5 f6 f7 f8 f9 f10 f11 f12 f13 f14 f15
                            cases hb : cB L o x y (ndAt L x) (ndAt L y) 6 with
                            | true =>
                              obtain ⟨L1, ⟨a1, c1, hT⟩, hZ⟩ := hyes hb
                              have HNX := Lib.hid (nx_at (L := L) (f := ⟨o, x, y⟩) HF.out.ne (j := 6) (by decide) HPX.out hb)
                              have HT2 := Lib.hid hT
                              have HZ := Lib.hid hZ
                              have HF2 := Lib.hid (HT2.out.row HO.out.frm HO.out.off.2.1)
                              clear hno hyes hb hT hZ
                              obtain ⟨k0, k1, k2, z0, z1, z2, ks⟩ := form_facts HF2.out
                              have hne : b + 1 ≠ wq6.heap.size := Nat.ne_of_lt ks
                              go_wp2
                              have HRR := Lib.hid (Kept.row ((Kept.refl (put3 wq6 (b + 1) ⟨fo, fx, fy⟩)).alloc (formO fo fx fy)) (put3_row HF2.out ⟨fo, fx, fy⟩))
                              have HE := Lib.hid (gex_kept (HO.out.end2 HT2.out ⟨fo, fx, fy⟩) ((Kept.refl (put3 wq6 (b + 1) ⟨fo, fx, fy⟩)).alloc (formO fo fx fy)))
                              clear k0 k1 k2 z0 z1 z2 ks hne
                              change bodyPost _ _ _ _ _ ((put3 wq6 (b + 1) ⟨fo, fx, fy⟩).alloc (formO fo fx fy))
                              generalize (put3 wq6 (b + 1) ⟨fo, fx, fy⟩).alloc (formO fo fx fy) = w99 at *
                              have gg := form_facts HRR.out
                              have k0 := gg.1
                              have k1 := gg.2.1
                              have k2 := gg.2.2.1
                              clear gg
                              exact bodyPost_ret (v := formV ⟨fo, fx, fy⟩) (by simp [results, Tryz.results44, go_sem, formV, k0, k1, k2]) rfl ⟨⟨fo, fx, fy⟩, L1, rfl, HE.out, rzA_of (by rw [HNX.out]; exact HZ.out)⟩
                            | false =>
                              have HPY : Hid (∀ m, m < 7 → cB L o x y (ndAt L x) (ndAt L y) m = false) := fun m hm => by
                                by_cases e : m = 6
                                · rw [e]; exact hb
                                · exact HPX.out m (by omega)
                              clear HPX
                              have HPX := HPY
                              clear HPY
                              have HK := Lib.hid ((hno hb).alloc (.cells #[.int .u8 fo, .int .i64 fx, .int .i64 fy] 81))
                              clear hno hyes hb
                              go_wp2
                              have HO2 := Lib.hid (HO.out.then HK.out)
                              have HROWT := Lib.hid (HK.out.row HROW1.out)
                              clear HO HROW1 HK
                              have HO := HO2
                              have HROW1 := HROWT
                              clear HO2 HROWT
                              generalize wq6.alloc (.cells #[.int .u8 fo, .int .i64 fx, .int .i64 fy] 81) = wa6 at *
                              as_aux_lemma =>
                                rw [rounds_succ]
                                have cf : wa6.cell? ⟨br1, 1, none⟩ = some (.func (.func 105) #[] #[]) := by rw [cell_of_row _ _ _ _ _ _ HROW1.out]; rfl
                                obtain ⟨f0, f1, f2, f3, f4, f5, f6, f7, f8, f9, f10, f11, f12, f13, f14, f15⟩ := ask_facts HO.out.ask
                                go_wp2_with fail
                                refine (HR.out.r7 c _ HO.out.gr HO.out.laid).mono ?_
                                rintro e wq7 ⟨⟨fo, fx, fy⟩, rfl, hno, hyes⟩
                                simp only [formV]
                                clear cf f0 f1 f2 f3 f4 f5 f6 f7 f8 f9 f10 f11 f12 f13 f14 f15
                                cases hb : cB L o x y (ndAt L x) (ndAt L y) 7 with
                                | true =>
                                  obtain ⟨L1, ⟨a1, c1, hT⟩, hZ⟩ := hyes hb
                                  have HNX := Lib.hid (nx_at (L := L) (f := ⟨o, x, y⟩) HF.out.ne (j := 7) (by decide) HPX.out hb)
                                  have HT2 := Lib.hid hT
                                  have HZ := Lib.hid hZ
                                  have HF2 := Lib.hid (HT2.out.row HO.out.frm HO.out.off.2.1)
                                  clear hno hyes hb hT hZ
                                  obtain ⟨k0, k1, k2, z0, z1, z2, ks⟩ := form_facts HF2.out
                                  have hne : b + 1 ≠ wq7.heap.size := Nat.ne_of_lt ks
                                  go_wp2
                                  have HRR := Lib.hid (Kept.row ((Kept.refl (put3 wq7 (b + 1) ⟨fo, fx, fy⟩)).alloc (formO fo fx fy)) (put3_row HF2.out ⟨fo, fx, fy⟩))
                                  have HE := Lib.hid (gex_kept (HO.out.end2 HT2.out ⟨fo, fx, fy⟩) ((Kept.refl (put3 wq7 (b + 1) ⟨fo, fx, fy⟩)).alloc (formO fo fx fy)))
                                  clear k0 k1 k2 z0 z1 z2 ks hne
                                  change bodyPost _ _ _ _ _ ((put3 wq7 (b + 1) ⟨fo, fx, fy⟩).alloc (formO fo fx fy))
                                  generalize (put3 wq7 (b + 1) ⟨fo, fx, fy⟩).alloc (formO fo fx fy) = w99 at *
                                  have gg := form_facts HRR.out
                                  have k0 := gg.1
                                  have k1 := gg.2.1
                                  have k2 := gg.2.2.1
                                  clear gg
                                  exact bodyPost_ret (v := formV ⟨fo, fx, fy⟩) (by simp [results, Tryz.results44, go_sem, formV, k0, k1, k2]) rfl ⟨⟨fo, fx, fy⟩, L1, rfl, HE.out, rzA_of (by rw [HNX.out]; exact HZ.out)⟩
                                | false =>
                                  have HPY : Hid (∀ m, m < 8 → cB L o x y (ndAt L x) (ndAt L y) m = false) := fun m hm => by
                                    by_cases e : m = 7
                                    · rw [e]; exact hb
                                    · exact HPX.out m (by omega)
                                  clear HPX
                                  have HPX := HPY
                                  clear HPY
                                  have HK := Lib.hid ((hno hb).alloc (.cells #[.int .u8 fo, .int .i64 fx, .int .i64 fy] 81))
                                  clear hno hyes hb
                                  go_wp2
                                  have HO2 := Lib.hid (HO.out.then HK.out)
                                  have HROWT := Lib.hid (HK.out.row HROW1.out)
                                  clear HO HROW1 HK
                                  have HO := HO2
                                  have HROW1 := HROWT
                                  clear HO2 HROWT
                                  generalize wq7.alloc (.cells #[.int .u8 fo, .int .i64 fx, .int .i64 fy] 81) = wa7 at *
                                  as_aux_lemma =>
                                    rw [rounds_succ]
                                    have cf : wa7.cell? ⟨br1, 2, none⟩ = some (.func (.func 106) #[] #[]) := by rw [cell_of_row _ _ _ _ _ _ HROW1.out]; rfl
                                    obtain ⟨f0, f1, f2, f3, f4, f5, f6, f7, f8, f9, f10, f11, f12, f13, f14, f15⟩ := ask_facts HO.out.ask
                                    go_wp2_with fail
                                    refine (HR.out.r8 c _ HO.out.gr HO.out.laid).mono ?_
                                    rintro e wq8 ⟨⟨fo, fx, fy⟩, rfl, hno, hyes⟩
                                    simp only [formV]
                                    clear cf f0 f1 f2 f3 f4 f5 f6 f7 f8 f9 f10 f11 f12 f13 f14 f15
                                    cases hb : cB L o x y (ndAt L x) (ndAt L y) 8 with
                                    | true =>
                                      obtain ⟨L1, ⟨a1, c1, hT⟩, hZ⟩ := hyes hb
                                      have HNX := Lib.hid (nx_at (L := L) (f := ⟨o, x, y⟩) HF.out.ne (j := 8) (by decide) HPX.out hb)
                                      have HT2 := Lib.hid hT
                                      have HZ := Lib.hid hZ
                                      have HF2 := Lib.hid (HT2.out.row HO.out.frm HO.out.off.2.1)
                                      clear hno hyes hb hT hZ
                                      obtain ⟨k0, k1, k2, z0, z1, z2, ks⟩ := form_facts HF2.out
                                      have hne : b + 1 ≠ wq8.heap.size := Nat.ne_of_lt ks
                                      go_wp2
                                      have HRR := Lib.hid (Kept.row ((Kept.refl (put3 wq8 (b + 1) ⟨fo, fx, fy⟩)).alloc (formO fo fx fy)) (put3_row HF2.out ⟨fo, fx, fy⟩))
                                      have HE := Lib.hid (gex_kept (HO.out.end2 HT2.out ⟨fo, fx, fy⟩) ((Kept.refl (put3 wq8 (b + 1) ⟨fo, fx, fy⟩)).alloc (formO fo fx fy)))
                                      clear k0 k1 k2 z0 z1 z2 ks hne
                                      change bodyPost _ _ _ _ _ ((put3 wq8 (b + 1) ⟨fo, fx, fy⟩).alloc (formO fo fx fy))
                                      generalize (put3 wq8 (b + 1) ⟨fo, fx, fy⟩).alloc (formO fo fx fy) = w99 at *
                                      have gg := form_facts HRR.out
                                      have k0 := gg.1
                                      have k1 := gg.2.1
                                      have k2 := gg.2.2.1
                                      clear gg
                                      exact bodyPost_ret (v := formV ⟨fo, fx, fy⟩) (by simp [results, Tryz.results44, go_sem, formV, k0, k1, k2]) rfl ⟨⟨fo, fx, fy⟩, L1, rfl, HE.out, rzA_of (by rw [HNX.out]; exact HZ.out)⟩
                                    | false =>
                                      have HPY : Hid (∀ m, m < 9 → cB L o x y (ndAt L x) (ndAt L y) m = false) := fun m hm => by
                                        by_cases e : m = 8
                                        · rw [e]; exact hb
                                        · exact HPX.out m (by omega)
                                      clear HPX
                                      have HPX := HPY
                                      clear HPY
                                      have HK := Lib.hid ((hno hb).alloc (.cells #[.int .u8 fo, .int .i64 fx, .int .i64 fy] 81))
                                      clear hno hyes hb
                                      go_wp2
                                      have HO2 := Lib.hid (HO.out.then HK.out)
                                      have HROWT := Lib.hid (HK.out.row HROW1.out)
                                      clear HO HROW1 HK
                                      have HO := HO2
                                      have HROW1 := HROWT
                                      clear HO2 HROWT
                                      generalize wq8.alloc (.cells #[.int .u8 fo, .int .i64 fx, .int .i64 fy] 81) = wa8 at *
                                      as_aux_lemma =>
                                        rw [rounds_succ]
                                        have cf : wa8.cell? ⟨br1, 3, none⟩ = some (.func (.func 107) #[] #[]) := by rw [cell_of_row _ _ _ _ _ _ HROW1.out]; rfl
                                        obtain ⟨f0, f1, f2, f3, f4, f5, f6, f7, f8, f9, f10, f11, f12, f13, f14, f15⟩ := ask_facts HO.out.ask
                                        go_wp2_with fail
                                        refine (HR.out.r9 c _ HO.out.gr HO.out.laid).mono ?_
                                        rintro e wq9 ⟨⟨fo, fx, fy⟩, rfl, hno, hyes⟩
                                        simp only [formV]
                                        clear cf f0 f1 f2 f3 f4 f5 f6 f7 f8 f9 f10 f11 f12 f13 f14 f15
                                        cases hb : cB L o x y (ndAt L x) (ndAt L y) 9 with
                                        | true =>
                                          obtain ⟨L1, ⟨a1, c1, hT⟩, hZ⟩ := hyes hb
                                          have HNX := Lib.hid (nx_at (L := L) (f := ⟨o, x, y⟩) HF.out.ne (j := 9) (by decide) HPX.out hb)
                                          have HT2 := Lib.hid hT
                                          have HZ := Lib.hid hZ
                                          have HF2 := Lib.hid (HT2.out.row HO.out.frm HO.out.off.2.1)
                                          clear hno hyes hb hT hZ
                                          obtain ⟨k0, k1, k2, z0, z1, z2, ks⟩ := form_facts HF2.out
                                          have hne : b + 1 ≠ wq9.heap.size := Nat.ne_of_lt ks
                                          go_wp2
                                          have HRR := Lib.hid (Kept.row ((Kept.refl (put3 wq9 (b + 1) ⟨fo, fx, fy⟩)).alloc (formO fo fx fy)) (put3_row HF2.out ⟨fo, fx, fy⟩))
                                          have HE := Lib.hid (gex_kept (HO.out.end2 HT2.out ⟨fo, fx, fy⟩) ((Kept.refl (put3 wq9 (b + 1) ⟨fo, fx, fy⟩)).alloc (formO fo fx fy)))
                                          clear k0 k1 k2 z0 z1 z2 ks hne
                                          change bodyPost _ _ _ _ _ ((put3 wq9 (b + 1) ⟨fo, fx, fy⟩).alloc (formO fo fx fy))
                                          generalize (put3 wq9 (b + 1) ⟨fo, fx, fy⟩).alloc (formO fo fx fy) = w99 at *
                                          have gg := form_facts HRR.out
                                          have k0 := gg.1
                                          have k1 := gg.2.1
                                          have k2 := gg.2.2.1
                                          clear gg
                                          exact bodyPost_ret (v := formV ⟨fo, fx, fy⟩) (by simp [results, Tryz.results44, go_sem, formV, k0, k1, k2]) rfl ⟨⟨fo, fx, fy⟩, L1, rfl, HE.out, rzA_of (by rw [HNX.out]; exact HZ.out)⟩
                                        | false =>
                                          have HPY : Hid (∀ m, m < 10 → cB L o x y (ndAt L x) (ndAt L y) m = false) := fun m hm => by
                                            by_cases e : m = 9
                                            · rw [e]; exact hb
                                            · exact HPX.out m (by omega)
                                          clear HPX
                                          have HPX := HPY
                                          clear HPY
                                          have HK := Lib.hid ((hno hb).alloc (.cells #[.int .u8 fo, .int .i64 fx, .int .i64 fy] 81))
                                          clear hno hyes hb
                                          go_wp2
                                          have HO2 := Lib.hid (HO.out.then HK.out)
                                          have HROWT := Lib.hid (HK.out.row HROW1.out)
                                          clear HO HROW1 HK
                                          have HO := HO2
                                          have HROW1 := HROWT
                                          clear HO2 HROWT
                                          generalize wq9.alloc (.cells #[.int .u8 fo, .int .i64 fx, .int .i64 fy] 81) = wa9 at *
                                          as_aux_lemma =>
                                            rw [rounds_succ]
                                            have cf : wa9.cell? ⟨br1, 4, none⟩ = some (.func (.func 109) #[] #[]) := by rw [cell_of_row _ _ _ _ _ _ HROW1.out]; rfl
                                            obtain ⟨f0, f1, f2, f3, f4, f5, f6, f7, f8, f9, f10, f11, f12, f13, f14, f15⟩ := ask_facts HO.out.ask
                                            go_wp2_with fail
                                            refine (HR.out.r10 c _ HO.out.gr HO.out.laid).mono ?_
                                            rintro e wq10 ⟨⟨fo, fx, fy⟩, rfl, hno, hyes⟩
                                            simp only [formV]
                                            clear cf f0 f1 f2 f3 f4 f5 f6 f7 f8 f9 f10 f11 f12 f13 f14 f15
                                            cases hb : cB L o x y (ndAt L x) (ndAt L y) 10 with
                                            | true =>
                                              obtain ⟨L1, ⟨a1, c1, hT⟩, hZ⟩ := hyes hb
                                              have HNX := Lib.hid (nx_at (L := L) (f := ⟨o, x, y⟩) HF.out.ne (j := 10) (by decide) HPX.out hb)
                                              have HT2 := Lib.hid hT
                                              have HZ := Lib.hid hZ
                                              have HF2 := Lib.hid (HT2.out.row HO.out.frm HO.out.off.2.1)
                                              clear hno hyes hb hT hZ
                                              obtain ⟨k0, k1, k2, z0, z1, z2, ks⟩ := form_facts HF2.out
                                              have hne : b + 1 ≠ wq10.heap.size := Nat.ne_of_lt ks
                                              go_wp2
                                              have HRR := Lib.hid (Kept.row ((Kept.refl (put3 wq10 (b + 1) ⟨fo, fx, fy⟩)).alloc (formO fo fx fy)) (put3_row HF2.out ⟨fo, fx, fy⟩))
                                              have HE := Lib.hid (gex_kept (HO.out.end2 HT2.out ⟨fo, fx, fy⟩) ((Kept.refl (put3 wq10 (b + 1) ⟨fo, fx, fy⟩)).alloc (formO fo fx fy)))
                                              clear k0 k1 k2 z0 z1 z2 ks hne
                                              change bodyPost _ _ _ _ _ ((put3 wq10 (b + 1) ⟨fo, fx, fy⟩).alloc (formO fo fx fy))
                                              generalize (put3 wq10 (b + 1) ⟨fo, fx, fy⟩).alloc (formO fo fx fy) = w99 at *
                                              have gg := form_facts HRR.out
                                              have k0 := gg.1
                                              have k1 := gg.2.1
                                              have k2 := gg.2.2.1
                                              clear gg
                                              exact bodyPost_ret (v := formV ⟨fo, fx, fy⟩) (by simp [results, Tryz.results44, go_sem, formV, k0, k1, k2]) rfl ⟨⟨fo, fx, fy⟩, L1, rfl, HE.out, rzA_of (by rw [HNX.out]; exact HZ.out)⟩
                                            | false =>
                                              have HPY : Hid (∀ m, m < 11 → cB L o x y (ndAt L x) (ndAt L y) m = false) := fun m hm => by
                                                by_cases e : m = 10
                                                · rw [e]; exact hb
                                                · exact HPX.out m (by omega)
                                              clear HPX
                                              have HPX := HPY
                                              clear HPY
                                              have HK := Lib.hid ((hno hb).alloc (.cells #[.int .u8 fo, .int .i64 fx, .int .i64 fy] 81))
                                              clear hno hyes hb
                                              go_wp2
                                              have HO2 := Lib.hid (HO.out.then HK.out)
                                              have HROWT := Lib.hid (HK.out.row HROW1.out)
                                              clear HO HROW1 HK
                                              have HO := HO2
                                              have HROW1 := HROWT
                                              clear HO2 HROWT
                                              generalize wq10.alloc (.cells #[.int .u8 fo, .int .i64 fx, .int .i64 fy] 81) = wa10 at *
                                              rw [rounds_succ]
                                              go_wp2
                                              rw [rounds_succ]
                                              go_wp2_with fail
                                              refine (rows_tru _).mono ?_
                                              rintro e wr2 ⟨br2, rfl, hrow2, hbr2, hk2⟩
                                              have HO2 := Lib.hid (HO.out.then hk2)
                                              clear hk2 HO
                                              have HO := HO2
                                              clear HO2
                                              have HROW2 := Lib.hid hrow2
                                              clear hrow2 hbr2
                                              go_wp2
                                              refine wp_loop_rounds 6 ?_
                                              as_aux_lemma =>
                                                rw [rounds_succ]
                                                have cf : wr2.cell? ⟨br2, 0, none⟩ = some (.func (.func 110) #[] #[]) := by rw [cell_of_row _ _ _ _ _ _ HROW2.out]; rfl
                                                obtain ⟨f0, f1, f2, f3, f4, f5, f6, f7, f8, f9, f10, f11, f12, f13, f14, f15⟩ := ask_facts HO.out.ask
                                                go_wp2_with fail
                                                refine (HR.out.r11 c _ HO.out.gr HO.out.laid).mono ?_
                                                rintro e wq11 ⟨⟨fo, fx, fy⟩, rfl, hno, hyes⟩
                                                simp only [formV]
                                                clear cf f0 f1 f2 f3 f4 f5 f6 f7 f8 f9 f10 f11 f12 f13 f14 f15
                                                cases hb : cB L o x y (ndAt L x) (ndAt L y) 11 with
                                                | true =>
                                                  obtain ⟨L1, ⟨a1, c1, hT⟩, hZ⟩ := hyes hb
                                                  have HNX := Lib.hid (nx_at (L := L) (f := ⟨o, x, y⟩) HF.out.ne (j := 11) (by decide) HPX.out hb)
                                                  have HT2 := Lib.hid hT
                                                  have HZ := Lib.hid hZ
                                                  have HF2 := Lib.hid (HT2.out.row HO.out.frm HO.out.off.2.1)
                                                  clear hno hyes hb hT hZ
                                                  obtain ⟨k0, k1, k2, z0, z1, z2, ks⟩ := form_facts HF2.out
                                                  have hne : b + 1 ≠ wq11.heap.size := Nat.ne_of_lt ks
                                                  go_wp2
                                                  have HRR := Lib.hid (Kept.row ((Kept.refl (put3 wq11 (b + 1) ⟨fo, fx, fy⟩)).alloc (formO fo fx fy)) (put3_row HF2.out ⟨fo, fx, fy⟩))
                                                  have HE := Lib.hid (gex_kept (HO.out.end2 HT2.out ⟨fo, fx, fy⟩) ((Kept.refl (put3 wq11 (b + 1) ⟨fo, fx, fy⟩)).alloc (formO fo fx fy)))
                                                  clear k0 k1 k2 z0 z1 z2 ks hne
                                                  change bodyPost _ _ _ _ _ ((put3 wq11 (b + 1) ⟨fo, fx, fy⟩).alloc (formO fo fx fy))
                                                  generalize (put3 wq11 (b + 1) ⟨fo, fx, fy⟩).alloc (formO fo fx fy) = w99 at *
                                                  have gg := form_facts HRR.out
                                                  have k0 := gg.1
                                                  have k1 := gg.2.1
                                                  have k2 := gg.2.2.1
                                                  clear gg
                                                  exact bodyPost_ret (v := formV ⟨fo, fx, fy⟩) (by simp [results, Tryz.results44, go_sem, formV, k0, k1, k2]) rfl ⟨⟨fo, fx, fy⟩, L1, rfl, HE.out, rzA_of (by rw [HNX.out]; exact HZ.out)⟩
                                                | false =>
                                                  have HPY : Hid (∀ m, m < 12 → cB L o x y (ndAt L x) (ndAt L y) m = false) := fun m hm => by
                                                    by_cases e : m = 11
                                                    · rw [e]; exact hb
                                                    · exact HPX.out m (by omega)
                                                  clear HPX
                                                  have HPX := HPY
                                                  clear HPY
                                                  have HK := Lib.hid ((hno hb).alloc (.cells #[.int .u8 fo, .int .i64 fx, .int .i64 fy] 81))
                                                  clear hno hyes hb
                                                  go_wp2
                                                  have HO2 := Lib.hid (HO.out.then HK.out)
                                                  have HROWT := Lib.hid (HK.out.row HROW2.out)
                                                  clear HO HROW2 HK
                                                  have HO := HO2
                                                  have HROW2 := HROWT
                                                  clear HO2 HROWT
                                                  generalize wq11.alloc (.cells #[.int .u8 fo, .int .i64 fx, .int .i64 fy] 81) = wa11 at *
                                                  as_aux_lemma =>
                                                    rw [rounds_succ]
                                                    have cf : wa11.cell? ⟨br2, 1, none⟩ = some (.func (.func 111) #[] #[]) := by rw [cell_of_row _ _ _ _ _ _ HROW2.out]; rfl
                                                    obtain ⟨f0, f1, f2, f3, f4, f5, f6, f7, f8, f9, f10, f11, f12, f13, f14, f15⟩ := ask_facts HO.out.ask
                                                    go_wp2_with fail
                                                    refine (HR.out.r12 c _ HO.out.gr HO.out.laid).mono ?_
                                                    rintro e wq12 ⟨⟨fo, fx, fy⟩, rfl, hno, hyes⟩
                                                    simp only [formV]
                                                    clear cf f0 f1 f2 f3 f4 f5 f6 f7 f8 f9 f10 f11 f12 f13 f14 f15
                                                    cases hb : cB L o x y (ndAt L x) (ndAt L y) 12 with
                                                    | true =>
                                                      obtain ⟨L1, ⟨a1, c1, hT⟩, hZ⟩ := hyes hb
                                                      have HNX := Lib.hid (nx_at (L := L) (f := ⟨o, x, y⟩) HF.out.ne (j := 12) (by decide) HPX.out hb)
                                                      have HT2 := Lib.hid hT
                                                      have HZ := Lib.hid hZ
                                                      have HF2 := Lib.hid (HT2.out.row HO.out.frm HO.out.off.2.1)
                                                      clear hno hyes hb hT hZ
                                                      obtain ⟨k0, k1, k2, z0, z1, z2, ks⟩ := form_facts HF2.out
                                                      have hne : b + 1 ≠ wq12.heap.size := Nat.ne_of_lt ks
                                                      go_wp2
                                                      have HRR := Lib.hid (Kept.row ((Kept.refl (put3 wq12 (b + 1) ⟨fo, fx, fy⟩)).alloc (formO fo fx fy)) (put3_row HF2.out ⟨fo, fx, fy⟩))
                                                      have HE := Lib.hid (gex_kept (HO.out.end2 HT2.out ⟨fo, fx, fy⟩) ((Kept.refl (put3 wq12 (b + 1) ⟨fo, fx, fy⟩)).alloc (formO fo fx fy)))
                                                      clear k0 k1 k2 z0 z1 z2 ks hne
                                                      change bodyPost _ _ _ _ _ ((put3 wq12 (b + 1) ⟨fo, fx, fy⟩).alloc (formO fo fx fy))
                                                      generalize (put3 wq12 (b + 1) ⟨fo, fx, fy⟩).alloc (formO fo fx fy) = w99 at *
                                                      have gg := form_facts HRR.out
                                                      have k0 := gg.1
                                                      have k1 := gg.2.1
                                                      have k2 := gg.2.2.1
                                                      clear gg
                                                      exact bodyPost_ret (v := formV ⟨fo, fx, fy⟩) (by simp [results, Tryz.results44, go_sem, formV, k0, k1, k2]) rfl ⟨⟨fo, fx, fy⟩, L1, rfl, HE.out, rzA_of (by rw [HNX.out]; exact HZ.out)⟩
                                                    | false =>
                                                      have HPY : Hid (∀ m, m < 13 → cB L o x y (ndAt L x) (ndAt L y) m = false) := fun m hm => by
                                                        by_cases e : m = 12
                                                        · rw [e]; exact hb
                                                        · exact HPX.out m (by omega)
                                                      clear HPX
                                                      have HPX := HPY
                                                      clear HPY
                                                      have HK := Lib.hid ((hno hb).alloc (.cells #[.int .u8 fo, .int .i64 fx, .int .i64 fy] 81))
                                                      clear hno hyes hb
                                                      go_wp2
                                                      have HO2 := Lib.hid (HO.out.then HK.out)
                                                      have HROWT := Lib.hid (HK.out.row HROW2.out)
                                                      clear HO HROW2 HK
                                                      have HO := HO2
                                                      have HROW2 := HROWT
                                                      clear HO2 HROWT
                                                      generalize wq12.alloc (.cells #[.int .u8 fo, .int .i64 fx, .int .i64 fy] 81) = wa12 at *
                                                      as_aux_lemma =>
                                                        rw [rounds_succ]
                                                        have cf : wa12.cell? ⟨br2, 2, none⟩ = some (.func (.func 112) #[] #[]) := by rw [cell_of_row _ _ _ _ _ _ HROW2.out]; rfl
                                                        obtain ⟨f0, f1, f2, f3, f4, f5, f6, f7, f8, f9, f10, f11, f12, f13, f14, f15⟩ := ask_facts HO.out.ask
                                                        go_wp2_with fail
                                                        refine (HR.out.r13 c _ HO.out.gr HO.out.laid).mono ?_
                                                        rintro e wq13 ⟨⟨fo, fx, fy⟩, rfl, hno, hyes⟩
                                                        simp only [formV]
                                                        clear cf f0 f1 f2 f3 f4 f5 f6 f7 f8 f9 f10 f11 f12 f13 f14 f15
                                                        cases hb : cB L o x y (ndAt L x) (ndAt L y) 13 with
                                                        | true =>
                                                          obtain ⟨L1, ⟨a1, c1, hT⟩, hZ⟩ := hyes hb
                                                          have HNX := Lib.hid (nx_at (L := L) (f := ⟨o, x, y⟩) HF.out.ne (j := 13) (by decide) HPX.out hb)
                                                          have HT2 := Lib.hid hT
                                                          have HZ := Lib.hid hZ
                                                          have HF2 := Lib.hid (HT2.out.row HO.out.frm HO.out.off.2.1)
                                                          clear hno hyes hb hT hZ
                                                          obtain ⟨k0, k1, k2, z0, z1, z2, ks⟩ := form_facts HF2.out
                                                          have hne : b + 1 ≠ wq13.heap.size := Nat.ne_of_lt ks
                                                          go_wp2
                                                          have HRR := Lib.hid (Kept.row ((Kept.refl (put3 wq13 (b + 1) ⟨fo, fx, fy⟩)).alloc (formO fo fx fy)) (put3_row HF2.out ⟨fo, fx, fy⟩))
                                                          have HE := Lib.hid (gex_kept (HO.out.end2 HT2.out ⟨fo, fx, fy⟩) ((Kept.refl (put3 wq13 (b + 1) ⟨fo, fx, fy⟩)).alloc (formO fo fx fy)))
                                                          clear k0 k1 k2 z0 z1 z2 ks hne
                                                          change bodyPost _ _ _ _ _ ((put3 wq13 (b + 1) ⟨fo, fx, fy⟩).alloc (formO fo fx fy))
                                                          generalize (put3 wq13 (b + 1) ⟨fo, fx, fy⟩).alloc (formO fo fx fy) = w99 at *
                                                          have gg := form_facts HRR.out
                                                          have k0 := gg.1
                                                          have k1 := gg.2.1
                                                          have k2 := gg.2.2.1
                                                          clear gg
                                                          exact bodyPost_ret (v := formV ⟨fo, fx, fy⟩) (by simp [results, Tryz.results44, go_sem, formV, k0, k1, k2]) rfl ⟨⟨fo, fx, fy⟩, L1, rfl, HE.out, rzA_of (by rw [HNX.out]; exact HZ.out)⟩
                                                        | false =>
                                                          have HPY : Hid (∀ m, m < 14 → cB L o x y (ndAt L x) (ndAt L y) m = false) := fun m hm => by
                                                            by_cases e : m = 13
                                                            · rw [e]; exact hb
                                                            · exact HPX.out m (by omega)
                                                          clear HPX
                                                          have HPX := HPY
                                                          clear HPY
                                                          have HK := Lib.hid ((hno hb).alloc (.cells #[.int .u8 fo, .int .i64 fx, .int .i64 fy] 81))
                                                          clear hno hyes hb
                                                          go_wp2
                                                          have HO2 := Lib.hid (HO.out.then HK.out)
                                                          have HROWT := Lib.hid (HK.out.row HROW2.out)
                                                          clear HO HROW2 HK
                                                          have HO := HO2
                                                          have HROW2 := HROWT
                                                          clear HO2 HROWT
                                                          generalize wq13.alloc (.cells #[.int .u8 fo, .int .i64 fx, .int .i64 fy] 81) = wa13 at *
                                                          as_aux_lemma =>
                                                            rw [rounds_succ]
                                                            have cf : wa13.cell? ⟨br2, 3, none⟩ = some (.func (.func 114) #[] #[]) := by rw [cell_of_row _ _ _ _ _ _ HROW2.out]; rfl
                                                            obtain ⟨f0, f1, f2, f3, f4, f5, f6, f7, f8, f9, f10, f11, f12, f13, f14, f15⟩ := ask_facts HO.out.ask
                                                            go_wp2_with fail
                                                            refine (HR.out.r14 c _ HO.out.gr HO.out.laid).mono ?_
                                                            rintro e wq14 ⟨⟨fo, fx, fy⟩, rfl, hno, hyes⟩
                                                            simp only [formV]
                                                            clear cf f0 f1 f2 f3 f4 f5 f6 f7 f8 f9 f10 f11 f12 f13 f14 f15
                                                            cases hb : cB L o x y (ndAt L x) (ndAt L y) 14 with
                                                            | true =>
                                                              obtain ⟨L1, ⟨a1, c1, hT⟩, hZ⟩ := hyes hb
                                                              have HNX := Lib.hid (nx_at (L := L) (f := ⟨o, x, y⟩) HF.out.ne (j := 14) (by decide) HPX.out hb)
                                                              have HT2 := Lib.hid hT
                                                              have HZ := Lib.hid hZ
                                                              have HF2 := Lib.hid (HT2.out.row HO.out.frm HO.out.off.2.1)
                                                              clear hno hyes hb hT hZ
                                                              obtain ⟨k0, k1, k2, z0, z1, z2, ks⟩ := form_facts HF2.out
                                                              have hne : b + 1 ≠ wq14.heap.size := Nat.ne_of_lt ks
                                                              go_wp2
                                                              have HRR := Lib.hid (Kept.row ((Kept.refl (put3 wq14 (b + 1) ⟨fo, fx, fy⟩)).alloc (formO fo fx fy)) (put3_row HF2.out ⟨fo, fx, fy⟩))
                                                              have HE := Lib.hid (gex_kept (HO.out.end2 HT2.out ⟨fo, fx, fy⟩) ((Kept.refl (put3 wq14 (b + 1) ⟨fo, fx, fy⟩)).alloc (formO fo fx fy)))
                                                              clear k0 k1 k2 z0 z1 z2 ks hne
                                                              change bodyPost _ _ _ _ _ ((put3 wq14 (b + 1) ⟨fo, fx, fy⟩).alloc (formO fo fx fy))
                                                              generalize (put3 wq14 (b + 1) ⟨fo, fx, fy⟩).alloc (formO fo fx fy) = w99 at *
                                                              have gg := form_facts HRR.out
                                                              have k0 := gg.1
                                                              have k1 := gg.2.1
                                                              have k2 := gg.2.2.1
                                                              clear gg
                                                              exact bodyPost_ret (v := formV ⟨fo, fx, fy⟩) (by simp [results, Tryz.results44, go_sem, formV, k0, k1, k2]) rfl ⟨⟨fo, fx, fy⟩, L1, rfl, HE.out, rzA_of (by rw [HNX.out]; exact HZ.out)⟩
                                                            | false =>
                                                              have HPY : Hid (∀ m, m < 15 → cB L o x y (ndAt L x) (ndAt L y) m = false) := fun m hm => by
                                                                by_cases e : m = 14
                                                                · rw [e]; exact hb
                                                                · exact HPX.out m (by omega)
                                                              clear HPX
                                                              have HPX := HPY
                                                              clear HPY
                                                              have HK := Lib.hid ((hno hb).alloc (.cells #[.int .u8 fo, .int .i64 fx, .int .i64 fy] 81))
                                                              clear hno hyes hb
                                                              go_wp2
                                                              have HO2 := Lib.hid (HO.out.then HK.out)
                                                              have HROWT := Lib.hid (HK.out.row HROW2.out)
                                                              clear HO HROW2 HK
                                                              have HO := HO2
                                                              have HROW2 := HROWT
                                                              clear HO2 HROWT
                                                              generalize wq14.alloc (.cells #[.int .u8 fo, .int .i64 fx, .int .i64 fy] 81) = wa14 at *
                                                              as_aux_lemma =>
                                                                rw [rounds_succ]
                                                                have cf : wa14.cell? ⟨br2, 4, none⟩ = some (.func (.func 115) #[] #[]) := by rw [cell_of_row _ _ _ _ _ _ HROW2.out]; rfl
                                                                obtain ⟨f0, f1, f2, f3, f4, f5, f6, f7, f8, f9, f10, f11, f12, f13, f14, f15⟩ := ask_facts HO.out.ask
                                                                go_wp2_with fail
                                                                refine (HR.out.r15 c _ HO.out.gr HO.out.laid).mono ?_
                                                                rintro e wq15 ⟨⟨fo, fx, fy⟩, rfl, hno, hyes⟩
                                                                simp only [formV]
                                                                clear cf f0 f1 f2 f3 f4 f5 f6 f7 f8 f9 f10 f11 f12 f13 f14 f15
                                                                cases hb : cB L o x y (ndAt L x) (ndAt L y) 15 with
                                                                | true =>
                                                                  obtain ⟨L1, ⟨a1, c1, hT⟩, hZ⟩ := hyes hb
                                                                  have HNX := Lib.hid (nx_at (L := L) (f := ⟨o, x, y⟩) HF.out.ne (j := 15) (by decide) HPX.out hb)
                                                                  have HT2 := Lib.hid hT
                                                                  have HZ := Lib.hid hZ
                                                                  have HF2 := Lib.hid (HT2.out.row HO.out.frm HO.out.off.2.1)
                                                                  clear hno hyes hb hT hZ
                                                                  obtain ⟨k0, k1, k2, z0, z1, z2, ks⟩ := form_facts HF2.out
                                                                  have hne : b + 1 ≠ wq15.heap.size := Nat.ne_of_lt ks
                                                                  go_wp2
                                                                  have HRR := Lib.hid (Kept.row ((Kept.refl (put3 wq15 (b + 1) ⟨fo, fx, fy⟩)).alloc (formO fo fx fy)) (put3_row HF2.out ⟨fo, fx, fy⟩))
                                                                  have HE := Lib.hid (gex_kept (HO.out.end2 HT2.out ⟨fo, fx, fy⟩) ((Kept.refl (put3 wq15 (b + 1) ⟨fo, fx, fy⟩)).alloc (formO fo fx fy)))
                                                                  clear k0 k1 k2 z0 z1 z2 ks hne
                                                                  change bodyPost _ _ _ _ _ ((put3 wq15 (b + 1) ⟨fo, fx, fy⟩).alloc (formO fo fx fy))
                                                                  generalize (put3 wq15 (b + 1) ⟨fo, fx, fy⟩).alloc (formO fo fx fy) = w99 at *
                                                                  have gg := form_facts HRR.out
                                                                  have k0 := gg.1
                                                                  have k1 := gg.2.1
                                                                  have k2 := gg.2.2.1
                                                                  clear gg
                                                                  exact bodyPost_ret (v := formV ⟨fo, fx, fy⟩) (by simp [results, Tryz.results44, go_sem, formV, k0, k1, k2]) rfl ⟨⟨fo, fx, fy⟩, L1, rfl, HE.out, rzA_of (by rw [HNX.out]; exact HZ.out)⟩
                                                                | false =>
                                                                  have HPY : Hid (∀ m, m < 16 → cB L o x y (ndAt L x) (ndAt L y) m = false) := fun m hm => by
                                                                    by_cases e : m = 15
                                                                    · rw [e]; exact hb
                                                                    · exact HPX.out m (by omega)
                                                                  clear HPX
                                                                  have HPX := HPY
                                                                  clear HPY
                                                                  have HK := Lib.hid ((hno hb).alloc (.cells #[.int .u8 fo, .int .i64 fx, .int .i64 fy] 81))
                                                                  clear hno hyes hb
                                                                  go_wp2
                                                                  have HO2 := Lib.hid (HO.out.then HK.out)
                                                                  have HROWT := Lib.hid (HK.out.row HROW2.out)
                                                                  clear HO HROW2 HK
                                                                  have HO := HO2
                                                                  have HROW2 := HROWT
                                                                  clear HO2 HROWT
                                                                  generalize wq15.alloc (.cells #[.int .u8 fo, .int .i64 fx, .int .i64 fy] 81) = wa15 at *
                                                                  rw [rounds_succ]
                                                                  go_wp2
                                                                  rw [rounds_succ]
                                                                  as_aux_lemma =>
                                                                    have gg := form_facts HO.out.box
                                                                    have g0 := gg.1
                                                                    have g1 := gg.2.1
                                                                    have g2 := gg.2.2.1
                                                                    clear gg
                                                                    go_wp2_with fail
                                                                    change Calls _ _ #[_, (bN o x y).val] _ _
                                                                    have ib : (bN o x y).Ok := ok_bin HF.out.lo HF.out.hi (has_in (Nat.le_trans HLEN.out (by decide)) HF.out.x) (has_in (Nat.le_trans HLEN.out (by decide)) HF.out.y)
                                                                    refine (add_any HO.out.gr (bN o x y) ib HO.out.laid.laid (Nat.le_trans HLEN.out (by decide))).mono ?_
                                                                    rintro e w90 ⟨rfl, a1, c1, h1, h2, h3⟩
                                                                    have HT := Lib.hid (show GTo B g m sa wa15 w90 a1 c1 (addL L (bN o x y)) from ⟨h1, h2, h3⟩)
                                                                    clear h1 h2 h3 ib g0 g1 g2
                                                                    go_wp2_with fail
                                                                    refine (is_any _ _).mono ?_
                                                                    rintro e w91 ⟨rfl, hk⟩
                                                                    simp only [formV]
                                                                    have HT2 := Lib.hid (HT.out.thenKept hk)
                                                                    have HF2 := Lib.hid (HT2.out.row HO.out.frm HO.out.off.2.1)
                                                                    have HNX := Lib.hid (nx_none (L := L) (f := ⟨o, x, y⟩) HF.out.ne HPX.out)
                                                                    clear hk HT
                                                                    obtain ⟨k0, k1, k2, z0, z1, z2, ks⟩ := form_facts HF2.out
                                                                    go_wp2
                                                                    have HRR := Lib.hid (put3_row HF2.out ⟨0, addR L (bN o x y), 0⟩)
                                                                    have HE := Lib.hid (HO.out.end2 HT2.out ⟨0, addR L (bN o x y), 0⟩)
                                                                    clear k0 k1 k2 z0 z1 z2 ks
                                                                    change bodyPost _ _ _ _ _ (put3 w91 (b + 1) ⟨0, addR L (bN o x y), 0⟩)
                                                                    generalize put3 w91 (b + 1) ⟨0, addR L (bN o x y), 0⟩ = w99 at *
                                                                    obtain ⟨k0, k1, k2, _, _, _, ks⟩ := form_facts HRR.out
                                                                    exact bodyPost_ret (v := formV ⟨0, addR L (bN o x y), 0⟩) (by simp [results, Tryz.results44, go_sem, formV, k0, k1, k2]) rfl ⟨⟨0, addR L (bN o x y), 0⟩, _, rfl, HE.out, by rw [HNX.out]; exact ⟨rfl, rfl⟩⟩
end Go.Proofs.YtgkjdmojbndicaaGreatDoor
