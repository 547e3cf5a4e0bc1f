/- Package asm as it has landed: Const; a jump's closure; jumps. -/
import Derived.Test.YtoecanjhkbeemaaDoorAsmConst
import Derived.Test.YtoecanjhkbeemaaDoorInstKinds
import Derived.Deep.DeepCutAuto
namespace Go.Proofs.YtoecanjhkbeemaaDoor.A7
open Go.RowKit Go.Maps
set_option linter.unusedVariables false
section
variable {w w' : World} {b mp : Nat} {wv jv : Value} {vs : List Value} {G K : Nat → Prop} {q : AS}
theorem Left.after {w1 : World} (g : Below w.heap.size w w1) (h : Left w1 b G K q w') : Left w b G K q w' := by
  obtain ⟨G', hA, T, low⟩ := h
  exact ⟨G', hA, (Turns.of_bel g).trans T (fun _ e => .inl e), fun i hi => (low i hi).imp id fun e => Nat.le_trans g.size e⟩
theorem AsmB.lt (h : AsmB w b G K q) : ∀ i, G i → i < w.heap.size := by obtain ⟨mp, wv, jv, vs, h⟩ := h; exact h.lt
theorem AsmB.klt (h : AsmB w b G K q) : ∀ i, K i → i < w.heap.size := by obtain ⟨mp, wv, jv, vs, h⟩ := h; exact h.klt
theorem AsmB.sub (h : AsmB w b G K q) : ∀ i, G i → K i := by obtain ⟨mp, wv, jv, vs, h⟩ := h; exact h.sub
theorem AsmB.far (h : AsmB w b G K q) : ∀ i, G i → ¬ isTab i := by obtain ⟨mp, wv, jv, vs, h⟩ := h; exact h.far
theorem AsmB.tab (h : AsmB w b G K q) : I2.Tab w := by obtain ⟨mp, wv, jv, vs, h⟩ := h; exact h.tab
theorem AsmB.ok (h : AsmB w b G K q) : AOk q := by obtain ⟨mp, wv, jv, vs, h⟩ := h; exact h.ok
theorem cX_b (rd u : Int) (i : Nat) (hr : 0 ≤ rd ∧ rd ≤ 255) (hu : 0 ≤ u ∧ u < 4294967296) : XB (cX rd u i) := by
  unfold cX
  split
  · rename_i h
    have : u ≤ 16383 ∨ 4294950912 ≤ u := of_decide_eq_true h
    exact ⟨by simp only; omega, hr, by simp only; omega, by simp only; omega, by unfold sgn; simp only; split <;> omega⟩
  · split
    · exact ⟨by simp only; omega, hr, by simp only; omega, by simp only; omega, by simp only; omega⟩
    · exact ⟨by simp only; omega, hr, hr, by simp only; omega, by simp only; omega⟩
theorem cX_may (rd u : Int) (i : Nat) (hr : 0 ≤ rd ∧ rd ≤ 255) (hu : 0 ≤ u ∧ u < 4294967296) : (cX rd u i).may = decide (rd ≤ 31) := by
  unfold cX XI.may
  split
  · rename_i h
    have h1 : u ≤ 16383 ∨ 4294950912 ≤ u := of_decide_eq_true h
    simp only
    rw [I2.mayKa_t _ _ _ _ _ hr.1 (by decide) (by decide) (by unfold I2.Ka; omega)]
    refine decide_eq_decide.2 ⟨fun h => h.1, fun h => ⟨h, by decide, rfl, ?_⟩⟩
    unfold sgn; split <;> omega
  · split
    · simp only
      rw [I2.may3_t _ _ _ _ _ hr.1 (by decide) (by decide) rfl]
      exact decide_eq_decide.2 ⟨fun h => h.1, fun h => ⟨h, rfl, rfl, by omega⟩⟩
    · simp only
      rw [I2.mayKa_t _ _ _ _ _ hr.1 hr.1 (by decide) (by unfold I2.Ka; omega)]
      exact decide_eq_decide.2 ⟨fun h => h.1, fun h => ⟨h, h, rfl, by omega⟩⟩
def AS.const (q : AS) (rd u : Int) : AS := q.adds (fun i => (cX rd u i).word) (cK u)
theorem cK_le (u : Int) : cK u ≤ 2 := by unfold cK; split <;> (try split) <;> omega
theorem cK_pos (u : Int) : 0 < cK u := by unfold cK; split <;> (try split) <;> omega
theorem Const_yes (rd u : Int) (h : AsmB w b G K q) (hr : 0 ≤ rd ∧ rd ≤ 31) (hu : 0 ≤ u ∧ u < 4294967296) (hn : q.n + 2 ≤ 100000) :
    Calls Tryd.prog 15 #[.pointer (some ⟨b, 0, none⟩), .int .u8 rd, .int .u32 u] w fun e w' => e = .returned (.int .i64 0) ∧ Left w b G K (q.const rd u) w' := by
  have H := Lib.hid h
  have HR : Hid (0 ≤ rd ∧ rd ≤ 255) := ⟨hr.1, by omega⟩
  have HU := Lib.hid hu
  have HL := Lib.hid hr.2
  have HN : Hid (q.n + cK u ≤ 100000) := by have := cK_le u; unfold Hid; omega
  clear h hr hu hn
  go_enter Tryd.func15, Tryd.ntmps15
  go_wp2_with fail
  refine (constant_at rd u w HR.out HU.out).mono ?_; rintro e w1 ⟨l, rfl, I1, g1⟩
  have I1 := Lib.hid (I1.mono H.out.lt)
  have G1 := Lib.hid g1
  have H1 := Lib.hid (H.out.bel g1)
  clear g1
  go_wp2_with fail
  refine (Put_yes H1.out I1.out (fun i hi => cX_b rd u i HR.out HU.out) HN.out (fun i hi => by rw [cX_may rd u i HR.out HU.out]; exact decide_eq_true HL.out)).mono ?_; rintro e w2 ⟨rfl, L⟩
  have L := Lib.hid (Left.after G1.out L)
  go_wp2_with fail
  go_ret
  exact ⟨rfl, L.out⟩
theorem Const_bad (rd u : Int) (h : AsmB w b G K q) (hr : 31 < rd ∧ rd ≤ 255) (hu : 0 ≤ u ∧ u < 4294967296) (hn : q.n + 2 ≤ 100000) :
    Calls Tryd.prog 15 #[.pointer (some ⟨b, 0, none⟩), .int .u8 rd, .int .u32 u] w fun e w' => e = .returned (.int .i64 2) ∧ Left w b G K q w' := by
  have H := Lib.hid h
  have HR : Hid (0 ≤ rd ∧ rd ≤ 255) := ⟨by omega, hr.2⟩
  have HU := Lib.hid hu
  have HL : Hid (31 < rd) := hr.1
  have HN : Hid (q.n + cK u ≤ 100000) := by have := cK_le u; unfold Hid; omega
  clear h hr hu hn
  go_enter Tryd.func15, Tryd.ntmps15
  go_wp2_with fail
  refine (constant_at rd u w HR.out HU.out).mono ?_; rintro e w1 ⟨l, rfl, I1, g1⟩
  have I1 := Lib.hid (I1.mono H.out.lt)
  have G1 := Lib.hid g1
  have H1 := Lib.hid (H.out.bel g1)
  clear g1
  go_wp2_with fail
  refine (Put_bad H1.out I1.out (fun i hi => cX_b rd u i HR.out HU.out) HN.out (cK_pos u) (by rw [cX_may rd u 0 HR.out HU.out]; exact decide_eq_false (Int.not_le.2 HL.out))).mono ?_; rintro e w2 ⟨rfl, L⟩
  have L := Lib.hid (Left.after G1.out L)
  go_wp2_with fail
  go_ret
  exact ⟨rfl, L.out⟩
theorem NoAsm.bel {v : Value} (h : NoAsm w v) (g : Below w.heap.size w w') : NoAsm w' v := h.imp id fun ⟨b, e, hc⟩ => ⟨b, e, bel_cell g hc⟩
theorem Const_no (v : Value) (rd u : Int) (hr : 0 ≤ rd ∧ rd ≤ 255) (hu : 0 ≤ u ∧ u < 4294967296) (h : NoAsm w v) :
    Calls Tryd.prog 15 #[v, .int .u8 rd, .int .u32 u] w fun e w' => e = .returned (.int .i64 1) ∧ Below w.heap.size w w' := by
  have H := Lib.hid h
  have HR := Lib.hid hr
  have HU := Lib.hid hu
  clear h hr hu
  go_enter Tryd.func15, Tryd.ntmps15
  go_wp2_with fail
  refine (constant_at rd u w HR.out HU.out).mono ?_; rintro e w1 ⟨l, rfl, I1, g1⟩
  have G1 := Lib.hid g1
  have H1 := Lib.hid (H.out.bel g1)
  clear g1 I1
  go_wp2_with fail
  refine (Put_no v l w1 H1.out).mono ?_; rintro e w2 ⟨rfl, rfl⟩
  go_wp2_with fail
  go_ret
  exact ⟨rfl, G1.out⟩
/-! A jump's closure. -/
theorem reaching_at (o d s t n m : Int) (x : Bool) (w : World) (hm : -2147483648 ≤ m ∧ m ≤ 2147483647) :
    Calls Tryd.prog 41 #[.agg #[.int .u8 o, .int .u8 d, .int .u8 s, .int .u8 t, .bool x, .int .i32 n], .int .i64 m] w fun e w' => e = .returned (.agg #[.int .u8 o, .int .u8 d, .int .u8 s, .int .u8 t, .bool x, .int .i32 m]) ∧ Below w.heap.size w w' := by
  have hw : IntKind.i32.wrap m = m := by simp [IntKind.wrap, IntKind.bits, IntKind.signed]; split <;> omega
  go_enter Tryd.func41, Tryd.ntmps41
  go_wp2
  refine bodyPost_ret (v := .agg #[.int .u8 o, .int .u8 d, .int .u8 s, .int .u8 t, .bool x, .int .i32 m]) (by simp [results, Tryd.results41, go_sem]) rfl ⟨rfl, ((Below.refl _ _).alloc (Nat.le_refl _) _).alloc (by simp) _⟩
theorem jmay {n : Nat} {j : AJ} (h : JOk n j) (m : Int) (h0 : -1048576 ≤ m) (h1 : m ≤ 1048575) : I2.may j.op j.rd 0 0 true m = true := by
  rcases h.op with ⟨e, r0, r1⟩ | ⟨e, r0⟩
  · rw [I2.may4_t _ _ _ _ _ r0 (by decide) (by decide) e]
    exact decide_eq_true ⟨r1, rfl, rfl, h0, h1⟩
  · rw [I2.may5_t _ _ _ _ _ (by omega) (by decide) (by decide) e]
    exact decide_eq_true ⟨r0, rfl, rfl, h0, h1⟩
theorem JOk.ob {n : Nat} {j : AJ} (h : JOk n j) : (0 ≤ j.op ∧ j.op ≤ 255) ∧ (0 ≤ j.rd ∧ j.rd ≤ 255) := by
  rcases h.op with ⟨e, r0, r1⟩ | ⟨e, r0⟩ <;> omega
theorem jump1_none {ms : List (ByteArray × Nat)} {n bn bx ba : Nat} {j : AJ} (v : Value) (J : JIn w G bn bx ba j) (k : JOk n j) (M : w.ownsMap Tryd.prog 9 (plainElem Tryd.prog 3) mp ms.length (mD ms)) (hl : look ms j.nm = none) :
    Calls Tryd.prog 40 #[v, .map (some mp), .pointer (some ⟨bn, 0, none⟩), .pointer (some ⟨bx, 0, none⟩), .pointer (some ⟨ba, 0, none⟩)] w fun e w' => e = .returned (.int .i64 7) ∧ w' = w := by
  have c0 := row_cell J.name (j := 0) (v := .string j.nm) rfl
  have hkey := key_of j.nm k.nm
  have hhas := mD_has ms j.nm
  rw [hl] at hhas
  have M := Lib.hid M
  generalize mD ms = D at *
  generalize j.nm = s at *
  clear J k hl
  go_enter Tryd.func40, Tryd.ntmps40
  go_wp2_with (at_lookup; refine wpList_lookup_own_ok_int _ rfl _ _ 54 rfl 9 3 .i64 string_keys Tryd.underlying54 Tryd.underlying3 (zero_int _) mp _ _ rfl M.out _ _ rfl hkey ?_; intro c hc _; rw [hhas])
  go_ret
  exact ⟨rfl, rfl⟩
/-- A cell of a row of one's own is stored. -/
theorem own_set {B : Nat} {g n c : Nat} {f : Nat → Int} (h : w.ownsRow B 34 1 (.slice (some ⟨g, 0, none⟩) n c) n (bsL .u32 f n)) (i : Nat) (hi : i < n) (u : Int) : (w.setCell ⟨g, i, none⟩ (.int .u32 u)).ownsRow B 34 1 (.slice (some ⟨g, 0, none⟩) n c) n (bsL .u32 (F3.upd f i u) n) ∧ w.grownBy (w.setCell ⟨g, i, none⟩ (.int .u32 u)) (some g) := by
  refine ⟨?_, only_cell ⟨rfl, rfl, rfl, Nat.le_refl _, fun _ _ _ => rfl⟩ i _⟩
  obtain ⟨h0, ⟨h, _⟩ | ⟨g', cap, cur, e, hB, hg, h1, h2, h3, h4⟩⟩ := h
  · cases h
  · simp only [Value.slice.injEq, Option.some.injEq, Addr.mk.injEq] at e
    obtain ⟨⟨rfl, _⟩, _, rfl⟩ := e
    refine ⟨by unfold bsL; simp, .inr ⟨g, c, cur.setIfInBounds i (.int .u32 u), rfl, hB, heap_setCell_same w g i _ _ _ hg, h1, h2, by simpa using h3, ?_⟩⟩
    apply List.ext_getElem?
    intro k
    have hk := congrArg (fun l => l[k]?) h4
    simp only [List.getElem?_take] at hk ⊢
    by_cases hkn : k < n * 1
    · rw [if_pos hkn] at hk ⊢
      simp only [Array.getElem?_toList] at hk ⊢
      rw [Array.getElem?_setIfInBounds]
      have hkn' : k < n := by omega
      have hb : ∀ f', (bsL .u32 f' n)[k]? = some (.int .u32 (f' k)) := fun f' => by unfold bsL; simp [hkn']
      rw [hb] at hk ⊢
      by_cases e : i = k
      · subst e
        rw [if_pos rfl, if_pos (by omega)]
        simp [F3.upd]
      · have e' : ¬ k = i := fun h => e h.symm
        rw [if_neg e, hk]
        simp [F3.upd, e']
    · rw [if_neg hkn, List.getElem?_eq_none (by unfold bsL; simp; omega)]
theorem jump1_yes {ms : List (ByteArray × Nat)} {n bn bx ba t B g c : Nat} {j : AJ} {f : Nat → Int} (J : JIn w G bn bx ba j) (k : JOk n j) (M : w.ownsMap Tryd.prog 9 (plainElem Tryd.prog 3) mp ms.length (mD ms)) (hl : look ms j.nm = some t) (ht : t ≤ 100000) (hn : n ≤ 100000) (hT : I2.Tab w)
    (own : w.ownsRow B 34 1 (.slice (some ⟨g, 0, none⟩) n c) n (bsL .u32 f n)) :
    Calls Tryd.prog 40 #[.slice (some ⟨g, 0, none⟩) n c, .map (some mp), .pointer (some ⟨bn, 0, none⟩), .pointer (some ⟨bx, 0, none⟩), .pointer (some ⟨ba, 0, none⟩)] w fun e w' => e = .returned (.int .i64 0) ∧ w'.ownsRow B 34 1 (.slice (some ⟨g, 0, none⟩) n c) n (bsL .u32 (F3.upd f j.pos (j.word t)) n) ∧ w.grownBy w' (some g) := by
  have c0 := row_cell J.name (j := 0) (v := .string j.nm) rfl
  have hkey := key_of j.nm k.nm
  have hhas := mD_has ms j.nm
  have hat : Hid (∀ c : Int, (mD ms).atKey (key j.nm) (.lit (.int .i64 0)) = .lit (.int .i64 c) → c = (t : Int)) := fun c hc => by rw [mD_at, hl] at hc; exact (lit_inj hc).symm
  rw [hl] at hhas
  replace M := Lib.hid M
  have JJ := Lib.hid J
  have O := Lib.hid own
  have T := Lib.hid hT
  have hpos := k.pos
  obtain ⟨d, hd⟩ : ∃ d, d = (t : Int) - (j.pos : Int) := ⟨_, rfl⟩
  have hw : j.word t = I2.enc j.op j.rd 0 0 true d := by rw [hd]; rfl
  have hm := jmay k d (by omega) (by omega)
  have he := I2.eE_yes hm
  have hu := I2.eW_yes hm
  have hob := Lib.hid k.ob
  have hdb : Hid (-2147483648 ≤ d ∧ d ≤ 2147483647) := by unfold Hid; omega
  have hwd : Hid (IntKind.i64.wrap ((t : Int) - (j.pos : Int)) = d) := by
    unfold Hid; rw [← hd]; simp [IntKind.wrap, IntKind.bits, IntKind.signed]; omega
  have cx0 := row_cell J.inst (j := 0) (v := .int .u8 j.op) rfl
  have cx1 := row_cell J.inst (j := 1) (v := .int .u8 j.rd) rfl
  have cx2 := row_cell J.inst (j := 2) (v := .int .u8 0) rfl
  have cx3 := row_cell J.inst (j := 3) (v := .int .u8 0) rfl
  have cx4 := row_cell J.inst (j := 4) (v := .bool true) rfl
  have cx5 := row_cell J.inst (j := 5) (v := .int .i32 0) rfl
  have cp := row_cell J.pos (j := 0) (v := .int .i64 j.pos) rfl
  obtain ⟨P, hP⟩ : ∃ P : Int, P = (j.pos : Int) := ⟨_, rfl⟩
  obtain ⟨T0, hT0⟩ : ∃ P : Int, P = (t : Int) := ⟨_, rfl⟩
  rw [← hP, ← hT0] at hwd
  rw [← hT0] at hat
  have cp' : w.cell? ⟨ba, 0, none⟩ = some (.int .i64 P) := by rw [hP]; exact cp
  have hwd' := hwd.out
  rw [hw]
  have HP := Lib.hid hP
  have HPOS := Lib.hid hpos
  generalize mD ms = D at *
  generalize j.nm = s at *
  generalize hop : j.op = op at *
  generalize hrd : j.rd = rd at *
  generalize I2.enc op rd 0 0 true d = u at *
  clear J k hl hd hm hw cp own hT hop hrd hP hT0 ht hn hpos
  go_enter Tryd.func40, Tryd.ntmps40
  go_wp2_with (at_lookup; refine wpList_lookup_own_ok_int _ rfl _ _ 54 rfl 9 3 .i64 string_keys Tryd.underlying54 Tryd.underlying3 (zero_int _) mp _ _ rfl M.out _ _ rfl hkey ?_; intro c hc _; rw [hhas]; obtain rfl := hat.out c hc; clear hc)
  refine (reaching_at op rd 0 0 0 d true w hdb.out).mono ?_; rintro e w1 ⟨rfl, g1⟩
  have G1 := Lib.hid g1
  clear g1
  go_wp2_with fail
  refine (I2.enc_any op rd 0 0 true d w1 (tab_bel T.out G1.out) hob.out.1 hob.out.2 (by decide) (by decide)).mono ?_; rintro e w2 ⟨rfl, g2⟩
  rw [he, hu]
  have G2 := Lib.hid (bel_trans G1.out g2.bel)
  have cp2 := bel_cell G2.out cp'
  have O2 := Lib.hid (own_same O.out fun j hj => G2.out.block j (O.out.lt j hj).2)
  clear g2 c0 cx0 cx1 cx2 cx3 cx4 cx5 cp' he hu M G1
  go_upto_region 7 with fail
  obtain rfl := HP.out
  have X := Lib.hid (own_set O2.out j.pos HPOS.out u)
  have hpos := HPOS.out
  obtain ⟨cg, hg⟩ : ∃ v, w2.cell? ⟨g, j.pos, none⟩ = some v := by
    obtain ⟨_, ⟨h, _⟩ | ⟨g', cap, cur, e, hB, hg, h1, h2, h3, h4⟩⟩ := O2.out
    · cases h
    · simp only [Value.slice.injEq, Option.some.injEq, Addr.mk.injEq] at e
      obtain ⟨⟨rfl, _⟩, _, rfl⟩ := e
      exact ⟨_, row_cell hg (Array.getElem?_eq_getElem (by omega))⟩
  have hfz : w2.frozen? ⟨g, j.pos, none⟩ = false := by
    obtain ⟨_, ⟨h, _⟩ | ⟨g', cap, cur, e, hB, hg, h1, h2, h3, h4⟩⟩ := O2.out
    · cases h
    · simp only [Value.slice.injEq, Option.some.injEq, Addr.mk.injEq] at e
      obtain ⟨⟨rfl, _⟩, _, rfl⟩ := e
      exact row_frozen hg
  go_wp2_with fail
  go_ret
  exact ⟨rfl, X.out.1, only_trans (bel_only G2.out _) X.out.2⟩
end
end Go.Proofs.YtoecanjhkbeemaaDoor.A7
