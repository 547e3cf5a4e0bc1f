/- Package asm as it has landed: constants. Package asm as it has landed: Const; a jump's closure; jumps. Package asm as it has landed: Jump, Call. Package asm as it has landed: Jump, Call, Words. Package asm as it has landed: several lists at once; two rows of words that are the same. The head of layer 7's statements: lists whose words the document fixes. -/
import Derived.Test.YtbkhhfffgmappaaGreatDoorAsmGA
import Derived.IntWalk
import Derived.Test.YtbkhhfffgmappaaGreatDoorInstKinds
import Derived.Deep.DeepCutAuto
import Derived.Laws.AppendOwn
import Derived.Lib.SliceRun
namespace Go.Proofs.YtbkhhfffgmappaaGreatDoor.A7
open Go.RowKit Go.Maps
set_option linter.unusedVariables false
def small (w : Int) : Bool := decide (w ≤ 16383 ∨ 4294950912 ≤ w)
def sgn (w : Int) : Int := if 2147483648 ≤ w then w - 4294967296 else w
/-- A constant's instructions: how many, and which. -/
def cK (w : Int) : Nat := if small w then 1 else if w % 2048 = 0 then 1 else 2
def cX (rd w : Int) (i : Nat) : XI := if small w then ⟨1, rd, 0, 0, true, sgn w⟩ else if i = 0 then ⟨15, rd, 0, 0, true, w / 2048⟩ else ⟨7, rd, rd, 0, true, w % 2048⟩
theorem nat_mask11 (n : Nat) : n &&& 2047 = n % 2048 := Nat.and_two_pow_sub_one_eq_mod n 11
theorem and_11 (x : Int) (h : 0 ≤ x ∧ x < 4294967296) : bits .and .u32 x 2047 = x % 2048 := by
  rw [u32_and x 2047 h.1 h.2 (by decide) (by decide)]
  have : (2047 : Int).toNat = 2047 := rfl
  rw [this, nat_mask11]; omega
theorem wrap_sgn (u : Int) (hu : 0 ≤ u ∧ u < 4294967296) : IntKind.i32.wrap u = sgn u := by
  unfold sgn
  simp [IntKind.wrap, IntKind.bits, IntKind.signed]
  split <;> split <;> omega
theorem wrap_same (u : Int) (hu : 0 ≤ u ∧ u < 2147483648) : IntKind.i32.wrap u = u := by
  rw [wrap_sgn u (by omega)]; unfold sgn; rw [if_neg (by omega)]
theorem own_ins {w : World} {B : Nat} {v : Value} {k : Nat} {xs : List Value} {X : Nat → XI} (h : w.ownsRow B 61 6 v k xs) (hx : ∀ i, i < k → ∀ j, j < 6 → xs[i * 6 + j]? = (X i).row[j]?) : Ins w (fun b => b < B) v k X := by
  obtain ⟨hl, ⟨rfl, rfl⟩ | ⟨g, cap, cur, rfl, hB, hg, h1, h2, h3, h4⟩⟩ := h
  · exact ⟨none, 0, rfl, fun h => absurd h (Nat.lt_irrefl _)⟩
  · refine ⟨_, _, rfl, fun _ => ⟨g, 0, rfl, by omega, fun i hi => ?_⟩⟩
    have key : ∀ j, j < 6 → ∀ v, (X i).row[j]? = some v → w.cell? ⟨g, 0 + i * 6 + j, none⟩ = some v := by
      intro j hj v hv
      rw [← hx i hi j hj, ← h4, List.getElem?_take_of_lt (by omega)] at hv
      rw [Nat.zero_add, cell_of_row _ _ _ _ _ _ hg]
      simpa using hv
    exact ⟨key 0 (by decide) _ rfl, key 1 (by decide) _ rfl, key 2 (by decide) _ rfl, key 3 (by decide) _ rfl, key 4 (by decide) _ rfl, key 5 (by decide) _ rfl⟩
theorem Ins.mono {w : World} {H H' : Nat → Prop} {v : Value} {k : Nat} {X : Nat → XI} (h : Ins w H v k X) (hh : ∀ i, H' i → H i) : Ins w H' v k X := by
  obtain ⟨p, c, rfl, h⟩ := h
  exact ⟨p, c, rfl, fun hk => by obtain ⟨b, o, rfl, hb, hc⟩ := h hk; exact ⟨b, o, rfl, fun e => hb (hh _ e), hc⟩⟩
theorem Ins.bel {w w' : World} {H : Nat → Prop} {v : Value} {k : Nat} {X : Nat → XI} (h : Ins w H v k X) (g : Below w.heap.size w w') : Ins w' H v k X := by
  obtain ⟨p, c, rfl, h⟩ := h
  exact ⟨p, c, rfl, fun hk => by obtain ⟨b, o, rfl, hb, hc⟩ := h hk; exact ⟨b, o, rfl, hb, fun i hi => by obtain ⟨a0, a1, a2, a3, a4, a5⟩ := hc i hi; exact ⟨bel_cell g a0, bel_cell g a1, bel_cell g a2, bel_cell g a3, bel_cell g a4, bel_cell g a5⟩⟩⟩
/-- One instruction in a new block. -/
theorem one_ins (x : XI) (w : World) : Ins (w.alloc (.cells x.row.toArray 61)) (fun b => b < w.heap.size) (.slice (some ⟨w.heap.size, 0, none⟩) 1 1) 1 (fun _ => x) := by
  have h := heap_alloc_last w (.cells x.row.toArray 61)
  refine ⟨_, _, rfl, fun _ => ⟨_, _, rfl, Nat.lt_irrefl _, fun i hi => ?_⟩⟩
  obtain rfl : i = 0 := by omega
  have hr : (w.alloc (.cells x.row.toArray 61)).heap[w.heap.size]? = some (.cells x.row.toArray 61 (0, 0)) := h
  exact ⟨row_cell hr rfl, row_cell hr rfl, row_cell hr rfl, row_cell hr rfl, row_cell hr rfl, row_cell hr rfl⟩
theorem one_own (x : XI) (w : World) : (w.alloc (.cells x.row.toArray 61)).ownsRow w.heap.size 61 6 (.slice (some ⟨w.heap.size, 0, none⟩) 1 1) 1 x.row := by
  refine ⟨rfl, .inr ⟨_, 1, x.row.toArray, rfl, Nat.le_refl _, heap_alloc_last w (.cells x.row.toArray 61), Nat.le_refl _, by unfold maxLen; omega, rfl, rfl⟩⟩
theorem inst_parts : (Tryz.prog.info? 61).map (fun i => (i.zero, i.size, i.bytes)) = some (some (.agg #[.int .u8 0, .int .u8 0, .int .u8 0, .int .u8 0, .bool false, .int .i32 0]), 6, 12) := by kernel_rfl
theorem row_one (x : XI) : ∀ v ∈ x.row, v.oneCell' = true := by
  intro v hv
  simp only [XI.row, List.mem_cons, List.not_mem_nil, or_false] at hv
  rcases hv with rfl | rfl | rfl | rfl | rfl | rfl <;> rfl
theorem new_inst (x : XI) (b : Nat) (w : World) (hb : b = w.heap.size) : ∀ j v, x.row[j]? = some v → (w.alloc (.cells x.row.toArray 61)).cell? ((⟨b, 0, none⟩ : Addr).add j) = some v := by
  subst hb
  intro j v hj
  have h : (w.alloc (.cells x.row.toArray 61)).heap[w.heap.size]? = some (.cells x.row.toArray 61 (0, 0)) := heap_alloc_last _ _
  rw [add_off, Nat.zero_add]
  exact row_cell h (by simpa using hj)
set_option maxHeartbeats 2000000 in
set_option maxRecDepth 10000 in
theorem constant_at (rd u : Int) (w : World) (hr : 0 ≤ rd ∧ rd ≤ 255) (hu : 0 ≤ u ∧ u < 4294967296) :
    Calls Tryz.prog 93 #[.int .u8 rd, .int .u32 u] w fun e w' => ∃ l, e = .returned l ∧ Ins w' (fun b => b < w.heap.size) l (cK u) (cX rd u) ∧ Below w.heap.size w w' := by
  have hwr := wrap_sgn u hu
  have ha := and_11 u hu
  cases hs : small u
  · have h1 : ¬ (u ≤ 16383 ∨ 4294950912 ≤ u) := of_decide_eq_false hs
    have h2 : ¬ (-16384 ≤ sgn u ∧ sgn u ≤ 16383) := by unfold sgn; split <;> omega
    have w1 := wrap_same (u / 2048) (by omega)
    have w2 := wrap_same (u % 2048) (by omega)
    by_cases hz : u % 2048 = 0
    · have hK : cK u = 1 := by unfold cK; rw [hs, if_pos hz]; rfl
      have hX : Ins (w.alloc (.cells #[.int .u8 15, .int .u8 rd, .int .u8 0, .int .u8 0, .bool true, .int .i32 (u / 2048)] 61)) (fun b => b < w.heap.size) (.slice (some ⟨w.heap.size, 0, none⟩) 1 1) 1 (cX rd u) := by
        have := one_ins ⟨15, rd, 0, 0, true, u / 2048⟩ w
        obtain ⟨p, c, e, h⟩ := this
        refine ⟨p, c, e, fun hk => ?_⟩
        obtain ⟨b, o, e1, hb, hc⟩ := h hk
        refine ⟨b, o, e1, hb, fun i hi => ?_⟩
        obtain rfl : i = 0 := by omega
        have e0 : cX rd u 0 = ⟨15, rd, 0, 0, true, u / 2048⟩ := by unfold cX; rw [hs]; rfl
        rw [e0]; exact hc 0 hi
      have X := Lib.hid hX
      rw [hK]
      rw [hz] at ha
      generalize sgn u = n at *
      have H2 := Lib.hid h2
      clear hs h1 hK hX w2 hz
      go_enter Tryz.func93, Tryz.ntmps93
      go_wp2
      all_goals first
        | (exact absurd ⟨by assumption, by assumption⟩ H2.out)
        | (go_ret; exact ⟨_, rfl, X.out, (Below.refl _ _).alloc (Nat.le_refl _) _⟩)
    · have hK : cK u = 2 := by unfold cK; rw [hs, if_neg hz]; rfl
      have X : Hid (∀ (v : Value) (W : World), W.ownsRow w.heap.size 61 6 v 2 [.int .u8 15, .int .u8 rd, .int .u8 0, .int .u8 0, .bool true, .int .i32 (u / 2048), .int .u8 7, .int .u8 rd, .int .u8 rd, .int .u8 0, .bool true, .int .i32 (u % 2048)] → Ins W (fun b => b < w.heap.size) v 2 (cX rd u)) := fun v W h => by
        have e0 : cX rd u 0 = ⟨15, rd, 0, 0, true, u / 2048⟩ := by unfold cX; rw [hs]; rfl
        have e1 : cX rd u 1 = ⟨7, rd, rd, 0, true, u % 2048⟩ := by unfold cX; rw [hs]; rfl
        refine own_ins h fun i hi j hj => ?_
        have hi' : i = 0 ∨ i = 1 := by omega
        have hj' : j = 0 ∨ j = 1 ∨ j = 2 ∨ j = 3 ∨ j = 4 ∨ j = 5 := by omega
        rcases hi' with rfl | rfl
        · rw [e0]; rcases hj' with rfl | rfl | rfl | rfl | rfl | rfl <;> rfl
        · rw [e1]; rcases hj' with rfl | rfl | rfl | rfl | rfl | rfl <;> rfl
      rw [hK]
      have O1 := one_own ⟨15, rd, 0, 0, true, u / 2048⟩ w
      have O1 := Lib.hid O1
      obtain ⟨i0, hi, hz0, hz1, hz2⟩ := info_parts inst_parts
      generalize sgn u = n at *
      have H2 := Lib.hid h2
      generalize u % 2048 = lo at *
      clear hs h1 hK
      go_enter Tryz.func93, Tryz.ntmps93
      go_wp2_with (at_builtin; refine wpList_append_own _ rfl _ _ 87 rfl w.heap.size 61 i0 _ 6 12 Tryz.underlying87 hi hz0 hz1 hz2 rfl (by decide) _ _ _ rfl (O1.out.alloc _) _ 1 1 (XI.row ⟨7, rd, rd, 0, true, lo⟩) rfl rfl (new_inst _ _ _ (by simp)) (fun v hv => row_one _ v hv) (by unfold maxLen; omega) (by omega) (by simp; omega) ?_
                   intro v' w3 own gr hnil
                   have Y := Lib.hid (X.out v' w3 own)
                   have g3 := Lib.hid (Below.grown (((Below.refl _ w).alloc (Nat.le_refl _) (.cells #[.int .u8 15, .int .u8 rd, .int .u8 0, .int .u8 0, .bool true, .int .i32 (u / 2048)] 61)).alloc (by simp) (.cells #[.int .u8 7, .int .u8 rd, .int .u8 rd, .int .u8 0, .bool true, .int .i32 lo] 61)) gr (by simp; omega) (fun j hj => ((one_own ⟨15, rd, 0, 0, true, u / 2048⟩ w).lt j hj).1))
                   clear own gr hnil)
      all_goals first
        | (exact absurd ⟨by assumption, by assumption⟩ H2.out)
        | (go_ret; exact ⟨_, rfl, Y.out, g3.out⟩)
  · have h1 : u ≤ 16383 ∨ 4294950912 ≤ u := of_decide_eq_true hs
    have h2 : -16384 ≤ sgn u ∧ sgn u ≤ 16383 := by unfold sgn; split <;> omega
    have hK : cK u = 1 := by unfold cK; rw [hs]; rfl
    have hX : cX rd u = fun _ => ⟨1, rd, 0, 0, true, sgn u⟩ := by funext i; unfold cX; rw [hs]; rfl
    rw [hK, hX]
    generalize sgn u = n at *
    obtain ⟨h3, h4⟩ := h2
    clear ha hs h1 hK hX
    go_enter Tryz.func93, Tryz.ntmps93
    go_wp2
    go_ret
    exact ⟨_, rfl, one_ins ⟨1, rd, 0, 0, true, n⟩ w, (Below.refl _ _).alloc (Nat.le_refl _) _⟩
end Go.Proofs.YtbkhhfffgmappaaGreatDoor.A7
namespace Go.Proofs.YtbkhhfffgmappaaGreatDoor.A7
open Go.RowKit Go.Maps
set_option linter.unusedVariables false
section
variable {w w' : World} {b mp : Nat} {wv jv : Value} {vs : List Value} {G K : Nat → Prop} {q : AS}
theorem Left.after {w1 : World} (g : Below w.heap.size w w1) (h : Left w1 b G K q w') : Left w b G K q w' := by
  obtain ⟨G', hA, T, low⟩ := h
  exact ⟨G', hA, (Turns.of_bel g).trans T (fun _ e => .inl e), fun i hi => (low i hi).imp id fun e => Nat.le_trans g.size e⟩
theorem AsmB.lt (h : AsmB w b G K q) : ∀ i, G i → i < w.heap.size := by obtain ⟨mp, wv, jv, vs, h⟩ := h; exact h.lt
theorem AsmB.klt (h : AsmB w b G K q) : ∀ i, K i → i < w.heap.size := by obtain ⟨mp, wv, jv, vs, h⟩ := h; exact h.klt
theorem AsmB.sub (h : AsmB w b G K q) : ∀ i, G i → K i := by obtain ⟨mp, wv, jv, vs, h⟩ := h; exact h.sub
theorem AsmB.far (h : AsmB w b G K q) : ∀ i, G i → ¬ isTab i := by obtain ⟨mp, wv, jv, vs, h⟩ := h; exact h.far
theorem AsmB.tab (h : AsmB w b G K q) : I2.Tab w := by obtain ⟨mp, wv, jv, vs, h⟩ := h; exact h.tab
theorem AsmB.ok (h : AsmB w b G K q) : AOk q := by obtain ⟨mp, wv, jv, vs, h⟩ := h; exact h.ok
theorem cX_b (rd u : Int) (i : Nat) (hr : 0 ≤ rd ∧ rd ≤ 255) (hu : 0 ≤ u ∧ u < 4294967296) : XB (cX rd u i) := by
  unfold cX
  split
  · rename_i h
    have : u ≤ 16383 ∨ 4294950912 ≤ u := of_decide_eq_true h
    exact ⟨by simp only; omega, hr, by simp only; omega, by simp only; omega, by unfold sgn; simp only; split <;> omega⟩
  · split
    · exact ⟨by simp only; omega, hr, by simp only; omega, by simp only; omega, by simp only; omega⟩
    · exact ⟨by simp only; omega, hr, hr, by simp only; omega, by simp only; omega⟩
theorem cX_may (rd u : Int) (i : Nat) (hr : 0 ≤ rd ∧ rd ≤ 255) (hu : 0 ≤ u ∧ u < 4294967296) : (cX rd u i).may = decide (rd ≤ 31) := by
  unfold cX XI.may
  split
  · rename_i h
    have h1 : u ≤ 16383 ∨ 4294950912 ≤ u := of_decide_eq_true h
    simp only
    rw [I2.mayKa_t _ _ _ _ _ hr.1 (by decide) (by decide) (by unfold I2.Ka; omega)]
    refine decide_eq_decide.2 ⟨fun h => h.1, fun h => ⟨h, by decide, rfl, ?_⟩⟩
    unfold sgn; split <;> omega
  · split
    · simp only
      rw [I2.may3_t _ _ _ _ _ hr.1 (by decide) (by decide) rfl]
      exact decide_eq_decide.2 ⟨fun h => h.1, fun h => ⟨h, rfl, rfl, by omega⟩⟩
    · simp only
      rw [I2.mayKa_t _ _ _ _ _ hr.1 hr.1 (by decide) (by unfold I2.Ka; omega)]
      exact decide_eq_decide.2 ⟨fun h => h.1, fun h => ⟨h, h, rfl, by omega⟩⟩
def AS.const (q : AS) (rd u : Int) : AS := q.adds (fun i => (cX rd u i).word) (cK u)
theorem cK_le (u : Int) : cK u ≤ 2 := by unfold cK; split <;> (try split) <;> omega
theorem cK_pos (u : Int) : 0 < cK u := by unfold cK; split <;> (try split) <;> omega
theorem Const_yes (rd u : Int) (h : AsmB w b G K q) (hr : 0 ≤ rd ∧ rd ≤ 31) (hu : 0 ≤ u ∧ u < 4294967296) (hn : q.n + 2 ≤ 100000) :
    Calls Tryz.prog 45 #[.pointer (some ⟨b, 0, none⟩), .int .u8 rd, .int .u32 u] w fun e w' => e = .returned (.int .i64 0) ∧ Left w b G K (q.const rd u) w' := by
  have H := Lib.hid h
  have HR : Hid (0 ≤ rd ∧ rd ≤ 255) := ⟨hr.1, by omega⟩
  have HU := Lib.hid hu
  have HL := Lib.hid hr.2
  have HN : Hid (q.n + cK u ≤ 100000) := by have := cK_le u; unfold Hid; omega
  clear h hr hu hn
  go_enter Tryz.func45, Tryz.ntmps45
  go_wp2_with fail
  refine (constant_at rd u w HR.out HU.out).mono ?_; rintro e w1 ⟨l, rfl, I1, g1⟩
  have I1 := Lib.hid (I1.mono H.out.lt)
  have G1 := Lib.hid g1
  have H1 := Lib.hid (H.out.bel g1)
  clear g1
  go_wp2_with fail
  refine (Put_yes H1.out I1.out (fun i hi => cX_b rd u i HR.out HU.out) HN.out (fun i hi => by rw [cX_may rd u i HR.out HU.out]; exact decide_eq_true HL.out)).mono ?_; rintro e w2 ⟨rfl, L⟩
  have L := Lib.hid (Left.after G1.out L)
  go_wp2_with fail
  go_ret
  exact ⟨rfl, L.out⟩
theorem Const_bad (rd u : Int) (h : AsmB w b G K q) (hr : 31 < rd ∧ rd ≤ 255) (hu : 0 ≤ u ∧ u < 4294967296) (hn : q.n + 2 ≤ 100000) :
    Calls Tryz.prog 45 #[.pointer (some ⟨b, 0, none⟩), .int .u8 rd, .int .u32 u] w fun e w' => e = .returned (.int .i64 2) ∧ Left w b G K q w' := by
  have H := Lib.hid h
  have HR : Hid (0 ≤ rd ∧ rd ≤ 255) := ⟨by omega, hr.2⟩
  have HU := Lib.hid hu
  have HL : Hid (31 < rd) := hr.1
  have HN : Hid (q.n + cK u ≤ 100000) := by have := cK_le u; unfold Hid; omega
  clear h hr hu hn
  go_enter Tryz.func45, Tryz.ntmps45
  go_wp2_with fail
  refine (constant_at rd u w HR.out HU.out).mono ?_; rintro e w1 ⟨l, rfl, I1, g1⟩
  have I1 := Lib.hid (I1.mono H.out.lt)
  have G1 := Lib.hid g1
  have H1 := Lib.hid (H.out.bel g1)
  clear g1
  go_wp2_with fail
  refine (Put_bad H1.out I1.out (fun i hi => cX_b rd u i HR.out HU.out) HN.out (cK_pos u) (by rw [cX_may rd u 0 HR.out HU.out]; exact decide_eq_false (Int.not_le.2 HL.out))).mono ?_; rintro e w2 ⟨rfl, L⟩
  have L := Lib.hid (Left.after G1.out L)
  go_wp2_with fail
  go_ret
  exact ⟨rfl, L.out⟩
theorem NoAsm.bel {v : Value} (h : NoAsm w v) (g : Below w.heap.size w w') : NoAsm w' v := h.imp id fun ⟨b, e, hc⟩ => ⟨b, e, bel_cell g hc⟩
theorem Const_no (v : Value) (rd u : Int) (hr : 0 ≤ rd ∧ rd ≤ 255) (hu : 0 ≤ u ∧ u < 4294967296) (h : NoAsm w v) :
    Calls Tryz.prog 45 #[v, .int .u8 rd, .int .u32 u] w fun e w' => e = .returned (.int .i64 1) ∧ Below w.heap.size w w' := by
  have H := Lib.hid h
  have HR := Lib.hid hr
  have HU := Lib.hid hu
  clear h hr hu
  go_enter Tryz.func45, Tryz.ntmps45
  go_wp2_with fail
  refine (constant_at rd u w HR.out HU.out).mono ?_; rintro e w1 ⟨l, rfl, I1, g1⟩
  have G1 := Lib.hid g1
  have H1 := Lib.hid (H.out.bel g1)
  clear g1 I1
  go_wp2_with fail
  refine (Put_no v l w1 H1.out).mono ?_; rintro e w2 ⟨rfl, rfl⟩
  go_wp2_with fail
  go_ret
  exact ⟨rfl, G1.out⟩
/-! A jump's closure. -/
theorem reaching_at (o d s t n m : Int) (x : Bool) (w : World) (hm : -2147483648 ≤ m ∧ m ≤ 2147483647) :
    Calls Tryz.prog 180 #[.agg #[.int .u8 o, .int .u8 d, .int .u8 s, .int .u8 t, .bool x, .int .i32 n], .int .i64 m] w fun e w' => e = .returned (.agg #[.int .u8 o, .int .u8 d, .int .u8 s, .int .u8 t, .bool x, .int .i32 m]) ∧ Below w.heap.size w w' := by
  have hw : IntKind.i32.wrap m = m := by simp [IntKind.wrap, IntKind.bits, IntKind.signed]; split <;> omega
  go_enter Tryz.func180, Tryz.ntmps180
  go_wp2
  refine bodyPost_ret (v := .agg #[.int .u8 o, .int .u8 d, .int .u8 s, .int .u8 t, .bool x, .int .i32 m]) (by simp [results, Tryz.results180, go_sem]) rfl ⟨rfl, ((Below.refl _ _).alloc (Nat.le_refl _) _).alloc (by simp) _⟩
theorem jmay {n : Nat} {j : AJ} (h : JOk n j) (m : Int) (h0 : -1048576 ≤ m) (h1 : m ≤ 1048575) : I2.may j.op j.rd 0 0 true m = true := by
  rcases h.op with ⟨e, r0, r1⟩ | ⟨e, r0⟩
  · rw [I2.may4_t _ _ _ _ _ r0 (by decide) (by decide) e]
    exact decide_eq_true ⟨r1, rfl, rfl, h0, h1⟩
  · rw [I2.may5_t _ _ _ _ _ (by omega) (by decide) (by decide) e]
    exact decide_eq_true ⟨r0, rfl, rfl, h0, h1⟩
theorem JOk.ob {n : Nat} {j : AJ} (h : JOk n j) : (0 ≤ j.op ∧ j.op ≤ 255) ∧ (0 ≤ j.rd ∧ j.rd ≤ 255) := by
  rcases h.op with ⟨e, r0, r1⟩ | ⟨e, r0⟩ <;> omega
theorem jump1_none {ms : List (ByteArray × Nat)} {n bn bx ba : Nat} {j : AJ} (v : Value) (J : JIn w G bn bx ba j) (k : JOk n j) (M : w.ownsMap Tryz.prog 9 (plainElem Tryz.prog 3) mp ms.length (mD ms)) (hl : look ms j.nm = none) :
    Calls Tryz.prog 179 #[v, .map (some mp), .pointer (some ⟨bn, 0, none⟩), .pointer (some ⟨bx, 0, none⟩), .pointer (some ⟨ba, 0, none⟩)] w fun e w' => e = .returned (.int .i64 7) ∧ w' = w := by
  have c0 := row_cell J.name (j := 0) (v := .string j.nm) rfl
  have hkey := key_of j.nm k.nm
  have hhas := mD_has ms j.nm
  rw [hl] at hhas
  have M := Lib.hid M
  generalize mD ms = D at *
  generalize j.nm = s at *
  clear J k hl
  go_enter Tryz.func179, Tryz.ntmps179
  go_wp2_with (at_lookup; refine wpList_lookup_own_ok_int _ rfl _ _ 156 rfl 9 3 .i64 string_keys Tryz.underlying156 Tryz.underlying3 (zero_int _) mp _ _ rfl M.out _ _ rfl hkey ?_; intro c hc _; rw [hhas])
  go_ret
  exact ⟨rfl, rfl⟩
/-- A cell of a row of one's own is stored. -/
theorem own_set {B : Nat} {g n c : Nat} {f : Nat → Int} (h : w.ownsRow B 22 1 (.slice (some ⟨g, 0, none⟩) n c) n (bsL .u32 f n)) (i : Nat) (hi : i < n) (u : Int) : (w.setCell ⟨g, i, none⟩ (.int .u32 u)).ownsRow B 22 1 (.slice (some ⟨g, 0, none⟩) n c) n (bsL .u32 (F3.upd f i u) n) ∧ w.grownBy (w.setCell ⟨g, i, none⟩ (.int .u32 u)) (some g) := by
  refine ⟨?_, only_cell ⟨rfl, rfl, rfl, Nat.le_refl _, fun _ _ _ => rfl⟩ i _⟩
  obtain ⟨h0, ⟨h, _⟩ | ⟨g', cap, cur, e, hB, hg, h1, h2, h3, h4⟩⟩ := h
  · cases h
  · simp only [Value.slice.injEq, Option.some.injEq, Addr.mk.injEq] at e
    obtain ⟨⟨rfl, _⟩, _, rfl⟩ := e
    refine ⟨by unfold bsL; simp, .inr ⟨g, c, cur.setIfInBounds i (.int .u32 u), rfl, hB, heap_setCell_same w g i _ _ _ hg, h1, h2, by simpa using h3, ?_⟩⟩
    apply List.ext_getElem?
    intro k
    have hk := congrArg (fun l => l[k]?) h4
    simp only [List.getElem?_take] at hk ⊢
    by_cases hkn : k < n * 1
    · rw [if_pos hkn] at hk ⊢
      simp only [Array.getElem?_toList] at hk ⊢
      rw [Array.getElem?_setIfInBounds]
      have hkn' : k < n := by omega
      have hb : ∀ f', (bsL .u32 f' n)[k]? = some (.int .u32 (f' k)) := fun f' => by unfold bsL; simp [hkn']
      rw [hb] at hk ⊢
      by_cases e : i = k
      · subst e
        rw [if_pos rfl, if_pos (by omega)]
        simp [F3.upd]
      · have e' : ¬ k = i := fun h => e h.symm
        rw [if_neg e, hk]
        simp [F3.upd, e']
    · rw [if_neg hkn, List.getElem?_eq_none (by unfold bsL; simp; omega)]
theorem jump1_yes {ms : List (ByteArray × Nat)} {n bn bx ba t B g c : Nat} {j : AJ} {f : Nat → Int} (J : JIn w G bn bx ba j) (k : JOk n j) (M : w.ownsMap Tryz.prog 9 (plainElem Tryz.prog 3) mp ms.length (mD ms)) (hl : look ms j.nm = some t) (ht : t ≤ 100000) (hn : n ≤ 100000) (hT : I2.Tab w)
    (own : w.ownsRow B 22 1 (.slice (some ⟨g, 0, none⟩) n c) n (bsL .u32 f n)) :
    Calls Tryz.prog 179 #[.slice (some ⟨g, 0, none⟩) n c, .map (some mp), .pointer (some ⟨bn, 0, none⟩), .pointer (some ⟨bx, 0, none⟩), .pointer (some ⟨ba, 0, none⟩)] w fun e w' => e = .returned (.int .i64 0) ∧ w'.ownsRow B 22 1 (.slice (some ⟨g, 0, none⟩) n c) n (bsL .u32 (F3.upd f j.pos (j.word t)) n) ∧ w.grownBy w' (some g) := by
  have c0 := row_cell J.name (j := 0) (v := .string j.nm) rfl
  have hkey := key_of j.nm k.nm
  have hhas := mD_has ms j.nm
  have hat : Hid (∀ c : Int, (mD ms).atKey (key j.nm) (.lit (.int .i64 0)) = .lit (.int .i64 c) → c = (t : Int)) := fun c hc => by rw [mD_at, hl] at hc; exact (lit_inj hc).symm
  rw [hl] at hhas
  replace M := Lib.hid M
  have JJ := Lib.hid J
  have O := Lib.hid own
  have T := Lib.hid hT
  have hpos := k.pos
  obtain ⟨d, hd⟩ : ∃ d, d = (t : Int) - (j.pos : Int) := ⟨_, rfl⟩
  have hw : j.word t = I2.enc j.op j.rd 0 0 true d := by rw [hd]; rfl
  have hm := jmay k d (by omega) (by omega)
  have he := I2.eE_yes hm
  have hu := I2.eW_yes hm
  have hob := Lib.hid k.ob
  have hdb : Hid (-2147483648 ≤ d ∧ d ≤ 2147483647) := by unfold Hid; omega
  have hwd : Hid (IntKind.i64.wrap ((t : Int) - (j.pos : Int)) = d) := by
    unfold Hid; rw [← hd]; simp [IntKind.wrap, IntKind.bits, IntKind.signed]; omega
  have cx0 := row_cell J.inst (j := 0) (v := .int .u8 j.op) rfl
  have cx1 := row_cell J.inst (j := 1) (v := .int .u8 j.rd) rfl
  have cx2 := row_cell J.inst (j := 2) (v := .int .u8 0) rfl
  have cx3 := row_cell J.inst (j := 3) (v := .int .u8 0) rfl
  have cx4 := row_cell J.inst (j := 4) (v := .bool true) rfl
  have cx5 := row_cell J.inst (j := 5) (v := .int .i32 0) rfl
  have cp := row_cell J.pos (j := 0) (v := .int .i64 j.pos) rfl
  obtain ⟨P, hP⟩ : ∃ P : Int, P = (j.pos : Int) := ⟨_, rfl⟩
  obtain ⟨T0, hT0⟩ : ∃ P : Int, P = (t : Int) := ⟨_, rfl⟩
  rw [← hP, ← hT0] at hwd
  rw [← hT0] at hat
  have cp' : w.cell? ⟨ba, 0, none⟩ = some (.int .i64 P) := by rw [hP]; exact cp
  have hwd' := hwd.out
  rw [hw]
  have HP := Lib.hid hP
  have HPOS := Lib.hid hpos
  generalize mD ms = D at *
  generalize j.nm = s at *
  generalize hop : j.op = op at *
  generalize hrd : j.rd = rd at *
  generalize I2.enc op rd 0 0 true d = u at *
  clear J k hl hd hm hw cp own hT hop hrd hP hT0 ht hn hpos
  go_enter Tryz.func179, Tryz.ntmps179
  go_wp2_with (at_lookup; refine wpList_lookup_own_ok_int _ rfl _ _ 156 rfl 9 3 .i64 string_keys Tryz.underlying156 Tryz.underlying3 (zero_int _) mp _ _ rfl M.out _ _ rfl hkey ?_; intro c hc _; rw [hhas]; obtain rfl := hat.out c hc; clear hc)
  refine (reaching_at op rd 0 0 0 d true w hdb.out).mono ?_; rintro e w1 ⟨rfl, g1⟩
  have G1 := Lib.hid g1
  clear g1
  go_wp2_with fail
  refine (I2.enc_any op rd 0 0 true d w1 (tab_bel T.out G1.out) hob.out.1 hob.out.2 (by decide) (by decide)).mono ?_; rintro e w2 ⟨rfl, g2⟩
  rw [he, hu]
  have G2 := Lib.hid (bel_trans G1.out g2.bel)
  have cp2 := bel_cell G2.out cp'
  have O2 := Lib.hid (own_same O.out fun j hj => G2.out.block j (O.out.lt j hj).2)
  clear g2 c0 cx0 cx1 cx2 cx3 cx4 cx5 cp' he hu M G1
  go_upto_region 7 with fail
  obtain rfl := HP.out
  have X := Lib.hid (own_set O2.out j.pos HPOS.out u)
  have hpos := HPOS.out
  obtain ⟨cg, hg⟩ : ∃ v, w2.cell? ⟨g, j.pos, none⟩ = some v := by
    obtain ⟨_, ⟨h, _⟩ | ⟨g', cap, cur, e, hB, hg, h1, h2, h3, h4⟩⟩ := O2.out
    · cases h
    · simp only [Value.slice.injEq, Option.some.injEq, Addr.mk.injEq] at e
      obtain ⟨⟨rfl, _⟩, _, rfl⟩ := e
      exact ⟨_, row_cell hg (Array.getElem?_eq_getElem (by omega))⟩
  have hfz : w2.frozen? ⟨g, j.pos, none⟩ = false := by
    obtain ⟨_, ⟨h, _⟩ | ⟨g', cap, cur, e, hB, hg, h1, h2, h3, h4⟩⟩ := O2.out
    · cases h
    · simp only [Value.slice.injEq, Option.some.injEq, Addr.mk.injEq] at e
      obtain ⟨⟨rfl, _⟩, _, rfl⟩ := e
      exact row_frozen hg
  go_wp2_with fail
  go_ret
  exact ⟨rfl, X.out.1, only_trans (bel_only G2.out _) X.out.2⟩
end
end Go.Proofs.YtbkhhfffgmappaaGreatDoor.A7
namespace Go.Proofs.YtbkhhfffgmappaaGreatDoor.A7
open Go.RowKit Go.Maps
set_option linter.unusedVariables false
section
variable {w w2 : World} {b mp : Nat} {wv jv : Value} {vs : List Value} {G K : Nat → Prop} {q : AS}
theorem AsmP.jumped {g' c' bn bx ba : Nat} {j : AJ} (h : AsmP w b mp wv jv vs G K q) (own : w2.ownsRow 0 166 1 (.slice (some ⟨g', 0, none⟩) (q.js.length + 1) c') (q.js.length + 1) (vs ++ [jval bn bx ba])) (gr : w.grownBy w2 jv.ownBlock) (loc : jv = .slice (some ⟨g', 0, none⟩) q.js.length c' ∨ (w.heap.size ≤ g' ∧ w.grownBy w2 none))
    (J : JIn w K bn bx ba j) (jok : JOk q.n j) (hl : q.js.length + 1 ≤ q.n) :
    AsmP (w2.setCell ⟨b, 3, none⟩ (.slice (some ⟨g', 0, none⟩) (q.js.length + 1) c')) b mp wv (.slice (some ⟨g', 0, none⟩) (q.js.length + 1) c') (vs ++ [jval bn bx ba]) (fun i => G i ∨ i = g') (fun i => K i ∨ (G i ∨ i = g')) { q with js := q.js ++ [j] } ∧
    Turns G w (w2.setCell ⟨b, 3, none⟩ (.slice (some ⟨g', 0, none⟩) (q.js.length + 1) c')) ∧ ∀ i, (G i ∨ i = g') → G i ∨ w.heap.size ≤ i := by
  have T1 : Turns G w w2 := ⟨gr.os, gr.tape, gr.output, gr.size, fun i hi hn => gr.block i hi fun e => hn (h.gj i e.symm)⟩
  have B2 := (gr.block b (h.lt _ h.gb) fun e => (h.jb e.symm).1 rfl).trans h.box
  have W2 := own_same h.words fun j hj => gr.block j (h.words.lt j hj).2 fun e => (h.jb e.symm).2.2 hj
  have M2 := map_same h.marks (gr.block mp h.marks.lt fun e => (h.jb e.symm).2.1 rfl)
  have k1 : w2.grownBy (w2.setCell ⟨b, 3, none⟩ (.slice (some ⟨g', 0, none⟩) (q.js.length + 1) c')) (some b) := only_cell ⟨rfl, rfl, rfl, Nat.le_refl _, fun _ _ _ => rfl⟩ 3 _
  have T2 : Turns G w (w2.setCell ⟨b, 3, none⟩ (.slice (some ⟨g', 0, none⟩) (q.js.length + 1) c')) := T1.trans (G' := G) (Turns.of_only k1 h.gb) (fun _ e => .inl e)
  have low : ∀ i, (G i ∨ i = g') → G i ∨ w.heap.size ≤ i := fun i hi => hi.elim .inl fun e => by
    subst e
    rcases loc with rfl | ⟨hn, _⟩
    · exact .inl (h.gj _ rfl)
    · exact .inr hn
  have lowK : ∀ i, (K i ∨ (G i ∨ i = g')) → K i ∨ w.heap.size ≤ i := fun i hi => hi.elim .inl fun e => (low i e).imp (h.sub i) id
  have hlen : vs.length = q.js.length := by have := h.jumps.1; simpa using this
  refine ⟨{
    box := heap_setCell_same w2 b 3 _ _ _ B2
    words := only_own W2 k1 fun j hj => (h.wb hj).1
    marks := only_map M2 k1 h.bm.symm
    jumps := by
      have e : ({ q with js := q.js ++ [j] } : AS).js.length = q.js.length + 1 := by simp
      rw [e]
      exact only_own own k1 fun j hj => not_typ B2 (by decide) (own_typ own hj)
    each := fun i v x hv hx => by
      have hx' : (q.js ++ [j])[i]? = some x := hx
      by_cases hi : i < q.js.length
      · rw [List.getElem?_append_left (by omega)] at hv
        rw [List.getElem?_append_left hi] at hx'
        exact (h.each i v x hv hx').turns T2 (fun _ e => .inl (h.sub _ e)) lowK
      · rw [List.getElem?_append_right (by omega)] at hv
        rw [List.getElem?_append_right (by omega)] at hx'
        have h0 : i - q.js.length = 0 := by
          rcases Nat.eq_zero_or_pos (i - q.js.length) with h | h
          · exact h
          · rw [List.getElem?_eq_none (by simp; omega)] at hx'; cases hx'
        rw [hlen, h0] at hv
        rw [h0] at hx'
        simp at hv hx'
        subst hv hx'
        exact JAt.turns (w := w) (G := K) ⟨bn, bx, ba, rfl, J⟩ T2 (fun _ e => .inl (h.sub _ e)) lowK
    gb := .inl h.gb, gm := .inl h.gm, gw := fun j hj => .inl (h.gw j hj), gj := fun j hj => .inr (by simpa [Value.ownBlock] using hj.symm)
    sub := fun _ hi => .inr hi
    klt := fun i hi => hi.elim (fun e => Nat.lt_of_lt_of_le (h.klt i e) T2.size) fun hi => hi.elim (fun e => Nat.lt_of_lt_of_le (h.lt i e) T2.size) fun e => by subst e; exact Nat.lt_of_lt_of_le (own.lt _ rfl).2 k1.size
    far := fun i hi ht => (low i hi).elim (fun e => h.far i e ht) fun e => absurd (tab_lt h.tab ht) (Nat.not_lt.2 e)
    tab := tab_turns h.tab T2 h.far
    ok :=
      { n := h.ok.n
        ms := h.ok.ms
        at_ := h.ok.at_
        js := fun x hx => by
          have hx' : x ∈ q.js ++ [j] := hx
          rcases List.mem_append.1 hx' with hx' | hx'
          · exact h.ok.js x hx'
          · simp at hx'; subst hx'; exact jok
        jl := by show (q.js ++ [j]).length ≤ q.n; rw [List.length_append]; exact hl } }, T2, low⟩
theorem JIn.turns {w w' : World} {G H G' : Nat → Prop} {bn bx ba : Nat} {j : AJ} (h : JIn w G bn bx ba j) (k : Turns H w w') (hH : ∀ i, H i → G i ∨ w.heap.size ≤ i) (hg : ∀ i, G' i → G i ∨ w.heap.size ≤ i) : JIn w' G' bn bx ba j := by
  have l1 := heap_lt h.name
  have l2 := heap_lt h.inst
  have l3 := heap_lt h.pos
  have no : ∀ (K : Nat → Prop), (∀ i, K i → G i ∨ w.heap.size ≤ i) → ∀ i, ¬ G i → i < w.heap.size → ¬ K i := fun K hK i hi hl e => (hK i e).elim hi (fun h => by omega)
  exact ⟨k.heap (no _ hH _ h.gn l1) h.name, k.heap (no _ hH _ h.gx l2) h.inst, k.heap (no _ hH _ h.ga l3) h.pos, no _ hg _ h.gn l1, no _ hg _ h.gx l2, no _ hg _ h.ga l3⟩
/-- The world ahead of a jump's Put. -/
def jW (w : World) (o d : Int) (s : ByteArray) (n : Nat) : World := ((w.alloc (.cells #[.int .u8 o, .int .u8 d, .int .u8 0, .int .u8 0, .bool true, .int .i32 0] 61)).alloc (.cells #[.string s] 9)).alloc (.cells #[.int .i64 n] 3)
theorem jW_in (w : World) (o d : Int) (s : ByteArray) (n : Nat) (hG : ∀ i, G i → i < w.heap.size) : JIn (jW w o d s n) G (w.heap.size + 1) w.heap.size (w.heap.size + 1 + 1) ⟨n, o, d, s⟩ ∧ Below w.heap.size w (jW w o d s n) := by
  have no : ∀ i, w.heap.size ≤ i → ¬ G i := fun i hi e => absurd (hG i e) (Nat.not_lt.2 hi)
  have s1 : (w.alloc (.cells #[.int .u8 o, .int .u8 d, .int .u8 0, .int .u8 0, .bool true, .int .i32 0] 61)).heap.size = w.heap.size + 1 := by simp
  have s2 : ((w.alloc (.cells #[.int .u8 o, .int .u8 d, .int .u8 0, .int .u8 0, .bool true, .int .i32 0] 61)).alloc (.cells #[.string s] 9)).heap.size = w.heap.size + 1 + 1 := by simp
  exact ⟨⟨row_alloc (row_born s1), row_alloc (row_alloc (row_born rfl)), row_born s2, no _ (by omega), no _ (by omega), no _ (by omega)⟩, (((Below.refl _ _).alloc (Nat.le_refl _) _).alloc (by simp) _).alloc (by simp; omega) _⟩
theorem jW_ins (w : World) (o d : Int) (s : ByteArray) (n : Nat) (hG : ∀ i, G i → i < w.heap.size) : Ins ((jW w o d s n).alloc (.cells #[.int .u8 o, .int .u8 d, .int .u8 0, .int .u8 0, .bool true, .int .i32 0] 61)) G (.slice (some ⟨w.heap.size + 1 + 1 + 1, 0, none⟩) 1 1) 1 (fun _ => ⟨o, d, 0, 0, true, 0⟩) := by
  have h := one_ins ⟨o, d, 0, 0, true, 0⟩ (jW w o d s n)
  have e : (jW w o d s n).heap.size = w.heap.size + 1 + 1 + 1 := by simp [jW]
  rw [e] at h
  exact h.mono fun i hi => by have := hG i hi; omega
theorem jump_no (v : Value) (s : ByteArray) (o d : Int) (w : World) (h : NoAsm w v) : Calls Tryz.prog 139 #[v, .agg #[.int .u8 o, .int .u8 d, .int .u8 0, .int .u8 0, .bool true, .int .i32 0], .string s] w fun e w' => e = .returned (.int .i64 1) ∧ Below w.heap.size w w' := by
  have H := Lib.hid h
  clear h
  go_enter Tryz.func139, Tryz.ntmps139
  go_wp2_with fail
  refine (Len_no _ _ (H.out.bel (((Below.refl _ _).alloc (Nat.le_refl _) _).alloc (by simp) _))).mono ?_; rintro e w1 ⟨rfl, rfl⟩
  go_wp2_with fail
  have g := ((jW_in (G := fun _ => False) w o d s 0 (fun _ e => e.elim)).2).alloc (jW_in (G := fun _ => False) w o d s 0 (fun _ e => e.elim)).2.size (.cells #[.int .u8 o, .int .u8 d, .int .u8 0, .int .u8 0, .bool true, .int .i32 0] 61)
  have GG := Lib.hid g
  refine (Put_no _ _ _ (H.out.bel g)).mono ?_; rintro e w2 ⟨rfl, rfl⟩
  clear g
  go_wp2_with fail
  go_ret
  exact ⟨rfl, GG.out⟩
theorem jump_bad (o d : Int) (s : ByteArray) (h : AsmB w b G K q) (hx : XB ⟨o, d, 0, 0, true, 0⟩) (hm : I2.may o d 0 0 true 0 = false) (hn : q.n + 1 ≤ 100000) :
    Calls Tryz.prog 139 #[.pointer (some ⟨b, 0, none⟩), .agg #[.int .u8 o, .int .u8 d, .int .u8 0, .int .u8 0, .bool true, .int .i32 0], .string s] w fun e w' => e = .returned (.int .i64 2) ∧ Left w b G K q w' := by
  have H := Lib.hid h
  have HX := Lib.hid hx
  have HM := Lib.hid hm
  have HN := Lib.hid hn
  clear h hx hm hn
  go_enter Tryz.func139, Tryz.ntmps139
  go_wp2_with fail
  refine (Len_at (H.out.bel (((Below.refl _ _).alloc (Nat.le_refl _) _).alloc (by simp) _))).mono ?_; rintro e w1 ⟨rfl, rfl⟩
  go_wp2_with fail
  have g1 := (jW_in (G := G) w o d s q.n H.out.lt).2
  have g := g1.alloc g1.size (.cells #[.int .u8 o, .int .u8 d, .int .u8 0, .int .u8 0, .bool true, .int .i32 0] 61)
  have GG := Lib.hid g
  refine (Put_bad (X := fun _ => ⟨o, d, 0, 0, true, 0⟩) (k := 1) (H.out.bel g) (jW_ins w o d s q.n H.out.lt) (fun _ _ => HX.out) HN.out (i := 0) (by decide) HM.out).mono ?_; rintro e w2 ⟨rfl, L⟩
  have L := Lib.hid (Left.after GG.out L)
  clear g g1
  go_wp2_with fail
  go_ret
  exact ⟨rfl, L.out⟩
set_option maxHeartbeats 1000000 in
theorem jump_yes (o d : Int) (s : ByteArray) (h : AsmB w b G K q) (hx : XB ⟨o, d, 0, 0, true, 0⟩) (hop : (o = 17 ∧ 0 ≤ d ∧ d ≤ 6) ∨ (o = 18 ∧ d = 0)) (hm : I2.may o d 0 0 true 0 = true) (hs : s.size ≤ maxLen) (hn : q.n + 1 ≤ 100000) :
    Calls Tryz.prog 139 #[.pointer (some ⟨b, 0, none⟩), .agg #[.int .u8 o, .int .u8 d, .int .u8 0, .int .u8 0, .bool true, .int .i32 0], .string s] w fun e w' => e = .returned (.int .i64 0) ∧ Left w b G K (q.jump o d s) w' := by
  have hmf : ∀ (fn : Fn) (first cap : Array Value) (w : World), (Instr.makeFunc fn first cap).run Tryz.prog w = .ok (.func fn first cap) w := fun _ _ _ _ => rfl
  have H := Lib.hid h
  have HX := Lib.hid hx
  have HM := Lib.hid hm
  have HN := Lib.hid hn
  have HO : Hid (JOk (q.n + 1) ⟨q.n, o, d, s⟩) := ⟨hm, hop, Nat.lt_succ_self _, hs⟩
  have HJ : Hid (q.js.length + 1 ≤ q.n + 1) := Nat.succ_le_succ h.ok.jl
  have hq : q.jump o d s = { q.adds (fun _ => XI.word ⟨o, d, 0, 0, true, 0⟩) 1 with js := (q.adds (fun _ => XI.word ⟨o, d, 0, 0, true, 0⟩) 1).js ++ [⟨q.n, o, d, s⟩] } := by
    have e : XI.word ⟨o, d, 0, 0, true, 0⟩ = I2.enc o d 0 0 true 0 := I2.eW_yes hm
    unfold AS.jump
    rw [← e]
    rfl
  obtain ⟨q1, hq1⟩ : ∃ q1, q1 = q.adds (fun _ => XI.word ⟨o, d, 0, 0, true, 0⟩) 1 := ⟨_, rfl⟩
  have en : q1.n = q.n + 1 := by rw [hq1]; rfl
  have ej : q1.js = q.js := by rw [hq1]; rfl
  rw [← hq1] at hq
  rw [hq]
  have HQ := Lib.hid hq1
  rw [← en, ← ej] at HJ
  rw [← en] at HO
  clear h hx hm hn hop hs hq hq1 en ej
  go_enter Tryz.func139, Tryz.ntmps139
  go_wp2_with fail
  refine (Len_at (H.out.bel (((Below.refl _ _).alloc (Nat.le_refl _) _).alloc (by simp) _))).mono ?_; rintro e w1 ⟨rfl, rfl⟩
  go_wp2_with fail
  obtain ⟨J1, g1⟩ := jW_in (G := K) w o d s q.n H.out.klt
  have gx : Below (jW w o d s q.n).heap.size (jW w o d s q.n) ((jW w o d s q.n).alloc (.cells #[.int .u8 o, .int .u8 d, .int .u8 0, .int .u8 0, .bool true, .int .i32 0] 61)) := (Below.refl _ _).alloc (Nat.le_refl _) _
  have GG := Lib.hid (bel_trans g1 gx)
  have J2 := Lib.hid (J1.turns (H := fun _ => False) (G' := K) (Turns.of_bel gx) (fun _ e => e.elim) (fun _ e => .inl e))
  refine (Put_yes (X := fun _ => ⟨o, d, 0, 0, true, 0⟩) (k := 1) (H.out.bel GG.out) (jW_ins w o d s q.n H.out.lt) (fun _ _ => HX.out) HN.out (fun _ _ => HM.out)).mono ?_; rintro e w4 ⟨rfl, L⟩
  change Left _ b G K (q.adds (fun _ => XI.word ⟨o, d, 0, 0, true, 0⟩) 1) w4 at L
  rw [← HQ.out] at L
  obtain ⟨G4, ⟨mp, wv, jv, vs, P4⟩, T4, low4⟩ := L
  have J4 := Lib.hid (J2.out.turns (G' := fun i => K i ∨ G4 i) T4 (fun _ e => .inl (H.out.sub _ e)) (fun i hi => hi.elim .inl fun e => (low4 i e).imp (H.out.sub i) id))
  have LW : Hid (Turns G w w4 ∧ ∀ i, G4 i → G i ∨ w.heap.size ≤ i) := ⟨(Turns.of_bel GG.out).trans T4 (fun _ e => .inl e), fun i hi => (low4 i hi).imp id fun e => Nat.le_trans GG.out.size e⟩
  obtain ⟨k0, k1, k2, k3⟩ := P4.cells
  obtain ⟨p, c, rfl⟩ := P4.jform
  have gx5 : Below w4.heap.size w4 (w4.alloc (.cells #[jval (w.heap.size + 1) w.heap.size (w.heap.size + 1 + 1)] 166)) := (Below.refl _ _).alloc (Nat.le_refl _) _
  have hjl : Hid (q1.js.length ≤ 1000000) := by have h1 := P4.ok.jl; have h2 := P4.ok.n; unfold Hid; omega
  have P5 := Lib.hid (P4.bel gx5)
  have J5 := Lib.hid (J4.out.turns (H := fun _ => False) (G' := fun i => K i ∨ G4 i) (Turns.of_bel gx5) (fun _ e => e.elim) (fun _ e => .inl e))
  have GX := Lib.hid gx5
  have hrow : Hid ((w4.alloc (.cells #[jval (w.heap.size + 1) w.heap.size (w.heap.size + 1 + 1)] 166)).heap[w4.heap.size]? = some (.cells #[jval (w.heap.size + 1) w.heap.size (w.heap.size + 1 + 1)] 166 (0, 0))) := heap_alloc_last _ _
  clear T4 low4 J1 g1 gx J2 GG HQ P4 J4 gx5
  go_wp2_with (at_builtin; refine wpList_tell rfl _ _ 157 166 rfl _ 8 comp_under comp_parts rfl (by decide) _ _ _ (jval (w.heap.size + 1) w.heap.size (w.heap.size + 1 + 1)) rfl rfl P5.out.jumps w4.heap.size 1 rfl hrow.out hjl.out ?_
               intro g' c' w5 own gr loc
               have X := Lib.hid (P5.out.jumped own gr loc J5.out HO.out HJ.out)
               have hb5 : w5.heap[b]? = _ := (gr.block b (P5.out.lt _ P5.out.gb) fun e => (P5.out.jb e.symm).1 rfl).trans P5.out.box
               have k3' := row_cell hb5 (j := 3) rfl
               have f3' := row_frozen (j := 3) hb5
               clear own gr loc k0 k1 k2 k3 hrow hb5)
  go_ret
  exact ⟨rfl, ⟨_, (X.out.1.narrow (K' := fun i => K i ∨ (G4 i ∨ i = g')) (fun _ e => .inr e) (fun i e => e.elim (fun e => .inl (.inl e)) .inr)).toB, LW.out.1.trans ((Turns.of_bel (G := G4) GX.out).trans X.out.2.1 (fun _ e => .inl e)) LW.out.2, fun i hi => (X.out.2.2 i hi).elim (LW.out.2 i) fun e => .inr (Nat.le_trans LW.out.1.size (Nat.le_trans GX.out.size e))⟩⟩
end
end Go.Proofs.YtbkhhfffgmappaaGreatDoor.A7
namespace Go.Proofs.YtbkhhfffgmappaaGreatDoor.A7
open Go.RowKit Go.Maps
set_option linter.unusedVariables false
section
variable {w w2 : World} {b mp : Nat} {wv jv : Value} {vs : List Value} {G K : Nat → Prop} {q : AS}
theorem xb_jump (o d : Int) (ho : 0 ≤ o ∧ o ≤ 255) (hd : 0 ≤ d ∧ d ≤ 255) : XB ⟨o, d, 0, 0, true, 0⟩ := ⟨ho, hd, by simp only; omega, by simp only; omega, by simp only; omega⟩
theorem Jump_no (v : Value) (d : Int) (s : ByteArray) (w : World) (h : NoAsm w v) : Calls Tryz.prog 95 #[v, .int .u8 d, .string s] w fun e w' => e = .returned (.int .i64 1) ∧ Below w.heap.size w w' := by
  have H := Lib.hid h
  clear h
  go_enter Tryz.func95, Tryz.ntmps95
  go_wp2_with fail
  refine (jump_no v s 17 d w H.out).mono ?_; rintro e w1 ⟨rfl, g⟩
  go_wp2_with fail
  go_ret
  exact ⟨rfl, g⟩
theorem Call_no (v : Value) (s : ByteArray) (w : World) (h : NoAsm w v) : Calls Tryz.prog 97 #[v, .string s] w fun e w' => e = .returned (.int .i64 1) ∧ Below w.heap.size w w' := by
  have H := Lib.hid h
  clear h
  go_enter Tryz.func97, Tryz.ntmps97
  go_wp2_with fail
  refine (jump_no v s 18 0 w H.out).mono ?_; rintro e w1 ⟨rfl, g⟩
  go_wp2_with fail
  go_ret
  exact ⟨rfl, g⟩
theorem Jump_yes (d : Int) (s : ByteArray) (h : AsmB w b G K q) (hd : 0 ≤ d ∧ d ≤ 6) (hs : s.size ≤ maxLen) (hn : q.n + 1 ≤ 100000) :
    Calls Tryz.prog 95 #[.pointer (some ⟨b, 0, none⟩), .int .u8 d, .string s] w fun e w' => e = .returned (.int .i64 0) ∧ Left w b G K (q.jump 17 d s) w' := by
  have C := Lib.hid (jump_yes 17 d s h (xb_jump 17 d (by decide) (by omega)) (.inl ⟨rfl, hd.1, hd.2⟩) (by rw [I2.may4_t _ _ _ _ _ hd.1 (by decide) (by decide) rfl]; exact decide_eq_true ⟨hd.2, rfl, rfl, by decide, by decide⟩) hs hn)
  clear h hd hs hn
  go_enter Tryz.func95, Tryz.ntmps95
  go_wp2_with fail
  refine C.out.mono ?_; rintro e w1 ⟨rfl, L⟩
  have L := Lib.hid L
  go_wp2_with fail
  go_ret
  exact ⟨rfl, L.out⟩
theorem Jump_bad (d : Int) (s : ByteArray) (h : AsmB w b G K q) (hd : 6 < d ∧ d ≤ 255) (hn : q.n + 1 ≤ 100000) :
    Calls Tryz.prog 95 #[.pointer (some ⟨b, 0, none⟩), .int .u8 d, .string s] w fun e w' => e = .returned (.int .i64 2) ∧ Left w b G K q w' := by
  have C := Lib.hid (jump_bad 17 d s h (xb_jump 17 d (by decide) (by omega)) (by rw [I2.may4_t _ _ _ _ _ (by omega) (by decide) (by decide) rfl]; exact decide_eq_false fun h => by omega) hn)
  clear h hd hn
  go_enter Tryz.func95, Tryz.ntmps95
  go_wp2_with fail
  refine C.out.mono ?_; rintro e w1 ⟨rfl, L⟩
  have L := Lib.hid L
  go_wp2_with fail
  go_ret
  exact ⟨rfl, L.out⟩
theorem Call_yes (s : ByteArray) (h : AsmB w b G K q) (hs : s.size ≤ maxLen) (hn : q.n + 1 ≤ 100000) :
    Calls Tryz.prog 97 #[.pointer (some ⟨b, 0, none⟩), .string s] w fun e w' => e = .returned (.int .i64 0) ∧ Left w b G K (q.jump 18 0 s) w' := by
  have C := Lib.hid (jump_yes 18 0 s h (xb_jump 18 0 (by decide) (by decide)) (.inr ⟨rfl, rfl⟩) (by rw [I2.may5_t _ _ _ _ _ (by decide) (by decide) (by decide) rfl]; decide) hs hn)
  clear h hs hn
  go_enter Tryz.func97, Tryz.ntmps97
  go_wp2_with fail
  refine C.out.mono ?_; rintro e w1 ⟨rfl, L⟩
  have L := Lib.hid L
  go_wp2_with fail
  go_ret
  exact ⟨rfl, L.out⟩
theorem eq_nil (a : Option Addr) (n c n' c' : Nat) (W : World) : (binOp .eql 25 (.slice a n c) (.slice none n' c')).run Tryz.prog W = .ok (.bool a.isNone) W := Lib.run_eql_slice_nil W _ _ a n c n' c' words_under
theorem bsL_one (f : Nat → Int) (n : Nat) : ∀ u ∈ bsL .u32 f n, u.oneCell' = true := by
  intro u hu
  simp [bsL] at hu
  obtain ⟨i, _, rfl⟩ := hu
  rfl
theorem own_cell {B : Nat} {t : TypeId} {g n c : Nat} {xs : List Value} (h : w.ownsRow B t 1 (.slice (some ⟨g, 0, none⟩) n c) n xs) : ∀ (j : Nat) (u : Value), xs[j]? = some u → w.cell? ⟨g, 0 + j, none⟩ = some u := by
  obtain ⟨h0, ⟨h, _⟩ | ⟨g', cap, cur, e, hB, hg, h1, h2, h3, h4⟩⟩ := h
  · cases h
  · simp only [Value.slice.injEq, Option.some.injEq, Addr.mk.injEq] at e
    obtain ⟨⟨rfl, _⟩, _, rfl⟩ := e
    intro j u hu
    have hj : j < n * 1 := by
      rcases Nat.lt_or_ge j (n * 1) with h | h
      · exact h
      · rw [List.getElem?_eq_none (by omega)] at hu; cases hu
    rw [Nat.zero_add]
    rw [← h4, List.getElem?_take, if_pos hj] at hu
    exact row_cell hg (by simpa using hu)
set_option maxRecDepth 10000 in
theorem cloneW_at {s : Value} {n : Nat} {f : Nat → Int} (own : w.ownsRow 0 22 1 s n (bsL .u32 f n)) (hn : n ≤ 100000) :
    Calls Tryz.prog 99 #[s] w fun e w' => ∃ v, e = .returned v ∧ w'.ownsRow w.heap.size 22 1 v n (bsL .u32 f n) ∧ Below w.heap.size w w' := by
  obtain ⟨i0, hi, hz0, hz1, hz2⟩ := info_parts words_parts
  have hq := eq_nil
  rcases own_of own with ⟨rfl, rfl⟩ | ⟨g, c, rfl⟩
  · clear own
    go_enter Tryz.func99, Tryz.ntmps99
    go_wp2
    go_ret
    exact ⟨_, rfl, World.ownsRow_nil _ _ _ _, Below.refl _ _⟩
  · have hnews : Hid (∀ (j : Nat) (u : Value), (bsL .u32 f n)[j]? = some u → (w.alloc (.cells #[] 22)).cell? ((⟨g, 0, none⟩ : Addr).add j) = some u) := fun j u hj => by
      rw [add_off]
      exact bel_cell ((Below.refl _ _).alloc (Nat.le_refl _) _) (own_cell own j u hj)
    clear own
    go_enter Tryz.func99, Tryz.ntmps99
    go_wp2_with (at_builtin; refine wpList_append_own _ rfl _ _ 25 rfl w.heap.size 22 i0 (.int .u32 0) 1 4 words_under hi hz0 hz1 hz2 rfl (by decide) _ _ _ rfl (World.ownsRow_made w #[] 0 (Nat.le_refl _) (Nat.zero_le _) (by simp)) ⟨g, 0, none⟩ n c (bsL .u32 f n) rfl ?qc1 ?qc2 ?qc3 ?qc4 ?qc5 ?qc6 ?_)
    case qc1 => unfold bsL; simp
    case qc2 => exact hnews.out
    case qc3 => exact bsL_one f n
    case qc4 => unfold maxLen; omega
    case qc5 => omega
    case qc6 => simp
    intro v' w1 hown hgrow hnil
    have X : Hid (w1.ownsRow w.heap.size 22 1 v' n (bsL .u32 f n) ∧ Below w.heap.size w w1) := ⟨by simpa using hown, ((Below.refl _ w).alloc (Nat.le_refl _) _).grown hgrow (by simp) (by intro k hk; simp [Value.ownBlock] at hk; omega)⟩
    clear hown hgrow hnil
    go_wp2
    go_ret
    exact ⟨_, rfl, X.out.1, X.out.2⟩
theorem look_mem (l : List (ByteArray × Nat)) (s : ByteArray) (t : Nat) : look l s = some t → ∃ p ∈ l, p.2 = t := by
  refine snocs (P := fun l => look l s = some t → ∃ p ∈ l, p.2 = t) (fun h => by simp [look_nil] at h) (fun l x ih h => ?_) l
  obtain ⟨k, v⟩ := x
  rw [look_snoc] at h
  by_cases e : k = s
  · rw [if_pos e] at h
    injection h with h
    exact ⟨(k, v), by simp, h⟩
  · rw [if_neg e] at h
    obtain ⟨p, hp, e2⟩ := ih h
    exact ⟨p, List.mem_append_left _ hp, e2⟩
theorem Words_no (v : Value) (w : World) (h : NoAsm w v) : Calls Tryz.prog 48 #[v] w fun e w' => e = .returned (.tuple #[.slice none 0 0, .int .i64 1]) ∧ w' = w := by
  have H := Lib.hid h
  clear h
  go_enter Tryz.func48, Tryz.ntmps48
  go_wp2_with fail
  refine (isObject_no _ _ H.out).mono ?_; rintro e w1 ⟨rfl, rfl⟩
  go_wp2_with fail
  go_ret2
  exact ⟨rfl, rfl⟩
set_option maxHeartbeats 1000000 in
theorem Words_any (h : AsmB w b G K q) :
    Calls Tryz.prog 48 #[.pointer (some ⟨b, 0, none⟩)] w fun e w' => (∃ f v, q.words = some f ∧ e = .returned (.tuple #[v, .int .i64 0]) ∧ w'.ownsRow w.heap.size 22 1 v q.n (bsL .u32 f q.n) ∧ Below w.heap.size w w') ∨ (q.words = none ∧ e = .returned (.tuple #[.slice none 0 0, .int .i64 7]) ∧ Below w.heap.size w w') := by
  obtain ⟨mp, wv, jv, vs, h⟩ := h
  obtain ⟨k0, k1, k2, k3⟩ := h.cells
  obtain ⟨p, c, rfl⟩ := h.wform
  obtain ⟨jp, jc, rfl⟩ := h.jform
  have P := Lib.hid h
  have hjb : q.js.length ≤ 100000 := Nat.le_trans h.ok.jl h.ok.n
  clear h
  go_enter Tryz.func48, Tryz.ntmps48
  go_wp2_with fail
  refine (isObject_yes _ _ _ _ P.out.box).mono ?_; rintro e w1 ⟨rfl, rfl⟩
  go_wp2_with fail
  refine (cloneW_at P.out.words P.out.ok.n).mono ?_; rintro e w2 ⟨v, rfl, O, g2⟩
  have P2 := Lib.hid (P.out.bel g2)
  have O2 := Lib.hid O
  have G2 := Lib.hid g2
  clear k0 k1 k2 k3 O g2
  obtain ⟨k0, k1, k2, k3⟩ := P2.out.cells
  obtain ⟨vp, vc, rfl⟩ := lenOf_own O2.out
  go_wp2_with fail
  go_loopw [21] (fun i wr => ∃ (k : Nat) (f : Nat → Int), k ≤ q.js.length ∧ i = .int .i64 k ∧ fin q.ms (q.js.drop k) f = q.words ∧ wr.ownsRow w1.heap.size 22 1 (.slice vp q.n vc) q.n (bsL .u32 f q.n) ∧ Below w1.heap.size w1 wr) (fun i _ => q.js.length - (intOf i).toNat)
  case atStart => exact ⟨0, q.ws, Nat.zero_le _, rfl, rfl, O2.out, G2.out⟩
  case round =>
    obtain ⟨k, f, hk, rfl, hf, own, g⟩ := hrel
    have F := Lib.hid hf
    have O3 := Lib.hid own
    have P3 := Lib.hid (P.out.bel g)
    have G3 := Lib.hid g
    clear hf own g k0 k1 k2 k3
    obtain ⟨k0, k1, k2, k3⟩ := P3.out.cells
    by_cases hlt : k < q.js.length
    · have hlen : vs.length = q.js.length := by have := P.out.jumps.1; simpa using this
      obtain ⟨bn, bx, ba, hv, J⟩ := P3.out.each k _ _ (List.getElem?_eq_getElem (by omega)) (List.getElem?_eq_getElem hlt)
      obtain ⟨jg, rfl⟩ : ∃ jg, jp = some ⟨jg, 0, none⟩ := by
        rcases own_of P3.out.jumps with ⟨_, h0⟩ | ⟨g', c', e⟩
        · omega
        · injection e with e; exact ⟨g', e⟩
      have hcell := own_cell P3.out.jumps k _ ((List.getElem?_eq_getElem (by omega)).trans (congrArg some hv))
      rw [Nat.zero_add] at hcell
      unfold jval at hcell
      have hdrop : q.js.drop k = q.js[k] :: q.js.drop (k + 1) := List.drop_eq_getElem_cons hlt
      have jok := P.out.ok.js _ (List.getElem_mem hlt)
      have hfk : ∀ t, look q.ms (q.js[k]).nm = some t → t ≤ 100000 := fun t h => by
        obtain ⟨p, hp, e⟩ := look_mem _ _ _ h
        have := P.out.ok.at_ p hp
        have := P.out.ok.n
        omega
      have F2 := F.out
      rw [hdrop] at F2
      generalize q.js[k] = j at *
      have JJ := Lib.hid J
      have JO := Lib.hid jok
      cases hl : look q.ms j.nm with
      | none =>
        have FF : Hid (q.words = none) := by
          have := F2; simp only [fin, hl] at this; exact this.symm
        clear J jok hfk F2 hdrop hv
        go_wp2_with fail
        refine (jump1_none _ JJ.out JO.out P3.out.marks hl).mono ?_; rintro e w3 ⟨rfl, rfl⟩
        go_wp2_with fail
        go_ret2
        exact .inr ⟨FF.out, rfl, G3.out⟩
      | some t =>
        have FF : Hid (fin q.ms (q.js.drop (k + 1)) (F3.upd f j.pos (j.word t)) = q.words) := by
          have := F2; simp only [fin, hl] at this; exact this
        have HT := Lib.hid (hfk t hl)
        have HL := Lib.hid hl
        have hqn : 0 < q.n := by have := P.out.ok.jl; omega
        obtain ⟨vg, rfl⟩ : ∃ vg, vp = some ⟨vg, 0, none⟩ := by
          rcases own_of O3.out with ⟨_, h0⟩ | ⟨g', c', e⟩
          · omega
          · injection e with e; exact ⟨g', e⟩
        clear J jok hfk F2 hdrop hv hl hqn
        go_wp2_with fail
        refine (jump1_yes JJ.out JO.out P3.out.marks HL.out HT.out P.out.ok.n P3.out.tab O3.out).mono ?_; rintro e w3 ⟨rfl, o4, g4⟩
        have X : Hid (w3.ownsRow w1.heap.size 22 1 (.slice (some ⟨vg, 0, none⟩) q.n vc) q.n (bsL .u32 (F3.upd f j.pos (j.word t)) q.n) ∧ Below w1.heap.size w1 w3) := ⟨o4, only_bel G3.out g4 (O3.out.lt vg rfl).1⟩
        clear o4 g4 O3 JJ JO HL HT P3 hcell k0 k1 k2 k3
        go_wp2_with fail
        go_roundw
        case rel => exact ⟨k + 1, _, by omega, by go_num, FF.out, X.out.1, X.out.2⟩
        case measure => simp [intOf]; omega
    · obtain rfl : k = q.js.length := by omega
      have F1 : Hid (some f = q.words) := by have := F.out; rw [List.drop_length] at this; exact this
      go_wp2_with fail
      go_ret2
      exact .inl ⟨f, _, F1.out.symm, rfl, O3.out, G3.out⟩
end
end Go.Proofs.YtbkhhfffgmappaaGreatDoor.A7
namespace Go.Proofs.YtbkhhfffgmappaaGreatDoor.A7
open Go.RowKit Go.Maps
set_option linter.unusedVariables false
/-- Three lists, all made since w0; nothing that was there in w0 has turned. -/
def Tri (w0 w : World) (a b c : Nat) (qa qb qc : AS) : Prop := ∃ Ga Gb Gc K : Nat → Prop, AsmB w a Ga K qa ∧ AsmB w b Gb K qb ∧ AsmB w c Gc K qc ∧ (∀ i, Ga i → ¬ Gb i) ∧ (∀ i, Ga i → ¬ Gc i) ∧ (∀ i, Gb i → ¬ Gc i) ∧ (∀ i, (Ga i ∨ Gb i ∨ Gc i) → w0.heap.size ≤ i) ∧ Below w0.heap.size w0 w
section
variable {w0 w w' : World} {a b c : Nat} {qa qb qc q' : AS}
theorem Tri.rot (h : Tri w0 w a b c qa qb qc) : Tri w0 w b c a qb qc qa := by
  obtain ⟨Ga, Gb, Gc, K, A, B, C, ab, ac, bc, low, g⟩ := h
  exact ⟨Gb, Gc, Ga, K, B, C, A, bc, fun i hb ha => ab i ha hb, fun i hc ha => ac i ha hc, fun i hi => low i (by rcases hi with h | h | h <;> simp [h]), g⟩
theorem Tri.bel (h : Tri w0 w a b c qa qb qc) : Below w0.heap.size w0 w := by obtain ⟨Ga, Gb, Gc, K, A, B, C, ab, ac, bc, low, g⟩ := h; exact g
theorem Tri.more (h : Tri w0 w a b c qa qb qc) (k : Below w.heap.size w w') : Tri w0 w' a b c qa qb qc := by
  obtain ⟨Ga, Gb, Gc, K, A, B, C, ab, ac, bc, low, g⟩ := h
  exact ⟨Ga, Gb, Gc, K, A.bel k, B.bel k, C.bel k, ab, ac, bc, low, bel_trans g k⟩
theorem Tri.see (h : Tri w0 w a b c qa qb qc) : ∃ G K, AsmB w a G K qa := by obtain ⟨Ga, Gb, Gc, K, A, _⟩ := h; exact ⟨_, _, A⟩
theorem Tri.left (h : Tri w0 w a b c qa qb qc) {F : Nat} {xs : Array Value} {r : Value} (P : ∀ G K, AsmB w a G K qa → Calls Tryz.prog F xs w fun e w' => e = .returned r ∧ Left w a G K q' w') : Calls Tryz.prog F xs w fun e w' => e = .returned r ∧ Tri w0 w' a b c q' qb qc := by
  obtain ⟨Ga, Gb, Gc, K, A, B, C, ab, ac, bc, low, g⟩ := h
  refine (P Ga K A).mono ?_
  rintro e w' ⟨rfl, G', A', T, lo⟩
  have l1 := A'.lt
  have no : ∀ (H : Nat → Prop), (∀ i, Ga i → ¬ H i) → (∀ i, H i → i < w.heap.size) → ∀ i, G' i → ¬ H i := fun H hH hl i hi e => (lo i hi).elim (fun h => hH i h e) fun h => absurd (hl i e) (Nat.not_lt.2 h)
  refine ⟨rfl, G', Gb, Gc, fun i => K i ∨ G' i, A', B.beside T (fun i hb ha => ab i ha hb) A.sub A.far lo l1, C.beside T (fun i hc ha => ac i ha hc) A.sub A.far lo l1, no Gb ab B.lt, no Gc ac C.lt, bc, fun i hi => ?_, Turns.bel g T (fun i hi => low i (.inl hi))⟩
  rcases hi with h | h
  · exact (lo i h).elim (fun h => low i (.inl h)) fun h => Nat.le_trans g.size h
  · exact low i (.inr h)
theorem Tri.left2 {u : World} (h : Tri w0 u a b c qa qb qc) (k : Below u.heap.size u w) {F : Nat} {xs : Array Value} {r : Value} (P : ∀ G K, AsmB w a G K qa → (∀ i, G i → i < u.heap.size) → Calls Tryz.prog F xs w fun e w' => e = .returned r ∧ Left w a G K q' w') : Calls Tryz.prog F xs w fun e w' => e = .returned r ∧ Tri w0 w' a b c q' qb qc := by
  obtain ⟨Ga, Gb, Gc, K, A, B, C, ab, ac, bc, low, g⟩ := h
  refine (P Ga K (A.bel k) A.lt).mono ?_
  replace A := A.bel k
  replace B := B.bel k
  replace C := C.bel k
  replace g := bel_trans g k
  rintro e w' ⟨rfl, G', A', T, lo⟩
  have l1 := A'.lt
  have no : ∀ (H : Nat → Prop), (∀ i, Ga i → ¬ H i) → (∀ i, H i → i < w.heap.size) → ∀ i, G' i → ¬ H i := fun H hH hl i hi e => (lo i hi).elim (fun h => hH i h e) fun h => absurd (hl i e) (Nat.not_lt.2 h)
  refine ⟨rfl, G', Gb, Gc, fun i => K i ∨ G' i, A', B.beside T (fun i hb ha => ab i ha hb) A.sub A.far lo l1, C.beside T (fun i hc ha => ac i ha hc) A.sub A.far lo l1, no Gb ab B.lt, no Gc ac C.lt, bc, fun i hi => ?_, Turns.bel g T (fun i hi => low i (.inl hi))⟩
  rcases hi with h | h
  · exact (lo i h).elim (fun h => low i (.inl h)) fun h => Nat.le_trans g.size h
  · exact low i (.inr h)
/-- A new list beside others. -/
theorem AsmB.besideNew {Ga K G : Nat → Prop} (h : AsmB w a Ga K qa) (k : Below w.heap.size w w') (low : ∀ i, G i → w.heap.size ≤ i) (lt' : ∀ i, G i → i < w'.heap.size) : AsmB w' a Ga (fun i => K i ∨ G i) qa :=
  h.beside (H := fun _ => False) (Turns.of_bel k) (fun _ _ e => e) (fun _ e => e.elim) (fun _ e => e.elim) (fun i hi => .inr (low i hi)) lt'
set_option maxHeartbeats 1000000 in
theorem Same_yes (s t : Value) (m : Nat) (f g : Nat → Int) (w : World) (hm : m ≤ 4194304) (h1 : Sl .u32 w s m f) (h2 : Sl .u32 w t m g) (he : ∀ i, i < m → f i = g i) :
    Calls Tryz.prog 24 #[s, t] w fun e w' => e = .returned (.bool true) ∧ Below w.heap.size w w' := by
  obtain ⟨p, c, rfl, h1⟩ := h1
  obtain ⟨q, d, rfl, h2⟩ := h2
  have H1 := Lib.hid h1
  have H2 := Lib.hid h2
  have HE := Lib.hid he
  clear h1 h2 he
  go_enter Tryz.func24, Tryz.ntmps24
  go_wp2
  go_loopw [5] (fun i wr => ∃ k : Nat, k ≤ m ∧ i = .int .i64 k ∧ Below w.heap.size w wr) (fun i _ => m - (intOf i).toNat)
  case atStart => exact ⟨0, by omega, rfl, Below.refl _ _⟩
  case round =>
    obtain ⟨k, hk, rfl, hg⟩ := hrel
    by_cases hlt : k < m
    · obtain ⟨a, o, rfl, ha⟩ := H1.out (by omega)
      obtain ⟨b, r, rfl, hb⟩ := H2.out (by omega)
      have ca := bel_cell hg (ha k hlt)
      have cb := bel_cell hg (hb k hlt)
      rw [← HE.out k hlt] at cb
      have hk32 : k < 4194304 := by omega
      clear ha hb H1 H2
      go_wp2
      go_quiet (fail)
      go_wp2
      go_roundw
      case rel => exact ⟨k + 1, by omega, by go_num, bel_drewN hg _⟩
      case measure => simp [intOf]; omega
    · obtain rfl : k = m := by omega
      go_wp2
      go_ret
      exact ⟨rfl, hg⟩
theorem lit_sl (l : List Int) (n : Nat) (hl : l.length = n) (w : World) : Sl .u32 (w.alloc (.cells (l.map (Value.int .u32)).toArray 22)) (.slice (some ⟨w.heap.size, 0, none⟩) n n) n (fun i => l.getD i 0) := by
  have h : (w.alloc (.cells (l.map (Value.int .u32)).toArray 22)).heap[w.heap.size]? = some (.cells (l.map (Value.int .u32)).toArray 22 (0, 0)) := heap_alloc_last _ _
  refine ⟨_, _, rfl, fun _ => ⟨_, 0, rfl, fun i hi => row_cell h ?_⟩⟩
  rw [Nat.zero_add]
  have hi' : i < l.length := by omega
  simp [hi', List.getD]
theorem range_eq {f : Nat → Int} {l : List Int} {n : Nat} (h : (List.range n).map f = l) : ∀ i, i < n → f i = l.getD i 0 := by
  intro i hi
  subst h
  simp [List.getD, hi]
end
end Go.Proofs.YtbkhhfffgmappaaGreatDoor.A7
namespace Go.Proofs.YtbkhhfffgmappaaGreatDoor.A7
open Go.RowKit Go.Maps
set_option linter.unusedVariables false
def qa0 : AS := AS.nil.const 1 5
def qa1 : AS := qa0.const 1 4294967295
def qa2 : AS := qa1.const 1 305419896
def qa3 : AS := qa2.const 1 32768
def qb0 : AS := AS.nil.jump 17 0 ⟨#[120]⟩
def qb1 : AS := qb0.adds (fun _ => XI.word ⟨32, 0, 0, 0, false, 0⟩) 1
def qb2 : AS := qb1.mark ⟨#[120]⟩
def qc0 : AS := AS.nil.jump 18 0 ⟨#[121]⟩
theorem n_a0 : AS.nil.n + 2 ≤ 100000 := of_decide_eq_true (by kernel_rfl)
theorem n_a1 : qa0.n + 2 ≤ 100000 := of_decide_eq_true (by kernel_rfl)
theorem n_a2 : qa1.n + 2 ≤ 100000 := of_decide_eq_true (by kernel_rfl)
theorem n_a3 : qa2.n + 2 ≤ 100000 := of_decide_eq_true (by kernel_rfl)
theorem n_b0 : AS.nil.n + 1 ≤ 100000 := of_decide_eq_true (by kernel_rfl)
theorem n_b1 : qb0.n + 1 ≤ 100000 := of_decide_eq_true (by kernel_rfl)
theorem x_sz : (⟨#[120]⟩ : ByteArray).size ≤ maxLen := of_decide_eq_true (by kernel_rfl)
theorem y_sz : (⟨#[121]⟩ : ByteArray).size ≤ maxLen := of_decide_eq_true (by kernel_rfl)
theorem m_b1 : look qb1.ms ⟨#[120]⟩ = none := by kernel_rfl
theorem l_b1 : qb1.ms.length < 100000 := of_decide_eq_true (by kernel_rfl)
theorem m_b2 : (look qb2.ms ⟨#[120]⟩).isSome = true := by kernel_rfl
theorem w_a : (qa3.words.map fun f => (List.range 5).map f) = some [69238789, 69271551, 1008879242, 471959160, 1008730128] := by kernel_rfl
theorem w_b : (qb2.words.map fun f => (List.range 2).map f) = some [1140850690, 2147483648] := by kernel_rfl
theorem w_c : qc0.words.isNone = true := by kernel_rfl
theorem na : qa3.n = 5 := by kernel_rfl
theorem nb : qb2.n = 2 := by kernel_rfl
theorem nc : qc0.n = 1 := by kernel_rfl
theorem at_b : atV qb2 ⟨#[120]⟩ = 2 ∧ atE qb2 ⟨#[120]⟩ = 0 := ⟨by kernel_rfl, by kernel_rfl⟩
theorem ret_may : I2.may 32 0 0 0 false 0 = true := by kernel_rfl
section
variable {w0 w w' : World} {a b c : Nat} {qa qb qc q' : AS}
/-- A list's words, as the head reads them. -/
theorem words_a (h : Tri w0 w a b c qa3 qb qc) : Calls Tryz.prog 48 #[.pointer (some ⟨a, 0, none⟩)] w fun e w' => ∃ v, e = .returned (.tuple #[v, .int .i64 0]) ∧ Sl .u32 w' v 5 (fun i => [69238789, 69271551, 1008879242, 471959160, 1008730128].getD i 0) ∧ Tri w0 w' a b c qa3 qb qc := by
  obtain ⟨G, K, A⟩ := h.see
  refine (Words_any A).mono ?_
  rintro e w' (⟨f, v, hf, rfl, own, g⟩ | ⟨hf, _⟩)
  · have e1 := w_a
    rw [hf] at e1
    rw [na] at own
    exact ⟨v, rfl, (own_sl own).congr (range_eq (by simpa using e1)), h.more g⟩
  · have e1 := w_a; rw [hf] at e1; cases e1
theorem words_b (h : Tri w0 w b c a qb2 qc qa) : Calls Tryz.prog 48 #[.pointer (some ⟨b, 0, none⟩)] w fun e w' => ∃ v, e = .returned (.tuple #[v, .int .i64 0]) ∧ Sl .u32 w' v 2 (fun i => [1140850690, 2147483648].getD i 0) ∧ Tri w0 w' b c a qb2 qc qa ∧ Below w.heap.size w w' := by
  obtain ⟨G, K, A⟩ := h.see
  refine (Words_any A).mono ?_
  rintro e w' (⟨f, v, hf, rfl, own, g⟩ | ⟨hf, _⟩)
  · have e1 := w_b
    rw [hf] at e1
    rw [nb] at own
    exact ⟨v, rfl, (own_sl own).congr (range_eq (by simpa using e1)), h.more g, g⟩
  · have e1 := w_b; rw [hf] at e1; cases e1
theorem words_c (h : Tri w0 w c a b qc0 qa qb) : Calls Tryz.prog 48 #[.pointer (some ⟨c, 0, none⟩)] w fun e w' => e = .returned (.tuple #[.slice none 0 0, .int .i64 7]) ∧ Tri w0 w' c a b qc0 qa qb ∧ Below w.heap.size w w' := by
  obtain ⟨G, K, A⟩ := h.see
  refine (Words_any A).mono ?_
  rintro e w' (⟨f, v, hf, _⟩ | ⟨hf, rfl, g⟩)
  · have e1 := w_c; rw [hf] at e1; cases e1
  · exact ⟨rfl, h.more g, g⟩
end
set_option maxHeartbeats 4000000 in
set_option maxRecDepth 20000 in
theorem head_at (w : World) (hT : I2.Tab w) : Calls Tryz.prog 47 #[] w fun e w' => e = .returned (.bool true) ∧ Below w.heap.size w w' := by
  have HT := Lib.hid hT
  clear hT
  go_enter Tryz.func47, Tryz.ntmps47
  go_wp2_with fail
  refine (New_at (K := fun _ => False) w HT.out (fun _ e => e.elim)).mono ?_; rintro e w1 ⟨a, Ga, rfl, A1, g1, low1⟩
  have A1 := Lib.hid A1
  have G1 := Lib.hid g1
  have L1 := Lib.hid low1
  clear g1 low1
  go_wp2_with fail
  refine (New_at w1 (tab_bel HT.out G1.out) A1.out.klt).mono ?_; rintro e w2 ⟨b, Gb, rfl, B2, g2, low2⟩
  have B2 := Lib.hid B2
  have A2 := Lib.hid (A1.out.besideNew g2 low2 B2.out.lt)
  have G2 := Lib.hid g2
  have L2 := Lib.hid low2
  clear g2 low2
  go_wp2_with fail
  refine (New_at w2 (tab_bel HT.out (bel_trans G1.out G2.out)) B2.out.klt).mono ?_; rintro e w3 ⟨c, Gc, rfl, C3, g3, low3⟩
  have T3 : Hid (Tri w w3 a b c AS.nil AS.nil AS.nil) := by
    have s1 := G1.out.size
    have s2 := G2.out.size
    have s3 := g3.size
    refine ⟨Ga, Gb, Gc, _, A2.out.besideNew g3 low3 C3.lt, B2.out.besideNew g3 low3 C3.lt, C3, fun i ha hb => ?_, fun i ha hc => ?_, fun i hb hc => ?_, ?_, bel_trans (bel_trans G1.out G2.out) g3⟩
    · have := A1.out.lt i ha; have := L2.out i hb; omega
    · have := A2.out.lt i ha; have := low3 i hc; omega
    · have := B2.out.lt i hb; have := low3 i hc; omega
    · rintro i (h | h | h)
      · exact L1.out i h
      · exact Nat.le_trans s1 (L2.out i h)
      · exact Nat.le_trans (Nat.le_trans s1 s2) (low3 i h)
  clear A1 B2 A2 C3 g3 low3 G1 G2 L1 L2
  go_wp2_with fail
  refine ((T3.out).left (fun G K A => Const_yes (q := AS.nil) 1 5 A ⟨by decide, by decide⟩ ⟨by decide, by decide⟩ n_a0)).mono ?_; rintro e w4 ⟨rfl, T⟩
  have T4 := Lib.hid (T)
  clear T T3
  go_wp2_with fail
  refine ((T4.out).left (fun G K A => Const_yes (q := qa0) 1 4294967295 A ⟨by decide, by decide⟩ ⟨by decide, by decide⟩ n_a1)).mono ?_; rintro e w5 ⟨rfl, T⟩
  have T5 := Lib.hid (T)
  clear T T4
  go_wp2_with fail
  refine ((T5.out).left (fun G K A => Const_yes (q := qa1) 1 305419896 A ⟨by decide, by decide⟩ ⟨by decide, by decide⟩ n_a2)).mono ?_; rintro e w6 ⟨rfl, T⟩
  have T6 := Lib.hid (T)
  clear T T5
  go_wp2_with fail
  refine ((T6.out).left (fun G K A => Const_yes (q := qa2) 1 32768 A ⟨by decide, by decide⟩ ⟨by decide, by decide⟩ n_a3)).mono ?_; rintro e w7 ⟨rfl, T⟩
  have T7 := Lib.hid (T)
  clear T T6
  change Hid (Tri w w7 a b c qa3 AS.nil AS.nil) at T7
  go_wp2_with fail
  refine ((T7.out.rot).left (fun G K A => Jump_yes (q := AS.nil) 0 ⟨#[120]⟩ A ⟨by decide, by decide⟩ x_sz n_b0)).mono ?_; rintro e w8 ⟨rfl, T⟩
  have T8 := Lib.hid (T)
  clear T T7
  change Hid (Tri w w8 b c a qb0 AS.nil qa3) at T8
  have gx : Below w8.heap.size w8 (w8.alloc (.cells (XI.row ⟨32, 0, 0, 0, false, 0⟩).toArray 61)) := (Below.refl _ _).alloc (Nat.le_refl _) _
  have GX := Lib.hid gx
  have II := Lib.hid (one_ins ⟨32, 0, 0, 0, false, 0⟩ w8)
  have LT := Lib.hid T8.out
  clear gx
  go_wp2_with fail
  refine (LT.out.left2 GX.out (fun G K A low => Put_yes (q := qb0) (k := 1) (X := fun _ => ⟨32, 0, 0, 0, false, 0⟩) A (II.out.mono low) (fun _ _ => ⟨by decide, by decide, by decide, by decide, by decide⟩) n_b1 (fun _ _ => ret_may))).mono ?_; rintro e w9 ⟨rfl, T⟩
  have T9 : Hid (Tri w w9 b c a qb1 AS.nil qa3) := T
  clear T T8 GX II LT
  go_wp2_with fail
  refine ((T9.out).left (fun G K A => Mark_yes (q := qb1) ⟨#[120]⟩ x_sz A l_b1 m_b1)).mono ?_; rintro e w10 ⟨rfl, T⟩
  have T10 := Lib.hid (T)
  clear T T9
  change Hid (Tri w w10 b c a qb2 AS.nil qa3) at T10
  go_wp2_with fail
  obtain ⟨G, K, A⟩ := T10.out.see
  refine (Mark_state ⟨#[120]⟩ x_sz A m_b2).mono ?_; rintro e w11 ⟨rfl, rfl⟩
  clear A
  go_wp2_with fail
  refine (T10.out.rot.left (fun G K A => Call_yes (q := AS.nil) ⟨#[121]⟩ A y_sz n_b0)).mono ?_; rintro e w12 ⟨rfl, T⟩
  have T12 : Hid (Tri w w12 c a b qc0 qa3 qb2) := T
  clear T T10
  go_wp2_with fail
  refine (words_a T12.out.rot).mono ?_; rintro e w13 ⟨l, rfl, SL, T⟩
  have SL := Lib.hid SL
  have T13 := Lib.hid T
  clear T T12
  go_wp2_with fail
  refine (words_b T13.out.rot).mono ?_; rintro e w14 ⟨m, rfl, SM, T, g⟩
  have SL := Lib.hid (SL.out.bel g)
  have SM := Lib.hid SM
  have T14 := Lib.hid T
  clear T T13 g
  go_wp2_with fail
  refine (words_c T14.out.rot).mono ?_; rintro e w15 ⟨rfl, T, g⟩
  have SL := Lib.hid (SL.out.bel g)
  have SM := Lib.hid (SM.out.bel g)
  have T15 := Lib.hid T
  clear T T14 g
  go_wp2_with fail
  obtain ⟨Gz, Kz, A⟩ := T15.out.rot.rot.see
  refine (At_at ⟨#[120]⟩ x_sz A).mono ?_; rintro e w16 ⟨rfl, rfl⟩
  rw [at_b.1, at_b.2]
  clear A
  obtain ⟨pl, cl, rfl, _⟩ := SL.out
  obtain ⟨pm, cm, rfl, _⟩ := SM.out
  have gl : Below w16.heap.size w16 (w16.alloc (.cells ([69238789, 69271551, 1008879242, 471959160, 1008730128].map (Value.int .u32)).toArray 22)) := (Below.refl _ _).alloc (Nat.le_refl _) _
  have SS := Lib.hid (Same_yes _ _ 5 _ _ _ (by decide) (SL.out.bel gl) (lit_sl _ 5 rfl w16) (fun _ _ => rfl))
  have GL := Lib.hid gl
  clear gl
  go_wp2_with fail
  refine SS.out.mono ?_; rintro e w17 ⟨rfl, g⟩
  have GL2 := Lib.hid (bel_trans GL.out g)
  have SM := Lib.hid (SM.out.bel GL2.out)
  have gl : Below w17.heap.size w17 (w17.alloc (.cells ([1140850690, 2147483648].map (Value.int .u32)).toArray 22)) := (Below.refl _ _).alloc (Nat.le_refl _) _
  have SS2 := Lib.hid (Same_yes _ _ 2 _ _ _ (by decide) (SM.out.bel gl) (lit_sl _ 2 rfl w17) (fun _ _ => rfl))
  have GL3 := Lib.hid (bel_trans GL2.out gl)
  clear gl g SS GL
  go_wp2_with fail
  refine SS2.out.mono ?_; rintro e w18 ⟨rfl, g⟩
  have GL4 := Lib.hid (bel_trans GL3.out g)
  have TZ := Lib.hid (T15.out.more GL4.out)
  obtain ⟨Gy, Ky, A⟩ := TZ.out.see
  have HL := Lib.hid (Len_at A)
  rw [nc] at HL
  clear A g SS2 GL2 GL3
  go_wp2_with fail
  refine HL.out.mono ?_; rintro e w19 ⟨rfl, rfl⟩
  go_wp2_with fail
  go_ret
  exact ⟨rfl, TZ.out.bel⟩
end Go.Proofs.YtbkhhfffgmappaaGreatDoor.A7
