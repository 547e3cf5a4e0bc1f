/- Package asm as it has landed: New, Len, At, Mark. -/
import Derived.Test.YtgbodbejcffclaaDoorAsmIs
import Derived.Test.YtgbodbejcffclaaDoorGrownB
import Derived.Carry
import Derived.LaidEqlPtr
import Derived.Deep.RegionHeld3
namespace Go.Proofs.YtgbodbejcffclaaDoor.A7
open Go.RowKit Go.Maps
set_option linter.unusedVariables false
section
variable {w w' : World} {b mp : Nat} {wv jv : Value} {vs : List Value} {G K : Nat → Prop} {q : AS}
/-- A list's parts, all new, make a list. -/
theorem made_list (hb : w'.heap[b]? = some (.cells #[.pointer (some ⟨b, 0, none⟩), wv, .map (some mp), jv] 43 (0, 0))) (words : w'.ownsRow 0 49 1 wv q.n (bsL .u32 q.ws q.n))
    (marks : w'.ownsMap Tryd.prog 9 (plainElem Tryd.prog 3) mp q.ms.length (mD q.ms)) (jumps : w'.ownsRow 0 52 1 jv q.js.length vs)
    (each : ∀ (i : Nat) (v : Value) (j : AJ), vs[i]? = some v → q.js[i]? = some j → JAt w' (fun x => K x ∨ w.heap.size ≤ x) v j) (hK : ∀ i, K i → i < w.heap.size)
    (lb : w.heap.size ≤ b) (lm : w.heap.size ≤ mp) (lw : ∀ j, wv.ownBlock = some j → w.heap.size ≤ j) (lj : ∀ j, jv.ownBlock = some j → w.heap.size ≤ j) (hT : I2.Tab w) (g : Below w.heap.size w w') (ok : AOk q) :
    AsmP w' b mp wv jv vs (fun i => i = b ∨ i = mp ∨ wv.ownBlock = some i ∨ jv.ownBlock = some i) (fun i => K i ∨ (i = b ∨ i = mp ∨ wv.ownBlock = some i ∨ jv.ownBlock = some i)) q ∧ ∀ i, (i = b ∨ i = mp ∨ wv.ownBlock = some i ∨ jv.ownBlock = some i) → w.heap.size ≤ i := by
  have low : ∀ i, (i = b ∨ i = mp ∨ wv.ownBlock = some i ∨ jv.ownBlock = some i) → w.heap.size ≤ i := by
    rintro i (rfl | rfl | e | e)
    · exact lb
    · exact lm
    · exact lw _ e
    · exact lj _ e
  refine ⟨{
    box := hb, words := words, marks := marks, jumps := jumps
    each := fun i v j hv hj => (each i v j hv hj).turns (H := fun _ => False) (Turns.refl _ _) (fun _ e => e.elim) (fun i hi => .inl (hi.imp id (low i)))
    gb := .inl rfl, gm := .inr (.inl rfl), gw := fun j hj => .inr (.inr (.inl hj)), gj := fun j hj => .inr (.inr (.inr hj))
    sub := fun _ hi => .inr hi
    klt := fun i hi => hi.elim (fun e => Nat.lt_of_lt_of_le (hK i e) g.size) ?_
    far := fun i hi e => by have := low i hi; have := tab_lt hT e; omega
    tab := tab_bel hT g
    ok := ok }, low⟩
  rintro (rfl | rfl | e | e)
  · exact heap_lt hb
  · exact marks.lt
  · exact (words.lt _ e).2
  · exact (jumps.lt _ e).2
theorem ptr_under : Tryd.prog.underlying 22 = some (.pointer 43) := by kernel_rfl
theorem asm_info : ∃ i, Tryd.prog.info? 43 = some i := Option.isSome_iff_exists.1 (by kernel_rfl)
theorem eq_self (a : Addr) (W : World) : (binOp .eql 22 (.pointer (some a)) (.pointer (some a))).run Tryd.prog W = .ok (.bool true) W := by
  obtain ⟨i, hi⟩ := asm_info
  exact run_eql_ptr_same W a ptr_under hi
theorem eq_none (a : Addr) (W : World) : (binOp .eql 22 (.pointer none) (.pointer (some a))).run Tryd.prog W = .ok (.bool false) W := by
  have h : ∀ d : Nat, (Op.equalIn (d + 1) 22 (.pointer none) (.pointer (some a))).run Tryd.prog W = .ok false W := fun d => by
    simp [Op.equalIn, run_underlying ptr_under]
  simp only [binOp]
  simp [Op.equal, Op.maxDepth, h 9999]
theorem isObject_yes (x y z : Value) (w : World) (hc : w.heap[b]? = some (.cells #[.pointer (some ⟨b, 0, none⟩), x, y, z] 43 (0, 0))) :
    Calls Tryd.prog 21 #[.pointer (some ⟨b, 0, none⟩)] w fun e w' => e = .returned (.bool true) ∧ w' = w := by
  have k0 := row_cell hc (j := 0) (v := .pointer (some ⟨b, 0, none⟩)) rfl
  clear hc
  have hq := eq_self ⟨b, 0, none⟩
  go_enter Tryd.func21, Tryd.ntmps21
  go_wp2
  go_ret
  exact ⟨rfl, rfl⟩
/-- A pointer to a list that is none. -/
def NoAsm (w : World) (v : Value) : Prop := v = .pointer none ∨ ∃ b, v = .pointer (some ⟨b, 0, none⟩) ∧ w.cell? ⟨b, 0, none⟩ = some (.pointer none)
theorem isObject_no (v : Value) (w : World) (h : NoAsm w v) :
    Calls Tryd.prog 21 #[v] w fun e w' => e = .returned (.bool false) ∧ w' = w := by
  rcases h with rfl | ⟨b, rfl, k0⟩
  · go_enter Tryd.func21, Tryd.ntmps21
    go_wp2
    go_ret
    exact ⟨rfl, rfl⟩
  · have hq := eq_none ⟨b, 0, none⟩
    go_enter Tryd.func21, Tryd.ntmps21
    go_wp2
    go_ret
    exact ⟨rfl, rfl⟩
theorem object_at (x y z : Value) (w : World) :
    Calls Tryd.prog 16 #[.agg #[.pointer none, x, y, z]] w fun e w' => e = .returned (.pointer (some ⟨w.heap.size, 0, none⟩)) ∧ w'.heap[w.heap.size]? = some (.cells #[.pointer (some ⟨w.heap.size, 0, none⟩), x, y, z] 43 (0, 0)) ∧ Below w.heap.size w w' := by
  go_enter Tryd.func16, Tryd.ntmps16
  go_wp2
  go_ret
  exact ⟨rfl, heap_alloc_last _ _, (Below.refl _ _).alloc (Nat.le_refl _) _⟩
theorem nil_ok : AOk AS.nil where
  n := Nat.zero_le _
  ms := Nat.zero_le _
  at_ := fun p h => by simp [AS.nil] at h
  js := fun p h => by simp [AS.nil] at h
  jl := Nat.le_refl _
theorem New_at (w : World) (hT : I2.Tab w) (hK : ∀ i, K i → i < w.heap.size) :
    Calls Tryd.prog 4 #[] w fun e w' => ∃ b G, e = .returned (.pointer (some ⟨b, 0, none⟩)) ∧ AsmB w' b G (fun i => K i ∨ G i) AS.nil ∧ Below w.heap.size w w' ∧ ∀ i, G i → w.heap.size ≤ i := by
  have hmm := @run_makeMap Tryd.prog
  have HT := Lib.hid hT
  have HK := Lib.hid hK
  clear hT hK
  go_enter Tryd.func4, Tryd.ntmps4
  go_wp2_with fail
  refine (object_at _ _ _ _).mono ?_; rintro e w1 ⟨rfl, hb, g1⟩
  have M := World.ownsMap_made w Tryd.prog 9 (plainElem (H := Unit) Tryd.prog 3)
  have gg : Below w.heap.size w (w.alloc (.map #[] 0)) := (Below.refl _ _).alloc (Nat.le_refl _) _
  have s1 : (w.alloc (.map #[] 0)).heap.size = w.heap.size + 1 := by simp
  generalize w.alloc (.map #[] 0) = V at *
  have M1 := map_same M (g1.block w.heap.size (by omega))
  have X := Lib.hid (made_list (w := w) (q := AS.nil) (vs := []) hb (World.ownsRow_nil _ _ _ _) M1 (World.ownsRow_nil _ _ _ _) (fun i v j hv => by simp at hv) HK.out (by omega) (Nat.le_refl _) (fun j e => by cases e) (fun j e => by cases e) HT.out (bel_trans gg g1) nil_ok)
  have G1 := Lib.hid (bel_trans gg g1)
  clear M M1 gg g1 hb
  go_wp2
  go_ret
  rw [← s1]
  exact ⟨_, _, rfl, X.out.1.toB, G1.out, X.out.2⟩
theorem AsmP.cells (h : AsmP w b mp wv jv vs G K q) : w.cell? ⟨b, 0, none⟩ = some (.pointer (some ⟨b, 0, none⟩)) ∧ w.cell? ⟨b, 1, none⟩ = some wv ∧ w.cell? ⟨b, 2, none⟩ = some (.map (some mp)) ∧ w.cell? ⟨b, 3, none⟩ = some jv :=
  ⟨row_cell h.box rfl, row_cell h.box rfl, row_cell h.box rfl, row_cell h.box rfl⟩
theorem AsmP.wform (h : AsmP w b mp wv jv vs G K q) : ∃ p c, wv = .slice p q.n c := lenOf_own h.words
theorem AsmP.jform (h : AsmP w b mp wv jv vs G K q) : ∃ p c, jv = .slice p q.js.length c := lenOf_own h.jumps
theorem Len_at (h : AsmB w b G K q) : Calls Tryd.prog 8 #[.pointer (some ⟨b, 0, none⟩)] w fun e w' => e = .returned (.int .i64 q.n) ∧ w' = w := by
  obtain ⟨mp, wv, jv, vs, h⟩ := h
  obtain ⟨k0, k1, k2, k3⟩ := h.cells
  obtain ⟨p, c, rfl⟩ := h.wform
  have B := Lib.hid h.box
  clear h
  go_enter Tryd.func8, Tryd.ntmps8
  go_wp2_with fail
  refine (isObject_yes _ _ _ _ B.out).mono ?_; rintro e w1 ⟨rfl, rfl⟩
  go_wp2_with fail
  go_ret
  exact ⟨rfl, rfl⟩
theorem Len_no (v : Value) (w : World) (h : NoAsm w v) : Calls Tryd.prog 8 #[v] w fun e w' => e = .returned (.int .i64 0) ∧ w' = w := by
  have H := Lib.hid h
  clear h
  go_enter Tryd.func8, Tryd.ntmps8
  go_wp2_with fail
  refine (isObject_no _ _ H.out).mono ?_; rintro e w1 ⟨rfl, rfl⟩
  go_wp2_with fail
  go_ret
  exact ⟨rfl, rfl⟩
theorem zero_int (w : World) : (zeroValue 3).run Tryd.prog w = .ok (.int .i64 0) w := by kernel_rfl
/-- What At answers. -/
def atV (q : AS) (s : ByteArray) : Int := match look q.ms s with | some v => (v : Int) | none => 0
def atE (q : AS) (s : ByteArray) : Int := match look q.ms s with | some _ => 0 | none => 7
theorem lit_inj {a b : Int} (h : (DataW.lit (.int .i64 a) : DataW Unit) = .lit (.int .i64 b)) : a = b := by
  injection h with h; injection h with _ h
theorem At_at (s : ByteArray) (hs : s.size ≤ maxLen) (h : AsmB w b G K q) : Calls Tryd.prog 15 #[.pointer (some ⟨b, 0, none⟩), .string s] w fun e w' => e = .returned (.tuple #[.int .i64 (atV q s), .int .i64 (atE q s)]) ∧ w' = w := by
  obtain ⟨mp, wv, jv, vs, h⟩ := h
  obtain ⟨k0, k1, k2, k3⟩ := h.cells
  have B := Lib.hid h.box
  have M := Lib.hid h.marks
  have hkey := key_of s hs
  have hat : ∀ c : Int, (mD q.ms).atKey (key s) (.lit (.int .i64 0)) = .lit (.int .i64 c) → c = atV q s := fun c hc => by rw [mD_at] at hc; exact (lit_inj hc).symm
  have hhas := mD_has q.ms s
  have hE : atE q s = if (look q.ms s).isSome then 0 else 7 := by unfold atE; cases look q.ms s <;> rfl
  have hV : (look q.ms s).isSome = false → atV q s = 0 := by unfold atV; cases look q.ms s <;> simp
  generalize mD q.ms = D at *
  generalize atV q s = V0 at *
  generalize atE q s = E0 at *
  generalize (look q.ms s).isSome = I0 at *
  have HA := Lib.hid hat
  have HE := Lib.hid hE
  have HV := Lib.hid hV
  clear h hat hE hV
  cases I0
  · go_enter Tryd.func15, Tryd.ntmps15
    go_wp2_with fail
    refine (isObject_yes _ _ _ _ B.out).mono ?_; rintro e w1 ⟨rfl, rfl⟩
    go_wp2_with (at_lookup; refine wpList_lookup_own_ok_int _ rfl _ _ 40 rfl 9 3 .i64 string_keys Tryd.underlying40 Tryd.underlying3 (zero_int _) mp _ _ rfl M.out _ _ rfl hkey ?_; intro c hc _; rw [hhas]; obtain rfl := HA.out c hc; clear hc)
    go_ret2
    have e1 := HE.out
    have e2 := HV.out
    simp at e1 e2
    subst e1 e2
    exact ⟨rfl, rfl⟩
  · go_enter Tryd.func15, Tryd.ntmps15
    go_wp2_with fail
    refine (isObject_yes _ _ _ _ B.out).mono ?_; rintro e w1 ⟨rfl, rfl⟩
    go_wp2_with (at_lookup; refine wpList_lookup_own_ok_int _ rfl _ _ 40 rfl 9 3 .i64 string_keys Tryd.underlying40 Tryd.underlying3 (zero_int _) mp _ _ rfl M.out _ _ rfl hkey ?_; intro c hc _; rw [hhas]; obtain rfl := HA.out c hc; clear hc)
    go_ret2
    have e1 := HE.out
    simp at e1
    subst e1
    exact ⟨rfl, rfl⟩
theorem At_no (v : Value) (s : ByteArray) (w : World) (h : NoAsm w v) : Calls Tryd.prog 15 #[v, .string s] w fun e w' => e = .returned (.tuple #[.int .i64 0, .int .i64 1]) ∧ w' = w := by
  have H := Lib.hid h
  clear h
  go_enter Tryd.func15, Tryd.ntmps15
  go_wp2_with fail
  refine (isObject_no _ _ H.out).mono ?_; rintro e w1 ⟨rfl, rfl⟩
  go_wp2_with fail
  go_ret2
  exact ⟨rfl, rfl⟩
theorem Mark_no (v : Value) (s : ByteArray) (w : World) (h : NoAsm w v) : Calls Tryd.prog 13 #[v, .string s] w fun e w' => e = .returned (.int .i64 1) ∧ w' = w := by
  have H := Lib.hid h
  clear h
  go_enter Tryd.func13, Tryd.ntmps13
  go_wp2_with fail
  refine (isObject_no _ _ H.out).mono ?_; rintro e w1 ⟨rfl, rfl⟩
  go_wp2_with fail
  go_ret
  exact ⟨rfl, rfl⟩
end
end Go.Proofs.YtgbodbejcffclaaDoor.A7
