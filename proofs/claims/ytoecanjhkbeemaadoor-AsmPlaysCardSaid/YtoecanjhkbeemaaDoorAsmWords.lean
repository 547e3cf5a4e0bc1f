/- Package asm as it has landed: Jump, Call, Words. -/
import Derived.Test.YtoecanjhkbeemaaDoorAsmJumps
import Derived.Laws.AppendOwn
import Derived.Lib.SliceRun
namespace Go.Proofs.YtoecanjhkbeemaaDoor.A7
open Go.RowKit Go.Maps
set_option linter.unusedVariables false
section
variable {w w2 : World} {b mp : Nat} {wv jv : Value} {vs : List Value} {G K : Nat → Prop} {q : AS}
theorem xb_jump (o d : Int) (ho : 0 ≤ o ∧ o ≤ 255) (hd : 0 ≤ d ∧ d ≤ 255) : XB ⟨o, d, 0, 0, true, 0⟩ := ⟨ho, hd, by simp only; omega, by simp only; omega, by simp only; omega⟩
theorem Jump_no (v : Value) (d : Int) (s : ByteArray) (w : World) (h : NoAsm w v) : Calls Tryd.prog 16 #[v, .int .u8 d, .string s] w fun e w' => e = .returned (.int .i64 1) ∧ Below w.heap.size w w' := by
  have H := Lib.hid h
  clear h
  go_enter Tryd.func16, Tryd.ntmps16
  go_wp2_with fail
  refine (jump_no v s 17 d w H.out).mono ?_; rintro e w1 ⟨rfl, g⟩
  go_wp2_with fail
  go_ret
  exact ⟨rfl, g⟩
theorem Call_no (v : Value) (s : ByteArray) (w : World) (h : NoAsm w v) : Calls Tryd.prog 18 #[v, .string s] w fun e w' => e = .returned (.int .i64 1) ∧ Below w.heap.size w w' := by
  have H := Lib.hid h
  clear h
  go_enter Tryd.func18, Tryd.ntmps18
  go_wp2_with fail
  refine (jump_no v s 18 0 w H.out).mono ?_; rintro e w1 ⟨rfl, g⟩
  go_wp2_with fail
  go_ret
  exact ⟨rfl, g⟩
theorem Jump_yes (d : Int) (s : ByteArray) (h : AsmB w b G K q) (hd : 0 ≤ d ∧ d ≤ 6) (hs : s.size ≤ maxLen) (hn : q.n + 1 ≤ 100000) :
    Calls Tryd.prog 16 #[.pointer (some ⟨b, 0, none⟩), .int .u8 d, .string s] w fun e w' => e = .returned (.int .i64 0) ∧ Left w b G K (q.jump 17 d s) w' := by
  have C := Lib.hid (jump_yes 17 d s h (xb_jump 17 d (by decide) (by omega)) (.inl ⟨rfl, hd.1, hd.2⟩) (by rw [I2.may4_t _ _ _ _ _ hd.1 (by decide) (by decide) rfl]; exact decide_eq_true ⟨hd.2, rfl, rfl, by decide, by decide⟩) hs hn)
  clear h hd hs hn
  go_enter Tryd.func16, Tryd.ntmps16
  go_wp2_with fail
  refine C.out.mono ?_; rintro e w1 ⟨rfl, L⟩
  have L := Lib.hid L
  go_wp2_with fail
  go_ret
  exact ⟨rfl, L.out⟩
theorem Jump_bad (d : Int) (s : ByteArray) (h : AsmB w b G K q) (hd : 6 < d ∧ d ≤ 255) (hn : q.n + 1 ≤ 100000) :
    Calls Tryd.prog 16 #[.pointer (some ⟨b, 0, none⟩), .int .u8 d, .string s] w fun e w' => e = .returned (.int .i64 2) ∧ Left w b G K q w' := by
  have C := Lib.hid (jump_bad 17 d s h (xb_jump 17 d (by decide) (by omega)) (by rw [I2.may4_t _ _ _ _ _ (by omega) (by decide) (by decide) rfl]; exact decide_eq_false fun h => by omega) hn)
  clear h hd hn
  go_enter Tryd.func16, Tryd.ntmps16
  go_wp2_with fail
  refine C.out.mono ?_; rintro e w1 ⟨rfl, L⟩
  have L := Lib.hid L
  go_wp2_with fail
  go_ret
  exact ⟨rfl, L.out⟩
theorem Call_yes (s : ByteArray) (h : AsmB w b G K q) (hs : s.size ≤ maxLen) (hn : q.n + 1 ≤ 100000) :
    Calls Tryd.prog 18 #[.pointer (some ⟨b, 0, none⟩), .string s] w fun e w' => e = .returned (.int .i64 0) ∧ Left w b G K (q.jump 18 0 s) w' := by
  have C := Lib.hid (jump_yes 18 0 s h (xb_jump 18 0 (by decide) (by decide)) (.inr ⟨rfl, rfl⟩) (by rw [I2.may5_t _ _ _ _ _ (by decide) (by decide) (by decide) rfl]; decide) hs hn)
  clear h hs hn
  go_enter Tryd.func18, Tryd.ntmps18
  go_wp2_with fail
  refine C.out.mono ?_; rintro e w1 ⟨rfl, L⟩
  have L := Lib.hid L
  go_wp2_with fail
  go_ret
  exact ⟨rfl, L.out⟩
theorem eq_nil (a : Option Addr) (n c n' c' : Nat) (W : World) : (binOp .eql 40 (.slice a n c) (.slice none n' c')).run Tryd.prog W = .ok (.bool a.isNone) W := Lib.run_eql_slice_nil W _ _ a n c n' c' words_under
theorem bsL_one (f : Nat → Int) (n : Nat) : ∀ u ∈ bsL .u32 f n, u.oneCell' = true := by
  intro u hu
  simp [bsL] at hu
  obtain ⟨i, _, rfl⟩ := hu
  rfl
theorem own_cell {B : Nat} {t : TypeId} {g n c : Nat} {xs : List Value} (h : w.ownsRow B t 1 (.slice (some ⟨g, 0, none⟩) n c) n xs) : ∀ (j : Nat) (u : Value), xs[j]? = some u → w.cell? ⟨g, 0 + j, none⟩ = some u := by
  obtain ⟨h0, ⟨h, _⟩ | ⟨g', cap, cur, e, hB, hg, h1, h2, h3, h4⟩⟩ := h
  · cases h
  · simp only [Value.slice.injEq, Option.some.injEq, Addr.mk.injEq] at e
    obtain ⟨⟨rfl, _⟩, _, rfl⟩ := e
    intro j u hu
    have hj : j < n * 1 := by
      rcases Nat.lt_or_ge j (n * 1) with h | h
      · exact h
      · rw [List.getElem?_eq_none (by omega)] at hu; cases hu
    rw [Nat.zero_add]
    rw [← h4, List.getElem?_take, if_pos hj] at hu
    exact row_cell hg (by simpa using hu)
set_option maxRecDepth 10000 in
theorem cloneW_at {s : Value} {n : Nat} {f : Nat → Int} (own : w.ownsRow 0 34 1 s n (bsL .u32 f n)) (hn : n ≤ 100000) :
    Calls Tryd.prog 22 #[s] w fun e w' => ∃ v, e = .returned v ∧ w'.ownsRow w.heap.size 34 1 v n (bsL .u32 f n) ∧ Below w.heap.size w w' := by
  obtain ⟨i0, hi, hz0, hz1, hz2⟩ := info_parts words_parts
  have hq := eq_nil
  rcases own_of own with ⟨rfl, rfl⟩ | ⟨g, c, rfl⟩
  · clear own
    go_enter Tryd.func22, Tryd.ntmps22
    go_wp2
    go_ret
    exact ⟨_, rfl, World.ownsRow_nil _ _ _ _, Below.refl _ _⟩
  · have hnews : Hid (∀ (j : Nat) (u : Value), (bsL .u32 f n)[j]? = some u → (w.alloc (.cells #[] 34)).cell? ((⟨g, 0, none⟩ : Addr).add j) = some u) := fun j u hj => by
      rw [add_off]
      exact bel_cell ((Below.refl _ _).alloc (Nat.le_refl _) _) (own_cell own j u hj)
    clear own
    go_enter Tryd.func22, Tryd.ntmps22
    go_wp2_with (at_builtin; refine wpList_append_own _ rfl _ _ 40 rfl w.heap.size 34 i0 (.int .u32 0) 1 4 words_under hi hz0 hz1 hz2 rfl (by decide) _ _ _ rfl (World.ownsRow_made w #[] 0 (Nat.le_refl _) (Nat.zero_le _) (by simp)) ⟨g, 0, none⟩ n c (bsL .u32 f n) rfl ?qc1 ?qc2 ?qc3 ?qc4 ?qc5 ?qc6 ?_)
    case qc1 => unfold bsL; simp
    case qc2 => exact hnews.out
    case qc3 => exact bsL_one f n
    case qc4 => unfold maxLen; omega
    case qc5 => omega
    case qc6 => simp
    intro v' w1 hown hgrow hnil
    have X : Hid (w1.ownsRow w.heap.size 34 1 v' n (bsL .u32 f n) ∧ Below w.heap.size w w1) := ⟨by simpa using hown, ((Below.refl _ w).alloc (Nat.le_refl _) _).grown hgrow (by simp) (by intro k hk; simp [Value.ownBlock] at hk; omega)⟩
    clear hown hgrow hnil
    go_wp2
    go_ret
    exact ⟨_, rfl, X.out.1, X.out.2⟩
theorem look_mem (l : List (ByteArray × Nat)) (s : ByteArray) (t : Nat) : look l s = some t → ∃ p ∈ l, p.2 = t := by
  refine snocs (P := fun l => look l s = some t → ∃ p ∈ l, p.2 = t) (fun h => by simp [look_nil] at h) (fun l x ih h => ?_) l
  obtain ⟨k, v⟩ := x
  rw [look_snoc] at h
  by_cases e : k = s
  · rw [if_pos e] at h
    injection h with h
    exact ⟨(k, v), by simp, h⟩
  · rw [if_neg e] at h
    obtain ⟨p, hp, e2⟩ := ih h
    exact ⟨p, List.mem_append_left _ hp, e2⟩
theorem Words_no (v : Value) (w : World) (h : NoAsm w v) : Calls Tryd.prog 12 #[v] w fun e w' => e = .returned (.tuple #[.slice none 0 0, .int .i64 1]) ∧ w' = w := by
  have H := Lib.hid h
  clear h
  go_enter Tryd.func12, Tryd.ntmps12
  go_wp2_with fail
  refine (isObject_no _ _ H.out).mono ?_; rintro e w1 ⟨rfl, rfl⟩
  go_wp2_with fail
  go_ret2
  exact ⟨rfl, rfl⟩
set_option maxHeartbeats 1000000 in
theorem Words_any (h : AsmB w b G K q) :
    Calls Tryd.prog 12 #[.pointer (some ⟨b, 0, none⟩)] w fun e w' => (∃ f v, q.words = some f ∧ e = .returned (.tuple #[v, .int .i64 0]) ∧ w'.ownsRow w.heap.size 34 1 v q.n (bsL .u32 f q.n) ∧ Below w.heap.size w w') ∨ (q.words = none ∧ e = .returned (.tuple #[.slice none 0 0, .int .i64 7]) ∧ Below w.heap.size w w') := by
  obtain ⟨mp, wv, jv, vs, h⟩ := h
  obtain ⟨k0, k1, k2, k3⟩ := h.cells
  obtain ⟨p, c, rfl⟩ := h.wform
  obtain ⟨jp, jc, rfl⟩ := h.jform
  have P := Lib.hid h
  have hjb : q.js.length ≤ 100000 := Nat.le_trans h.ok.jl h.ok.n
  clear h
  go_enter Tryd.func12, Tryd.ntmps12
  go_wp2_with fail
  refine (isObject_yes _ _ _ _ P.out.box).mono ?_; rintro e w1 ⟨rfl, rfl⟩
  go_wp2_with fail
  refine (cloneW_at P.out.words P.out.ok.n).mono ?_; rintro e w2 ⟨v, rfl, O, g2⟩
  have P2 := Lib.hid (P.out.bel g2)
  have O2 := Lib.hid O
  have G2 := Lib.hid g2
  clear k0 k1 k2 k3 O g2
  obtain ⟨k0, k1, k2, k3⟩ := P2.out.cells
  obtain ⟨vp, vc, rfl⟩ := lenOf_own O2.out
  go_wp2_with fail
  go_loopw [21] (fun i wr => ∃ (k : Nat) (f : Nat → Int), k ≤ q.js.length ∧ i = .int .i64 k ∧ fin q.ms (q.js.drop k) f = q.words ∧ wr.ownsRow w1.heap.size 34 1 (.slice vp q.n vc) q.n (bsL .u32 f q.n) ∧ Below w1.heap.size w1 wr) (fun i _ => q.js.length - (intOf i).toNat)
  case atStart => exact ⟨0, q.ws, Nat.zero_le _, rfl, rfl, O2.out, G2.out⟩
  case round =>
    obtain ⟨k, f, hk, rfl, hf, own, g⟩ := hrel
    have F := Lib.hid hf
    have O3 := Lib.hid own
    have P3 := Lib.hid (P.out.bel g)
    have G3 := Lib.hid g
    clear hf own g k0 k1 k2 k3
    obtain ⟨k0, k1, k2, k3⟩ := P3.out.cells
    by_cases hlt : k < q.js.length
    · have hlen : vs.length = q.js.length := by have := P.out.jumps.1; simpa using this
      obtain ⟨bn, bx, ba, hv, J⟩ := P3.out.each k _ _ (List.getElem?_eq_getElem (by omega)) (List.getElem?_eq_getElem hlt)
      obtain ⟨jg, rfl⟩ : ∃ jg, jp = some ⟨jg, 0, none⟩ := by
        rcases own_of P3.out.jumps with ⟨_, h0⟩ | ⟨g', c', e⟩
        · omega
        · injection e with e; exact ⟨g', e⟩
      have hcell := own_cell P3.out.jumps k _ ((List.getElem?_eq_getElem (by omega)).trans (congrArg some hv))
      rw [Nat.zero_add] at hcell
      unfold jval at hcell
      have hdrop : q.js.drop k = q.js[k] :: q.js.drop (k + 1) := List.drop_eq_getElem_cons hlt
      have jok := P.out.ok.js _ (List.getElem_mem hlt)
      have hfk : ∀ t, look q.ms (q.js[k]).nm = some t → t ≤ 100000 := fun t h => by
        obtain ⟨p, hp, e⟩ := look_mem _ _ _ h
        have := P.out.ok.at_ p hp
        have := P.out.ok.n
        omega
      have F2 := F.out
      rw [hdrop] at F2
      generalize q.js[k] = j at *
      have JJ := Lib.hid J
      have JO := Lib.hid jok
      cases hl : look q.ms j.nm with
      | none =>
        have FF : Hid (q.words = none) := by
          have := F2; simp only [fin, hl] at this; exact this.symm
        clear J jok hfk F2 hdrop hv
        go_wp2_with fail
        refine (jump1_none _ JJ.out JO.out P3.out.marks hl).mono ?_; rintro e w3 ⟨rfl, rfl⟩
        go_wp2_with fail
        go_ret2
        exact .inr ⟨FF.out, rfl, G3.out⟩
      | some t =>
        have FF : Hid (fin q.ms (q.js.drop (k + 1)) (F3.upd f j.pos (j.word t)) = q.words) := by
          have := F2; simp only [fin, hl] at this; exact this
        have HT := Lib.hid (hfk t hl)
        have HL := Lib.hid hl
        have hqn : 0 < q.n := by have := P.out.ok.jl; omega
        obtain ⟨vg, rfl⟩ : ∃ vg, vp = some ⟨vg, 0, none⟩ := by
          rcases own_of O3.out with ⟨_, h0⟩ | ⟨g', c', e⟩
          · omega
          · injection e with e; exact ⟨g', e⟩
        clear J jok hfk F2 hdrop hv hl hqn
        go_wp2_with fail
        refine (jump1_yes JJ.out JO.out P3.out.marks HL.out HT.out P.out.ok.n P3.out.tab O3.out).mono ?_; rintro e w3 ⟨rfl, o4, g4⟩
        have X : Hid (w3.ownsRow w1.heap.size 34 1 (.slice (some ⟨vg, 0, none⟩) q.n vc) q.n (bsL .u32 (F3.upd f j.pos (j.word t)) q.n) ∧ Below w1.heap.size w1 w3) := ⟨o4, only_bel G3.out g4 (O3.out.lt vg rfl).1⟩
        clear o4 g4 O3 JJ JO HL HT P3 hcell k0 k1 k2 k3
        go_wp2_with fail
        go_roundw
        case rel => exact ⟨k + 1, _, by omega, by go_num, FF.out, X.out.1, X.out.2⟩
        case measure => simp [intOf]; omega
    · obtain rfl : k = q.js.length := by omega
      have F1 : Hid (some f = q.words) := by have := F.out; rw [List.drop_length] at this; exact this
      go_wp2_with fail
      go_ret2
      exact .inl ⟨f, _, F1.out.symm, rfl, O3.out, G3.out⟩
end
end Go.Proofs.YtoecanjhkbeemaaDoor.A7
