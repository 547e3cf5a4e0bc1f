/- Package asm as it has landed: Jump, Call. -/
import Derived.Test.YtoecanjhkbeemaaDoorAsmJump
namespace Go.Proofs.YtoecanjhkbeemaaDoor.A7
open Go.RowKit Go.Maps
set_option linter.unusedVariables false
section
variable {w w2 : World} {b mp : Nat} {wv jv : Value} {vs : List Value} {G K : Nat → Prop} {q : AS}
theorem AsmP.jumped {g' c' bn bx ba : Nat} {j : AJ} (h : AsmP w b mp wv jv vs G K q) (own : w2.ownsRow 0 62 1 (.slice (some ⟨g', 0, none⟩) (q.js.length + 1) c') (q.js.length + 1) (vs ++ [jval bn bx ba])) (gr : w.grownBy w2 jv.ownBlock) (loc : jv = .slice (some ⟨g', 0, none⟩) q.js.length c' ∨ (w.heap.size ≤ g' ∧ w.grownBy w2 none))
    (J : JIn w K bn bx ba j) (jok : JOk q.n j) (hl : q.js.length + 1 ≤ q.n) :
    AsmP (w2.setCell ⟨b, 3, none⟩ (.slice (some ⟨g', 0, none⟩) (q.js.length + 1) c')) b mp wv (.slice (some ⟨g', 0, none⟩) (q.js.length + 1) c') (vs ++ [jval bn bx ba]) (fun i => G i ∨ i = g') (fun i => K i ∨ (G i ∨ i = g')) { q with js := q.js ++ [j] } ∧
    Turns G w (w2.setCell ⟨b, 3, none⟩ (.slice (some ⟨g', 0, none⟩) (q.js.length + 1) c')) ∧ ∀ i, (G i ∨ i = g') → G i ∨ w.heap.size ≤ i := by
  have T1 : Turns G w w2 := ⟨gr.os, gr.tape, gr.output, gr.size, fun i hi hn => gr.block i hi fun e => hn (h.gj i e.symm)⟩
  have B2 := (gr.block b (h.lt _ h.gb) fun e => (h.jb e.symm).1 rfl).trans h.box
  have W2 := own_same h.words fun j hj => gr.block j (h.words.lt j hj).2 fun e => (h.jb e.symm).2.2 hj
  have M2 := map_same h.marks (gr.block mp h.marks.lt fun e => (h.jb e.symm).2.1 rfl)
  have k1 : w2.grownBy (w2.setCell ⟨b, 3, none⟩ (.slice (some ⟨g', 0, none⟩) (q.js.length + 1) c')) (some b) := only_cell ⟨rfl, rfl, rfl, Nat.le_refl _, fun _ _ _ => rfl⟩ 3 _
  have T2 : Turns G w (w2.setCell ⟨b, 3, none⟩ (.slice (some ⟨g', 0, none⟩) (q.js.length + 1) c')) := T1.trans (G' := G) (Turns.of_only k1 h.gb) (fun _ e => .inl e)
  have low : ∀ i, (G i ∨ i = g') → G i ∨ w.heap.size ≤ i := fun i hi => hi.elim .inl fun e => by
    subst e
    rcases loc with rfl | ⟨hn, _⟩
    · exact .inl (h.gj _ rfl)
    · exact .inr hn
  have lowK : ∀ i, (K i ∨ (G i ∨ i = g')) → K i ∨ w.heap.size ≤ i := fun i hi => hi.elim .inl fun e => (low i e).imp (h.sub i) id
  have hlen : vs.length = q.js.length := by have := h.jumps.1; simpa using this
  refine ⟨{
    box := heap_setCell_same w2 b 3 _ _ _ B2
    words := only_own W2 k1 fun j hj => (h.wb hj).1
    marks := only_map M2 k1 h.bm.symm
    jumps := by
      have e : ({ q with js := q.js ++ [j] } : AS).js.length = q.js.length + 1 := by simp
      rw [e]
      exact only_own own k1 fun j hj => not_typ B2 (by decide) (own_typ own hj)
    each := fun i v x hv hx => by
      have hx' : (q.js ++ [j])[i]? = some x := hx
      by_cases hi : i < q.js.length
      · rw [List.getElem?_append_left (by omega)] at hv
        rw [List.getElem?_append_left hi] at hx'
        exact (h.each i v x hv hx').turns T2 (fun _ e => .inl (h.sub _ e)) lowK
      · rw [List.getElem?_append_right (by omega)] at hv
        rw [List.getElem?_append_right (by omega)] at hx'
        have h0 : i - q.js.length = 0 := by
          rcases Nat.eq_zero_or_pos (i - q.js.length) with h | h
          · exact h
          · rw [List.getElem?_eq_none (by simp; omega)] at hx'; cases hx'
        rw [hlen, h0] at hv
        rw [h0] at hx'
        simp at hv hx'
        subst hv hx'
        exact JAt.turns (w := w) (G := K) ⟨bn, bx, ba, rfl, J⟩ T2 (fun _ e => .inl (h.sub _ e)) lowK
    gb := .inl h.gb, gm := .inl h.gm, gw := fun j hj => .inl (h.gw j hj), gj := fun j hj => .inr (by simpa [Value.ownBlock] using hj.symm)
    sub := fun _ hi => .inr hi
    klt := fun i hi => hi.elim (fun e => Nat.lt_of_lt_of_le (h.klt i e) T2.size) fun hi => hi.elim (fun e => Nat.lt_of_lt_of_le (h.lt i e) T2.size) fun e => by subst e; exact Nat.lt_of_lt_of_le (own.lt _ rfl).2 k1.size
    far := fun i hi ht => (low i hi).elim (fun e => h.far i e ht) fun e => absurd (tab_lt h.tab ht) (Nat.not_lt.2 e)
    tab := tab_turns h.tab T2 h.far
    ok :=
      { n := h.ok.n
        ms := h.ok.ms
        at_ := h.ok.at_
        js := fun x hx => by
          have hx' : x ∈ q.js ++ [j] := hx
          rcases List.mem_append.1 hx' with hx' | hx'
          · exact h.ok.js x hx'
          · simp at hx'; subst hx'; exact jok
        jl := by show (q.js ++ [j]).length ≤ q.n; rw [List.length_append]; exact hl } }, T2, low⟩
theorem JIn.turns {w w' : World} {G H G' : Nat → Prop} {bn bx ba : Nat} {j : AJ} (h : JIn w G bn bx ba j) (k : Turns H w w') (hH : ∀ i, H i → G i ∨ w.heap.size ≤ i) (hg : ∀ i, G' i → G i ∨ w.heap.size ≤ i) : JIn w' G' bn bx ba j := by
  have l1 := heap_lt h.name
  have l2 := heap_lt h.inst
  have l3 := heap_lt h.pos
  have no : ∀ (K : Nat → Prop), (∀ i, K i → G i ∨ w.heap.size ≤ i) → ∀ i, ¬ G i → i < w.heap.size → ¬ K i := fun K hK i hi hl e => (hK i e).elim hi (fun h => by omega)
  exact ⟨k.heap (no _ hH _ h.gn l1) h.name, k.heap (no _ hH _ h.gx l2) h.inst, k.heap (no _ hH _ h.ga l3) h.pos, no _ hg _ h.gn l1, no _ hg _ h.gx l2, no _ hg _ h.ga l3⟩
/-- The world ahead of a jump's Put. -/
def jW (w : World) (o d : Int) (s : ByteArray) (n : Nat) : World := ((w.alloc (.cells #[.int .u8 o, .int .u8 d, .int .u8 0, .int .u8 0, .bool true, .int .i32 0] 49)).alloc (.cells #[.string s] 9)).alloc (.cells #[.int .i64 n] 3)
theorem jW_in (w : World) (o d : Int) (s : ByteArray) (n : Nat) (hG : ∀ i, G i → i < w.heap.size) : JIn (jW w o d s n) G (w.heap.size + 1) w.heap.size (w.heap.size + 1 + 1) ⟨n, o, d, s⟩ ∧ Below w.heap.size w (jW w o d s n) := by
  have no : ∀ i, w.heap.size ≤ i → ¬ G i := fun i hi e => absurd (hG i e) (Nat.not_lt.2 hi)
  have s1 : (w.alloc (.cells #[.int .u8 o, .int .u8 d, .int .u8 0, .int .u8 0, .bool true, .int .i32 0] 49)).heap.size = w.heap.size + 1 := by simp
  have s2 : ((w.alloc (.cells #[.int .u8 o, .int .u8 d, .int .u8 0, .int .u8 0, .bool true, .int .i32 0] 49)).alloc (.cells #[.string s] 9)).heap.size = w.heap.size + 1 + 1 := by simp
  exact ⟨⟨row_alloc (row_born s1), row_alloc (row_alloc (row_born rfl)), row_born s2, no _ (by omega), no _ (by omega), no _ (by omega)⟩, (((Below.refl _ _).alloc (Nat.le_refl _) _).alloc (by simp) _).alloc (by simp; omega) _⟩
theorem jW_ins (w : World) (o d : Int) (s : ByteArray) (n : Nat) (hG : ∀ i, G i → i < w.heap.size) : Ins ((jW w o d s n).alloc (.cells #[.int .u8 o, .int .u8 d, .int .u8 0, .int .u8 0, .bool true, .int .i32 0] 49)) G (.slice (some ⟨w.heap.size + 1 + 1 + 1, 0, none⟩) 1 1) 1 (fun _ => ⟨o, d, 0, 0, true, 0⟩) := by
  have h := one_ins ⟨o, d, 0, 0, true, 0⟩ (jW w o d s n)
  have e : (jW w o d s n).heap.size = w.heap.size + 1 + 1 + 1 := by simp [jW]
  rw [e] at h
  exact h.mono fun i hi => by have := hG i hi; omega
theorem jump_no (v : Value) (s : ByteArray) (o d : Int) (w : World) (h : NoAsm w v) : Calls Tryd.prog 33 #[v, .agg #[.int .u8 o, .int .u8 d, .int .u8 0, .int .u8 0, .bool true, .int .i32 0], .string s] w fun e w' => e = .returned (.int .i64 1) ∧ Below w.heap.size w w' := by
  have H := Lib.hid h
  clear h
  go_enter Tryd.func33, Tryd.ntmps33
  go_wp2_with fail
  refine (Len_no _ _ (H.out.bel (((Below.refl _ _).alloc (Nat.le_refl _) _).alloc (by simp) _))).mono ?_; rintro e w1 ⟨rfl, rfl⟩
  go_wp2_with fail
  have g := ((jW_in (G := fun _ => False) w o d s 0 (fun _ e => e.elim)).2).alloc (jW_in (G := fun _ => False) w o d s 0 (fun _ e => e.elim)).2.size (.cells #[.int .u8 o, .int .u8 d, .int .u8 0, .int .u8 0, .bool true, .int .i32 0] 49)
  have GG := Lib.hid g
  refine (Put_no _ _ _ (H.out.bel g)).mono ?_; rintro e w2 ⟨rfl, rfl⟩
  clear g
  go_wp2_with fail
  go_ret
  exact ⟨rfl, GG.out⟩
theorem jump_bad (o d : Int) (s : ByteArray) (h : AsmB w b G K q) (hx : XB ⟨o, d, 0, 0, true, 0⟩) (hm : I2.may o d 0 0 true 0 = false) (hn : q.n + 1 ≤ 100000) :
    Calls Tryd.prog 33 #[.pointer (some ⟨b, 0, none⟩), .agg #[.int .u8 o, .int .u8 d, .int .u8 0, .int .u8 0, .bool true, .int .i32 0], .string s] w fun e w' => e = .returned (.int .i64 2) ∧ Left w b G K q w' := by
  have H := Lib.hid h
  have HX := Lib.hid hx
  have HM := Lib.hid hm
  have HN := Lib.hid hn
  clear h hx hm hn
  go_enter Tryd.func33, Tryd.ntmps33
  go_wp2_with fail
  refine (Len_at (H.out.bel (((Below.refl _ _).alloc (Nat.le_refl _) _).alloc (by simp) _))).mono ?_; rintro e w1 ⟨rfl, rfl⟩
  go_wp2_with fail
  have g1 := (jW_in (G := G) w o d s q.n H.out.lt).2
  have g := g1.alloc g1.size (.cells #[.int .u8 o, .int .u8 d, .int .u8 0, .int .u8 0, .bool true, .int .i32 0] 49)
  have GG := Lib.hid g
  refine (Put_bad (X := fun _ => ⟨o, d, 0, 0, true, 0⟩) (k := 1) (H.out.bel g) (jW_ins w o d s q.n H.out.lt) (fun _ _ => HX.out) HN.out (i := 0) (by decide) HM.out).mono ?_; rintro e w2 ⟨rfl, L⟩
  have L := Lib.hid (Left.after GG.out L)
  clear g g1
  go_wp2_with fail
  go_ret
  exact ⟨rfl, L.out⟩
set_option maxHeartbeats 1000000 in
theorem jump_yes (o d : Int) (s : ByteArray) (h : AsmB w b G K q) (hx : XB ⟨o, d, 0, 0, true, 0⟩) (hop : (o = 17 ∧ 0 ≤ d ∧ d ≤ 6) ∨ (o = 18 ∧ d = 0)) (hm : I2.may o d 0 0 true 0 = true) (hs : s.size ≤ maxLen) (hn : q.n + 1 ≤ 100000) :
    Calls Tryd.prog 33 #[.pointer (some ⟨b, 0, none⟩), .agg #[.int .u8 o, .int .u8 d, .int .u8 0, .int .u8 0, .bool true, .int .i32 0], .string s] w fun e w' => e = .returned (.int .i64 0) ∧ Left w b G K (q.jump o d s) w' := by
  have hmf : ∀ (fn : Fn) (first cap : Array Value) (w : World), (Instr.makeFunc fn first cap).run Tryd.prog w = .ok (.func fn first cap) w := fun _ _ _ _ => rfl
  have H := Lib.hid h
  have HX := Lib.hid hx
  have HM := Lib.hid hm
  have HN := Lib.hid hn
  have HO : Hid (JOk (q.n + 1) ⟨q.n, o, d, s⟩) := ⟨hm, hop, Nat.lt_succ_self _, hs⟩
  have HJ : Hid (q.js.length + 1 ≤ q.n + 1) := Nat.succ_le_succ h.ok.jl
  have hq : q.jump o d s = { q.adds (fun _ => XI.word ⟨o, d, 0, 0, true, 0⟩) 1 with js := (q.adds (fun _ => XI.word ⟨o, d, 0, 0, true, 0⟩) 1).js ++ [⟨q.n, o, d, s⟩] } := by
    have e : XI.word ⟨o, d, 0, 0, true, 0⟩ = I2.enc o d 0 0 true 0 := I2.eW_yes hm
    unfold AS.jump
    rw [← e]
    rfl
  obtain ⟨q1, hq1⟩ : ∃ q1, q1 = q.adds (fun _ => XI.word ⟨o, d, 0, 0, true, 0⟩) 1 := ⟨_, rfl⟩
  have en : q1.n = q.n + 1 := by rw [hq1]; rfl
  have ej : q1.js = q.js := by rw [hq1]; rfl
  rw [← hq1] at hq
  rw [hq]
  have HQ := Lib.hid hq1
  rw [← en, ← ej] at HJ
  rw [← en] at HO
  clear h hx hm hn hop hs hq hq1 en ej
  go_enter Tryd.func33, Tryd.ntmps33
  go_wp2_with fail
  refine (Len_at (H.out.bel (((Below.refl _ _).alloc (Nat.le_refl _) _).alloc (by simp) _))).mono ?_; rintro e w1 ⟨rfl, rfl⟩
  go_wp2_with fail
  obtain ⟨J1, g1⟩ := jW_in (G := K) w o d s q.n H.out.klt
  have gx : Below (jW w o d s q.n).heap.size (jW w o d s q.n) ((jW w o d s q.n).alloc (.cells #[.int .u8 o, .int .u8 d, .int .u8 0, .int .u8 0, .bool true, .int .i32 0] 49)) := (Below.refl _ _).alloc (Nat.le_refl _) _
  have GG := Lib.hid (bel_trans g1 gx)
  have J2 := Lib.hid (J1.turns (H := fun _ => False) (G' := K) (Turns.of_bel gx) (fun _ e => e.elim) (fun _ e => .inl e))
  refine (Put_yes (X := fun _ => ⟨o, d, 0, 0, true, 0⟩) (k := 1) (H.out.bel GG.out) (jW_ins w o d s q.n H.out.lt) (fun _ _ => HX.out) HN.out (fun _ _ => HM.out)).mono ?_; rintro e w4 ⟨rfl, L⟩
  change Left _ b G K (q.adds (fun _ => XI.word ⟨o, d, 0, 0, true, 0⟩) 1) w4 at L
  rw [← HQ.out] at L
  obtain ⟨G4, ⟨mp, wv, jv, vs, P4⟩, T4, low4⟩ := L
  have J4 := Lib.hid (J2.out.turns (G' := fun i => K i ∨ G4 i) T4 (fun _ e => .inl (H.out.sub _ e)) (fun i hi => hi.elim .inl fun e => (low4 i e).imp (H.out.sub i) id))
  have LW : Hid (Turns G w w4 ∧ ∀ i, G4 i → G i ∨ w.heap.size ≤ i) := ⟨(Turns.of_bel GG.out).trans T4 (fun _ e => .inl e), fun i hi => (low4 i hi).imp id fun e => Nat.le_trans GG.out.size e⟩
  obtain ⟨k0, k1, k2, k3⟩ := P4.cells
  obtain ⟨p, c, rfl⟩ := P4.jform
  have gx5 : Below w4.heap.size w4 (w4.alloc (.cells #[jval (w.heap.size + 1) w.heap.size (w.heap.size + 1 + 1)] 62)) := (Below.refl _ _).alloc (Nat.le_refl _) _
  have hjl : Hid (q1.js.length ≤ 1000000) := by have h1 := P4.ok.jl; have h2 := P4.ok.n; unfold Hid; omega
  have P5 := Lib.hid (P4.bel gx5)
  have J5 := Lib.hid (J4.out.turns (H := fun _ => False) (G' := fun i => K i ∨ G4 i) (Turns.of_bel gx5) (fun _ e => e.elim) (fun _ e => .inl e))
  have GX := Lib.hid gx5
  have hrow : Hid ((w4.alloc (.cells #[jval (w.heap.size + 1) w.heap.size (w.heap.size + 1 + 1)] 62)).heap[w4.heap.size]? = some (.cells #[jval (w.heap.size + 1) w.heap.size (w.heap.size + 1 + 1)] 62 (0, 0))) := heap_alloc_last _ _
  clear T4 low4 J1 g1 gx J2 GG HQ P4 J4 gx5
  go_wp2_with (at_builtin; refine wpList_tell rfl _ _ 55 62 rfl _ 8 comp_under comp_parts rfl (by decide) _ _ _ (jval (w.heap.size + 1) w.heap.size (w.heap.size + 1 + 1)) rfl rfl P5.out.jumps w4.heap.size 1 rfl hrow.out hjl.out ?_
               intro g' c' w5 own gr loc
               have X := Lib.hid (P5.out.jumped own gr loc J5.out HO.out HJ.out)
               have hb5 : w5.heap[b]? = _ := (gr.block b (P5.out.lt _ P5.out.gb) fun e => (P5.out.jb e.symm).1 rfl).trans P5.out.box
               have k3' := row_cell hb5 (j := 3) rfl
               have f3' := row_frozen (j := 3) hb5
               clear own gr loc k0 k1 k2 k3 hrow hb5)
  go_ret
  exact ⟨rfl, ⟨_, (X.out.1.narrow (K' := fun i => K i ∨ (G4 i ∨ i = g')) (fun _ e => .inr e) (fun i e => e.elim (fun e => .inl (.inl e)) .inr)).toB, LW.out.1.trans ((Turns.of_bel (G := G4) GX.out).trans X.out.2.1 (fun _ e => .inl e)) LW.out.2, fun i hi => (X.out.2.2 i hi).elim (LW.out.2 i) fun e => .inr (Nat.le_trans LW.out.1.size (Nat.le_trans GX.out.size e))⟩⟩
end
end Go.Proofs.YtoecanjhkbeemaaDoor.A7
