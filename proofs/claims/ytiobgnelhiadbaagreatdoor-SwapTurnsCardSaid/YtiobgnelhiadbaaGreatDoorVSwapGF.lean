/- SwapBack (layer 10), its numbers: the only thread yields, its windows lie in their frames. SwapBack (layer 10), walked: a thread that yields, and is chosen again at once. Layer 10: the document's Alive. -/
import Derived.Test.YtiobgnelhiadbaaGreatDoorVSwapGP
import Derived.Deep.DeepAppendWide
import Derived.Laws.AppendOwnNone
import Derived.Test.YtiobgnelhiadbaaGreatDoorVSwapGL
namespace Go.Proofs.YtiobgnelhiadbaaGreatDoor.S10
open Go.RowKit
open K6
set_option linter.unusedVariables false
end Go.Proofs.YtiobgnelhiadbaaGreatDoor.S10
namespace Go.Proofs.YtiobgnelhiadbaaGreatDoor.S10
open Go.RowKit K6
set_option linter.unusedVariables false
section
variable {ops : Array Oper} {o : Oper} {a : Act} {w : World} {K : Act → World → Prop} {Q : Exit → Act → World → Prop}
/-- One value more, and what else has changed. -/
theorem wp_oneG (s x : Operand) (S E : TypeId) (z : Value) (nb : Nat) (hu : Tryz.prog.underlying S = some (.slice E)) (hp : (Tryz.prog.info? E).map (fun i => (i.zero, i.size, i.bytes)) = some (some z, 1, nb)) (hzs : z.cells.size = 1) (hnb : nb ≤ 64)
    (hop : o.op = Op.call { callee := Callee.builtin Builtin.append, args := #[s, x], argTypes := #[S, S] })
    (B : Nat) (v1 : Value) (n : Nat) (xs : List Value) (u : Value) (hu1 : u.oneCell' = true) (hs : a.eval s = v1) (h1 : w.ownsRow B E 1 v1 n xs) (g c : Nat) (hx : a.eval x = .slice (some ⟨g, 0, none⟩) 1 c) (hc : w.heap[g]? = some (.cells #[u] E (0, 0))) (hn : n ≤ 1000) (hB : B ≤ w.heap.size)
    (hK : ∀ g' c' w', w'.ownsRow B E 1 (.slice (some ⟨g', 0, none⟩) (n + 1) c') (n + 1) (xs ++ [u]) → w.grownBy w' v1.ownBlock → K (a.put o.dst (.slice (some ⟨g', 0, none⟩) (n + 1) c')) w') : Oper.wp Tryz.prog o a w K Q := by
  obtain ⟨i0, hi, hz0, hz1, hz2⟩ := info_parts hp
  have hbig : (n + 1 + (n + 1) / 4 + 192) * nb ≤ 281474976710656 := Nat.le_trans (Nat.mul_le_mul (by omega : n + 1 + (n + 1) / 4 + 192 ≤ 2000) hnb) (by decide)
  refine wp_append_own_wide w s x S hop B E i0 _ 1 nb hu hi hz0 hz1 hz2 hzs (by decide) v1 n xs hs h1 ⟨g, 0, none⟩ 1 c [u] hx rfl ?_ (fun v hv => by simp at hv; subst hv; exact hu1) (by unfold maxLen; omega) hbig hB ?_
  · intro j v hj
    rw [add_off, Nat.zero_add, cell_of_row _ _ _ _ _ _ hc]
    simpa using hj
  · intro v' w' ho hgrow _
    obtain ⟨g', c', rfl⟩ : ∃ g' c', v' = .slice (some ⟨g', 0, none⟩) (n + 1) c' := by
      obtain ⟨_, ⟨_, h0⟩ | ⟨g', c', _, rfl, _⟩⟩ := ho
      · omega
      · exact ⟨g', c', rfl⟩
    exact hK g' c' w' ho hgrow
theorem wpList_oneG {rest : List Oper} (hgd : o.guard = none) (s x : Operand) (S E : TypeId) (z : Value) (nb : Nat) (hu : Tryz.prog.underlying S = some (.slice E)) (hp : (Tryz.prog.info? E).map (fun i => (i.zero, i.size, i.bytes)) = some (some z, 1, nb)) (hzs : z.cells.size = 1) (hnb : nb ≤ 64)
    (hop : o.op = Op.call { callee := Callee.builtin Builtin.append, args := #[s, x], argTypes := #[S, S] })
    (B : Nat) (v1 : Value) (n : Nat) (xs : List Value) (u : Value) (hu1 : u.oneCell' = true) (hs : a.eval s = v1) (h1 : w.ownsRow B E 1 v1 n xs) (g c : Nat) (hx : a.eval x = .slice (some ⟨g, 0, none⟩) 1 c) (hc : w.heap[g]? = some (.cells #[u] E (0, 0))) (hn : n ≤ 1000) (hB : B ≤ w.heap.size)
    (h : ∀ g' c' w', w'.ownsRow B E 1 (.slice (some ⟨g', 0, none⟩) (n + 1) c') (n + 1) (xs ++ [u]) → w.grownBy w' v1.ownBlock → wpList Tryz.prog ops Q rest (a.put o.dst (.slice (some ⟨g', 0, none⟩) (n + 1) c')) w') :
    wpList Tryz.prog ops Q (o :: rest) a w :=
  wpList_plain hgd fun K hK => wp_oneG s x S E z nb hu hp hzs hnb hop B v1 n xs u hu1 hs h1 g c hx hc hn hB fun g' c' w' a1 a2 => hK _ _ (h g' c' w' a1 a2)
end
section
variable {V1 w2 wr W : World} {s : TC} {b : Nat} {G : Nat → Prop} {v : Value} {bs : List Nat}
end
end Go.Proofs.YtiobgnelhiadbaaGreatDoor.S10
namespace Go.Proofs.YtiobgnelhiadbaaGreatDoor.S10
open Go.RowKit W8 K6
open F3 (LAt LAtB place atL Ent entF)
set_option linter.unusedVariables false
/-- Who is alive. -/
def aL (la : Nat → Int) : Nat → List Nat
  | 0 => []
  | n + 1 => if la n = 1 then aL la n ++ [n] else aL la n
theorem aL_len {la : Nat → Int} : ∀ n, (∀ j, j < n → la j = 0 ∨ la j = 1) → (((aL la n).length : Nat) : Int) = cntA la n
  | 0, _ => rfl
  | n + 1, h => by
    have ih := aL_len n fun j hj => h j (by omega)
    show (((if la n = 1 then aL la n ++ [n] else aL la n).length : Nat) : Int) = cntA la n + la n
    rcases h n (by omega) with e | e
    · rw [e, if_neg (by decide)]; omega
    · rw [e, if_pos rfl, List.length_append]
      show (((aL la n).length + 1 : Nat) : Int) = _
      omega
theorem aL_at {la : Nat → Int} : ∀ n, (∀ j, j < n → la j = 0 ∨ la j = 1) → ∀ i, i < (aL la n).length → ∃ T, (aL la n)[i]? = some T ∧ T < n ∧ la T = 1 ∧ cntA la T = i
  | 0, _, i, hi => absurd hi (Nat.not_lt_zero _)
  | n + 1, h, i, hi => by
    have hl := aL_len n fun j hj => h j (by omega)
    have ih := aL_at n (fun j hj => h j (by omega))
    have e : aL la (n + 1) = if la n = 1 then aL la n ++ [n] else aL la n := rfl
    rw [e] at hi ⊢
    by_cases h1 : la n = 1
    · rw [if_pos h1] at hi ⊢
      by_cases hlt : i < (aL la n).length
      · obtain ⟨T, a, b, c, d⟩ := ih i hlt
        exact ⟨T, by rw [List.getElem?_append_left hlt]; exact a, by omega, c, d⟩
      · have e2 : i = (aL la n).length := by simp at hi; omega
        exact ⟨n, by rw [e2, List.getElem?_append_right (Nat.le_refl _)]; simp, by omega, h1, by rw [e2]; exact hl.symm⟩
    · rw [if_neg h1] at hi ⊢
      obtain ⟨T, a, b, c, d⟩ := ih i hi
      exact ⟨T, a, by omega, c, d⟩
def aV (t : Nat) : Value := .int .u32 (t : Int)
theorem u32_under : Tryz.prog.underlying 25 = some (.slice 22) := by kernel_rfl
theorem u32_parts : (Tryz.prog.info? 22).map (fun i => (i.zero, i.size, i.bytes)) = some (some (.int .u32 0), 1, 4) := by kernel_rfl
theorem aL_short (la : Nat → Int) : ∀ n, (aL la n).length ≤ n
  | 0 => Nat.le_refl _
  | n + 1 => by
    have := aL_short la n
    show (if la n = 1 then aL la n ++ [n] else aL la n).length ≤ n + 1
    split
    · rw [List.length_append]; exact Nat.succ_le_succ this
    · omega
theorem own_low {w : World} {B C : Nat} {E : TypeId} {v : Value} {n : Nat} {xs : List Value} (h : w.ownsRow B E 1 v n xs) (hC : C ≤ B) : w.ownsRow C E 1 v n xs := by
  obtain ⟨h0, h | ⟨g, cap, cur, e, hB, rest⟩⟩ := h
  · exact ⟨h0, .inl h⟩
  · exact ⟨h0, .inr ⟨g, cap, cur, e, Nat.le_trans hC hB, rest⟩⟩
set_option maxRecDepth 100000 in
set_option maxHeartbeats 4000000 in
theorem alive_at {B : Nat} {w : World} {q : DV} {l : List Ent} {f : Nat → Int} (h : DO B w q l f) (n : Nat) (hn : n ≤ 4) (hth : ldB f 132 4 = n) {la : Nat → Int} (hla : ∀ t, t < n → ldB f (76 + 16 * t) 4 = la t) :
    Calls Tryz.prog 102 #[.agg (drow q)] w fun e w' => ∃ v, e = .returned v ∧ w'.ownsRow w.heap.size 22 1 v (aL la n).length ((aL la n).map aV) ∧ Below w.heap.size w w' := by
  have CT : Hid (∀ W, Below w.heap.size w W → Calls Tryz.prog 97 #[.agg (drow q), .int .u32 132] W fun e w' => e = .returned (.int .u32 (n : Int)) ∧ Below W.heap.size W w') := fun W k => by
    have := word_at (h.bel k) 132 (by decide) (by decide)
    rw [hth] at this
    exact this
  have CL : Hid (∀ (t : Nat) W, t < n → Below w.heap.size w W → Calls Tryz.prog 97 #[.agg (drow q), .int .u32 ((76 + 16 * t : Nat) : Int)] W fun e w' => e = .returned (.int .u32 (la t)) ∧ Below W.heap.size W w') := fun t W ht k => by
    have := word_at (h.bel k) (76 + 16 * t) (by omega) (by omega)
    rw [hla t ht] at this
    exact this
  obtain ⟨nq, vl, vm, cq, vq⟩ := q
  obtain ⟨p, m, kq, e⟩ := h.vl
  obtain rfl : vl = .slice p m kq := e
  obtain ⟨pm, mk, e⟩ := h.vm
  obtain rfl : vm = .slice pm 8192 mk := e
  have HN := Lib.hid hn
  clear h hth hla
  go_enter Tryz.func102, Tryz.ntmps102
  go_upto_region 1 with (refine d_box rfl _ rfl (some 1) rfl ⟨nq, .slice p m kq, .slice pm 8192 mk, cq, vq⟩ rfl ?_; intro V1 r1 b1 s1)
  have G1 := Lib.hid b1
  have N1 := Lib.hid s1
  clear b1 s1
  go_wp2_with fail
  go_loopw [3, 4] (fun v t wr => ∃ k : Nat, k ≤ n ∧ t = .int .u32 k ∧ RowD wr w.heap.size ⟨nq, .slice p m kq, .slice pm 8192 mk, cq, vq⟩ ∧ wr.ownsRow V1.heap.size 22 1 v (aL la k).length ((aL la k).map aV) ∧ Below w.heap.size w wr ∧ V1.heap.size ≤ wr.heap.size) (fun _ t _ => n - (intOf t).toNat)
  case atStart => exact ⟨0, Nat.zero_le _, rfl, r1.out, World.ownsRow_nil _ _ _ _, G1.out, Nat.le_refl _⟩
  case round =>
    obtain ⟨k, hk, rfl, r, own, g, sz⟩ := hrel
    obtain ⟨pv, cv, rfl⟩ := lenOf_own own
    have R := Lib.hid r
    have OW := Lib.hid own
    have G := Lib.hid g
    have SZ := Lib.hid sz
    have k4 : (k : Int) ≤ 4 := by omega
    have n4 : (n : Int) ≤ 4 := by omega
    have LA : Hid ((aL la k).length ≤ 1000) := Nat.le_trans (aL_short la k) (by omega)
    clear r1 r own g sz G1
    obtain ⟨x0, x1, x2, x3, x4⟩ := R.out.all
    by_cases hlt : k < n
    · have hlt' : (k : Int) < n := by omega
      have HL := Lib.hid hlt
      go_wp2_with fail
      refine (CT.out _ G.out).mono ?_; rintro e w2 ⟨rfl, g2⟩
      have R2 := Lib.hid (R.out.bel g2)
      have OW2 := Lib.hid (A7.own_same OW.out fun j hj => g2.block j (OW.out.lt j hj).2)
      have G2 := Lib.hid (bel_trans G.out g2)
      have SZ2 : Hid (V1.heap.size ≤ w2.heap.size) := Nat.le_trans SZ.out g2.size
      clear g2 x0 x1 x2 x3 x4 R OW G SZ
      go_wp2_with fail
      obtain ⟨bT, hbT⟩ : ∃ bT : Nat, bT = 64 + 16 * k := ⟨_, rfl⟩
      obtain ⟨aT, haT⟩ : ∃ aT : Nat, aT = 76 + 16 * k := ⟨_, rfl⟩
      have CB : Hid (∀ W, Calls Tryz.prog 96 #[.int .u32 (k : Int)] W fun e w' => e = .returned (.int .u32 (bT : Int)) ∧ W = w') := fun W => by rw [hbT]; exact block_at k (by omega) W
      have w12 : IntKind.u32.wrap ((bT : Int) + 12) = (aT : Int) := by rw [IntWalk.u32_in _ (by omega)]; omega
      have CA : Hid (∀ W, Below w2.heap.size w2 W → Calls Tryz.prog 97 #[.agg #[.int .i64 nq, .slice p m kq, .slice pm 8192 mk, .int .i64 cq, .int .i64 vq], .int .u32 (aT : Int)] W fun e w' => e = .returned (.int .u32 (la k)) ∧ Below W.heap.size W w') := fun W g => by rw [haT]; exact CL.out k W HL.out (bel_trans G2.out g)
      have GD : Below w2.heap.size w2 w2.drew := Below.drew (Below.refl _ _)
      have HD : Hid (∀ W, Below w2.heap.size w2 W → W.cell? ⟨w.heap.size, 0, none⟩ = some (.int .i64 nq) ∧ W.cell? ⟨w.heap.size, 1, none⟩ = some (.slice p m kq) ∧ W.cell? ⟨w.heap.size, 2, none⟩ = some (.slice pm 8192 mk) ∧ W.cell? ⟨w.heap.size, 3, none⟩ = some (.int .i64 cq) ∧ W.cell? ⟨w.heap.size, 4, none⟩ = some (.int .i64 vq)) := fun W g => (R2.out.bel g).all
      have DD := HD.out _ GD
      obtain ⟨tb, htb⟩ : ∃ tb : Bool, tb = (la k == 1) := ⟨_, rfl⟩
      have HTB := Lib.hid htb
      clear hbT haT htb
      go_cut [16] (fun v wx => v = .bool (la k == 1) ∧ Below w2.heap.size w2 wx)
      case first =>
        go_region_held3 (fun W => W.cell? ⟨w.heap.size, 0, none⟩ = some (.int .i64 nq) ∧ W.cell? ⟨w.heap.size, 1, none⟩ = some (.slice p m kq) ∧ W.cell? ⟨w.heap.size, 2, none⟩ = some (.slice pm 8192 mk) ∧ W.cell? ⟨w.heap.size, 3, none⟩ = some (.int .i64 cq) ∧ W.cell? ⟨w.heap.size, 4, none⟩ = some (.int .i64 vq))
          (first
            | exact DD
            | exact DA)
          (first
            | (go_at_call 96; refine (CB.out _).mono ?_; rintro e WB ⟨rfl, hb⟩; subst hb)
            | (go_at_call 97; refine (CA.out _ GD).mono ?_; rintro e WA ⟨rfl, ga⟩; have GA := bel_trans GD ga; have DA := HD.out _ GA; clear ga))
        all_goals
          go_wp2_with fail
          go_meet
          exact ⟨rfl, GA⟩
      case rest =>
      obtain ⟨rfl, gc⟩ := hcut
      have R3 := Lib.hid (R2.out.bel gc)
      have OW3 := Lib.hid (A7.own_same OW2.out fun j hj => gc.block j (OW2.out.lt j hj).2)
      have G3 := Lib.hid (bel_trans G2.out gc)
      have SZ3 : Hid (V1.heap.size ≤ wc.heap.size) := Nat.le_trans SZ2.out gc.size
      have AL : Hid (aL la (k + 1) = if la k = 1 then aL la k ++ [k] else aL la k) := rfl
      clear gc GD HD DD CA CB w12 R2 OW2 G2 SZ2
      by_cases h1 : la k = 1
      · have hb : (la k == 1) = true := by rw [h1]; rfl
        rw [if_pos h1] at AL
        rw [hb]
        have AL := Lib.hid AL
        clear h1 hb
        have gA : Hid (Below wc.heap.size wc (wc.alloc (.cells #[aV k] 22))) := (Below.refl _ _).alloc (Nat.le_refl _) _
        have R4 := Lib.hid (R3.out.bel gA.out)
        have OW4 := Lib.hid (A7.own_same OW3.out fun j hj => gA.out.block j (OW3.out.lt j hj).2)
        have G4 := Lib.hid (bel_trans G3.out gA.out)
        have SZ4 : Hid (V1.heap.size ≤ (wc.alloc (.cells #[aV k] 22)).heap.size) := Nat.le_trans SZ3.out gA.out.size
        clear R3 OW3 G3 SZ3 gA
        go_upto_region 4 with (refine wpList_oneG rfl (.tmp 17) (.tmp 19) 25 22 _ 4 u32_under u32_parts rfl (by decide) rfl V1.heap.size (.slice pv (aL la k).length cv) (aL la k).length ((aL la k).map aV) (aV k) rfl rfl OW4.out wc.heap.size 1 rfl (heap_alloc_last _ _) LA.out SZ4.out ?_; rintro g' c' w' ho hgrow)
        have hlo : ∀ i, (Value.slice pv (aL la k).length cv).ownBlock = some i → V1.heap.size ≤ i := fun i hi => (OW4.out.lt i hi).1
        have TT : Turns (fun i => (Value.slice pv (aL la k).length cv).ownBlock = some i) (wc.alloc (.cells #[aV k] 22)) w' := ⟨hgrow.os, hgrow.tape, hgrow.output, hgrow.size, fun i hi hn => hgrow.block i hi (fun e => hn e.symm)⟩
        have R5 : Hid (RowD w' w.heap.size ⟨nq, .slice p m kq, .slice pm 8192 mk, cq, vq⟩) := TT.heap (fun e => absurd (hlo _ e) (Nat.not_le.2 N1.out)) R4.out
        have G5 := Lib.hid (Turns.bel G4.out TT (fun i hi => Nat.le_trans (Nat.le_of_lt N1.out) (hlo i hi)))
        have OW5 : Hid (w'.ownsRow V1.heap.size 22 1 (.slice (some ⟨g', 0, none⟩) ((aL la k).length + 1) c') (aL la (k + 1)).length ((aL la (k + 1)).map aV)) := by
          rw [AL.out, List.length_append, List.map_append]; exact ho
        have SZ5 : Hid (V1.heap.size ≤ w'.heap.size) := Nat.le_trans SZ4.out hgrow.size
        clear ho hgrow TT hlo R4 OW4 G4 SZ4
        go_wp2_with fail
        go_roundw
        case rel => exact ⟨k + 1, HL.out, by go_num, R5.out, OW5.out, G5.out, SZ5.out⟩
        case measure => simp only [intOf]; have := HL.out; omega
      · have hb : (la k == 1) = false := by simpa using h1
        rw [if_neg h1] at AL
        rw [hb]
        have AL := Lib.hid AL
        clear h1 hb
        go_wp2_with fail
        go_roundw
        case rel => exact ⟨k + 1, HL.out, by go_num, R3.out, by rw [AL.out]; exact OW3.out, G3.out, SZ3.out⟩
        case measure => simp only [intOf]; have := HL.out; omega
    · obtain rfl : k = n := by omega
      clear hlt hk
      go_wp2_with fail
      refine (CT.out _ G.out).mono ?_; rintro e w2 ⟨rfl, g2⟩
      have OW2 := Lib.hid (own_low (A7.own_same OW.out fun j hj => g2.block j (OW.out.lt j hj).2) (Nat.le_of_lt N1.out))
      have G2 := Lib.hid (bel_trans G.out g2)
      clear g2 x0 x1 x2 x3 x4 R OW G SZ
      go_wp2_with fail
      go_ret
      exact ⟨_, rfl, OW2.out, G2.out⟩
end Go.Proofs.YtiobgnelhiadbaaGreatDoor.S10
