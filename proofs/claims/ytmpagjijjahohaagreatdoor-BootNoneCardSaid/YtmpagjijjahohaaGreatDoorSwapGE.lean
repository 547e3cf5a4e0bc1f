/- Package swap as it has landed: the handlers are appended; All. -/
import Derived.Test.YtmpagjijjahohaaGreatDoorSwapGD
import Derived.Test.YtmpagjijjahohaaGreatDoorAsmGCp
namespace Go.Proofs.YtmpagjijjahohaaGreatDoor.S10
open Go.RowKit
open A7 (XI XB AS AsmB Left Has NoAsm Ins)
open W8 (PartAt PartsAt catL gX frL parts_new)
set_option linter.unusedVariables false
/-- Between two `add`s: the list, and the two boxes of the closure. -/
structure HS (w0 W : World) (b : Nat) (G0 : Nat → Prop) (bf ba : Nat) (q : AS) : Prop where
  has : ∃ G K, AsmB W b G K q ∧ (∀ i, G i → G0 i ∨ w0.heap.size ≤ i) ∧ A7.Turns G0 w0 W ∧ ¬ G bf ∧ ¬ G ba
  first : W.heap[bf]? = some (.cells #[.int .i64 0] 27 (0, 0))
  list : W.heap[ba]? = some (.cells #[.pointer (some ⟨b, 0, none⟩)] 185 (0, 0))
theorem HS.out {w0 W : World} {b bf ba : Nat} {G0 : Nat → Prop} {q : AS} (h : HS w0 W b G0 bf ba q) : Has w0 W b G0 q := by
  obtain ⟨G, K, A, lo, T, _⟩ := h.has
  exact ⟨G, K, A, lo, T⟩
theorem HS.add {w0 W W1 : World} {b bf ba : Nat} {G0 : Nat → Prop} {q : AS} (h : HS w0 W b G0 bf ba q) (k : Below W.heap.size W W1) {x n c : Nat} {V : Nat → Value} {l : List Pc} (hx : W.heap.size ≤ x) (hxc : ∀ i, i < n → W1.cell? ⟨x, i, none⟩ = some (V i)) (hP : ∀ i, i < n → PieceAt W1 W.heap.size (V i) (pcs l i)) (hn : l.length = n ∧ n ≤ 10) (hok : AllOk q l) :
    Calls Tryz.prog 359 #[.slice (some ⟨x, 0, none⟩) n c, .pointer (some ⟨bf, 0, none⟩), .pointer (some ⟨ba, 0, none⟩)] W1 fun e w' => e = .returned (.int .i64 0) ∧ HS w0 w' b G0 bf ba (doA l q) := by
  obtain ⟨G, K, A, lo, T, nf, na⟩ := h.has
  have hf1 := bel_heap k h.first
  have ha1 := bel_heap k h.list
  have T1 : A7.Turns G0 w0 W1 := T.trans (G' := fun _ => False) (A7.Turns.of_bel k) (fun _ e => e.elim)
  refine (append_at (G := G) (p := pcs l) (V := V) (B := W.heap.size) (k := n) (Has.start (A.bel k)) (fun i hi => A.lt i hi) hx hxc hP hn.2 (fun i hi => hok i (by rw [hn.1]; exact hi)) nf na hf1 ha1).mono ?_
  rintro e w' ⟨rfl, G2, K2, A2, lo2, T2⟩
  have lf := A7.heap_lt hf1
  have la := A7.heap_lt ha1
  refine ⟨rfl, ⟨G2, K2, ?_, fun i hi => (lo2 i hi).elim (lo i) fun e => .inr (Nat.le_trans T1.size e), T1.trans T2 lo, fun e => (lo2 bf e).elim nf fun e => absurd lf (Nat.not_lt.2 e), fun e => (lo2 ba e).elim na fun e => absurd la (Nat.not_lt.2 e)⟩, T2.heap nf hf1, T2.heap na ha1⟩
  rw [doA, hn.1]; exact A2
theorem appender_at (b : Nat) (w : World) : Calls Tryz.prog 291 #[.pointer (some ⟨b, 0, none⟩)] w fun e w' => ∃ bf ba, e = .returned (.func (.func 359) #[] #[.pointer (some ⟨bf, 0, none⟩), .pointer (some ⟨ba, 0, none⟩)]) ∧ w.heap.size ≤ bf ∧ w.heap.size ≤ ba ∧ w'.heap[bf]? = some (.cells #[.int .i64 0] 27 (0, 0)) ∧ w'.heap[ba]? = some (.cells #[.pointer (some ⟨b, 0, none⟩)] 185 (0, 0)) ∧ Below w.heap.size w w' := by
  have hmf : ∀ (fn : Fn) (first cap : Array Value) (w : World), (Instr.makeFunc fn first cap).run Tryz.prog w = .ok (.func fn first cap) w := fun _ _ _ _ => rfl
  have g1 : Below w.heap.size w (w.alloc (.cells #[.pointer (some ⟨b, 0, none⟩)] 185)) := (Below.refl _ _).alloc (Nat.le_refl _) _
  have g2 := Lib.hid (g1.alloc (o := .cells #[.int .i64 0] 27) g1.size)
  have c1 : Hid (((w.alloc (.cells #[.pointer (some ⟨b, 0, none⟩)] 185)).alloc (.cells #[.int .i64 0] 27)).heap[w.heap.size]? = some (.cells #[.pointer (some ⟨b, 0, none⟩)] 185 (0, 0))) := bel_heap ((Below.refl _ _).alloc (Nat.le_refl _) _) (heap_alloc_last _ _)
  have c2 : Hid (((w.alloc (.cells #[.pointer (some ⟨b, 0, none⟩)] 185)).alloc (.cells #[.int .i64 0] 27)).heap[(w.alloc (.cells #[.pointer (some ⟨b, 0, none⟩)] 185)).heap.size]? = some (.cells #[.int .i64 0] 27 (0, 0))) := heap_alloc_last _ _
  have e1 : (w.alloc (.cells #[.pointer (some ⟨b, 0, none⟩)] 185)).heap.size = w.heap.size + 1 := by simp
  rw [e1] at c2
  clear g1 e1
  go_enter Tryz.func291, Tryz.ntmps291
  go_wp2
  go_ret
  exact ⟨w.heap.size + 1, w.heap.size, rfl, Nat.le_succ _, Nat.le_refl _, c2.out, c1.out, g2.out⟩
theorem PieceAt.low {w : World} {B B' : Nat} {v : Value} {p : Pc} (h : PieceAt w B v p) (hb : B' ≤ B) : PieceAt w B' v p := by
  cases p with
  | put k L => obtain ⟨bx, t, V, e, h1, hc, hp⟩ := h; exact ⟨bx, t, V, e, Nat.le_trans hb h1, hc, ⟨by obtain ⟨x, c, r, k, l⟩ := hp.at_; exact ⟨x, c, r, Nat.le_trans hb k, l⟩, fun i hi => (hp.part i hi).low hb⟩⟩
  | mk s => obtain ⟨bx, e, h1, hc⟩ := h; exact ⟨bx, e, Nat.le_trans hb h1, hc⟩
  | jp c s => obtain ⟨bc, bs, e, h1, h2, h3, h4⟩ := h; exact ⟨bc, bs, e, Nat.le_trans hb h1, Nat.le_trans hb h2, h3, h4⟩
  | st => exact h
  | ld => exact h
theorem lt1 {i : Nat} (h : i < 1) : i = 0 := by omega
theorem lt2 {i : Nat} (h : i < 2) : i = 0 ∨ i = 1 := by omega
theorem lt3 {i : Nat} (h : i < 3) : i = 0 ∨ i = 1 ∨ i = 2 := by omega
theorem lt4 {i : Nat} (h : i < 4) : i = 0 ∨ i = 1 ∨ i = 2 ∨ i = 3 := by omega
def vals (l : List Value) (i : Nat) : Value := l.getD i undef
set_option maxRecDepth 100000 in
set_option maxHeartbeats 8000000 in
theorem handlers_at {w0 w : World} {b : Nat} {G0 : Nat → Prop} {q : AS} (nw : Int) (h2 : 2 ≤ nw) (h32 : nw ≤ 32) (u : Un q) (h : Has w0 w b G0 q) :
    Calls Tryz.prog 240 #[.pointer (some ⟨b, 0, none⟩), .int .i64 nw] w fun e w' => e = .returned (.int .i64 0) ∧ Has w0 w' b G0 (hq nw q 12) := by
  obtain ⟨o1, o2, o3, o4, o5, o6, o7, o8, o9, o10, o11, o12, _⟩ := hq_all h2 h32 u
  have OK := Lib.hid (And.intro o1 (And.intro o2 (And.intro o3 (And.intro o4 (And.intro o5 (And.intro o6 (And.intro o7 (And.intro o8 (And.intro o9 (And.intro o10 (And.intro o11 o12)))))))))))
  have HH := Lib.hid h
  clear o1 o2 o3 o4 o5 o6 o7 o8 o9 o10 o11 o12 h u
  go_enter Tryz.func240, Tryz.ntmps240
  go_wp2_with fail
  refine (appender_at b _).mono ?_; rintro e a0 ⟨bf, ba, rfl, lf, la, cf, ca, k0⟩
  have S0 : Hid (HS w0 a0 b G0 bf ba (hq nw q 0)) := by
    obtain ⟨G, K, A, lo, T⟩ := HH.out
    exact ⟨⟨G, K, A.bel k0, lo, T.trans (G' := fun _ => False) (A7.Turns.of_bel k0) (fun _ e => e.elim), fun e => absurd (A.lt _ e) (Nat.not_lt.2 lf), fun e => absurd (A.lt _ e) (Nat.not_lt.2 la)⟩, cf, ca⟩
  clear lf la cf ca k0 HH
  -- add 1
  go_wp2_with fail
  refine (mark_at sEnd _).mono ?_; rintro e b1_1 ⟨v1_1, rfl, p1_1, k1_1⟩
  obtain ⟨x1_1, rfl, _⟩ := id p1_1
  have P1_1 := Lib.hid (p1_1.low (Below.refl a0.heap.size a0).size)
  have K1_1 := Lib.hid (bel_trans (Below.refl a0.heap.size a0) k1_1)
  clear p1_1 k1_1
  go_wp2_with fail
  refine (running_at _).mono ?_; rintro e b1_2_0 ⟨v1_2_0, rfl, p1_2_0, k1_2_0⟩
  obtain ⟨x1_2_0, y1_2_0, rfl, _⟩ := id p1_2_0
  have P1_1 := Lib.hid (P1_1.out.bel k1_2_0)
  have P1_2_0 := Lib.hid (p1_2_0.low K1_1.out.size)
  have K1_2_0 := Lib.hid (bel_trans K1_1.out k1_2_0)
  clear p1_2_0 k1_2_0 K1_1
  go_wp2_with fail
  refine (die_at _).mono ?_; rintro e b1_2_1 ⟨v1_2_1, rfl, p1_2_1, k1_2_1⟩
  obtain ⟨x1_2_1, y1_2_1, rfl, _⟩ := id p1_2_1
  have P1_1 := Lib.hid (P1_1.out.bel k1_2_1)
  have P1_2_0 := Lib.hid (P1_2_0.out.bel k1_2_1)
  have P1_2_1 := Lib.hid (p1_2_1.low K1_2_0.out.size)
  have K1_2_1 := Lib.hid (bel_trans K1_2_0.out k1_2_1)
  clear p1_2_1 k1_2_1 K1_2_0
  have Q1_2 := Lib.hid (parts_new (W := b1_2_1) (B := a0.heap.size) (V := vals [(.slice (some ⟨x1_2_0, 0, none⟩) (rnL).length y1_2_0), (.slice (some ⟨x1_2_1, 0, none⟩) ([nI 23 0 4 76]).length y1_2_1)]) (L := nth [rnL, [nI 23 0 4 76]]) 2 #[(.slice (some ⟨x1_2_0, 0, none⟩) (rnL).length y1_2_0), (.slice (some ⟨x1_2_1, 0, none⟩) ([nI 23 0 4 76]).length y1_2_1)] 285 (fun i hi => by rcases lt2 hi with rfl | rfl <;> rfl) (fun i hi => by
    rcases lt2 hi with rfl | rfl
    · exact P1_2_0.out
    · exact P1_2_1.out
    ) K1_2_1.out.size)
  have j1_2 : Below b1_2_1.heap.size b1_2_1 (b1_2_1.alloc (.cells #[(.slice (some ⟨x1_2_0, 0, none⟩) (rnL).length y1_2_0), (.slice (some ⟨x1_2_1, 0, none⟩) ([nI 23 0 4 76]).length y1_2_1)] 285)) := (Below.refl _ _).alloc (Nat.le_refl _) _
  clear P1_2_0 P1_2_1
  have P1_1 := Lib.hid (P1_1.out.bel j1_2)
  have J1_2 := Lib.hid (bel_trans K1_2_1.out j1_2)
  clear j1_2 K1_2_1
  go_wp2_with fail
  refine (put_at Q1_2.out J1_2.out.size).mono ?_; rintro e b1_2 ⟨v1_2, rfl, p1_2, k1_2⟩
  obtain ⟨x1_2, _, _, rfl, _⟩ := id p1_2
  have P1_1 := Lib.hid (P1_1.out.bel k1_2)
  have P1_2 := Lib.hid p1_2
  have K1_2 := Lib.hid (bel_trans J1_2.out k1_2)
  clear p1_2 k1_2 Q1_2 J1_2
  go_wp2_with fail
  refine (jump_at 0 sSwap _).mono ?_; rintro e b1_3 ⟨v1_3, rfl, p1_3, k1_3⟩
  obtain ⟨x1_3, y1_3, rfl, _⟩ := id p1_3
  have P1_1 := Lib.hid (P1_1.out.bel k1_3)
  have P1_2 := Lib.hid (P1_2.out.bel k1_3)
  have P1_3 := Lib.hid (p1_3.low K1_2.out.size)
  have K1_3 := Lib.hid (bel_trans K1_2.out k1_3)
  clear p1_3 k1_3 K1_2
  have j1 : Below b1_3.heap.size b1_3 (b1_3.alloc (.cells #[(.func (.func 360) #[] #[.pointer (some ⟨x1_1, 0, none⟩)]), (.func (.func 361) #[] #[.pointer (some ⟨x1_2, 0, none⟩)]), (.func (.func 365) #[] #[.pointer (some ⟨x1_3, 0, none⟩), .pointer (some ⟨y1_3, 0, none⟩)])] 336)) := (Below.refl _ _).alloc (Nat.le_refl _) _
  have D1 := Lib.hid (S0.out.add (n := 3) (c := 3) (V := vals [(.func (.func 360) #[] #[.pointer (some ⟨x1_1, 0, none⟩)]), (.func (.func 361) #[] #[.pointer (some ⟨x1_2, 0, none⟩)]), (.func (.func 365) #[] #[.pointer (some ⟨x1_3, 0, none⟩), .pointer (some ⟨y1_3, 0, none⟩)])]) (l := pA1) (bel_trans K1_3.out j1) (x := b1_3.heap.size) K1_3.out.size (fun i hi => row_cell (heap_alloc_last _ _) (by rcases lt3 hi with rfl | rfl | rfl <;> rfl)) (fun i hi => by
    rcases lt3 hi with rfl | rfl | rfl
    · exact P1_1.out.bel j1
    · exact P1_2.out.bel j1
    · exact P1_3.out.bel j1
    ) ⟨rfl, by decide⟩ (by exact OK.out.1))
  clear j1 K1_3 S0 P1_1 P1_2 P1_3
  go_wp2_with fail
  refine D1.out.mono ?_; rintro e z1 ⟨rfl, s1⟩
  have S1 : Hid (HS w0 z1 b G0 bf ba (hq nw q 1)) := s1
  clear s1 D1
  -- add 2
  go_wp2_with fail
  refine (mark_at sYield _).mono ?_; rintro e b2_1 ⟨v2_1, rfl, p2_1, k2_1⟩
  obtain ⟨x2_1, rfl, _⟩ := id p2_1
  have P2_1 := Lib.hid (p2_1.low (Below.refl z1.heap.size z1).size)
  have K2_1 := Lib.hid (bel_trans (Below.refl z1.heap.size z1) k2_1)
  clear p2_1 k2_1
  go_wp2_with fail
  refine (split_at _).mono ?_; rintro e b2_2_0 ⟨v2_2_0, rfl, p2_2_0, k2_2_0⟩
  obtain ⟨x2_2_0, y2_2_0, rfl, _⟩ := id p2_2_0
  have P2_1 := Lib.hid (P2_1.out.bel k2_2_0)
  have P2_2_0 := Lib.hid (p2_2_0.low K2_1.out.size)
  have K2_2_0 := Lib.hid (bel_trans K2_1.out k2_2_0)
  clear p2_2_0 k2_2_0 K2_1
  have Q2_2 := Lib.hid (parts_new (W := b2_2_0) (B := z1.heap.size) (V := vals [(.slice (some ⟨x2_2_0, 0, none⟩) (spL).length y2_2_0)]) (L := nth [spL]) 1 #[(.slice (some ⟨x2_2_0, 0, none⟩) (spL).length y2_2_0)] 285 (fun i hi => by rcases lt1 hi with rfl <;> rfl) (fun i hi => by
    rcases lt1 hi with rfl
    · exact P2_2_0.out
    ) K2_2_0.out.size)
  have j2_2 : Below b2_2_0.heap.size b2_2_0 (b2_2_0.alloc (.cells #[(.slice (some ⟨x2_2_0, 0, none⟩) (spL).length y2_2_0)] 285)) := (Below.refl _ _).alloc (Nat.le_refl _) _
  clear P2_2_0
  have P2_1 := Lib.hid (P2_1.out.bel j2_2)
  have J2_2 := Lib.hid (bel_trans K2_2_0.out j2_2)
  clear j2_2 K2_2_0
  go_wp2_with fail
  refine (put_at Q2_2.out J2_2.out.size).mono ?_; rintro e b2_2 ⟨v2_2, rfl, p2_2, k2_2⟩
  obtain ⟨x2_2, _, _, rfl, _⟩ := id p2_2
  have P2_1 := Lib.hid (P2_1.out.bel k2_2)
  have P2_2 := Lib.hid p2_2
  have K2_2 := Lib.hid (bel_trans J2_2.out k2_2)
  clear p2_2 k2_2 Q2_2 J2_2
  have j2 : Below b2_2.heap.size b2_2 (b2_2.alloc (.cells #[(.func (.func 360) #[] #[.pointer (some ⟨x2_1, 0, none⟩)]), (.func (.func 361) #[] #[.pointer (some ⟨x2_2, 0, none⟩)])] 336)) := (Below.refl _ _).alloc (Nat.le_refl _) _
  have D2 := Lib.hid (S1.out.add (n := 2) (c := 2) (V := vals [(.func (.func 360) #[] #[.pointer (some ⟨x2_1, 0, none⟩)]), (.func (.func 361) #[] #[.pointer (some ⟨x2_2, 0, none⟩)])]) (l := pA2) (bel_trans K2_2.out j2) (x := b2_2.heap.size) K2_2.out.size (fun i hi => row_cell (heap_alloc_last _ _) (by rcases lt2 hi with rfl | rfl <;> rfl)) (fun i hi => by
    rcases lt2 hi with rfl | rfl
    · exact P2_1.out.bel j2
    · exact P2_2.out.bel j2
    ) ⟨rfl, by decide⟩ (by exact OK.out.2.1))
  clear j2 K2_2 S1 P2_1 P2_2
  go_wp2_with fail
  refine D2.out.mono ?_; rintro e z2 ⟨rfl, s2⟩
  have S2 : Hid (HS w0 z2 b G0 bf ba (hq nw q 2)) := s2
  clear s2 D2
  -- add 3
  go_wp2_with fail
  refine (mark_at sStore _).mono ?_; rintro e b3_1 ⟨v3_1, rfl, p3_1, k3_1⟩
  obtain ⟨x3_1, rfl, _⟩ := id p3_1
  have P3_1 := Lib.hid (p3_1.low (Below.refl z2.heap.size z2).size)
  have K3_1 := Lib.hid (bel_trans (Below.refl z2.heap.size z2) k3_1)
  clear p3_1 k3_1
  go_wp2_with fail
  refine (compareInvalid_at _).mono ?_; rintro e b3_2_0 ⟨v3_2_0, rfl, p3_2_0, k3_2_0⟩
  obtain ⟨x3_2_0, y3_2_0, rfl, _⟩ := id p3_2_0
  have P3_1 := Lib.hid (P3_1.out.bel k3_2_0)
  have P3_2_0 := Lib.hid (p3_2_0.low K3_1.out.size)
  have K3_2_0 := Lib.hid (bel_trans K3_1.out k3_2_0)
  clear p3_2_0 k3_2_0 K3_1
  have Q3_2 := Lib.hid (parts_new (W := b3_2_0) (B := z2.heap.size) (V := vals [(.slice (some ⟨x3_2_0, 0, none⟩) (ciL).length y3_2_0)]) (L := nth [ciL]) 1 #[(.slice (some ⟨x3_2_0, 0, none⟩) (ciL).length y3_2_0)] 285 (fun i hi => by rcases lt1 hi with rfl <;> rfl) (fun i hi => by
    rcases lt1 hi with rfl
    · exact P3_2_0.out
    ) K3_2_0.out.size)
  have j3_2 : Below b3_2_0.heap.size b3_2_0 (b3_2_0.alloc (.cells #[(.slice (some ⟨x3_2_0, 0, none⟩) (ciL).length y3_2_0)] 285)) := (Below.refl _ _).alloc (Nat.le_refl _) _
  clear P3_2_0
  have P3_1 := Lib.hid (P3_1.out.bel j3_2)
  have J3_2 := Lib.hid (bel_trans K3_2_0.out j3_2)
  clear j3_2 K3_2_0
  go_wp2_with fail
  refine (put_at Q3_2.out J3_2.out.size).mono ?_; rintro e b3_2 ⟨v3_2, rfl, p3_2, k3_2⟩
  obtain ⟨x3_2, _, _, rfl, _⟩ := id p3_2
  have P3_1 := Lib.hid (P3_1.out.bel k3_2)
  have P3_2 := Lib.hid p3_2
  have K3_2 := Lib.hid (bel_trans J3_2.out k3_2)
  clear p3_2 k3_2 Q3_2 J3_2
  go_wp2_with fail
  refine (jump_at 1 sStored _).mono ?_; rintro e b3_3 ⟨v3_3, rfl, p3_3, k3_3⟩
  obtain ⟨x3_3, y3_3, rfl, _⟩ := id p3_3
  have P3_1 := Lib.hid (P3_1.out.bel k3_3)
  have P3_2 := Lib.hid (P3_2.out.bel k3_3)
  have P3_3 := Lib.hid (p3_3.low K3_2.out.size)
  have K3_3 := Lib.hid (bel_trans K3_2.out k3_3)
  clear p3_3 k3_3 K3_2
  have j3 : Below b3_3.heap.size b3_3 (b3_3.alloc (.cells #[(.func (.func 360) #[] #[.pointer (some ⟨x3_1, 0, none⟩)]), (.func (.func 361) #[] #[.pointer (some ⟨x3_2, 0, none⟩)]), (.func (.func 365) #[] #[.pointer (some ⟨x3_3, 0, none⟩), .pointer (some ⟨y3_3, 0, none⟩)])] 336)) := (Below.refl _ _).alloc (Nat.le_refl _) _
  have D3 := Lib.hid (S2.out.add (n := 3) (c := 3) (V := vals [(.func (.func 360) #[] #[.pointer (some ⟨x3_1, 0, none⟩)]), (.func (.func 361) #[] #[.pointer (some ⟨x3_2, 0, none⟩)]), (.func (.func 365) #[] #[.pointer (some ⟨x3_3, 0, none⟩), .pointer (some ⟨y3_3, 0, none⟩)])]) (l := pA3) (bel_trans K3_3.out j3) (x := b3_3.heap.size) K3_3.out.size (fun i hi => row_cell (heap_alloc_last _ _) (by rcases lt3 hi with rfl | rfl | rfl <;> rfl)) (fun i hi => by
    rcases lt3 hi with rfl | rfl | rfl
    · exact P3_1.out.bel j3
    · exact P3_2.out.bel j3
    · exact P3_3.out.bel j3
    ) ⟨rfl, by decide⟩ (by exact OK.out.2.2.1))
  clear j3 K3_3 S2 P3_1 P3_2 P3_3
  go_wp2_with fail
  refine D3.out.mono ?_; rintro e z3 ⟨rfl, s3⟩
  have S3 : Hid (HS w0 z3 b G0 bf ba (hq nw q 3)) := s3
  clear s3 D3
  -- add 4
  go_wp2_with fail
  refine (enter_at _).mono ?_; rintro e b4_1_0 ⟨v4_1_0, rfl, p4_1_0, k4_1_0⟩
  obtain ⟨x4_1_0, y4_1_0, rfl, _⟩ := id p4_1_0
  have P4_1_0 := Lib.hid (p4_1_0.low (Below.refl z3.heap.size z3).size)
  have K4_1_0 := Lib.hid (bel_trans (Below.refl z3.heap.size z3) k4_1_0)
  clear p4_1_0 k4_1_0
  have Q4_1 := Lib.hid (parts_new (W := b4_1_0) (B := z3.heap.size) (V := vals [(.slice (some ⟨x4_1_0, 0, none⟩) (enL).length y4_1_0)]) (L := nth [enL]) 1 #[(.slice (some ⟨x4_1_0, 0, none⟩) (enL).length y4_1_0)] 285 (fun i hi => by rcases lt1 hi with rfl <;> rfl) (fun i hi => by
    rcases lt1 hi with rfl
    · exact P4_1_0.out
    ) K4_1_0.out.size)
  have j4_1 : Below b4_1_0.heap.size b4_1_0 (b4_1_0.alloc (.cells #[(.slice (some ⟨x4_1_0, 0, none⟩) (enL).length y4_1_0)] 285)) := (Below.refl _ _).alloc (Nat.le_refl _) _
  clear P4_1_0
  have J4_1 := Lib.hid (bel_trans K4_1_0.out j4_1)
  clear j4_1 K4_1_0
  go_wp2_with fail
  refine (put_at Q4_1.out J4_1.out.size).mono ?_; rintro e b4_1 ⟨v4_1, rfl, p4_1, k4_1⟩
  obtain ⟨x4_1, _, _, rfl, _⟩ := id p4_1
  have P4_1 := Lib.hid p4_1
  have K4_1 := Lib.hid (bel_trans J4_1.out k4_1)
  clear p4_1 k4_1 Q4_1 J4_1
  go_wp2_with fail
  refine (ahead_at nw _ ⟨h2, h32⟩).mono ?_; rintro e b4_3_0 ⟨v4_3_0, rfl, p4_3_0, k4_3_0⟩
  obtain ⟨x4_3_0, y4_3_0, rfl, _⟩ := id p4_3_0
  have P4_1 := Lib.hid (P4_1.out.bel k4_3_0)
  have P4_3_0 := Lib.hid (p4_3_0.low K4_1.out.size)
  have K4_3_0 := Lib.hid (bel_trans K4_1.out k4_3_0)
  clear p4_3_0 k4_3_0 K4_1
  have Q4_3 := Lib.hid (parts_new (W := b4_3_0) (B := z3.heap.size) (V := vals [(.slice (some ⟨x4_3_0, 0, none⟩) (ahL nw).length y4_3_0)]) (L := nth [ahL nw]) 1 #[(.slice (some ⟨x4_3_0, 0, none⟩) (ahL nw).length y4_3_0)] 285 (fun i hi => by rcases lt1 hi with rfl <;> rfl) (fun i hi => by
    rcases lt1 hi with rfl
    · exact P4_3_0.out
    ) K4_3_0.out.size)
  have j4_3 : Below b4_3_0.heap.size b4_3_0 (b4_3_0.alloc (.cells #[(.slice (some ⟨x4_3_0, 0, none⟩) (ahL nw).length y4_3_0)] 285)) := (Below.refl _ _).alloc (Nat.le_refl _) _
  clear P4_3_0
  have P4_1 := Lib.hid (P4_1.out.bel j4_3)
  have J4_3 := Lib.hid (bel_trans K4_3_0.out j4_3)
  clear j4_3 K4_3_0
  go_wp2_with fail
  refine (put_at Q4_3.out J4_3.out.size).mono ?_; rintro e b4_3 ⟨v4_3, rfl, p4_3, k4_3⟩
  obtain ⟨x4_3, _, _, rfl, _⟩ := id p4_3
  have P4_1 := Lib.hid (P4_1.out.bel k4_3)
  have P4_3 := Lib.hid p4_3
  have K4_3 := Lib.hid (bel_trans J4_3.out k4_3)
  clear p4_3 k4_3 Q4_3 J4_3
  go_wp2_with fail
  refine (jump_at 0 sStore _).mono ?_; rintro e b4_4 ⟨v4_4, rfl, p4_4, k4_4⟩
  obtain ⟨x4_4, y4_4, rfl, _⟩ := id p4_4
  have P4_1 := Lib.hid (P4_1.out.bel k4_4)
  have P4_3 := Lib.hid (P4_3.out.bel k4_4)
  have P4_4 := Lib.hid (p4_4.low K4_3.out.size)
  have K4_4 := Lib.hid (bel_trans K4_3.out k4_4)
  clear p4_4 k4_4 K4_3
  have j4 : Below b4_4.heap.size b4_4 (b4_4.alloc (.cells #[(.func (.func 361) #[] #[.pointer (some ⟨x4_1, 0, none⟩)]), (.func (.func 300) #[] #[]), (.func (.func 361) #[] #[.pointer (some ⟨x4_3, 0, none⟩)]), (.func (.func 365) #[] #[.pointer (some ⟨x4_4, 0, none⟩), .pointer (some ⟨y4_4, 0, none⟩)])] 336)) := (Below.refl _ _).alloc (Nat.le_refl _) _
  have D4 := Lib.hid (S3.out.add (n := 4) (c := 4) (V := vals [(.func (.func 361) #[] #[.pointer (some ⟨x4_1, 0, none⟩)]), (.func (.func 300) #[] #[]), (.func (.func 361) #[] #[.pointer (some ⟨x4_3, 0, none⟩)]), (.func (.func 365) #[] #[.pointer (some ⟨x4_4, 0, none⟩), .pointer (some ⟨y4_4, 0, none⟩)])]) (l := (pA4 nw)) (bel_trans K4_4.out j4) (x := b4_4.heap.size) K4_4.out.size (fun i hi => row_cell (heap_alloc_last _ _) (by rcases lt4 hi with rfl | rfl | rfl | rfl <;> rfl)) (fun i hi => by
    rcases lt4 hi with rfl | rfl | rfl | rfl
    · exact P4_1.out.bel j4
    · rfl
    · exact P4_3.out.bel j4
    · exact P4_4.out.bel j4
    ) ⟨rfl, by decide⟩ (by exact OK.out.2.2.2.1))
  clear j4 K4_4 S3 P4_1 P4_3 P4_4
  go_wp2_with fail
  refine D4.out.mono ?_; rintro e z4 ⟨rfl, s4⟩
  have S4 : Hid (HS w0 z4 b G0 bf ba (hq nw q 4)) := s4
  clear s4 D4
  -- add 5
  go_wp2_with fail
  refine (mark_at sStored _).mono ?_; rintro e b5_1 ⟨v5_1, rfl, p5_1, k5_1⟩
  obtain ⟨x5_1, rfl, _⟩ := id p5_1
  have P5_1 := Lib.hid (p5_1.low (Below.refl z4.heap.size z4).size)
  have K5_1 := Lib.hid (bel_trans (Below.refl z4.heap.size z4) k5_1)
  clear p5_1 k5_1
  go_wp2_with fail
  refine (comeBack_at _).mono ?_; rintro e b5_2_0 ⟨v5_2_0, rfl, p5_2_0, k5_2_0⟩
  obtain ⟨x5_2_0, y5_2_0, rfl, _⟩ := id p5_2_0
  have P5_1 := Lib.hid (P5_1.out.bel k5_2_0)
  have P5_2_0 := Lib.hid (p5_2_0.low K5_1.out.size)
  have K5_2_0 := Lib.hid (bel_trans K5_1.out k5_2_0)
  clear p5_2_0 k5_2_0 K5_1
  go_wp2_with fail
  refine (running_at _).mono ?_; rintro e b5_2_1 ⟨v5_2_1, rfl, p5_2_1, k5_2_1⟩
  obtain ⟨x5_2_1, y5_2_1, rfl, _⟩ := id p5_2_1
  have P5_1 := Lib.hid (P5_1.out.bel k5_2_1)
  have P5_2_0 := Lib.hid (P5_2_0.out.bel k5_2_1)
  have P5_2_1 := Lib.hid (p5_2_1.low K5_2_0.out.size)
  have K5_2_1 := Lib.hid (bel_trans K5_2_0.out k5_2_1)
  clear p5_2_1 k5_2_1 K5_2_0
  go_wp2_with fail
  refine (pause_at _).mono ?_; rintro e b5_2_2 ⟨v5_2_2, rfl, p5_2_2, k5_2_2⟩
  obtain ⟨x5_2_2, y5_2_2, rfl, _⟩ := id p5_2_2
  have P5_1 := Lib.hid (P5_1.out.bel k5_2_2)
  have P5_2_0 := Lib.hid (P5_2_0.out.bel k5_2_2)
  have P5_2_1 := Lib.hid (P5_2_1.out.bel k5_2_2)
  have P5_2_2 := Lib.hid (p5_2_2.low K5_2_1.out.size)
  have K5_2_2 := Lib.hid (bel_trans K5_2_1.out k5_2_2)
  clear p5_2_2 k5_2_2 K5_2_1
  have Q5_2 := Lib.hid (parts_new (W := b5_2_2) (B := z4.heap.size) (V := vals [(.slice (some ⟨x5_2_0, 0, none⟩) (cbL).length y5_2_0), (.slice (some ⟨x5_2_1, 0, none⟩) (rnL).length y5_2_1), (.slice (some ⟨x5_2_2, 0, none⟩) (paL).length y5_2_2)]) (L := nth [cbL, rnL, paL]) 3 #[(.slice (some ⟨x5_2_0, 0, none⟩) (cbL).length y5_2_0), (.slice (some ⟨x5_2_1, 0, none⟩) (rnL).length y5_2_1), (.slice (some ⟨x5_2_2, 0, none⟩) (paL).length y5_2_2)] 285 (fun i hi => by rcases lt3 hi with rfl | rfl | rfl <;> rfl) (fun i hi => by
    rcases lt3 hi with rfl | rfl | rfl
    · exact P5_2_0.out
    · exact P5_2_1.out
    · exact P5_2_2.out
    ) K5_2_2.out.size)
  have j5_2 : Below b5_2_2.heap.size b5_2_2 (b5_2_2.alloc (.cells #[(.slice (some ⟨x5_2_0, 0, none⟩) (cbL).length y5_2_0), (.slice (some ⟨x5_2_1, 0, none⟩) (rnL).length y5_2_1), (.slice (some ⟨x5_2_2, 0, none⟩) (paL).length y5_2_2)] 285)) := (Below.refl _ _).alloc (Nat.le_refl _) _
  clear P5_2_0 P5_2_1 P5_2_2
  have P5_1 := Lib.hid (P5_1.out.bel j5_2)
  have J5_2 := Lib.hid (bel_trans K5_2_2.out j5_2)
  clear j5_2 K5_2_2
  go_wp2_with fail
  refine (put_at Q5_2.out J5_2.out.size).mono ?_; rintro e b5_2 ⟨v5_2, rfl, p5_2, k5_2⟩
  obtain ⟨x5_2, _, _, rfl, _⟩ := id p5_2
  have P5_1 := Lib.hid (P5_1.out.bel k5_2)
  have P5_2 := Lib.hid p5_2
  have K5_2 := Lib.hid (bel_trans J5_2.out k5_2)
  clear p5_2 k5_2 Q5_2 J5_2
  have j5 : Below b5_2.heap.size b5_2 (b5_2.alloc (.cells #[(.func (.func 360) #[] #[.pointer (some ⟨x5_1, 0, none⟩)]), (.func (.func 361) #[] #[.pointer (some ⟨x5_2, 0, none⟩)])] 336)) := (Below.refl _ _).alloc (Nat.le_refl _) _
  have D5 := Lib.hid (S4.out.add (n := 2) (c := 2) (V := vals [(.func (.func 360) #[] #[.pointer (some ⟨x5_1, 0, none⟩)]), (.func (.func 361) #[] #[.pointer (some ⟨x5_2, 0, none⟩)])]) (l := pA5) (bel_trans K5_2.out j5) (x := b5_2.heap.size) K5_2.out.size (fun i hi => row_cell (heap_alloc_last _ _) (by rcases lt2 hi with rfl | rfl <;> rfl)) (fun i hi => by
    rcases lt2 hi with rfl | rfl
    · exact P5_1.out.bel j5
    · exact P5_2.out.bel j5
    ) ⟨rfl, by decide⟩ (by exact OK.out.2.2.2.2.1))
  clear j5 K5_2 S4 P5_1 P5_2
  go_wp2_with fail
  refine D5.out.mono ?_; rintro e z5 ⟨rfl, s5⟩
  have S5 : Hid (HS w0 z5 b G0 bf ba (hq nw q 5)) := s5
  clear s5 D5
  -- add 6
  go_wp2_with fail
  refine (mark_at sSwap _).mono ?_; rintro e b6_1 ⟨v6_1, rfl, p6_1, k6_1⟩
  obtain ⟨x6_1, rfl, _⟩ := id p6_1
  have P6_1 := Lib.hid (p6_1.low (Below.refl z5.heap.size z5).size)
  have K6_1 := Lib.hid (bel_trans (Below.refl z5.heap.size z5) k6_1)
  clear p6_1 k6_1
  go_wp2_with fail
  refine (beginCount_at _).mono ?_; rintro e b6_2_0 ⟨v6_2_0, rfl, p6_2_0, k6_2_0⟩
  obtain ⟨x6_2_0, y6_2_0, rfl, _⟩ := id p6_2_0
  have P6_1 := Lib.hid (P6_1.out.bel k6_2_0)
  have P6_2_0 := Lib.hid (p6_2_0.low K6_1.out.size)
  have K6_2_0 := Lib.hid (bel_trans K6_1.out k6_2_0)
  clear p6_2_0 k6_2_0 K6_1
  have Q6_2 := Lib.hid (parts_new (W := b6_2_0) (B := z5.heap.size) (V := vals [(.slice (some ⟨x6_2_0, 0, none⟩) (bcL).length y6_2_0)]) (L := nth [bcL]) 1 #[(.slice (some ⟨x6_2_0, 0, none⟩) (bcL).length y6_2_0)] 285 (fun i hi => by rcases lt1 hi with rfl <;> rfl) (fun i hi => by
    rcases lt1 hi with rfl
    · exact P6_2_0.out
    ) K6_2_0.out.size)
  have j6_2 : Below b6_2_0.heap.size b6_2_0 (b6_2_0.alloc (.cells #[(.slice (some ⟨x6_2_0, 0, none⟩) (bcL).length y6_2_0)] 285)) := (Below.refl _ _).alloc (Nat.le_refl _) _
  clear P6_2_0
  have P6_1 := Lib.hid (P6_1.out.bel j6_2)
  have J6_2 := Lib.hid (bel_trans K6_2_0.out j6_2)
  clear j6_2 K6_2_0
  go_wp2_with fail
  refine (put_at Q6_2.out J6_2.out.size).mono ?_; rintro e b6_2 ⟨v6_2, rfl, p6_2, k6_2⟩
  obtain ⟨x6_2, _, _, rfl, _⟩ := id p6_2
  have P6_1 := Lib.hid (P6_1.out.bel k6_2)
  have P6_2 := Lib.hid p6_2
  have K6_2 := Lib.hid (bel_trans J6_2.out k6_2)
  clear p6_2 k6_2 Q6_2 J6_2
  have j6 : Below b6_2.heap.size b6_2 (b6_2.alloc (.cells #[(.func (.func 360) #[] #[.pointer (some ⟨x6_1, 0, none⟩)]), (.func (.func 361) #[] #[.pointer (some ⟨x6_2, 0, none⟩)])] 336)) := (Below.refl _ _).alloc (Nat.le_refl _) _
  have D6 := Lib.hid (S5.out.add (n := 2) (c := 2) (V := vals [(.func (.func 360) #[] #[.pointer (some ⟨x6_1, 0, none⟩)]), (.func (.func 361) #[] #[.pointer (some ⟨x6_2, 0, none⟩)])]) (l := pA6) (bel_trans K6_2.out j6) (x := b6_2.heap.size) K6_2.out.size (fun i hi => row_cell (heap_alloc_last _ _) (by rcases lt2 hi with rfl | rfl <;> rfl)) (fun i hi => by
    rcases lt2 hi with rfl | rfl
    · exact P6_1.out.bel j6
    · exact P6_2.out.bel j6
    ) ⟨rfl, by decide⟩ (by exact OK.out.2.2.2.2.2.1))
  clear j6 K6_2 S5 P6_1 P6_2
  go_wp2_with fail
  refine D6.out.mono ?_; rintro e z6 ⟨rfl, s6⟩
  have S6 : Hid (HS w0 z6 b G0 bf ba (hq nw q 6)) := s6
  clear s6 D6
  -- add 7
  go_wp2_with fail
  refine (mark_at sCount _).mono ?_; rintro e b7_1 ⟨v7_1, rfl, p7_1, k7_1⟩
  obtain ⟨x7_1, rfl, _⟩ := id p7_1
  have P7_1 := Lib.hid (p7_1.low (Below.refl z6.heap.size z6).size)
  have K7_1 := Lib.hid (bel_trans (Below.refl z6.heap.size z6) k7_1)
  clear p7_1 k7_1
  go_wp2_with fail
  refine (countOne_at _).mono ?_; rintro e b7_2_0 ⟨v7_2_0, rfl, p7_2_0, k7_2_0⟩
  obtain ⟨x7_2_0, y7_2_0, rfl, _⟩ := id p7_2_0
  have P7_1 := Lib.hid (P7_1.out.bel k7_2_0)
  have P7_2_0 := Lib.hid (p7_2_0.low K7_1.out.size)
  have K7_2_0 := Lib.hid (bel_trans K7_1.out k7_2_0)
  clear p7_2_0 k7_2_0 K7_1
  go_wp2_with fail
  refine (nextBlock_at _).mono ?_; rintro e b7_2_1 ⟨v7_2_1, rfl, p7_2_1, k7_2_1⟩
  obtain ⟨x7_2_1, y7_2_1, rfl, _⟩ := id p7_2_1
  have P7_1 := Lib.hid (P7_1.out.bel k7_2_1)
  have P7_2_0 := Lib.hid (P7_2_0.out.bel k7_2_1)
  have P7_2_1 := Lib.hid (p7_2_1.low K7_2_0.out.size)
  have K7_2_1 := Lib.hid (bel_trans K7_2_0.out k7_2_1)
  clear p7_2_1 k7_2_1 K7_2_0
  go_wp2_with fail
  refine (compareBeyond_at _).mono ?_; rintro e b7_2_2 ⟨v7_2_2, rfl, p7_2_2, k7_2_2⟩
  obtain ⟨x7_2_2, y7_2_2, rfl, _⟩ := id p7_2_2
  have P7_1 := Lib.hid (P7_1.out.bel k7_2_2)
  have P7_2_0 := Lib.hid (P7_2_0.out.bel k7_2_2)
  have P7_2_1 := Lib.hid (P7_2_1.out.bel k7_2_2)
  have P7_2_2 := Lib.hid (p7_2_2.low K7_2_1.out.size)
  have K7_2_2 := Lib.hid (bel_trans K7_2_1.out k7_2_2)
  clear p7_2_2 k7_2_2 K7_2_1
  have Q7_2 := Lib.hid (parts_new (W := b7_2_2) (B := z6.heap.size) (V := vals [(.slice (some ⟨x7_2_0, 0, none⟩) (coL).length y7_2_0), (.slice (some ⟨x7_2_1, 0, none⟩) (nbL).length y7_2_1), (.slice (some ⟨x7_2_2, 0, none⟩) (cyL).length y7_2_2)]) (L := nth [coL, nbL, cyL]) 3 #[(.slice (some ⟨x7_2_0, 0, none⟩) (coL).length y7_2_0), (.slice (some ⟨x7_2_1, 0, none⟩) (nbL).length y7_2_1), (.slice (some ⟨x7_2_2, 0, none⟩) (cyL).length y7_2_2)] 285 (fun i hi => by rcases lt3 hi with rfl | rfl | rfl <;> rfl) (fun i hi => by
    rcases lt3 hi with rfl | rfl | rfl
    · exact P7_2_0.out
    · exact P7_2_1.out
    · exact P7_2_2.out
    ) K7_2_2.out.size)
  have j7_2 : Below b7_2_2.heap.size b7_2_2 (b7_2_2.alloc (.cells #[(.slice (some ⟨x7_2_0, 0, none⟩) (coL).length y7_2_0), (.slice (some ⟨x7_2_1, 0, none⟩) (nbL).length y7_2_1), (.slice (some ⟨x7_2_2, 0, none⟩) (cyL).length y7_2_2)] 285)) := (Below.refl _ _).alloc (Nat.le_refl _) _
  clear P7_2_0 P7_2_1 P7_2_2
  have P7_1 := Lib.hid (P7_1.out.bel j7_2)
  have J7_2 := Lib.hid (bel_trans K7_2_2.out j7_2)
  clear j7_2 K7_2_2
  go_wp2_with fail
  refine (put_at Q7_2.out J7_2.out.size).mono ?_; rintro e b7_2 ⟨v7_2, rfl, p7_2, k7_2⟩
  obtain ⟨x7_2, _, _, rfl, _⟩ := id p7_2
  have P7_1 := Lib.hid (P7_1.out.bel k7_2)
  have P7_2 := Lib.hid p7_2
  have K7_2 := Lib.hid (bel_trans J7_2.out k7_2)
  clear p7_2 k7_2 Q7_2 J7_2
  go_wp2_with fail
  refine (jump_at 5 sCount _).mono ?_; rintro e b7_3 ⟨v7_3, rfl, p7_3, k7_3⟩
  obtain ⟨x7_3, y7_3, rfl, _⟩ := id p7_3
  have P7_1 := Lib.hid (P7_1.out.bel k7_3)
  have P7_2 := Lib.hid (P7_2.out.bel k7_3)
  have P7_3 := Lib.hid (p7_3.low K7_2.out.size)
  have K7_3 := Lib.hid (bel_trans K7_2.out k7_3)
  clear p7_3 k7_3 K7_2
  have j7 : Below b7_3.heap.size b7_3 (b7_3.alloc (.cells #[(.func (.func 360) #[] #[.pointer (some ⟨x7_1, 0, none⟩)]), (.func (.func 361) #[] #[.pointer (some ⟨x7_2, 0, none⟩)]), (.func (.func 365) #[] #[.pointer (some ⟨x7_3, 0, none⟩), .pointer (some ⟨y7_3, 0, none⟩)])] 336)) := (Below.refl _ _).alloc (Nat.le_refl _) _
  have D7 := Lib.hid (S6.out.add (n := 3) (c := 3) (V := vals [(.func (.func 360) #[] #[.pointer (some ⟨x7_1, 0, none⟩)]), (.func (.func 361) #[] #[.pointer (some ⟨x7_2, 0, none⟩)]), (.func (.func 365) #[] #[.pointer (some ⟨x7_3, 0, none⟩), .pointer (some ⟨y7_3, 0, none⟩)])]) (l := pA7) (bel_trans K7_3.out j7) (x := b7_3.heap.size) K7_3.out.size (fun i hi => row_cell (heap_alloc_last _ _) (by rcases lt3 hi with rfl | rfl | rfl <;> rfl)) (fun i hi => by
    rcases lt3 hi with rfl | rfl | rfl
    · exact P7_1.out.bel j7
    · exact P7_2.out.bel j7
    · exact P7_3.out.bel j7
    ) ⟨rfl, by decide⟩ (by exact OK.out.2.2.2.2.2.2.1))
  clear j7 K7_3 S6 P7_1 P7_2 P7_3
  go_wp2_with fail
  refine D7.out.mono ?_; rintro e z7 ⟨rfl, s7⟩
  have S7 : Hid (HS w0 z7 b G0 bf ba (hq nw q 7)) := s7
  clear s7 D7
  -- add 8
  go_wp2_with fail
  refine (choose_at _).mono ?_; rintro e b8_1_0 ⟨v8_1_0, rfl, p8_1_0, k8_1_0⟩
  obtain ⟨x8_1_0, y8_1_0, rfl, _⟩ := id p8_1_0
  have P8_1_0 := Lib.hid (p8_1_0.low (Below.refl z7.heap.size z7).size)
  have K8_1_0 := Lib.hid (bel_trans (Below.refl z7.heap.size z7) k8_1_0)
  clear p8_1_0 k8_1_0
  have Q8_1 := Lib.hid (parts_new (W := b8_1_0) (B := z7.heap.size) (V := vals [(.slice (some ⟨x8_1_0, 0, none⟩) (chL).length y8_1_0)]) (L := nth [chL]) 1 #[(.slice (some ⟨x8_1_0, 0, none⟩) (chL).length y8_1_0)] 285 (fun i hi => by rcases lt1 hi with rfl <;> rfl) (fun i hi => by
    rcases lt1 hi with rfl
    · exact P8_1_0.out
    ) K8_1_0.out.size)
  have j8_1 : Below b8_1_0.heap.size b8_1_0 (b8_1_0.alloc (.cells #[(.slice (some ⟨x8_1_0, 0, none⟩) (chL).length y8_1_0)] 285)) := (Below.refl _ _).alloc (Nat.le_refl _) _
  clear P8_1_0
  have J8_1 := Lib.hid (bel_trans K8_1_0.out j8_1)
  clear j8_1 K8_1_0
  go_wp2_with fail
  refine (put_at Q8_1.out J8_1.out.size).mono ?_; rintro e b8_1 ⟨v8_1, rfl, p8_1, k8_1⟩
  obtain ⟨x8_1, _, _, rfl, _⟩ := id p8_1
  have P8_1 := Lib.hid p8_1
  have K8_1 := Lib.hid (bel_trans J8_1.out k8_1)
  clear p8_1 k8_1 Q8_1 J8_1
  have j8 : Below b8_1.heap.size b8_1 (b8_1.alloc (.cells #[(.func (.func 361) #[] #[.pointer (some ⟨x8_1, 0, none⟩)])] 336)) := (Below.refl _ _).alloc (Nat.le_refl _) _
  have D8 := Lib.hid (S7.out.add (n := 1) (c := 1) (V := vals [(.func (.func 361) #[] #[.pointer (some ⟨x8_1, 0, none⟩)])]) (l := pA8) (bel_trans K8_1.out j8) (x := b8_1.heap.size) K8_1.out.size (fun i hi => row_cell (heap_alloc_last _ _) (by rcases lt1 hi with rfl <;> rfl)) (fun i hi => by
    rcases lt1 hi with rfl
    · exact P8_1.out.bel j8
    ) ⟨rfl, by decide⟩ (by exact OK.out.2.2.2.2.2.2.2.1))
  clear j8 K8_1 S7 P8_1
  go_wp2_with fail
  refine D8.out.mono ?_; rintro e z8 ⟨rfl, s8⟩
  have S8 : Hid (HS w0 z8 b G0 bf ba (hq nw q 8)) := s8
  clear s8 D8
  -- add 9
  go_wp2_with fail
  refine (mark_at sFind _).mono ?_; rintro e b9_1 ⟨v9_1, rfl, p9_1, k9_1⟩
  obtain ⟨x9_1, rfl, _⟩ := id p9_1
  have P9_1 := Lib.hid (p9_1.low (Below.refl z8.heap.size z8).size)
  have K9_1 := Lib.hid (bel_trans (Below.refl z8.heap.size z8) k9_1)
  clear p9_1 k9_1
  go_wp2_with fail
  refine (passOne_at _).mono ?_; rintro e b9_2_0 ⟨v9_2_0, rfl, p9_2_0, k9_2_0⟩
  obtain ⟨x9_2_0, y9_2_0, rfl, _⟩ := id p9_2_0
  have P9_1 := Lib.hid (P9_1.out.bel k9_2_0)
  have P9_2_0 := Lib.hid (p9_2_0.low K9_1.out.size)
  have K9_2_0 := Lib.hid (bel_trans K9_1.out k9_2_0)
  clear p9_2_0 k9_2_0 K9_1
  have Q9_2 := Lib.hid (parts_new (W := b9_2_0) (B := z8.heap.size) (V := vals [(.slice (some ⟨x9_2_0, 0, none⟩) (poL).length y9_2_0)]) (L := nth [poL]) 1 #[(.slice (some ⟨x9_2_0, 0, none⟩) (poL).length y9_2_0)] 285 (fun i hi => by rcases lt1 hi with rfl <;> rfl) (fun i hi => by
    rcases lt1 hi with rfl
    · exact P9_2_0.out
    ) K9_2_0.out.size)
  have j9_2 : Below b9_2_0.heap.size b9_2_0 (b9_2_0.alloc (.cells #[(.slice (some ⟨x9_2_0, 0, none⟩) (poL).length y9_2_0)] 285)) := (Below.refl _ _).alloc (Nat.le_refl _) _
  clear P9_2_0
  have P9_1 := Lib.hid (P9_1.out.bel j9_2)
  have J9_2 := Lib.hid (bel_trans K9_2_0.out j9_2)
  clear j9_2 K9_2_0
  go_wp2_with fail
  refine (put_at Q9_2.out J9_2.out.size).mono ?_; rintro e b9_2 ⟨v9_2, rfl, p9_2, k9_2⟩
  obtain ⟨x9_2, _, _, rfl, _⟩ := id p9_2
  have P9_1 := Lib.hid (P9_1.out.bel k9_2)
  have P9_2 := Lib.hid p9_2
  have K9_2 := Lib.hid (bel_trans J9_2.out k9_2)
  clear p9_2 k9_2 Q9_2 J9_2
  go_wp2_with fail
  refine (jump_at 3 sIt _).mono ?_; rintro e b9_3 ⟨v9_3, rfl, p9_3, k9_3⟩
  obtain ⟨x9_3, y9_3, rfl, _⟩ := id p9_3
  have P9_1 := Lib.hid (P9_1.out.bel k9_3)
  have P9_2 := Lib.hid (P9_2.out.bel k9_3)
  have P9_3 := Lib.hid (p9_3.low K9_2.out.size)
  have K9_3 := Lib.hid (bel_trans K9_2.out k9_3)
  clear p9_3 k9_3 K9_2
  have j9 : Below b9_3.heap.size b9_3 (b9_3.alloc (.cells #[(.func (.func 360) #[] #[.pointer (some ⟨x9_1, 0, none⟩)]), (.func (.func 361) #[] #[.pointer (some ⟨x9_2, 0, none⟩)]), (.func (.func 365) #[] #[.pointer (some ⟨x9_3, 0, none⟩), .pointer (some ⟨y9_3, 0, none⟩)])] 336)) := (Below.refl _ _).alloc (Nat.le_refl _) _
  have D9 := Lib.hid (S8.out.add (n := 3) (c := 3) (V := vals [(.func (.func 360) #[] #[.pointer (some ⟨x9_1, 0, none⟩)]), (.func (.func 361) #[] #[.pointer (some ⟨x9_2, 0, none⟩)]), (.func (.func 365) #[] #[.pointer (some ⟨x9_3, 0, none⟩), .pointer (some ⟨y9_3, 0, none⟩)])]) (l := pA9) (bel_trans K9_3.out j9) (x := b9_3.heap.size) K9_3.out.size (fun i hi => row_cell (heap_alloc_last _ _) (by rcases lt3 hi with rfl | rfl | rfl <;> rfl)) (fun i hi => by
    rcases lt3 hi with rfl | rfl | rfl
    · exact P9_1.out.bel j9
    · exact P9_2.out.bel j9
    · exact P9_3.out.bel j9
    ) ⟨rfl, by decide⟩ (by exact OK.out.2.2.2.2.2.2.2.2.1))
  clear j9 K9_3 S8 P9_1 P9_2 P9_3
  go_wp2_with fail
  refine D9.out.mono ?_; rintro e z9 ⟨rfl, s9⟩
  have S9 : Hid (HS w0 z9 b G0 bf ba (hq nw q 9)) := s9
  clear s9 D9
  -- add 10
  go_wp2_with fail
  refine (nextBlock_at _).mono ?_; rintro e b10_1_0 ⟨v10_1_0, rfl, p10_1_0, k10_1_0⟩
  obtain ⟨x10_1_0, y10_1_0, rfl, _⟩ := id p10_1_0
  have P10_1_0 := Lib.hid (p10_1_0.low (Below.refl z9.heap.size z9).size)
  have K10_1_0 := Lib.hid (bel_trans (Below.refl z9.heap.size z9) k10_1_0)
  clear p10_1_0 k10_1_0
  have Q10_1 := Lib.hid (parts_new (W := b10_1_0) (B := z9.heap.size) (V := vals [(.slice (some ⟨x10_1_0, 0, none⟩) (nbL).length y10_1_0)]) (L := nth [nbL]) 1 #[(.slice (some ⟨x10_1_0, 0, none⟩) (nbL).length y10_1_0)] 285 (fun i hi => by rcases lt1 hi with rfl <;> rfl) (fun i hi => by
    rcases lt1 hi with rfl
    · exact P10_1_0.out
    ) K10_1_0.out.size)
  have j10_1 : Below b10_1_0.heap.size b10_1_0 (b10_1_0.alloc (.cells #[(.slice (some ⟨x10_1_0, 0, none⟩) (nbL).length y10_1_0)] 285)) := (Below.refl _ _).alloc (Nat.le_refl _) _
  clear P10_1_0
  have J10_1 := Lib.hid (bel_trans K10_1_0.out j10_1)
  clear j10_1 K10_1_0
  go_wp2_with fail
  refine (put_at Q10_1.out J10_1.out.size).mono ?_; rintro e b10_1 ⟨v10_1, rfl, p10_1, k10_1⟩
  obtain ⟨x10_1, _, _, rfl, _⟩ := id p10_1
  have P10_1 := Lib.hid p10_1
  have K10_1 := Lib.hid (bel_trans J10_1.out k10_1)
  clear p10_1 k10_1 Q10_1 J10_1
  go_wp2_with fail
  refine (jump_at 0 sFind _).mono ?_; rintro e b10_2 ⟨v10_2, rfl, p10_2, k10_2⟩
  obtain ⟨x10_2, y10_2, rfl, _⟩ := id p10_2
  have P10_1 := Lib.hid (P10_1.out.bel k10_2)
  have P10_2 := Lib.hid (p10_2.low K10_1.out.size)
  have K10_2 := Lib.hid (bel_trans K10_1.out k10_2)
  clear p10_2 k10_2 K10_1
  have j10 : Below b10_2.heap.size b10_2 (b10_2.alloc (.cells #[(.func (.func 361) #[] #[.pointer (some ⟨x10_1, 0, none⟩)]), (.func (.func 365) #[] #[.pointer (some ⟨x10_2, 0, none⟩), .pointer (some ⟨y10_2, 0, none⟩)])] 336)) := (Below.refl _ _).alloc (Nat.le_refl _) _
  have D10 := Lib.hid (S9.out.add (n := 2) (c := 2) (V := vals [(.func (.func 361) #[] #[.pointer (some ⟨x10_1, 0, none⟩)]), (.func (.func 365) #[] #[.pointer (some ⟨x10_2, 0, none⟩), .pointer (some ⟨y10_2, 0, none⟩)])]) (l := pA10) (bel_trans K10_2.out j10) (x := b10_2.heap.size) K10_2.out.size (fun i hi => row_cell (heap_alloc_last _ _) (by rcases lt2 hi with rfl | rfl <;> rfl)) (fun i hi => by
    rcases lt2 hi with rfl | rfl
    · exact P10_1.out.bel j10
    · exact P10_2.out.bel j10
    ) ⟨rfl, by decide⟩ (by exact OK.out.2.2.2.2.2.2.2.2.2.1))
  clear j10 K10_2 S9 P10_1 P10_2
  go_wp2_with fail
  refine D10.out.mono ?_; rintro e z10 ⟨rfl, s10⟩
  have S10 : Hid (HS w0 z10 b G0 bf ba (hq nw q 10)) := s10
  clear s10 D10
  -- add 11
  go_wp2_with fail
  refine (mark_at sIt _).mono ?_; rintro e b11_1 ⟨v11_1, rfl, p11_1, k11_1⟩
  obtain ⟨x11_1, rfl, _⟩ := id p11_1
  have P11_1 := Lib.hid (p11_1.low (Below.refl z10.heap.size z10).size)
  have K11_1 := Lib.hid (bel_trans (Below.refl z10.heap.size z10) k11_1)
  clear p11_1 k11_1
  go_wp2_with fail
  refine (makeRunning_at _).mono ?_; rintro e b11_2_0 ⟨v11_2_0, rfl, p11_2_0, k11_2_0⟩
  obtain ⟨x11_2_0, y11_2_0, rfl, _⟩ := id p11_2_0
  have P11_1 := Lib.hid (P11_1.out.bel k11_2_0)
  have P11_2_0 := Lib.hid (p11_2_0.low K11_1.out.size)
  have K11_2_0 := Lib.hid (bel_trans K11_1.out k11_2_0)
  clear p11_2_0 k11_2_0 K11_1
  go_wp2_with fail
  refine (split_at _).mono ?_; rintro e b11_2_1 ⟨v11_2_1, rfl, p11_2_1, k11_2_1⟩
  obtain ⟨x11_2_1, y11_2_1, rfl, _⟩ := id p11_2_1
  have P11_1 := Lib.hid (P11_1.out.bel k11_2_1)
  have P11_2_0 := Lib.hid (P11_2_0.out.bel k11_2_1)
  have P11_2_1 := Lib.hid (p11_2_1.low K11_2_0.out.size)
  have K11_2_1 := Lib.hid (bel_trans K11_2_0.out k11_2_1)
  clear p11_2_1 k11_2_1 K11_2_0
  go_wp2_with fail
  refine (ahead_at nw _ ⟨h2, h32⟩).mono ?_; rintro e b11_2_2 ⟨v11_2_2, rfl, p11_2_2, k11_2_2⟩
  obtain ⟨x11_2_2, y11_2_2, rfl, _⟩ := id p11_2_2
  have P11_1 := Lib.hid (P11_1.out.bel k11_2_2)
  have P11_2_0 := Lib.hid (P11_2_0.out.bel k11_2_2)
  have P11_2_1 := Lib.hid (P11_2_1.out.bel k11_2_2)
  have P11_2_2 := Lib.hid (p11_2_2.low K11_2_1.out.size)
  have K11_2_2 := Lib.hid (bel_trans K11_2_1.out k11_2_2)
  clear p11_2_2 k11_2_2 K11_2_1
  go_wp2_with fail
  refine (invalidate_at _).mono ?_; rintro e b11_2_3 ⟨v11_2_3, rfl, p11_2_3, k11_2_3⟩
  obtain ⟨x11_2_3, y11_2_3, rfl, _⟩ := id p11_2_3
  have P11_1 := Lib.hid (P11_1.out.bel k11_2_3)
  have P11_2_0 := Lib.hid (P11_2_0.out.bel k11_2_3)
  have P11_2_1 := Lib.hid (P11_2_1.out.bel k11_2_3)
  have P11_2_2 := Lib.hid (P11_2_2.out.bel k11_2_3)
  have P11_2_3 := Lib.hid (p11_2_3.low K11_2_2.out.size)
  have K11_2_3 := Lib.hid (bel_trans K11_2_2.out k11_2_3)
  clear p11_2_3 k11_2_3 K11_2_2
  have Q11_2 := Lib.hid (parts_new (W := b11_2_3) (B := z10.heap.size) (V := vals [(.slice (some ⟨x11_2_0, 0, none⟩) (mrL).length y11_2_0), (.slice (some ⟨x11_2_1, 0, none⟩) (spL).length y11_2_1), (.slice (some ⟨x11_2_2, 0, none⟩) (ahL nw).length y11_2_2), (.slice (some ⟨x11_2_3, 0, none⟩) (ivL).length y11_2_3)]) (L := nth [mrL, spL, ahL nw, ivL]) 4 #[(.slice (some ⟨x11_2_0, 0, none⟩) (mrL).length y11_2_0), (.slice (some ⟨x11_2_1, 0, none⟩) (spL).length y11_2_1), (.slice (some ⟨x11_2_2, 0, none⟩) (ahL nw).length y11_2_2), (.slice (some ⟨x11_2_3, 0, none⟩) (ivL).length y11_2_3)] 285 (fun i hi => by rcases lt4 hi with rfl | rfl | rfl | rfl <;> rfl) (fun i hi => by
    rcases lt4 hi with rfl | rfl | rfl | rfl
    · exact P11_2_0.out
    · exact P11_2_1.out
    · exact P11_2_2.out
    · exact P11_2_3.out
    ) K11_2_3.out.size)
  have j11_2 : Below b11_2_3.heap.size b11_2_3 (b11_2_3.alloc (.cells #[(.slice (some ⟨x11_2_0, 0, none⟩) (mrL).length y11_2_0), (.slice (some ⟨x11_2_1, 0, none⟩) (spL).length y11_2_1), (.slice (some ⟨x11_2_2, 0, none⟩) (ahL nw).length y11_2_2), (.slice (some ⟨x11_2_3, 0, none⟩) (ivL).length y11_2_3)] 285)) := (Below.refl _ _).alloc (Nat.le_refl _) _
  clear P11_2_0 P11_2_1 P11_2_2 P11_2_3
  have P11_1 := Lib.hid (P11_1.out.bel j11_2)
  have J11_2 := Lib.hid (bel_trans K11_2_3.out j11_2)
  clear j11_2 K11_2_3
  go_wp2_with fail
  refine (put_at Q11_2.out J11_2.out.size).mono ?_; rintro e b11_2 ⟨v11_2, rfl, p11_2, k11_2⟩
  obtain ⟨x11_2, _, _, rfl, _⟩ := id p11_2
  have P11_1 := Lib.hid (P11_1.out.bel k11_2)
  have P11_2 := Lib.hid p11_2
  have K11_2 := Lib.hid (bel_trans J11_2.out k11_2)
  clear p11_2 k11_2 Q11_2 J11_2
  have j11 : Below b11_2.heap.size b11_2 (b11_2.alloc (.cells #[(.func (.func 360) #[] #[.pointer (some ⟨x11_1, 0, none⟩)]), (.func (.func 361) #[] #[.pointer (some ⟨x11_2, 0, none⟩)]), (.func (.func 312) #[] #[])] 336)) := (Below.refl _ _).alloc (Nat.le_refl _) _
  have D11 := Lib.hid (S10.out.add (n := 3) (c := 3) (V := vals [(.func (.func 360) #[] #[.pointer (some ⟨x11_1, 0, none⟩)]), (.func (.func 361) #[] #[.pointer (some ⟨x11_2, 0, none⟩)]), (.func (.func 312) #[] #[])]) (l := (pA11 nw)) (bel_trans K11_2.out j11) (x := b11_2.heap.size) K11_2.out.size (fun i hi => row_cell (heap_alloc_last _ _) (by rcases lt3 hi with rfl | rfl | rfl <;> rfl)) (fun i hi => by
    rcases lt3 hi with rfl | rfl | rfl
    · exact P11_1.out.bel j11
    · exact P11_2.out.bel j11
    · rfl
    ) ⟨rfl, by decide⟩ (by exact OK.out.2.2.2.2.2.2.2.2.2.2.1))
  clear j11 K11_2 S10 P11_1 P11_2
  go_wp2_with fail
  refine D11.out.mono ?_; rintro e z11 ⟨rfl, s11⟩
  have S11 : Hid (HS w0 z11 b G0 bf ba (hq nw q 11)) := s11
  clear s11 D11
  -- add 12
  go_wp2_with fail
  refine (goOn_at _).mono ?_; rintro e b12_1_0 ⟨v12_1_0, rfl, p12_1_0, k12_1_0⟩
  obtain ⟨x12_1_0, y12_1_0, rfl, _⟩ := id p12_1_0
  have P12_1_0 := Lib.hid (p12_1_0.low (Below.refl z11.heap.size z11).size)
  have K12_1_0 := Lib.hid (bel_trans (Below.refl z11.heap.size z11) k12_1_0)
  clear p12_1_0 k12_1_0
  have Q12_1 := Lib.hid (parts_new (W := b12_1_0) (B := z11.heap.size) (V := vals [(.slice (some ⟨x12_1_0, 0, none⟩) (goL).length y12_1_0)]) (L := nth [goL]) 1 #[(.slice (some ⟨x12_1_0, 0, none⟩) (goL).length y12_1_0)] 285 (fun i hi => by rcases lt1 hi with rfl <;> rfl) (fun i hi => by
    rcases lt1 hi with rfl
    · exact P12_1_0.out
    ) K12_1_0.out.size)
  have j12_1 : Below b12_1_0.heap.size b12_1_0 (b12_1_0.alloc (.cells #[(.slice (some ⟨x12_1_0, 0, none⟩) (goL).length y12_1_0)] 285)) := (Below.refl _ _).alloc (Nat.le_refl _) _
  clear P12_1_0
  have J12_1 := Lib.hid (bel_trans K12_1_0.out j12_1)
  clear j12_1 K12_1_0
  go_wp2_with fail
  refine (put_at Q12_1.out J12_1.out.size).mono ?_; rintro e b12_1 ⟨v12_1, rfl, p12_1, k12_1⟩
  obtain ⟨x12_1, _, _, rfl, _⟩ := id p12_1
  have P12_1 := Lib.hid p12_1
  have K12_1 := Lib.hid (bel_trans J12_1.out k12_1)
  clear p12_1 k12_1 Q12_1 J12_1
  have j12 : Below b12_1.heap.size b12_1 (b12_1.alloc (.cells #[(.func (.func 361) #[] #[.pointer (some ⟨x12_1, 0, none⟩)])] 336)) := (Below.refl _ _).alloc (Nat.le_refl _) _
  have D12 := Lib.hid (S11.out.add (n := 1) (c := 1) (V := vals [(.func (.func 361) #[] #[.pointer (some ⟨x12_1, 0, none⟩)])]) (l := pA12) (bel_trans K12_1.out j12) (x := b12_1.heap.size) K12_1.out.size (fun i hi => row_cell (heap_alloc_last _ _) (by rcases lt1 hi with rfl <;> rfl)) (fun i hi => by
    rcases lt1 hi with rfl
    · exact P12_1.out.bel j12
    ) ⟨rfl, by decide⟩ (by exact OK.out.2.2.2.2.2.2.2.2.2.2.2))
  clear j12 K12_1 S11 P12_1
  go_wp2_with fail
  refine D12.out.mono ?_; rintro e z12 ⟨rfl, s12⟩
  have S12 : Hid (HS w0 z12 b G0 bf ba (hq nw q 12)) := s12
  clear s12 D12
  go_wp2_with fail
  go_ret
  exact ⟨rfl, S12.out.out⟩
section
variable {w0 w w' : World} {b : Nat} {G G0 K : Nat → Prop} {q : AS}
theorem All_yes (nw : Int) (h2 : 2 ≤ nw) (h32 : nw ≤ 32) (u : Un q) (h : Has w0 w b G0 q) :
    Calls Tryz.prog 176 #[.pointer (some ⟨b, 0, none⟩), .int .i64 nw] w fun e w' => e = .returned (.int .i64 0) ∧ Has w0 w' b G0 (hq nw q 12) := by
  have HH := Lib.hid h
  have U := Lib.hid u
  have HW := Lib.hid (fun W => P4.Wim_yes 0 nw W h2 h32 (by omega))
  clear h u
  go_enter Tryz.func176, Tryz.ntmps176
  go_wp2_with fail
  refine (HH.out.left fun G K A _ => A7.Put_none A).mono ?_; rintro e w1 ⟨rfl, H1⟩
  have H1 := Lib.hid H1
  clear HH
  go_wp2_with fail
  refine (HW.out _).mono ?_; rintro e w2 ⟨rfl, g2⟩
  have H2 := Lib.hid (H1.out.bel g2)
  clear H1 g2 HW
  obtain ⟨G, K, A, lo, T⟩ := H2.out
  have C := Lib.hid (A7.Copy_at A)
  clear A lo T
  go_wp2_with fail
  refine C.out.mono ?_; rintro e w3 ⟨c, Gc, rfl, Ac, g3, low⟩
  have D := Lib.hid (handlers_at (w := w3) nw h2 h32 U.out (Has.start Ac))
  have H3 := Lib.hid (H2.out.bel g3)
  have GG : Hid (∀ W, A7.Turns Gc w3 W → Below w2.heap.size w2 W) := fun W T => T.bel g3 low
  clear Ac g3 low C
  go_wp2_with fail
  refine D.out.mono ?_; rintro e w4 ⟨rfl, H4⟩
  have E := Lib.hid (handlers_at nw h2 h32 U.out (H2.out.bel (GG.out _ H4.turns)))
  clear H4 D GG H2 H3
  go_wp2_with fail
  refine E.out.mono ?_; rintro e w5 ⟨rfl, H5⟩
  have H5 := Lib.hid H5
  clear E
  go_wp2_with fail
  go_ret
  exact ⟨rfl, H5.out⟩
theorem All_arg (nw : Int) (hn : nw < 2 ∨ 32 < nw) (h : Has w0 w b G0 q) :
    Calls Tryz.prog 176 #[.pointer (some ⟨b, 0, none⟩), .int .i64 nw] w fun e w' => e = .returned (.int .i64 2) ∧ Has w0 w' b G0 q := by
  have HH := Lib.hid h
  have HW := Lib.hid (fun W => P4.Wim_no 0 nw W (by omega))
  clear h hn
  go_enter Tryz.func176, Tryz.ntmps176
  go_wp2_with fail
  refine (HH.out.left fun G K A _ => A7.Put_none A).mono ?_; rintro e w1 ⟨rfl, H1⟩
  have H1 := Lib.hid H1
  clear HH
  go_wp2_with fail
  refine (HW.out _).mono ?_; rintro e w2 ⟨rfl, g2⟩
  have H2 := Lib.hid (H1.out.bel g2)
  clear H1 g2 HW
  go_wp2_with fail
  go_ret
  exact ⟨rfl, H2.out⟩
theorem All_nil (v : Value) (nw : Int) (w : World) (h : NoAsm w v) : Calls Tryz.prog 176 #[v, .int .i64 nw] w fun e w' => e = .returned (.int .i64 1) ∧ w' = w := by
  have D := Lib.hid (A7.Put_no v (.slice none 0 0) w h)
  clear h
  go_enter Tryz.func176, Tryz.ntmps176
  go_wp2_with fail
  refine D.out.mono ?_; rintro e w1 ⟨rfl, rfl⟩
  go_wp2_with fail
  go_ret
  exact ⟨rfl, rfl⟩
end
end Go.Proofs.YtmpagjijjahohaaGreatDoor.S10
