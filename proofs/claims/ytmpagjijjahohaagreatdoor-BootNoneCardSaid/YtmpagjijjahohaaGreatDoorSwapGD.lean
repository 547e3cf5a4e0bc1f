/- The handlers of yield and end as a list of pieces: what they make of a list, and its words. -/
import Derived.Test.YtmpagjijjahohaaGreatDoorSwapGC
namespace Go.Proofs.YtmpagjijjahohaaGreatDoor.S10
open Go.RowKit
open A7 (XI XB AS AJ fin)
open W8 (catL gX gX_mem frL sFr)
set_option linter.unusedVariables false
def sEnd : ByteArray := { data := #[101, 110, 100] }
def sYield : ByteArray := { data := #[121, 105, 101, 108, 100] }
def sSwap : ByteArray := { data := #[115, 119, 97, 112] }
def sStore : ByteArray := { data := #[115, 119, 97, 112, 46, 115, 116, 111, 114, 101] }
def sStored : ByteArray := { data := #[115, 119, 97, 112, 46, 115, 116, 111, 114, 101, 100] }
def sCount : ByteArray := { data := #[115, 119, 97, 112, 46, 99, 111, 117, 110, 116] }
def sFind : ByteArray := { data := #[115, 119, 97, 112, 46, 102, 105, 110, 100] }
def sIt : ByteArray := { data := #[115, 119, 97, 112, 46, 105, 116] }
def sAll : List ByteArray := [sEnd, sYield, sStore, sStored, sSwap, sCount, sFind, sIt]
theorem sAll_size : ∀ s ∈ sAll, s.size ≤ maxLen := by decide
def nth (l : List (List XI)) (i : Nat) : List XI := l.getD i []
def pcs (l : List Pc) (i : Nat) : Pc := l.getD i .st
/-! The pieces of each `add`. -/
def pA1 : List Pc := [.mk sEnd, .put 2 (nth [rnL, [nI 23 0 4 76]]), .jp 0 sSwap]
def pA2 : List Pc := [.mk sYield, .put 1 (nth [spL])]
def pA3 : List Pc := [.mk sStore, .put 1 (nth [ciL]), .jp 1 sStored]
def pA4 (nw : Int) : List Pc := [.put 1 (nth [enL]), .st, .put 1 (nth [ahL nw]), .jp 0 sStore]
def pA5 : List Pc := [.mk sStored, .put 3 (nth [cbL, rnL, paL])]
def pA6 : List Pc := [.mk sSwap, .put 1 (nth [bcL])]
def pA7 : List Pc := [.mk sCount, .put 3 (nth [coL, nbL, cyL]), .jp 5 sCount]
def pA8 : List Pc := [.put 1 (nth [chL])]
def pA9 : List Pc := [.mk sFind, .put 1 (nth [poL]), .jp 3 sIt]
def pA10 : List Pc := [.put 1 (nth [nbL]), .jp 0 sFind]
def pA11 (nw : Int) : List Pc := [.mk sIt, .put 4 (nth [mrL, spL, ahL nw, ivL]), .ld]
def pA12 : List Pc := [.put 1 (nth [goL])]
def doA (l : List Pc) (q : AS) : AS := doPs (pcs l) q l.length
/-- What the handlers make of a list, up to each `add`. -/
def hq (nw : Int) (q : AS) : Nat → AS
  | 0 => q
  | 1 => doA pA1 q
  | 2 => doA pA2 (doA pA1 q)
  | 3 => doA pA3 (doA pA2 (doA pA1 q))
  | 4 => doA (pA4 nw) (doA pA3 (doA pA2 (doA pA1 q)))
  | 5 => doA pA5 (doA (pA4 nw) (doA pA3 (doA pA2 (doA pA1 q))))
  | 6 => doA pA6 (doA pA5 (doA (pA4 nw) (doA pA3 (doA pA2 (doA pA1 q)))))
  | 7 => doA pA7 (doA pA6 (doA pA5 (doA (pA4 nw) (doA pA3 (doA pA2 (doA pA1 q))))))
  | 8 => doA pA8 (doA pA7 (doA pA6 (doA pA5 (doA (pA4 nw) (doA pA3 (doA pA2 (doA pA1 q)))))))
  | 9 => doA pA9 (doA pA8 (doA pA7 (doA pA6 (doA pA5 (doA (pA4 nw) (doA pA3 (doA pA2 (doA pA1 q))))))))
  | 10 => doA pA10 (doA pA9 (doA pA8 (doA pA7 (doA pA6 (doA pA5 (doA (pA4 nw) (doA pA3 (doA pA2 (doA pA1 q)))))))))
  | 11 => doA (pA11 nw) (doA pA10 (doA pA9 (doA pA8 (doA pA7 (doA pA6 (doA pA5 (doA (pA4 nw) (doA pA3 (doA pA2 (doA pA1 q))))))))))
  | _ => doA pA12 (doA (pA11 nw) (doA pA10 (doA pA9 (doA pA8 (doA pA7 (doA pA6 (doA pA5 (doA (pA4 nw) (doA pA3 (doA pA2 (doA pA1 q)))))))))))
/-- Behind a list q0 stand the instructions L, with marks M and jumps J. -/
structure St (q0 q : AS) (L : List XI) (M : List (ByteArray × Nat)) (J : List AJ) : Prop where
  n : q.n = q0.n + L.length
  ms : q.ms = q0.ms ++ M
  js : q.js = q0.js ++ J
  old : ∀ j, j < q0.n → q.ws j = q0.ws j
  ws : ∀ i, i < L.length → q.ws (q0.n + i) = (gX L i).word
theorem adds_old (q : AS) (f : Nat → Int) {j : Nat} (h : j < q.n) : ∀ k, (q.adds f k).ws j = q.ws j
  | 0 => rfl
  | k + 1 => by
    show F3.upd (q.adds f k).ws (q.adds f k).n (f k) j = _
    rw [F3.upd_ne _ _ (by rw [AS.adds_n]; omega), adds_old q f h k]
theorem adds_at (q : AS) (f : Nat → Int) {i : Nat} : ∀ k, i < k → (q.adds f k).ws (q.n + i) = f i
  | 0, h => absurd h (Nat.not_lt_zero _)
  | k + 1, h => by
    show F3.upd (q.adds f k).ws (q.adds f k).n (f k) (q.n + i) = _
    by_cases e : i = k
    · subst e; rw [AS.adds_n]; exact F3.upd_same _ _ _
    · rw [F3.upd_ne _ _ (by rw [AS.adds_n]; omega)]; exact adds_at q f k (by omega)
theorem gX_left {L M : List XI} {i : Nat} (h : i < L.length) : gX (L ++ M) i = gX L i := by
  unfold gX; rw [List.getD_eq_getElem?_getD, List.getD_eq_getElem?_getD, List.getElem?_append_left h]
theorem gX_right {L M : List XI} {i : Nat} : gX (L ++ M) (L.length + i) = gX M i := by
  unfold gX; rw [List.getD_eq_getElem?_getD, List.getD_eq_getElem?_getD, List.getElem?_append_right (Nat.le_add_right _ _)]; congr 2; omega
section
variable {q0 q : AS} {L : List XI} {M : List (ByteArray × Nat)} {J : List AJ}
theorem St.start (q0 : AS) : St q0 q0 [] [] [] := ⟨rfl, by simp, by simp, fun _ _ => rfl, fun i h => absurd h (Nat.not_lt_zero _)⟩
theorem St.adds (h : St q0 q L M J) (N : List XI) : St q0 (q.adds (fun i => (gX N i).word) N.length) (L ++ N) M J where
  n := by rw [AS.adds_n, h.n, List.length_append, Nat.add_assoc]
  ms := by rw [AS.adds_ms]; exact h.ms
  js := by rw [AS.adds_js]; exact h.js
  old := fun j hj => by rw [adds_old _ _ (by rw [h.n]; omega)]; exact h.old j hj
  ws := fun i hi => by
    by_cases e : i < L.length
    · rw [adds_old _ _ (by rw [h.n]; omega), gX_left e]; exact h.ws i e
    · obtain ⟨k, rfl⟩ := Nat.le.dest (Nat.le_of_not_lt e)
      rw [gX_right, ← Nat.add_assoc, ← h.n]
      exact adds_at _ _ _ (by rw [List.length_append] at hi; omega)
theorem St.put (h : St q0 q L M J) (k : Nat) (P : Nat → List XI) : St q0 (doP q (.put k P)) (L ++ catL P k) M J := h.adds (catL P k)
theorem St.mkd (h : St q0 q L M J) (s : ByteArray) : St q0 (doP q (.mk s)) L (M ++ [(s, q0.n + L.length)]) J :=
  ⟨h.n, by show q.ms ++ [(s, q.n)] = _; rw [h.ms, h.n, List.append_assoc], h.js, h.old, h.ws⟩
theorem St.jp (h : St q0 q L M J) (c : Int) (s : ByteArray) (hw : I2.enc 17 c 0 0 true 0 = (bI c 0).word) : St q0 (doP q (.jp c s)) (L ++ [bI c 0]) M (J ++ [⟨q0.n + L.length, 17, c, s⟩]) := by
  have k := h.adds [bI c 0]
  have e : (doP q (.jp c s)).ws = (q.adds (fun i => (gX [bI c 0] i).word) [bI c 0].length).ws := by
    show F3.upd q.ws q.n (I2.enc 17 c 0 0 true 0) = F3.upd q.ws q.n (bI c 0).word
    rw [hw]
  exact ⟨k.n, h.ms, by show q.js ++ [_] = _; rw [h.js, h.n, List.append_assoc], fun j hj => by rw [e]; exact k.old j hj, fun i hi => by rw [e]; exact k.ws i hi⟩
theorem St.st (h : St q0 q L M J) : St q0 (doP q .st) (L ++ frL 23) M J := h.adds (frL 23)
theorem St.ld (h : St q0 q L M J) : St q0 (doP q .ld) (L ++ frL 22) M J := h.adds (frL 22)
/-! What is wanted of each piece. -/
theorem look_app (l M : List (ByteArray × Nat)) (s : ByteArray) : (∀ p ∈ M, p.1 ≠ s) → A7.look (l ++ M) s = A7.look l s := by
  refine A7.snocs (P := fun M => (∀ p ∈ M, p.1 ≠ s) → A7.look (l ++ M) s = A7.look l s) (fun _ => by simp) (fun M x ih h => ?_) M
  obtain ⟨k, v⟩ := x
  rw [← List.append_assoc, A7.look_snoc, if_neg (h (k, v) (by simp)), ih fun p hp => h p (by simp [hp])]
/-- A list that has none of the names, and is short. -/
structure Un (q : AS) : Prop where
  n : q.n ≤ 2000
  m : q.ms.length ≤ 2000
  no : ∀ s ∈ sAll, A7.look q.ms s = none
theorem St.mkOk (h : St q0 q L M J) (u : Un q0) (s : ByteArray) (hs : s ∈ sAll) (hM : ∀ p ∈ M, p.1 ≠ s) (hl : M.length ≤ 100) : okP q (.mk s) :=
  ⟨sAll_size s hs, by rw [h.ms, List.length_append]; have := u.m; omega, by rw [h.ms, look_app _ _ _ hM]; exact u.no s hs⟩
theorem St.jpOk (h : St q0 q L M J) (u : Un q0) (c : Int) (s : ByteArray) (hs : s ∈ sAll) (hc : 0 ≤ c ∧ c ≤ 6) (hl : L.length ≤ 100) : okP q (.jp c s) :=
  ⟨hc, sAll_size s hs, by rw [h.n]; have := u.n; omega⟩
theorem St.frOk (h : St q0 q L M J) (u : Un q0) (hl : L.length ≤ 100) : q.n + 16 ≤ 100000 := by rw [h.n]; have := u.n; omega
theorem St.putOk (h : St q0 q L M J) (u : Un q0) (k : Nat) (l : List (List XI)) (hk : 0 < k ∧ k ≤ 10) (h16 : ∀ i, i < l.length → (nth l i).length ≤ 16) (hp : 0 < (catL (nth l) k).length ∧ (catL (nth l) k).length ≤ 100) (hx : ∀ x ∈ catL (nth l) k, XB x ∧ x.may = true) (hl : L.length ≤ 100) : okP q (.put k (nth l)) :=
  ⟨hk.1, hk.2, fun i => by
    by_cases e : i < l.length
    · exact h16 i e
    · have : nth l i = [] := by unfold nth; rw [List.getD_eq_getElem?_getD, List.getElem?_eq_none (by omega)]; rfl
      rw [this]; exact Nat.zero_le _, hp.1, fun x hx' => (hx x hx').1, fun x hx' => (hx x hx').2, by rw [h.n]; have := u.n; omega⟩
end
theorem all_ok {l : List XI} (h : l.all (fun x => okI x && x.may) = true) : ∀ x ∈ l, XB x ∧ x.may = true := fun x hx => by
  have := List.all_eq_true.1 h x hx
  rw [Bool.and_eq_true] at this
  exact ⟨okI_b this.1, this.2⟩
theorem ah_ok {nw : Int} (h2 : 2 ≤ nw) (h32 : nw ≤ 32) : ∀ x ∈ ahL nw, XB x ∧ x.may = true := fun x hx => by
  simp only [ahL, List.mem_cons, List.not_mem_nil, or_false] at hx
  rcases hx with rfl | rfl
  · exact all_ok (l := [nI 1 3 3 1]) (by kernel_rfl) _ (by simp)
  · exact ⟨⟨by show (0 : Int) ≤ 5 ∧ (5 : Int) ≤ 255; decide, by show (0 : Int) ≤ 3 ∧ (3 : Int) ≤ 255; decide, by show (0 : Int) ≤ 3 ∧ (3 : Int) ≤ 255; decide, by show (0 : Int) ≤ 0 ∧ (0 : Int) ≤ 255; decide, by show -2147483648 ≤ nw ∧ nw ≤ 2147483647; omega⟩, rm_may ⟨h2, h32⟩⟩
/-- All pieces of a list of pieces are as they must be. -/
def AllOk (q : AS) (l : List Pc) : Prop := ∀ i, i < l.length → okP (doPs (pcs l) q i) (pcs l i)
theorem AllOk.nil (q : AS) : AllOk q [] := fun i h => absurd h (Nat.not_lt_zero _)
theorem doPs_cons (p : Pc) (l : List Pc) (q : AS) : ∀ i, doPs (pcs (p :: l)) q (i + 1) = doPs (pcs l) (doP q p) i
  | 0 => rfl
  | i + 1 => by
    show doP (doPs (pcs (p :: l)) q (i + 1)) _ = doP (doPs (pcs l) (doP q p) i) _
    rw [doPs_cons p l q i]; rfl
theorem AllOk.cons {q : AS} {p : Pc} {l : List Pc} (h : okP q p) (k : AllOk (doP q p) l) : AllOk q (p :: l) := fun i hi => by
  cases i with
  | zero => exact h
  | succ i => rw [doPs_cons]; exact k i (by simpa using hi)
theorem doA_cons (p : Pc) (l : List Pc) (q : AS) : doA (p :: l) q = doA l (doP q p) := doPs_cons p l q l.length
def mL (n : Nat) : List (ByteArray × Nat) := [(sEnd, n + 0), (sYield, n + 4), (sStore, n + 7), (sStored, n + 31), (sSwap, n + 39), (sCount, n + 43), (sFind, n + 56), (sIt, n + 62)]
def jL (n : Nat) : List AJ := [⟨n + 3, 17, 0, sSwap⟩, ⟨n + 10, 17, 1, sStored⟩, ⟨n + 30, 17, 0, sStore⟩, ⟨n + 47, 17, 5, sCount⟩, ⟨n + 59, 17, 3, sIt⟩, ⟨n + 61, 17, 0, sFind⟩]
/-- The instructions with jumps that go nowhere yet. -/
def zJ (nw : Int) : List XI :=
  (rnL ++ [nI 23 0 4 76] ++ [bI 0 0] ++ spL) ++ (ciL ++ [bI 1 0] ++ enL) ++ frL 23 ++ (ahL nw ++ [bI 0 0]) ++ (cbL ++ rnL ++ paL ++ bcL) ++ (coL ++ nbL ++ cyL ++ [bI 5 0]) ++ chL ++ (poL ++ [bI 3 0] ++ nbL ++ [bI 0 0]) ++ (mrL ++ spL ++ ahL nw ++ ivL) ++ frL 22 ++ goL
theorem ne_by {a b : ByteArray} (h : a.data.toList ≠ b.data.toList) : a ≠ b := fun e => h (by rw [e])
/-- Which names stand in marks. -/
theorem no_in {M : List (ByteArray × Nat)} {s : ByteArray} (l : List ByteArray) (h : M.map Prod.fst = l) (k : ∀ t ∈ l, t ≠ s) : ∀ p ∈ M, p.1 ≠ s := fun p hp => k _ (by rw [← h]; exact List.mem_map_of_mem hp)
section
variable {nw : Int} {q : AS} (h2 : 2 ≤ nw) (h32 : nw ≤ 32) (u : Un q)
include h2 h32 u
set_option maxRecDepth 100000 in
set_option maxHeartbeats 8000000 in
/-- All at once: each piece is as it must be, and what the whole is. -/
theorem hq_all : AllOk q pA1 ∧ AllOk (hq nw q 1) pA2 ∧ AllOk (hq nw q 2) pA3 ∧ AllOk (hq nw q 3) (pA4 nw) ∧ AllOk (hq nw q 4) pA5 ∧ AllOk (hq nw q 5) pA6 ∧ AllOk (hq nw q 6) pA7 ∧ AllOk (hq nw q 7) pA8 ∧ AllOk (hq nw q 8) pA9 ∧ AllOk (hq nw q 9) pA10 ∧ AllOk (hq nw q 10) (pA11 nw) ∧ AllOk (hq nw q 11) pA12 ∧ St q (hq nw q 12) (zJ nw) (mL q.n) (jL q.n) := by
  have s0 := St.start q
  have o0 := s0.mkOk u sEnd (by simp [sAll]) (fun p hp => by cases hp) (Nat.le_of_ble_eq_true rfl)
  have s1 := s0.mkd sEnd
  have o1 := s1.putOk u 2 [rnL, [nI 23 0 4 76]] ⟨by decide, by decide⟩ (fun i hi => by have hi : i < 2 := hi; rcases (by omega : i = 0 ∨ i = 1) with rfl | rfl <;> exact Nat.le_of_ble_eq_true rfl) ⟨Nat.le_of_ble_eq_true rfl, Nat.le_of_ble_eq_true rfl⟩ (all_ok (by kernel_rfl)) (Nat.le_of_ble_eq_true rfl)
  have s2 := s1.put 2 (nth [rnL, [nI 23 0 4 76]])
  have o2 := s2.jpOk u 0 sSwap (by simp [sAll]) (by decide) (Nat.le_of_ble_eq_true rfl)
  have s3 := s2.jp 0 sSwap (by kernel_rfl)
  have o3 := s3.mkOk u sYield (by simp [sAll]) (no_in [sEnd] rfl (by decide)) (Nat.le_of_ble_eq_true rfl)
  have s4 := s3.mkd sYield
  have o4 := s4.putOk u 1 [spL] ⟨by decide, by decide⟩ (fun i hi => by have hi : i < 1 := hi; rcases (by omega : i = 0) with rfl <;> exact Nat.le_of_ble_eq_true rfl) ⟨Nat.le_of_ble_eq_true rfl, Nat.le_of_ble_eq_true rfl⟩ (all_ok (by kernel_rfl)) (Nat.le_of_ble_eq_true rfl)
  have s5 := s4.put 1 (nth [spL])
  have o5 := s5.mkOk u sStore (by simp [sAll]) (no_in [sEnd, sYield] rfl (by decide)) (Nat.le_of_ble_eq_true rfl)
  have s6 := s5.mkd sStore
  have o6 := s6.putOk u 1 [ciL] ⟨by decide, by decide⟩ (fun i hi => by have hi : i < 1 := hi; rcases (by omega : i = 0) with rfl <;> exact Nat.le_of_ble_eq_true rfl) ⟨Nat.le_of_ble_eq_true rfl, Nat.le_of_ble_eq_true rfl⟩ (all_ok (by kernel_rfl)) (Nat.le_of_ble_eq_true rfl)
  have s7 := s6.put 1 (nth [ciL])
  have o7 := s7.jpOk u 1 sStored (by simp [sAll]) (by decide) (Nat.le_of_ble_eq_true rfl)
  have s8 := s7.jp 1 sStored (by kernel_rfl)
  have o8 := s8.putOk u 1 [enL] ⟨by decide, by decide⟩ (fun i hi => by have hi : i < 1 := hi; rcases (by omega : i = 0) with rfl <;> exact Nat.le_of_ble_eq_true rfl) ⟨Nat.le_of_ble_eq_true rfl, Nat.le_of_ble_eq_true rfl⟩ (all_ok (by kernel_rfl)) (Nat.le_of_ble_eq_true rfl)
  have s9 := s8.put 1 (nth [enL])
  have o9 : okP _ .st := s9.frOk u (Nat.le_of_ble_eq_true rfl)
  have s10 := s9.st
  have o10 := s10.putOk u 1 [ahL nw] ⟨by decide, by decide⟩ (fun i hi => by have hi : i < 1 := hi; rcases (by omega : i = 0) with rfl <;> exact Nat.le_of_ble_eq_true rfl) ⟨Nat.le_of_ble_eq_true rfl, Nat.le_of_ble_eq_true rfl⟩ (fun x hx => ah_ok h2 h32 x hx) (Nat.le_of_ble_eq_true rfl)
  have s11 := s10.put 1 (nth [ahL nw])
  have o11 := s11.jpOk u 0 sStore (by simp [sAll]) (by decide) (Nat.le_of_ble_eq_true rfl)
  have s12 := s11.jp 0 sStore (by kernel_rfl)
  have o12 := s12.mkOk u sStored (by simp [sAll]) (no_in [sEnd, sYield, sStore] rfl (by decide)) (Nat.le_of_ble_eq_true rfl)
  have s13 := s12.mkd sStored
  have o13 := s13.putOk u 3 [cbL, rnL, paL] ⟨by decide, by decide⟩ (fun i hi => by have hi : i < 3 := hi; rcases (by omega : i = 0 ∨ i = 1 ∨ i = 2) with rfl | rfl | rfl <;> exact Nat.le_of_ble_eq_true rfl) ⟨Nat.le_of_ble_eq_true rfl, Nat.le_of_ble_eq_true rfl⟩ (all_ok (by kernel_rfl)) (Nat.le_of_ble_eq_true rfl)
  have s14 := s13.put 3 (nth [cbL, rnL, paL])
  have o14 := s14.mkOk u sSwap (by simp [sAll]) (no_in [sEnd, sYield, sStore, sStored] rfl (by decide)) (Nat.le_of_ble_eq_true rfl)
  have s15 := s14.mkd sSwap
  have o15 := s15.putOk u 1 [bcL] ⟨by decide, by decide⟩ (fun i hi => by have hi : i < 1 := hi; rcases (by omega : i = 0) with rfl <;> exact Nat.le_of_ble_eq_true rfl) ⟨Nat.le_of_ble_eq_true rfl, Nat.le_of_ble_eq_true rfl⟩ (all_ok (by kernel_rfl)) (Nat.le_of_ble_eq_true rfl)
  have s16 := s15.put 1 (nth [bcL])
  have o16 := s16.mkOk u sCount (by simp [sAll]) (no_in [sEnd, sYield, sStore, sStored, sSwap] rfl (by decide)) (Nat.le_of_ble_eq_true rfl)
  have s17 := s16.mkd sCount
  have o17 := s17.putOk u 3 [coL, nbL, cyL] ⟨by decide, by decide⟩ (fun i hi => by have hi : i < 3 := hi; rcases (by omega : i = 0 ∨ i = 1 ∨ i = 2) with rfl | rfl | rfl <;> exact Nat.le_of_ble_eq_true rfl) ⟨Nat.le_of_ble_eq_true rfl, Nat.le_of_ble_eq_true rfl⟩ (all_ok (by kernel_rfl)) (Nat.le_of_ble_eq_true rfl)
  have s18 := s17.put 3 (nth [coL, nbL, cyL])
  have o18 := s18.jpOk u 5 sCount (by simp [sAll]) (by decide) (Nat.le_of_ble_eq_true rfl)
  have s19 := s18.jp 5 sCount (by kernel_rfl)
  have o19 := s19.putOk u 1 [chL] ⟨by decide, by decide⟩ (fun i hi => by have hi : i < 1 := hi; rcases (by omega : i = 0) with rfl <;> exact Nat.le_of_ble_eq_true rfl) ⟨Nat.le_of_ble_eq_true rfl, Nat.le_of_ble_eq_true rfl⟩ (all_ok (by kernel_rfl)) (Nat.le_of_ble_eq_true rfl)
  have s20 := s19.put 1 (nth [chL])
  have o20 := s20.mkOk u sFind (by simp [sAll]) (no_in [sEnd, sYield, sStore, sStored, sSwap, sCount] rfl (by decide)) (Nat.le_of_ble_eq_true rfl)
  have s21 := s20.mkd sFind
  have o21 := s21.putOk u 1 [poL] ⟨by decide, by decide⟩ (fun i hi => by have hi : i < 1 := hi; rcases (by omega : i = 0) with rfl <;> exact Nat.le_of_ble_eq_true rfl) ⟨Nat.le_of_ble_eq_true rfl, Nat.le_of_ble_eq_true rfl⟩ (all_ok (by kernel_rfl)) (Nat.le_of_ble_eq_true rfl)
  have s22 := s21.put 1 (nth [poL])
  have o22 := s22.jpOk u 3 sIt (by simp [sAll]) (by decide) (Nat.le_of_ble_eq_true rfl)
  have s23 := s22.jp 3 sIt (by kernel_rfl)
  have o23 := s23.putOk u 1 [nbL] ⟨by decide, by decide⟩ (fun i hi => by have hi : i < 1 := hi; rcases (by omega : i = 0) with rfl <;> exact Nat.le_of_ble_eq_true rfl) ⟨Nat.le_of_ble_eq_true rfl, Nat.le_of_ble_eq_true rfl⟩ (all_ok (by kernel_rfl)) (Nat.le_of_ble_eq_true rfl)
  have s24 := s23.put 1 (nth [nbL])
  have o24 := s24.jpOk u 0 sFind (by simp [sAll]) (by decide) (Nat.le_of_ble_eq_true rfl)
  have s25 := s24.jp 0 sFind (by kernel_rfl)
  have o25 := s25.mkOk u sIt (by simp [sAll]) (no_in [sEnd, sYield, sStore, sStored, sSwap, sCount, sFind] rfl (by decide)) (Nat.le_of_ble_eq_true rfl)
  have s26 := s25.mkd sIt
  have o26 := s26.putOk u 4 [mrL, spL, ahL nw, ivL] ⟨by decide, by decide⟩ (fun i hi => by have hi : i < 4 := hi; rcases (by omega : i = 0 ∨ i = 1 ∨ i = 2 ∨ i = 3) with rfl | rfl | rfl | rfl <;> exact Nat.le_of_ble_eq_true rfl) ⟨Nat.le_of_ble_eq_true rfl, Nat.le_of_ble_eq_true rfl⟩ (fun x hx => by
      have hx : x ∈ ((mrL ++ spL) ++ ahL nw) ++ ivL := hx
      rcases List.mem_append.1 hx with hx | hx
      · rcases List.mem_append.1 hx with hx | hx
        · exact all_ok (l := mrL ++ spL) (by kernel_rfl) x hx
        · exact ah_ok h2 h32 x hx
      · exact all_ok (l := ivL) (by kernel_rfl) x hx) (Nat.le_of_ble_eq_true rfl)
  have s27 := s26.put 4 (nth [mrL, spL, ahL nw, ivL])
  have o27 : okP _ .ld := s27.frOk u (Nat.le_of_ble_eq_true rfl)
  have s28 := s27.ld
  have o28 := s28.putOk u 1 [goL] ⟨by decide, by decide⟩ (fun i hi => by have hi : i < 1 := hi; rcases (by omega : i = 0) with rfl <;> exact Nat.le_of_ble_eq_true rfl) ⟨Nat.le_of_ble_eq_true rfl, Nat.le_of_ble_eq_true rfl⟩ (all_ok (by kernel_rfl)) (Nat.le_of_ble_eq_true rfl)
  have s29 := s28.put 1 (nth [goL])
  exact ⟨.cons o0 (.cons o1 (.cons o2 (.nil _))), .cons o3 (.cons o4 (.nil _)), .cons o5 (.cons o6 (.cons o7 (.nil _))), .cons o8 (.cons o9 (.cons o10 (.cons o11 (.nil _)))), .cons o12 (.cons o13 (.nil _)), .cons o14 (.cons o15 (.nil _)), .cons o16 (.cons o17 (.cons o18 (.nil _))), .cons o19 (.nil _), .cons o20 (.cons o21 (.cons o22 (.nil _))), .cons o23 (.cons o24 (.nil _)), .cons o25 (.cons o26 (.cons o27 (.nil _))), .cons o28 (.nil _), s29⟩
end
end Go.Proofs.YtmpagjijjahohaaGreatDoor.S10
