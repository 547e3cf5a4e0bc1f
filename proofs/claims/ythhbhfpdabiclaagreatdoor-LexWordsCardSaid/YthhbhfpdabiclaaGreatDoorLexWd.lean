/- lex (layer 12): LexWords' walk. By genlexwd.py. -/
import Derived.Test.YthhbhfpdabiclaaGreatDoorLexRa
import Derived.Test.YthhbhfpdabiclaaGreatDoorLexAgm
import Derived.Test.YthhbhfpdabiclaaGreatDoorLexHead
namespace Go.Proofs.YthhbhfpdabiclaaGreatDoor.L12
open Go.RowKit Go.Shelf
set_option linter.unusedVariables false
theorem inW_ge {b : UInt8} (h : 48 ≤ b.toNat) : inW b = true := by
  have n : ∀ x : UInt8, x.toNat < 48 → b ≠ x := fun x hx e => by subst e; omega
  unfold inW isW
  simp [n 32 (by decide), n 9 (by decide), n 13 (by decide), n 10 (by decide)]
theorem inW_name {l : List UInt8} (h : nameL l = true) : ∀ b ∈ l, inW b = true := fun b hb => by
  rcases name_bytes h b hb with h | h
  · have := of_decide_eq_true h; exact inW_ge (by omega)
  · have := of_decide_eq_true h; exact inW_ge this.1
theorem inW_dec (u : Nat) : ∀ b ∈ Lib.decDigits u, inW b = true := fun b hb => inW_ge (of_decide_eq_true (dec_bytes u b hb)).1
theorem tokW_reg {n : Nat} (h : n ≤ 4095) : tokW (118 :: Lib.decDigits n) = some (2, 118 :: Lib.decDigits n, n) := by
  have h1 : regL (118 :: Lib.decDigits n) = some n := by
    show (if (118 : UInt8) = 118 then numL (Lib.decDigits n) 0 4095 else none) = _
    rw [if_pos rfl, numL_dec (Nat.zero_le _) h]
  unfold tokW
  rw [if_neg (by simp), if_neg (by simp), h1]
theorem tokW_label {s : List UInt8} (h : nameL s = true) : tokW (s ++ [58]) = some (1, s, 0) := by
  have h0 : s ≠ [] := fun e => by rw [e] at h; cases h
  have hc : (58 : UInt8) ∈ s ++ [58] := by simp
  have h1 : regL (s ++ [58]) = none := by
    cases hr : regL (s ++ [58]) with
    | none => rfl
    | some n => exact absurd rfl (reg_colon hr 58 hc)
  have h2 : numberL (s ++ [58]) = none := by
    cases hr : numberL (s ++ [58]) with
    | none => rfl
    | some n => exact absurd rfl (number_colon hr 58 hc)
  have h3 : Lib.hasSuffix (s ++ [58]) [58] = true := List.isSuffixOf_iff_suffix.2 ⟨s, rfl⟩
  have h4 : (s ++ [58]).take ((s ++ [58]).length - 1) = s := by simp
  have n1 : ∀ x : UInt8, x ≠ 58 → s ++ [58] ≠ [x] := fun x hx e => by
    have := congrArg List.getLast? e
    simp at this
    exact hx this.symm
  unfold tokW
  rw [if_neg (n1 123 (by decide)), if_neg (n1 125 (by decide)), h1, h2, h3, h4, h]
  rfl
theorem lex_reg {n : Nat} (h : n ≤ 4095) : lexS (118 :: Lib.decDigits n) = ([⟨2, 118 :: Lib.decDigits n, n, 1, 1⟩, ⟨6, [], 0, 1, 1 + (118 :: Lib.decDigits n).length⟩], none) := by
  have := ref_word (w := 118 :: Lib.decDigits n) (T := []) (tokW_reg h) (by simp) (fun b hb => by
    rcases List.mem_cons.1 hb with rfl | hb
    · rfl
    · exact inW_dec n b hb) rfl 1 1 false
  rw [List.append_nil] at this
  rw [← ref_is, this]
  rfl
theorem lex_name {s : List UInt8} (h : nameL s = true) : lexS ([120, 32] ++ s ++ [58]) = ([⟨0, [120], 0, 1, 1⟩, ⟨1, s, 0, 1, 3⟩, ⟨6, [], 0, 1, 3 + (s ++ [58]).length⟩], none) := by
  have h1 := ref_word (w := [120]) (T := 32 :: (s ++ [58])) (k := 0) (v := 0) (y := [120]) (by rw [tokC_is]; kernel_rfl) (by simp) (by decide) rfl 1 1 false
  have h2 := ref_word (w := s ++ [58]) (T := []) (tokW_label h) (by simp) (fun b hb => by
    rcases List.mem_append.1 hb with hb | hb
    · exact inW_name h b hb
    · simp at hb; subst hb; rfl) rfl 1 3 true
  have e : [120, 32] ++ s ++ [58] = [120] ++ (32 :: (s ++ [58])) := by simp
  have e2 : refL 1 (1 + ([120] : List UInt8).length) true false true (32 :: (s ++ [58])) = refL 1 3 true false false (s ++ [58]) := by
    conv => lhs; rw [refL]
    rw [if_neg (by decide), if_pos (by decide)]
    rfl
  rw [List.append_nil] at h2
  rw [← ref_is, e, h1, e2, h2]
  rfl
theorem Lex_some (s : List UInt8) (hs : s.length ≤ 65536) : ∃ (k : Nat) (a b f : Int), ∀ w, LT w → Calls Tryz.prog 6 #[.string (St s)] w fun e w' => (∃ p c, e = .returned (.tuple #[.slice p k c, .agg #[.int .i64 a, .int .i64 b], .int .i64 f])) ∧ Below w.heap.size w w' := by
  cases xs : lexS s with
  | mk l o =>
    cases o with
    | none =>
      refine ⟨l.length, 0, 0, 0, fun w hT => (Lex_good s hs l l.length rfl xs w hT).mono ?_⟩
      rintro e w' ⟨⟨p, c, rfl, _⟩, g⟩
      exact ⟨⟨p, c, rfl⟩, g⟩
    | some o =>
      refine ⟨0, o.1, o.2, 120, fun w hT => (Lex_bad s hs o.1 o.2 (by rw [xs]) w hT).mono ?_⟩
      rintro e w' ⟨rfl, g⟩
      exact ⟨⟨none, 0, rfl⟩, g⟩
set_option maxRecDepth 100000 in
set_option maxHeartbeats 4000000 in
theorem words_long (a : ByteArray) (n : Int) (h : 200 < a.size) (ha : a.size ≤ 9223372036854775807) (w : World) (hT : LT w) : Calls Tryz.prog 4 #[.string a, .int .i64 n] w fun e w' => e = .returned (.bool true) ∧ Below w.heap.size w w' := by
  have H := Lib.hid (head_at w hT)
  clear hT
  have h1' : (200 : Int) < a.size := by omega
  clear h
  go_enter Tryz.func4, Tryz.ntmps4
  go_wp2_with fail
  refine H.out.mono ?_; rintro e w1 ⟨rfl, g1⟩
  go_wp2_with fail
  go_ret
  exact ⟨rfl, g1⟩
set_option maxRecDepth 100000 in
set_option maxHeartbeats 4000000 in
theorem words_nr (s : List UInt8) (hs : s.length ≤ 200) (hn : nameL s = true) (n : Nat) (hr : n ≤ 4095) (w : World) (hT : LT w) : Calls Tryz.prog 4 #[.string (St s), .int .i64 n] w fun e w' => e = .returned (.bool true) ∧ Below w.heap.size w w' := by
  have NA := fun W => Lib.hid (Name_at s (by omega) W)
  have NB := fun W => Lib.hid (refName_at s (by omega) W)
  rw [hn] at NA NB
  have RG := fun W hT => Lib.hid (Reg_yes n hr W hT)
  have LR := fun W hT => Lib.hid (Lex_good (118 :: Lib.decDigits n) (by have := dec_len4 n hr; simp; omega) _ 2 rfl (lex_reg hr) W hT)
  have r0 : (0 : Int) ≤ n := by omega
  have r1 : ¬ (n : Int) < 0 := by omega
  have r2 : ¬ (4095 : Int) < n := by omega
  have r3 : IntKind.u32.wrap (n : Int) = n := IntWalk.u32_in _ (by omega)
  have re : (St (118 :: Lib.decDigits n)).toList.isEmpty = false := by rw [St_toList]; rfl
  have LN := fun W hT => Lib.hid (Lex_good ([120, 32] ++ s ++ [58]) (by simp; omega) _ 3 rfl (lex_name hn) W hT)
  have cat : ((⟨#[120, 32]⟩ : ByteArray) ++ St s) ++ ⟨#[58]⟩ = St ([120, 32] ++ s ++ [58]) := by
    rw [← St_of (((⟨#[120, 32]⟩ : ByteArray) ++ St s) ++ ⟨#[58]⟩)]
    congr 1
  have HT := Lib.hid hT
  have hz : (St s).size ≤ 200 := hs
  have CAT := Lib.hid cat
  clear hT hn cat
  generalize hSS : St ([120, 32] ++ s ++ [58]) = SS at LN CAT
  clear hSS
  generalize hRR : St (118 :: Lib.decDigits n) = RR at RG LR re
  generalize hS : St s = S at NA NB CAT hz ⊢
  have cat := CAT.out
  go_enter Tryz.func4, Tryz.ntmps4
  go_wp2_with fail
  refine (NA _).out.mono ?_; rintro e w1 ⟨rfl, g1⟩
  have b1 : Below w.heap.size w w1 := g1
  go_wp2_with fail
  refine (NB _).out.mono ?_; rintro e w2 ⟨rfl, rfl⟩
  go_wp2_with fail
  refine (RG _ (HT.out.bel b1)).out.mono ?_; rintro e w3 ⟨rfl, g3⟩
  have b3 := b1.trans (g3.mono b1.size)
  go_wp2_with fail
  refine (LR _ (HT.out.bel b3)).out.mono ?_
  rintro e w4 ⟨⟨p4, c4, rfl, t4⟩, g4⟩
  have b4 := b3.trans (g4.mono b3.size)
  have b5 : Below w.heap.size w (w4.alloc (.cells #[.int .i64 0, .int .i64 0] 25)) := b4.alloc b4.size _
  have k5 : Below w4.heap.size w4 (w4.alloc (.cells #[.int .i64 0, .int .i64 0] 25)) := (Below.refl _ _).alloc (Nat.le_refl _) _
  have t5 := t4.bel k5
  obtain ⟨g, rfl, q0, q1, q2, _⟩ := t5 0 _ rfl
  simp only [Nat.zero_mul, Nat.zero_add] at q0 q1 q2
  rw [hRR] at q1
  clear t4 t5 k5
  go_wp2_with fail
  refine (LN _ (HT.out.bel b5)).out.mono ?_
  rintro e w6 ⟨⟨p6, c6, rfl, t6⟩, g6⟩
  have b6 := b5.trans (g6.mono b5.size)
  have b7 : Below w.heap.size w (w6.alloc (.cells #[.int .i64 0, .int .i64 0] 25)) := b6.alloc b6.size _
  have k7 : Below w6.heap.size w6 (w6.alloc (.cells #[.int .i64 0, .int .i64 0] 25)) := (Below.refl _ _).alloc (Nat.le_refl _) _
  have t7 := t6.bel k7
  go_wp2_with fail
  refine (NA _).out.mono ?_; rintro e w8 ⟨rfl, g8⟩
  have b8 := b7.trans (g8.mono b7.size)
  obtain ⟨h, rfl, z0, z1, _⟩ := (t7.bel g8) 1 _ rfl
  simp only [Nat.one_mul, Nat.reduceAdd] at z0 z1
  rw [hS] at z1
  go_wp2_with fail
  refine (head_at _ (HT.out.bel b8)).mono ?_; rintro e w9 ⟨rfl, g9⟩
  go_wp2_with fail
  go_ret
  exact ⟨rfl, b8.trans (g9.mono b8.size)⟩
set_option maxRecDepth 100000 in
set_option maxHeartbeats 4000000 in
theorem words_nx (s : List UInt8) (hs : s.length ≤ 200) (hn : nameL s = true) (n : Int) (hr : n < 0) (hb0 : -9223372036854775808 ≤ n) (hb1 : n ≤ 9223372036854775807) (w : World) (hT : LT w) : Calls Tryz.prog 4 #[.string (St s), .int .i64 n] w fun e w' => e = .returned (.bool true) ∧ Below w.heap.size w w' := by
  have NA := fun W => Lib.hid (Name_at s (by omega) W)
  have NB := fun W => Lib.hid (refName_at s (by omega) W)
  rw [hn] at NA NB
  have HRR : n < 0 ∨ 4095 < n := .inl hr
  have RG := fun W => Lib.hid (Reg_no n HRR hb0 hb1 W)
  clear HRR
  have LN := fun W hT => Lib.hid (Lex_good ([120, 32] ++ s ++ [58]) (by simp; omega) _ 3 rfl (lex_name hn) W hT)
  have cat : ((⟨#[120, 32]⟩ : ByteArray) ++ St s) ++ ⟨#[58]⟩ = St ([120, 32] ++ s ++ [58]) := by
    rw [← St_of (((⟨#[120, 32]⟩ : ByteArray) ++ St s) ++ ⟨#[58]⟩)]
    congr 1
  have HT := Lib.hid hT
  have hz : (St s).size ≤ 200 := hs
  have CAT := Lib.hid cat
  clear hT hn cat
  generalize hSS : St ([120, 32] ++ s ++ [58]) = SS at LN CAT
  clear hSS
  generalize hS : St s = S at NA NB CAT hz ⊢
  have cat := CAT.out
  go_enter Tryz.func4, Tryz.ntmps4
  go_wp2_with fail
  refine (NA _).out.mono ?_; rintro e w1 ⟨rfl, g1⟩
  have b1 : Below w.heap.size w w1 := g1
  go_wp2_with fail
  refine (NB _).out.mono ?_; rintro e w2 ⟨rfl, rfl⟩
  go_wp2_with fail
  refine (RG _).out.mono ?_; rintro e w3 ⟨rfl, rfl⟩
  have b5 := b1
  go_wp2_with fail
  refine (LN _ (HT.out.bel b5)).out.mono ?_
  rintro e w6 ⟨⟨p6, c6, rfl, t6⟩, g6⟩
  have b6 := b5.trans (g6.mono b5.size)
  have b7 : Below w.heap.size w (w6.alloc (.cells #[.int .i64 0, .int .i64 0] 25)) := b6.alloc b6.size _
  have k7 : Below w6.heap.size w6 (w6.alloc (.cells #[.int .i64 0, .int .i64 0] 25)) := (Below.refl _ _).alloc (Nat.le_refl _) _
  have t7 := t6.bel k7
  go_wp2_with fail
  refine (NA _).out.mono ?_; rintro e w8 ⟨rfl, g8⟩
  have b8 := b7.trans (g8.mono b7.size)
  obtain ⟨h, rfl, z0, z1, _⟩ := (t7.bel g8) 1 _ rfl
  simp only [Nat.one_mul, Nat.reduceAdd] at z0 z1
  rw [hS] at z1
  go_wp2_with fail
  refine (head_at _ (HT.out.bel b8)).mono ?_; rintro e w9 ⟨rfl, g9⟩
  go_wp2_with fail
  go_ret
  exact ⟨rfl, b8.trans (g9.mono b8.size)⟩
set_option maxRecDepth 100000 in
set_option maxHeartbeats 4000000 in
theorem words_ny (s : List UInt8) (hs : s.length ≤ 200) (hn : nameL s = true) (n : Int) (hr : 4095 < n) (hr0 : ¬ n < 0) (hb0 : -9223372036854775808 ≤ n) (hb1 : n ≤ 9223372036854775807) (w : World) (hT : LT w) : Calls Tryz.prog 4 #[.string (St s), .int .i64 n] w fun e w' => e = .returned (.bool true) ∧ Below w.heap.size w w' := by
  have NA := fun W => Lib.hid (Name_at s (by omega) W)
  have NB := fun W => Lib.hid (refName_at s (by omega) W)
  rw [hn] at NA NB
  have HRR : n < 0 ∨ 4095 < n := .inr hr
  have RG := fun W => Lib.hid (Reg_no n HRR hb0 hb1 W)
  clear HRR
  have LN := fun W hT => Lib.hid (Lex_good ([120, 32] ++ s ++ [58]) (by simp; omega) _ 3 rfl (lex_name hn) W hT)
  have cat : ((⟨#[120, 32]⟩ : ByteArray) ++ St s) ++ ⟨#[58]⟩ = St ([120, 32] ++ s ++ [58]) := by
    rw [← St_of (((⟨#[120, 32]⟩ : ByteArray) ++ St s) ++ ⟨#[58]⟩)]
    congr 1
  have HT := Lib.hid hT
  have hz : (St s).size ≤ 200 := hs
  have CAT := Lib.hid cat
  clear hT hn cat
  generalize hSS : St ([120, 32] ++ s ++ [58]) = SS at LN CAT
  clear hSS
  generalize hS : St s = S at NA NB CAT hz ⊢
  have cat := CAT.out
  go_enter Tryz.func4, Tryz.ntmps4
  go_wp2_with fail
  refine (NA _).out.mono ?_; rintro e w1 ⟨rfl, g1⟩
  have b1 : Below w.heap.size w w1 := g1
  go_wp2_with fail
  refine (NB _).out.mono ?_; rintro e w2 ⟨rfl, rfl⟩
  go_wp2_with fail
  refine (RG _).out.mono ?_; rintro e w3 ⟨rfl, rfl⟩
  have b5 := b1
  go_wp2_with fail
  refine (LN _ (HT.out.bel b5)).out.mono ?_
  rintro e w6 ⟨⟨p6, c6, rfl, t6⟩, g6⟩
  have b6 := b5.trans (g6.mono b5.size)
  have b7 : Below w.heap.size w (w6.alloc (.cells #[.int .i64 0, .int .i64 0] 25)) := b6.alloc b6.size _
  have k7 : Below w6.heap.size w6 (w6.alloc (.cells #[.int .i64 0, .int .i64 0] 25)) := (Below.refl _ _).alloc (Nat.le_refl _) _
  have t7 := t6.bel k7
  go_wp2_with fail
  refine (NA _).out.mono ?_; rintro e w8 ⟨rfl, g8⟩
  have b8 := b7.trans (g8.mono b7.size)
  obtain ⟨h, rfl, z0, z1, _⟩ := (t7.bel g8) 1 _ rfl
  simp only [Nat.one_mul, Nat.reduceAdd] at z0 z1
  rw [hS] at z1
  go_wp2_with fail
  refine (head_at _ (HT.out.bel b8)).mono ?_; rintro e w9 ⟨rfl, g9⟩
  go_wp2_with fail
  go_ret
  exact ⟨rfl, b8.trans (g9.mono b8.size)⟩
set_option maxRecDepth 100000 in
set_option maxHeartbeats 4000000 in
theorem words_or (s : List UInt8) (hs : s.length ≤ 200) (hn : nameL s = false) (n : Nat) (hr : n ≤ 4095) (w : World) (hT : LT w) : Calls Tryz.prog 4 #[.string (St s), .int .i64 n] w fun e w' => e = .returned (.bool true) ∧ Below w.heap.size w w' := by
  have NA := fun W => Lib.hid (Name_at s (by omega) W)
  have NB := fun W => Lib.hid (refName_at s (by omega) W)
  rw [hn] at NA NB
  have RG := fun W hT => Lib.hid (Reg_yes n hr W hT)
  have LR := fun W hT => Lib.hid (Lex_good (118 :: Lib.decDigits n) (by have := dec_len4 n hr; simp; omega) _ 2 rfl (lex_reg hr) W hT)
  have r0 : (0 : Int) ≤ n := by omega
  have r1 : ¬ (n : Int) < 0 := by omega
  have r2 : ¬ (4095 : Int) < n := by omega
  have r3 : IntKind.u32.wrap (n : Int) = n := IntWalk.u32_in _ (by omega)
  have re : (St (118 :: Lib.decDigits n)).toList.isEmpty = false := by rw [St_toList]; rfl
  obtain ⟨lk, la, lb, lf, LN0⟩ := Lex_some ([120, 32] ++ s ++ [58]) (by simp; omega)
  have LN := fun W hT => Lib.hid (LN0 W hT)
  clear LN0
  have cat : ((⟨#[120, 32]⟩ : ByteArray) ++ St s) ++ ⟨#[58]⟩ = St ([120, 32] ++ s ++ [58]) := by
    rw [← St_of (((⟨#[120, 32]⟩ : ByteArray) ++ St s) ++ ⟨#[58]⟩)]
    congr 1
  have HT := Lib.hid hT
  have hz : (St s).size ≤ 200 := hs
  have CAT := Lib.hid cat
  clear hT hn cat
  generalize hSS : St ([120, 32] ++ s ++ [58]) = SS at LN CAT
  clear hSS
  generalize hRR : St (118 :: Lib.decDigits n) = RR at RG LR re
  generalize St s = S at NA NB CAT hz ⊢
  have cat := CAT.out
  go_enter Tryz.func4, Tryz.ntmps4
  go_wp2_with fail
  refine (NA _).out.mono ?_; rintro e w1 ⟨rfl, g1⟩
  have b1 : Below w.heap.size w w1 := g1
  go_wp2_with fail
  refine (NB _).out.mono ?_; rintro e w2 ⟨rfl, rfl⟩
  go_wp2_with fail
  refine (RG _ (HT.out.bel b1)).out.mono ?_; rintro e w3 ⟨rfl, g3⟩
  have b3 := b1.trans (g3.mono b1.size)
  go_wp2_with fail
  refine (LR _ (HT.out.bel b3)).out.mono ?_
  rintro e w4 ⟨⟨p4, c4, rfl, t4⟩, g4⟩
  have b4 := b3.trans (g4.mono b3.size)
  have b5 : Below w.heap.size w (w4.alloc (.cells #[.int .i64 0, .int .i64 0] 25)) := b4.alloc b4.size _
  have k5 : Below w4.heap.size w4 (w4.alloc (.cells #[.int .i64 0, .int .i64 0] 25)) := (Below.refl _ _).alloc (Nat.le_refl _) _
  have t5 := t4.bel k5
  obtain ⟨g, rfl, q0, q1, q2, _⟩ := t5 0 _ rfl
  simp only [Nat.zero_mul, Nat.zero_add] at q0 q1 q2
  rw [hRR] at q1
  clear t4 t5 k5
  go_wp2_with fail
  refine (LN _ (HT.out.bel b5)).out.mono ?_
  rintro e w6 ⟨⟨p6, c6, rfl⟩, g6⟩
  have b6 := b5.trans (g6.mono b5.size)
  have b7 : Below w.heap.size w (w6.alloc (.cells #[.int .i64 la, .int .i64 lb] 25)) := b6.alloc b6.size _
  go_wp2_with fail
  refine (NA _).out.mono ?_; rintro e w8 ⟨rfl, g8⟩
  have b8 := b7.trans (g8.mono b7.size)
  go_wp2_with fail
  refine (head_at _ (HT.out.bel b8)).mono ?_; rintro e w9 ⟨rfl, g9⟩
  go_wp2_with fail
  go_ret
  exact ⟨rfl, b8.trans (g9.mono b8.size)⟩
set_option maxRecDepth 100000 in
set_option maxHeartbeats 4000000 in
theorem words_ox (s : List UInt8) (hs : s.length ≤ 200) (hn : nameL s = false) (n : Int) (hr : n < 0) (hb0 : -9223372036854775808 ≤ n) (hb1 : n ≤ 9223372036854775807) (w : World) (hT : LT w) : Calls Tryz.prog 4 #[.string (St s), .int .i64 n] w fun e w' => e = .returned (.bool true) ∧ Below w.heap.size w w' := by
  have NA := fun W => Lib.hid (Name_at s (by omega) W)
  have NB := fun W => Lib.hid (refName_at s (by omega) W)
  rw [hn] at NA NB
  have HRR : n < 0 ∨ 4095 < n := .inl hr
  have RG := fun W => Lib.hid (Reg_no n HRR hb0 hb1 W)
  clear HRR
  obtain ⟨lk, la, lb, lf, LN0⟩ := Lex_some ([120, 32] ++ s ++ [58]) (by simp; omega)
  have LN := fun W hT => Lib.hid (LN0 W hT)
  clear LN0
  have cat : ((⟨#[120, 32]⟩ : ByteArray) ++ St s) ++ ⟨#[58]⟩ = St ([120, 32] ++ s ++ [58]) := by
    rw [← St_of (((⟨#[120, 32]⟩ : ByteArray) ++ St s) ++ ⟨#[58]⟩)]
    congr 1
  have HT := Lib.hid hT
  have hz : (St s).size ≤ 200 := hs
  have CAT := Lib.hid cat
  clear hT hn cat
  generalize hSS : St ([120, 32] ++ s ++ [58]) = SS at LN CAT
  clear hSS
  generalize St s = S at NA NB CAT hz ⊢
  have cat := CAT.out
  go_enter Tryz.func4, Tryz.ntmps4
  go_wp2_with fail
  refine (NA _).out.mono ?_; rintro e w1 ⟨rfl, g1⟩
  have b1 : Below w.heap.size w w1 := g1
  go_wp2_with fail
  refine (NB _).out.mono ?_; rintro e w2 ⟨rfl, rfl⟩
  go_wp2_with fail
  refine (RG _).out.mono ?_; rintro e w3 ⟨rfl, rfl⟩
  have b5 := b1
  go_wp2_with fail
  refine (LN _ (HT.out.bel b5)).out.mono ?_
  rintro e w6 ⟨⟨p6, c6, rfl⟩, g6⟩
  have b6 := b5.trans (g6.mono b5.size)
  have b7 : Below w.heap.size w (w6.alloc (.cells #[.int .i64 la, .int .i64 lb] 25)) := b6.alloc b6.size _
  go_wp2_with fail
  refine (NA _).out.mono ?_; rintro e w8 ⟨rfl, g8⟩
  have b8 := b7.trans (g8.mono b7.size)
  go_wp2_with fail
  refine (head_at _ (HT.out.bel b8)).mono ?_; rintro e w9 ⟨rfl, g9⟩
  go_wp2_with fail
  go_ret
  exact ⟨rfl, b8.trans (g9.mono b8.size)⟩
set_option maxRecDepth 100000 in
set_option maxHeartbeats 4000000 in
theorem words_oy (s : List UInt8) (hs : s.length ≤ 200) (hn : nameL s = false) (n : Int) (hr : 4095 < n) (hr0 : ¬ n < 0) (hb0 : -9223372036854775808 ≤ n) (hb1 : n ≤ 9223372036854775807) (w : World) (hT : LT w) : Calls Tryz.prog 4 #[.string (St s), .int .i64 n] w fun e w' => e = .returned (.bool true) ∧ Below w.heap.size w w' := by
  have NA := fun W => Lib.hid (Name_at s (by omega) W)
  have NB := fun W => Lib.hid (refName_at s (by omega) W)
  rw [hn] at NA NB
  have HRR : n < 0 ∨ 4095 < n := .inr hr
  have RG := fun W => Lib.hid (Reg_no n HRR hb0 hb1 W)
  clear HRR
  obtain ⟨lk, la, lb, lf, LN0⟩ := Lex_some ([120, 32] ++ s ++ [58]) (by simp; omega)
  have LN := fun W hT => Lib.hid (LN0 W hT)
  clear LN0
  have cat : ((⟨#[120, 32]⟩ : ByteArray) ++ St s) ++ ⟨#[58]⟩ = St ([120, 32] ++ s ++ [58]) := by
    rw [← St_of (((⟨#[120, 32]⟩ : ByteArray) ++ St s) ++ ⟨#[58]⟩)]
    congr 1
  have HT := Lib.hid hT
  have hz : (St s).size ≤ 200 := hs
  have CAT := Lib.hid cat
  clear hT hn cat
  generalize hSS : St ([120, 32] ++ s ++ [58]) = SS at LN CAT
  clear hSS
  generalize St s = S at NA NB CAT hz ⊢
  have cat := CAT.out
  go_enter Tryz.func4, Tryz.ntmps4
  go_wp2_with fail
  refine (NA _).out.mono ?_; rintro e w1 ⟨rfl, g1⟩
  have b1 : Below w.heap.size w w1 := g1
  go_wp2_with fail
  refine (NB _).out.mono ?_; rintro e w2 ⟨rfl, rfl⟩
  go_wp2_with fail
  refine (RG _).out.mono ?_; rintro e w3 ⟨rfl, rfl⟩
  have b5 := b1
  go_wp2_with fail
  refine (LN _ (HT.out.bel b5)).out.mono ?_
  rintro e w6 ⟨⟨p6, c6, rfl⟩, g6⟩
  have b6 := b5.trans (g6.mono b5.size)
  have b7 : Below w.heap.size w (w6.alloc (.cells #[.int .i64 la, .int .i64 lb] 25)) := b6.alloc b6.size _
  go_wp2_with fail
  refine (NA _).out.mono ?_; rintro e w8 ⟨rfl, g8⟩
  have b8 := b7.trans (g8.mono b7.size)
  go_wp2_with fail
  refine (head_at _ (HT.out.bel b8)).mono ?_; rintro e w9 ⟨rfl, g9⟩
  go_wp2_with fail
  go_ret
  exact ⟨rfl, b8.trans (g9.mono b8.size)⟩
theorem words_walk (a : ByteArray) (n : Int) (ha : a.size ≤ 9223372036854775807) (hb : -9223372036854775808 ≤ n ∧ n ≤ 9223372036854775807) (w : World) (hT : LT w) : Calls Tryz.prog 4 #[.string a, .int .i64 n] w fun e w' => e = .returned (.bool true) ∧ Below w.heap.size w w' := by
  by_cases hl : 200 < a.size
  · exact words_long a n hl ha w hT
  · have h1 : a.data.toList.length ≤ 200 := by have : a.size = a.data.toList.length := rfl; omega
    rw [← St_of a]
    generalize a.data.toList = s at h1
    clear hl ha
    by_cases hr : n < 0 ∨ 4095 < n
    · cases hn : nameL s with
      | true =>
        by_cases h0 : n < 0
        · exact words_nx s h1 hn n h0 hb.1 hb.2 w hT
        · exact words_ny s h1 hn n (by omega) h0 hb.1 hb.2 w hT
      | false =>
        by_cases h0 : n < 0
        · exact words_ox s h1 hn n h0 hb.1 hb.2 w hT
        · exact words_oy s h1 hn n (by omega) h0 hb.1 hb.2 w hT
    · obtain ⟨m, rfl⟩ : ∃ m : Nat, n = m := ⟨n.toNat, by omega⟩
      cases hn : nameL s with
      | true => exact words_nr s h1 hn m (by omega) w hT
      | false => exact words_or s h1 hn m (by omega) w hT
end Go.Proofs.YthhbhfpdabiclaaGreatDoor.L12
