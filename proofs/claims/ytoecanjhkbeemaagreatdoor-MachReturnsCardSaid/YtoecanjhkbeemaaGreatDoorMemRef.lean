/- The document's memory (layer 5), a list of bytes: what each of its functions comes to, for any arguments. -/
import Derived.Test.YtoecanjhkbeemaaGreatDoorSl
import Derived.Deep.QuietTactic
import Derived.BigQuiet
namespace Go.Proofs.YtoecanjhkbeemaaGreatDoor.M5
open Go.RowKit
set_option linter.unusedVariables false
theorem int_eq {a b : Int} (h : a = b) : Ending.returned (.int .i64 a) = Ending.returned (.int .i64 b) := by rw [h]
/-- May a memory have a size? -/
def MaySize (n : Int) : Prop := 0 ≤ n ∧ n ≤ 4194304 ∧ n % 4 = 0
theorem rmay_yes (n : Int) (w : World) (h : MaySize n) : Calls Tryz.prog 53 #[.int .i64 n] w fun e w' => e = .returned (.bool true) ∧ w = w' := by
  obtain ⟨h0, h1, h2⟩ := h
  have h3 : (n.tmod 4 == 0) = true := by rw [Int.tmod_eq_emod_of_nonneg h0, h2]; rfl
  go_enter Tryz.func53, Tryz.ntmps53
  go_wp2
  go_ret
  exact ⟨rfl, rfl⟩
theorem rmay_no (n : Int) (w : World) (h : ¬ MaySize n) : Calls Tryz.prog 53 #[.int .i64 n] w fun e w' => e = .returned (.bool false) ∧ w = w' := by
  unfold MaySize at h
  by_cases h0 : 0 ≤ n
  · by_cases h1 : n ≤ 4194304
    · have h2 : (n % 4 == 0) = false := by simp; omega
      clear h
      go_enter Tryz.func53, Tryz.ntmps53
      go_wp2
      go_ret
      exact ⟨rfl, rfl⟩
    · clear h
      go_enter Tryz.func53, Tryz.ntmps53
      go_wp2
      go_ret
      exact ⟨rfl, rfl⟩
  · clear h
    go_enter Tryz.func53, Tryz.ntmps53
    go_wp2
    go_ret
    exact ⟨rfl, rfl⟩
theorem rthere_at (p : Option Addr) (n c : Nat) (a m : Int) (w : World) (hn : n ≤ 4194304) (ha : 0 ≤ a ∧ a < 4294967296) :
    Calls Tryz.prog 108 #[.slice p n c, .int .u32 a, .int .i64 m] w fun e w' => e = .returned (.int .i64 (thE n a m)) ∧ w = w' := by
  obtain ⟨ha0, ha1⟩ := ha
  by_cases h1 : m = 1
  · subst h1
    by_cases h2 : (n : Int) < a + 1
    · have e : thE n a 1 = 50 := by unfold thE; rw [if_neg (by omega), if_neg (by omega), if_pos h2]
      rw [e]
      go_enter Tryz.func108, Tryz.ntmps108
      go_wp2
      go_ret
      exact ⟨rfl, rfl⟩
    · have e : thE n a 1 = 0 := by unfold thE; rw [if_neg (by omega), if_neg (by omega), if_neg h2]
      rw [e]
      go_enter Tryz.func108, Tryz.ntmps108
      go_wp2
      go_ret
      exact ⟨rfl, rfl⟩
  by_cases h4 : m = 4
  · subst h4
    by_cases h3 : a % 4 = 0
    · have h3' : (a % 4 != 0) = false := by simpa using h3
      by_cases h2 : (n : Int) < a + 4
      · have e : thE n a 4 = 50 := by unfold thE; rw [if_neg (by omega), if_neg (by omega), if_pos h2]
        rw [e]
        go_enter Tryz.func108, Tryz.ntmps108
        go_wp2
        go_ret
        exact ⟨rfl, rfl⟩
      · have e : thE n a 4 = 0 := by unfold thE; rw [if_neg (by omega), if_neg (by omega), if_neg h2]
        rw [e]
        go_enter Tryz.func108, Tryz.ntmps108
        go_wp2
        go_ret
        exact ⟨rfl, rfl⟩
    · have h3' : (a % 4 != 0) = true := by simpa using h3
      have e : thE n a 4 = 51 := by unfold thE; rw [if_neg (by omega), if_pos ⟨rfl, h3⟩]
      rw [e]
      clear h3
      go_enter Tryz.func108, Tryz.ntmps108
      go_wp2
      go_ret
      exact ⟨rfl, rfl⟩
  · have e : thE n a m = 2 := by unfold thE; rw [if_pos ⟨h1, h4⟩]
    have h1' : (m != 1) = true := by simpa using h1
    have h4' : (m != 4) = true := by simpa using h4
    rw [e]
    clear h1 h4
    go_enter Tryz.func108, Tryz.ntmps108
    go_wp2
    go_ret
    exact ⟨rfl, rfl⟩
theorem rspan_at (p : Option Addr) (n c : Nat) (a m : Int) (w : World) (hn : n ≤ 4194304) (ha : 0 ≤ a ∧ a < 4294967296) (hm : m ≤ 9223372036854775807) :
    Calls Tryz.prog 99 #[.slice p n c, .int .u32 a, .int .i64 m] w fun e w' => e = .returned (.int .i64 (spE n a m)) ∧ w = w' := by
  obtain ⟨ha0, ha1⟩ := ha
  by_cases h0 : m < 0
  · have e : spE n a m = 2 := by unfold spE; rw [if_pos h0]
    rw [e]
    go_enter Tryz.func99, Tryz.ntmps99
    go_wp2
    go_ret
    exact ⟨rfl, rfl⟩
  have hm0 : 0 ≤ m := by omega
  by_cases h3 : a % 4 = 0
  · have h3' : (a % 4 != 0) = false := by simpa using h3
    by_cases h1 : (n : Int) < a
    · have e : spE n a m = 50 := by unfold spE; rw [if_neg h0, if_neg (by omega), if_pos (.inl h1)]
      rw [e]
      clear h3
      go_enter Tryz.func99, Tryz.ntmps99
      go_wp2
      go_ret
      exact ⟨rfl, rfl⟩
    · by_cases h2 : ((n : Int) - a) / 4 < m
      · have e : spE n a m = 50 := by unfold spE; rw [if_neg h0, if_neg (by omega), if_pos (.inr h2)]
        rw [e]
        clear h3
        go_enter Tryz.func99, Tryz.ntmps99
        go_wp2
        go_ret
        exact ⟨rfl, rfl⟩
      · have e : spE n a m = 0 := by unfold spE; rw [if_neg h0, if_neg (by omega), if_neg (by omega)]
        rw [e]
        clear h3
        go_enter Tryz.func99, Tryz.ntmps99
        go_wp2
        go_ret
        exact ⟨rfl, rfl⟩
  · have h3' : (a % 4 != 0) = true := by simpa using h3
    have e : spE n a m = 51 := by unfold spE; rw [if_neg h0, if_pos h3]
    rw [e]
    clear h3
    go_enter Tryz.func99, Tryz.ntmps99
    go_wp2
    go_ret
    exact ⟨rfl, rfl⟩
/-- A load that is refused. -/
theorem rload_no (p : Option Addr) (n c : Nat) (a m : Int) (w : World) (hn : n ≤ 4194304) (ha : 0 ≤ a ∧ a < 4294967296) (h : thE n a m ≠ 0) :
    Calls Tryz.prog 59 #[.slice p n c, .int .u32 a, .int .i64 m] w fun e w' => e = .returned (.tuple #[.int .u32 0, .int .i64 (thE n a m)]) ∧ w = w' := by
  have HT := Lib.hid (fun W => rthere_at p n c a m W hn ha)
  have h' : (thE n a m != 0) = true := by simpa using h
  clear h
  generalize thE n a m = k at *
  go_enter Tryz.func59, Tryz.ntmps59
  go_wp2_with fail
  refine (HT.out _).mono ?_; rintro e w1 ⟨rfl, rfl⟩
  go_wp2_with fail
  go_ret2
  exact ⟨rfl, rfl⟩
theorem rload_yes (s : Value) (n : Nat) (f : Nat → Int) (a m : Nat) (w : World) (hn : n ≤ 4194304) (hs : Sl .u8 w s n f) (hf : Bytes f) (h : thE n a m = 0) :
    Calls Tryz.prog 59 #[s, .int .u32 a, .int .i64 m] w fun e w' => e = .returned (.tuple #[.int .u32 (ldB f a m), .int .i64 0]) ∧ Below w.heap.size w w' := by
  obtain ⟨hm, ham⟩ := thE_ok h
  obtain ⟨p, c, rfl, hp⟩ := hs
  obtain ⟨b, o, rfl, hc⟩ := hp (by omega)
  have HT := Lib.hid (fun W => rthere_at (some ⟨b, o, none⟩) n c a m W hn (by omega))
  rw [h] at HT
  have HC := Lib.hid hc
  have HF := Lib.hid hf
  have HL := Lib.hid (ldB_in hf a)
  clear hp hc hf h
  go_enter Tryz.func59, Tryz.ntmps59
  go_wp2_with fail
  refine (HT.out _).mono ?_; rintro e w1 ⟨rfl, rfl⟩
  go_wp2_with fail
  have hm4 : m ≤ 4 := by omega
  have ham' : a + m ≤ n := by omega
  clear hm ham HT
  go_loop [9, 10] (fun v i => ∃ k : Nat, k ≤ m ∧ i = .int .i64 k ∧ v = .int .u32 (ldB f a k)) (fun _ i => m - (intOf i).toNat)
  case atStart => exact ⟨0, by omega, rfl, rfl⟩
  case round =>
    obtain ⟨k, hk, rfl, rfl⟩ := hrel
    by_cases hlt : k < m
    · have hc := HC.out (a + k) (by omega)
      obtain ⟨f0, f1⟩ := HF.out (a + k)
      obtain ⟨l0, l1⟩ := ldB_small HL.out (k := k) (by omega)
      have hs : Hid (256 * ldB f a k + f (a + k) = ldB f a (k + 1)) := rfl
      have hz : ((a : Int) + (k : Int)).toNat = a + k := by omega
      have hlen : ((a : Int) + (k : Int)) < n := by omega
      have hk4 : (k : Int) < 4 := by omega
      have ha4 : (a : Int) < 4194304 := by omega
      have ha0 : (0 : Int) ≤ (a : Int) + (k : Int) := by omega
      generalize ldB f a k = x at *
      generalize f (a + k) = y at *
      have hb : 256 * x + y < 4294967296 := by omega
      go_wp2_with fail
      go_round
      case rel => exact ⟨k + 1, by omega, by go_num, by rw [← hs.out]⟩
      case measure => simp [intOf]; omega
    · obtain rfl : k = m := by omega
      go_wp2_with fail
      go_ret2
      exact ⟨rfl, Below.refl _ _⟩
/-- A store that is refused. -/
theorem rstore_no (p : Option Addr) (n c : Nat) (a m v : Int) (w : World) (hn : n ≤ 4194304) (ha : 0 ≤ a ∧ a < 4294967296) (h : thE n a m ≠ 0) :
    Calls Tryz.prog 100 #[.slice p n c, .int .u32 a, .int .i64 m, .int .u32 v] w fun e w' => e = .returned (.tuple #[.slice p n c, .int .i64 (thE n a m)]) ∧ w = w' := by
  have HT := Lib.hid (fun W => rthere_at p n c a m W hn ha)
  have h' : (thE n a m != 0) = true := by simpa using h
  clear h
  generalize thE n a m = k at *
  go_enter Tryz.func100, Tryz.ntmps100
  go_wp2_with fail
  refine (HT.out _).mono ?_; rintro e w1 ⟨rfl, rfl⟩
  go_wp2_with fail
  go_ret2
  exact ⟨rfl, rfl⟩
theorem byte_parts : (Tryz.prog.info? 5).map (fun i => (i.zero, i.size, i.bytes)) = some (some (.int .u8 0), 1, 1) := by kernel_rfl
theorem byte_under : Tryz.prog.underlying 29 = some (.slice 5) := by kernel_rfl
set_option maxHeartbeats 1000000 in
theorem rstore_yes (s : Value) (n : Nat) (f : Nat → Int) (a m : Nat) (v : Int) (w : World) (hn : n ≤ 4194304) (hs : Sl .u8 w s n f) (hv : 0 ≤ v ∧ v < 4294967296) (h : thE n a m = 0) :
    Calls Tryz.prog 100 #[s, .int .u32 a, .int .i64 m, .int .u32 v] w fun e w' => ∃ s', e = .returned (.tuple #[s', .int .i64 0]) ∧ w'.ownsRow w.heap.size 5 1 s' n (bsL .u8 (stB f a m v) n) ∧ Below w.heap.size w w' := by
  obtain ⟨hm, ham⟩ := thE_ok h
  obtain ⟨p, c, rfl, hp⟩ := hs
  obtain ⟨b, o, rfl, hc⟩ := hp (by omega)
  obtain ⟨i0, hi, hz0, hz1, hz2⟩ := info_parts byte_parts
  have HT := Lib.hid (fun W => rthere_at (some ⟨b, o, none⟩) n c a m W hn (by omega))
  rw [h] at HT
  have HC := Lib.hid hc
  obtain ⟨hv0, hv1⟩ := hv
  clear hp hc h
  have hm4 : m ≤ 4 := by omega
  have hm1 : 1 ≤ m := by omega
  have ham' : a + m ≤ n := by omega
  clear hm ham
  go_enter Tryz.func100, Tryz.ntmps100
  go_wp2_with fail
  refine (HT.out _).mono ?_; rintro e w1 ⟨rfl, rfl⟩
  clear HT
  have hnews : ∀ j u, (bsL .u8 f n)[j]? = some u → (w.alloc (.cells #[] 5)).cell? ((⟨b, o, none⟩ : Addr).add j) = some u := fun j u hj => by
    have hjn : j < n := by
      rcases Nat.lt_or_ge j n with hh | hh
      · exact hh
      · rw [List.getElem?_eq_none (by rw [bsL_len]; omega)] at hj; cases hj
    rw [bsL_get _ _ hjn] at hj
    rw [← hj, add_off]
    exact bel_cell ((Below.refl _ _).alloc (Nat.le_refl _) _) (HC.out j hjn)
  go_wp2_with (at_builtin; refine wpList_append_own _ rfl _ _ 29 rfl w.heap.size 5 i0 (.int .u8 0) 1 1 byte_under hi hz0 hz1 hz2 rfl (by decide) _ 0 [] rfl (World.ownsRow_made _ _ _ (Nat.le_refl _) (by decide) rfl) ⟨b, o, none⟩ n c (bsL .u8 f n) rfl (by rw [bsL_len, Nat.mul_one]) hnews (bsL_one _ _ _) (by unfold maxLen; omega) (by omega) (by simp) ?_; intro s' w3 hown hgrow hnil
               have X : Hid (w3.ownsRow w.heap.size 5 1 s' n (bsL .u8 (stT f a m v 0) n) ∧ Below w.heap.size w w3) := ⟨by rw [stT_zero]; simpa using hown, Below.grown ((Below.refl _ _).alloc (Nat.le_refl _) _) hgrow (by simp) (fun j hj => by simp [Act.eval, Value.ownBlock] at hj; omega)⟩
               clear hown hgrow hnil)
  clear hnews HC
  obtain ⟨own0, G0⟩ := X.out
  clear X
  obtain ⟨g, c', rfl, hgB⟩ := own_form own0 (by omega)
  go_loopw [3, 12] (fun x i wr => ∃ t : Nat, t ≤ m ∧ i = .int .i64 ((m : Int) - 1 - t) ∧ x = .int .u32 (v / 256 ^ t) ∧ wr.ownsRow w.heap.size 5 1 (.slice (some ⟨g, 0, none⟩) n c') n (bsL .u8 (stT f a m v t) n) ∧ Below w.heap.size w wr) (fun _ i _ => (intOf i + 1).toNat)
  case atStart => exact ⟨0, by omega, by simp, by simp, own0, G0⟩
  case round =>
    clear own0 G0
    obtain ⟨t, ht, rfl, rfl, hown, hg⟩ := hrel
    obtain ⟨x0, x1⟩ := div_pow_in hv0 hv1 t
    by_cases hlt : t < m
    · have hc := (own_sl hown)
      obtain ⟨p', c2, hp', hcs⟩ := hc
      obtain ⟨rfl, rfl⟩ : some ⟨g, 0, none⟩ = p' ∧ c' = c2 := by simp only [Value.slice.injEq, true_and] at hp'; exact hp'
      obtain ⟨b', o', hb', hcs⟩ := hcs (by omega)
      obtain ⟨rfl, rfl⟩ : g = b' ∧ 0 = o' := by simp only [Option.some.injEq, Addr.mk.injEq, and_true] at hb'; exact hb'
      obtain ⟨i, hi1⟩ : ∃ i : Nat, m - 1 - t = i := ⟨_, rfl⟩
      have hi2 : (m : Int) - 1 - t = i := by omega
      rw [hi2]
      have hs1 := stT_succ f a m v hlt
      rw [hi1] at hs1
      have hc := hcs (a + i) (by omega)
      rw [Nat.zero_add] at hc
      have hfz := hown.frozenAt (a + i)
      have hq : Hid (v / 256 ^ t / 256 = v / 256 ^ (t + 1)) := div_pow_succ v t
      obtain ⟨own1, gr1⟩ := hown.stored (a + i) (.int .u8 (v / 256 ^ t % 256))
      rw [bsL_set, hs1] at own1
      have O1 := Lib.hid own1
      have G1 := Lib.hid (only_bel hg gr1 hgB)
      have HI2 := Lib.hid hi2
      have hian : a + i < n := by omega
      have hi4 : i < 4 := by omega
      clear own1 gr1 hown hcs hp' hb' hs1 hi2 hi1
      generalize v / 256 ^ t = x at *
      have hz : ((a : Int) + (i : Int)).toNat = a + i := by omega
      have hlen : ((a : Int) + (i : Int)) < n := by omega
      have ha4 : (a : Int) < 4194304 := by omega
      have hi4' : (i : Int) < 4 := by omega
      have ha0 : (0 : Int) ≤ (a : Int) + (i : Int) := by omega
      have hi0 : (0 : Int) ≤ (i : Int) := by omega
      go_wp2_with fail
      go_roundw
      case rel => exact ⟨t + 1, by omega, by rw [show ((i : Int) - 1) = (m : Int) - 1 - ((t + 1 : Nat) : Int) by have := HI2.out; omega], by rw [← hq.out], O1.out, G1.out⟩
      case measure => simp [intOf]
    · obtain rfl : t = m := by omega
      rw [show (t : Int) - 1 - t = -1 by omega]
      rw [stT_all] at hown
      go_wp2_with fail
      go_ret2
      exact ⟨_, rfl, hown, hg⟩
theorem bel_grown {w w' : World} (g : Below w.heap.size w w') : w.grownBy w' none := ⟨g.os, g.tape, g.output, g.size, fun i hi _ => g.block i hi⟩
theorem own_none {w : World} {B : Nat} {t : TypeId} {n : Nat} {s : Value} {xs : List Value} (h : w.ownsRow B t 1 s n xs) : s.ownBlock = none ∨ s.ownBlock ≠ none := by
  cases s.ownBlock <;> simp
theorem own_at {k : IntKind} {w : World} {B : Nat} {t : TypeId} {s : Value} {n : Nat} {f : Nat → Int} (h : w.ownsRow B t 1 s n (bsL k f n)) : Sl k w s n f := own_sl h
/-- Words put one after the other. -/
theorem rput_no (p : Option Addr) (n c : Nat) (a : Int) (q : Option Addr) (l d : Nat) (w : World) (hn : n ≤ 4194304) (ha : 0 ≤ a ∧ a < 4294967296) (hl : (l : Int) ≤ 9223372036854775807) (h : spE n a l ≠ 0) :
    Calls Tryz.prog 47 #[.slice p n c, .int .u32 a, .slice q l d] w fun e w' => e = .returned (.tuple #[.slice p n c, .int .i64 (spE n a l)]) ∧ w = w' := by
  have HT := Lib.hid (fun W => rspan_at p n c a l W hn ha hl)
  have h' : (spE n a l != 0) = true := by simpa using h
  clear h
  generalize spE n a l = k at *
  go_enter Tryz.func47, Tryz.ntmps47
  go_wp2_with fail
  refine (HT.out _).mono ?_; rintro e w1 ⟨rfl, rfl⟩
  go_wp2_with fail
  go_ret2
  exact ⟨rfl, rfl⟩
set_option maxHeartbeats 1000000 in
theorem rput_yes (s t : Value) (n l : Nat) (f g : Nat → Int) (a : Nat) (w : World) (hn : n ≤ 4194304) (hs : Sl .u8 w s n f) (ht : Sl .u32 w t l g) (hg : ∀ i, 0 ≤ g i ∧ g i < 4294967296) (h : spE n a l = 0) :
    Calls Tryz.prog 47 #[s, .int .u32 a, t] w fun e w' => ∃ s', e = .returned (.tuple #[s', .int .i64 0]) ∧ Sl .u8 w' s' n (ptB f a g l) ∧ Below w.heap.size w w' := by
  obtain ⟨_, ha4, han, hal⟩ := spE_ok h
  have HS := Lib.hid hs
  obtain ⟨p, c, rfl, _⟩ := hs
  have HL := Lib.hid ht
  obtain ⟨q, d, rfl, _⟩ := ht
  have HT := Lib.hid (fun W => rspan_at p n c a l W hn (by omega) (by omega))
  rw [h] at HT
  have HG := Lib.hid hg
  clear hg h
  go_enter Tryz.func47, Tryz.ntmps47
  go_wp2_with fail
  refine (HT.out _).mono ?_; rintro e w1 ⟨rfl, rfl⟩
  clear HT
  go_wp2_with fail
  go_loopw [0, 9] (fun s i wr => ∃ k : Nat, k ≤ l ∧ i = .int .i64 k ∧ Sl .u8 wr s n (ptB f a g k) ∧ Below w.heap.size w wr) (fun _ i _ => l - (intOf i).toNat)
  case atStart => exact ⟨0, by omega, rfl, HS.out, Below.refl _ _⟩
  case round =>
    clear HS
    obtain ⟨k, hk, rfl, hs, hx⟩ := hrel
    by_cases hlt : k < l
    · obtain ⟨q', d', hq, hcs⟩ := HL.out
      obtain ⟨rfl, rfl⟩ : q = q' ∧ d = d' := by simp only [Value.slice.injEq, true_and] at hq; exact hq
      obtain ⟨b, o, rfl, hcc⟩ := hcs (by omega)
      have hc := bel_cell hx (hcc k hlt)
      have HSt : Hid (∀ (W : World) (x : Value), Sl .u8 W x n (ptB f a g k) → Calls Tryz.prog 100 #[x, .int .u32 ((a : Int) + 4 * (k : Int)), .int .i64 4, .int .u32 (g k)] W fun e w' => ∃ s', e = .returned (.tuple #[s', .int .i64 0]) ∧ w'.ownsRow W.heap.size 5 1 s' n (bsL .u8 (ptB f a g (k + 1)) n) ∧ Below W.heap.size W w') := fun W x h => by
        have := rstore_yes x n (ptB f a g k) (a + 4 * k) 4 (g k) W hn h (HG.out k) (by unfold thE; rw [if_neg (by omega), if_neg (by omega), if_neg (by omega)])
        rw [show ((a + 4 * k : Nat) : Int) = (a : Int) + 4 * (k : Int) by omega] at this
        exact this
      have hk4 : 4 * (k : Int) < 4194304 := by omega
      have hak : (a : Int) + 4 * (k : Int) < 4194304 := by omega
      have hkl : (k : Int) < l := by omega
      have hk32 : (k : Int) < 4294967296 := by omega
      have HH := Lib.hid hs
      clear hs hcs hq hcc
      go_wp2_with fail
      refine (HSt.out _ _ HH.out).mono ?_; rintro e w2 ⟨s2, rfl, own2, g2⟩
      have S2 := Lib.hid (own_sl own2)
      have G2 := bel_trans hx g2
      clear own2 g2 HSt HH hx
      go_wp2_with fail
      go_roundw
      case rel => exact ⟨k + 1, by omega, by go_num, S2.out, G2⟩
      case measure => simp [intOf]; omega
    · obtain rfl : k = l := by omega
      have HH := Lib.hid hs
      clear hs
      go_wp2_with fail
      go_ret2
      exact ⟨_, rfl, HH.out, hx⟩
/-- Words told one after the other. -/
theorem rwords_no (p : Option Addr) (n c : Nat) (a m : Int) (w : World) (hn : n ≤ 4194304) (ha : 0 ≤ a ∧ a < 4294967296) (hm : m ≤ 9223372036854775807) (h : spE n a m ≠ 0) :
    Calls Tryz.prog 74 #[.slice p n c, .int .u32 a, .int .i64 m] w fun e w' => e = .returned (.tuple #[.slice none 0 0, .int .i64 (spE n a m)]) ∧ w = w' := by
  have HT := Lib.hid (fun W => rspan_at p n c a m W hn ha hm)
  have h' : (spE n a m != 0) = true := by simpa using h
  clear h
  generalize spE n a m = k at *
  go_enter Tryz.func74, Tryz.ntmps74
  go_wp2_with fail
  refine (HT.out _).mono ?_; rintro e w1 ⟨rfl, rfl⟩
  go_wp2_with fail
  go_ret2
  exact ⟨rfl, rfl⟩
/-- The words from a on. -/
def wdB (f : Nat → Int) (a : Nat) : Nat → Int := fun i => ldB f (a + 4 * i) 4
theorem word_parts : (Tryz.prog.info? 22).map (fun i => (i.zero, i.size, i.bytes)) = some (some (.int .u32 0), 1, 4) := by kernel_rfl
theorem word_under : Tryz.prog.underlying 25 = some (.slice 22) := by kernel_rfl
set_option maxHeartbeats 1000000 in
theorem rwords_yes (s : Value) (n m : Nat) (f : Nat → Int) (a : Nat) (w : World) (hn : n ≤ 4194304) (hs : Sl .u8 w s n f) (hf : Bytes f) (h : spE n a m = 0) :
    Calls Tryz.prog 74 #[s, .int .u32 a, .int .i64 m] w fun e w' => ∃ s', e = .returned (.tuple #[s', .int .i64 0]) ∧ w'.ownsRow w.heap.size 22 1 s' m (bsL .u32 (wdB f a) m) ∧ Below w.heap.size w w' := by
  obtain ⟨_, ha4, han, hal⟩ := spE_ok h
  have HS := Lib.hid hs
  obtain ⟨p, c, rfl, _⟩ := hs
  obtain ⟨i0, hi, hz0, hz1, hz2⟩ := info_parts word_parts
  have HT := Lib.hid (fun W => rspan_at p n c a m W hn (by omega) (by omega))
  rw [h] at HT
  have HF := Lib.hid hf
  clear h hf
  go_enter Tryz.func74, Tryz.ntmps74
  go_wp2_with fail
  refine (HT.out _).mono ?_; rintro e w1 ⟨rfl, rfl⟩
  clear HT
  go_wp2_with fail
  go_loopw [9, 10] (fun s i wr => ∃ k : Nat, k ≤ m ∧ i = .int .i64 k ∧ wr.ownsRow w.heap.size 22 1 s k (bsL .u32 (wdB f a) k) ∧ Below w.heap.size w wr) (fun _ i _ => m - (intOf i).toNat)
  case atStart => exact ⟨0, by omega, rfl, World.ownsRow_nil _ _ _ _, Below.refl _ _⟩
  case round =>
    obtain ⟨k, hk, rfl, hown, hx⟩ := hrel
    by_cases hlt : k < m
    · have HLd : Hid (∀ W : World, Below w.heap.size w W → Calls Tryz.prog 59 #[.slice p n c, .int .u32 ((a : Int) + 4 * (k : Int)), .int .i64 4] W fun e w' => e = .returned (.tuple #[.int .u32 (wdB f a k), .int .i64 0]) ∧ Below W.heap.size W w') := fun W hW => by
        have := rload_yes (.slice p n c) n f (a + 4 * k) 4 W hn (HS.out.bel hW) HF.out (by unfold thE; rw [if_neg (by omega), if_neg (by omega), if_neg (by omega)])
        rw [show ((a + 4 * k : Nat) : Int) = (a : Int) + 4 * (k : Int) by omega] at this
        exact this
      have hk4 : 4 * (k : Int) < 4194304 := by omega
      have hak : (a : Int) + 4 * (k : Int) < 4194304 := by omega
      have hkm : (k : Int) < m := by omega
      have hk32 : (k : Int) < 4294967296 := by omega
      have hkn : k < 4194304 := by omega
      have hown0 := Lib.hid hown
      clear hown
      go_wp2_with fail
      refine (HLd.out _ hx).mono ?_; rintro e w2 ⟨rfl, g2⟩
      have G2 := bel_trans hx g2
      have hown := hown0.out.kept (bel_grown g2) (own_none hown0.out)
      have hsz := G2.size
      clear hown0 g2 hx HLd
      have hrl := Lib.hid (bsL_succ .u32 (wdB f a) k)
      generalize wdB f a k = u at *
      go_wp2_with (at_builtin; refine wpList_append_own _ rfl _ _ 25 rfl w.heap.size 22 i0 (.int .u32 0) 1 4 word_under hi hz0 hz1 hz2 rfl (by decide) _ _ _ rfl (hown.alloc _) ⟨w2.heap.size, 0, none⟩ 1 1 [.int .u32 u] rfl rfl (one_new _ _ _) (fun x hx => by simp at hx; subst hx; rfl) (by unfold maxLen; omega) (by omega) (by simp; omega) ?_; intro s' w3 hown' hgrow hnil
                   have X : Hid (w3.ownsRow w.heap.size 22 1 s' (k + 1) (bsL .u32 (wdB f a) (k + 1)) ∧ Below w.heap.size w w3) := ⟨by rw [hrl.out]; exact hown', Below.grown (G2.alloc (by omega) _) hgrow (by simp; omega) (fun j hj => (hown.lt _ hj).1)⟩
                   clear hown' hgrow hnil)
      go_roundw
      case rel => exact ⟨k + 1, by omega, by go_num, X.out.1, X.out.2⟩
      case measure => simp [intOf]; omega
    · obtain rfl : k = m := by omega
      go_wp2_with fail
      go_ret2
      exact ⟨_, rfl, hown, hx⟩
end Go.Proofs.YtoecanjhkbeemaaGreatDoor.M5
