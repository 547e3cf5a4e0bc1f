/- The document's memory (layer 5), a list of bytes: what each of its functions comes to, for any arguments. What layer 5's statements want of package mem, as one bundle of contracts: 'At w v g n f' says that in world w the value v is a memory of n bytes, byte i being f i, which lie in block g. Package mem as it has landed: where a memory lies, and what its inner functions come to (isObject, find, join, split, wordOf). Package mem as it has landed: New, Load, Store, Put, Words, Size, Copy, of any memory and of none; and all of it as one term of MemC. -/
import Derived.Test.YtiobgnelhiadbaaGreatDoorVBaseG
import Derived.Deep.QuietTactic
import Derived.BigQuiet
import Derived.Deep.RegionHeld3
import Derived.Laws.CopyOwn
import Derived.Great.BuildSlice
import Derived.Deep.RegionLaw
import Derived.Deep.OwnRows
namespace Go.Proofs.YtiobgnelhiadbaaGreatDoor.M5
open Go.RowKit
set_option linter.unusedVariables false
/-- May a memory have a size? -/
def MaySize (n : Int) : Prop := 0 ≤ n ∧ n ≤ 4194304 ∧ n % 4 = 0
theorem rmay_no (n : Int) (w : World) (h : ¬ MaySize n) : Calls Tryz.prog 67 #[.int .i64 n] w fun e w' => e = .returned (.bool false) ∧ w = w' := by
  unfold MaySize at h
  by_cases h0 : 0 ≤ n
  · by_cases h1 : n ≤ 4194304
    · have h2 : (n % 4 == 0) = false := by simp; omega
      clear h
      go_enter Tryz.func67, Tryz.ntmps67
      go_wp2
      go_ret
      exact ⟨rfl, rfl⟩
    · clear h
      go_enter Tryz.func67, Tryz.ntmps67
      go_wp2
      go_ret
      exact ⟨rfl, rfl⟩
  · clear h
    go_enter Tryz.func67, Tryz.ntmps67
    go_wp2
    go_ret
    exact ⟨rfl, rfl⟩
theorem rthere_at (p : Option Addr) (n c : Nat) (a m : Int) (w : World) (hn : n ≤ 4194304) (ha : 0 ≤ a ∧ a < 4294967296) :
    Calls Tryz.prog 134 #[.slice p n c, .int .u32 a, .int .i64 m] w fun e w' => e = .returned (.int .i64 (thE n a m)) ∧ w = w' := by
  obtain ⟨ha0, ha1⟩ := ha
  by_cases h1 : m = 1
  · subst h1
    by_cases h2 : (n : Int) < a + 1
    · have e : thE n a 1 = 50 := by unfold thE; rw [if_neg (by omega), if_neg (by omega), if_pos h2]
      rw [e]
      go_enter Tryz.func134, Tryz.ntmps134
      go_wp2
      go_ret
      exact ⟨rfl, rfl⟩
    · have e : thE n a 1 = 0 := by unfold thE; rw [if_neg (by omega), if_neg (by omega), if_neg h2]
      rw [e]
      go_enter Tryz.func134, Tryz.ntmps134
      go_wp2
      go_ret
      exact ⟨rfl, rfl⟩
  by_cases h4 : m = 4
  · subst h4
    by_cases h3 : a % 4 = 0
    · have h3' : (a % 4 != 0) = false := by simpa using h3
      by_cases h2 : (n : Int) < a + 4
      · have e : thE n a 4 = 50 := by unfold thE; rw [if_neg (by omega), if_neg (by omega), if_pos h2]
        rw [e]
        go_enter Tryz.func134, Tryz.ntmps134
        go_wp2
        go_ret
        exact ⟨rfl, rfl⟩
      · have e : thE n a 4 = 0 := by unfold thE; rw [if_neg (by omega), if_neg (by omega), if_neg h2]
        rw [e]
        go_enter Tryz.func134, Tryz.ntmps134
        go_wp2
        go_ret
        exact ⟨rfl, rfl⟩
    · have h3' : (a % 4 != 0) = true := by simpa using h3
      have e : thE n a 4 = 51 := by unfold thE; rw [if_neg (by omega), if_pos ⟨rfl, h3⟩]
      rw [e]
      clear h3
      go_enter Tryz.func134, Tryz.ntmps134
      go_wp2
      go_ret
      exact ⟨rfl, rfl⟩
  · have e : thE n a m = 2 := by unfold thE; rw [if_pos ⟨h1, h4⟩]
    have h1' : (m != 1) = true := by simpa using h1
    have h4' : (m != 4) = true := by simpa using h4
    rw [e]
    clear h1 h4
    go_enter Tryz.func134, Tryz.ntmps134
    go_wp2
    go_ret
    exact ⟨rfl, rfl⟩
theorem rspan_at (p : Option Addr) (n c : Nat) (a m : Int) (w : World) (hn : n ≤ 4194304) (ha : 0 ≤ a ∧ a < 4294967296) (hm : m ≤ 9223372036854775807) :
    Calls Tryz.prog 117 #[.slice p n c, .int .u32 a, .int .i64 m] w fun e w' => e = .returned (.int .i64 (spE n a m)) ∧ w = w' := by
  obtain ⟨ha0, ha1⟩ := ha
  by_cases h0 : m < 0
  · have e : spE n a m = 2 := by unfold spE; rw [if_pos h0]
    rw [e]
    go_enter Tryz.func117, Tryz.ntmps117
    go_wp2
    go_ret
    exact ⟨rfl, rfl⟩
  have hm0 : 0 ≤ m := by omega
  by_cases h3 : a % 4 = 0
  · have h3' : (a % 4 != 0) = false := by simpa using h3
    by_cases h1 : (n : Int) < a
    · have e : spE n a m = 50 := by unfold spE; rw [if_neg h0, if_neg (by omega), if_pos (.inl h1)]
      rw [e]
      clear h3
      go_enter Tryz.func117, Tryz.ntmps117
      go_wp2
      go_ret
      exact ⟨rfl, rfl⟩
    · by_cases h2 : ((n : Int) - a) / 4 < m
      · have e : spE n a m = 50 := by unfold spE; rw [if_neg h0, if_neg (by omega), if_pos (.inr h2)]
        rw [e]
        clear h3
        go_enter Tryz.func117, Tryz.ntmps117
        go_wp2
        go_ret
        exact ⟨rfl, rfl⟩
      · have e : spE n a m = 0 := by unfold spE; rw [if_neg h0, if_neg (by omega), if_neg (by omega)]
        rw [e]
        clear h3
        go_enter Tryz.func117, Tryz.ntmps117
        go_wp2
        go_ret
        exact ⟨rfl, rfl⟩
  · have h3' : (a % 4 != 0) = true := by simpa using h3
    have e : spE n a m = 51 := by unfold spE; rw [if_neg h0, if_pos h3]
    rw [e]
    clear h3
    go_enter Tryz.func117, Tryz.ntmps117
    go_wp2
    go_ret
    exact ⟨rfl, rfl⟩
theorem rload_yes (s : Value) (n : Nat) (f : Nat → Int) (a m : Nat) (w : World) (hn : n ≤ 4194304) (hs : Sl .u8 w s n f) (hf : Bytes f) (h : thE n a m = 0) :
    Calls Tryz.prog 73 #[s, .int .u32 a, .int .i64 m] w fun e w' => e = .returned (.tuple #[.int .u32 (ldB f a m), .int .i64 0]) ∧ Below w.heap.size w w' := by
  obtain ⟨hm, ham⟩ := thE_ok h
  obtain ⟨p, c, rfl, hp⟩ := hs
  obtain ⟨b, o, rfl, hc⟩ := hp (by omega)
  have HT := Lib.hid (fun W => rthere_at (some ⟨b, o, none⟩) n c a m W hn (by omega))
  rw [h] at HT
  have HC := Lib.hid hc
  have HF := Lib.hid hf
  have HL := Lib.hid (ldB_in hf a)
  clear hp hc hf h
  go_enter Tryz.func73, Tryz.ntmps73
  go_wp2_with fail
  refine (HT.out _).mono ?_; rintro e w1 ⟨rfl, rfl⟩
  go_wp2_with fail
  have hm4 : m ≤ 4 := by omega
  have ham' : a + m ≤ n := by omega
  clear hm ham HT
  go_loop [9, 10] (fun v i => ∃ k : Nat, k ≤ m ∧ i = .int .i64 k ∧ v = .int .u32 (ldB f a k)) (fun _ i => m - (intOf i).toNat)
  case atStart => exact ⟨0, by omega, rfl, rfl⟩
  case round =>
    obtain ⟨k, hk, rfl, rfl⟩ := hrel
    by_cases hlt : k < m
    · have hc := HC.out (a + k) (by omega)
      obtain ⟨f0, f1⟩ := HF.out (a + k)
      obtain ⟨l0, l1⟩ := ldB_small HL.out (k := k) (by omega)
      have hs : Hid (256 * ldB f a k + f (a + k) = ldB f a (k + 1)) := rfl
      have hz : ((a : Int) + (k : Int)).toNat = a + k := by omega
      have hlen : ((a : Int) + (k : Int)) < n := by omega
      have hk4 : (k : Int) < 4 := by omega
      have ha4 : (a : Int) < 4194304 := by omega
      have ha0 : (0 : Int) ≤ (a : Int) + (k : Int) := by omega
      generalize ldB f a k = x at *
      generalize f (a + k) = y at *
      have hb : 256 * x + y < 4294967296 := by omega
      go_wp2_with fail
      go_round
      case rel => exact ⟨k + 1, by omega, by go_num, by rw [← hs.out]⟩
      case measure => simp [intOf]; omega
    · obtain rfl : k = m := by omega
      go_wp2_with fail
      go_ret2
      exact ⟨rfl, Below.refl _ _⟩
theorem byte_parts : (Tryz.prog.info? 5).map (fun i => (i.zero, i.size, i.bytes)) = some (some (.int .u8 0), 1, 1) := by kernel_rfl
theorem byte_under : Tryz.prog.underlying 29 = some (.slice 5) := by kernel_rfl
set_option maxHeartbeats 1000000 in
theorem rstore_yes (s : Value) (n : Nat) (f : Nat → Int) (a m : Nat) (v : Int) (w : World) (hn : n ≤ 4194304) (hs : Sl .u8 w s n f) (hv : 0 ≤ v ∧ v < 4294967296) (h : thE n a m = 0) :
    Calls Tryz.prog 125 #[s, .int .u32 a, .int .i64 m, .int .u32 v] w fun e w' => ∃ s', e = .returned (.tuple #[s', .int .i64 0]) ∧ w'.ownsRow w.heap.size 5 1 s' n (bsL .u8 (stB f a m v) n) ∧ Below w.heap.size w w' := by
  obtain ⟨hm, ham⟩ := thE_ok h
  obtain ⟨p, c, rfl, hp⟩ := hs
  obtain ⟨b, o, rfl, hc⟩ := hp (by omega)
  obtain ⟨i0, hi, hz0, hz1, hz2⟩ := info_parts byte_parts
  have HT := Lib.hid (fun W => rthere_at (some ⟨b, o, none⟩) n c a m W hn (by omega))
  rw [h] at HT
  have HC := Lib.hid hc
  obtain ⟨hv0, hv1⟩ := hv
  clear hp hc h
  have hm4 : m ≤ 4 := by omega
  have hm1 : 1 ≤ m := by omega
  have ham' : a + m ≤ n := by omega
  clear hm ham
  go_enter Tryz.func125, Tryz.ntmps125
  go_wp2_with fail
  refine (HT.out _).mono ?_; rintro e w1 ⟨rfl, rfl⟩
  clear HT
  have hnews : ∀ j u, (bsL .u8 f n)[j]? = some u → (w.alloc (.cells #[] 5)).cell? ((⟨b, o, none⟩ : Addr).add j) = some u := fun j u hj => by
    have hjn : j < n := by
      rcases Nat.lt_or_ge j n with hh | hh
      · exact hh
      · rw [List.getElem?_eq_none (by rw [bsL_len]; omega)] at hj; cases hj
    rw [bsL_get _ _ hjn] at hj
    rw [← hj, add_off]
    exact bel_cell ((Below.refl _ _).alloc (Nat.le_refl _) _) (HC.out j hjn)
  go_wp2_with (at_builtin; refine wpList_append_own _ rfl _ _ 29 rfl w.heap.size 5 i0 (.int .u8 0) 1 1 byte_under hi hz0 hz1 hz2 rfl (by decide) _ 0 [] rfl (World.ownsRow_made _ _ _ (Nat.le_refl _) (by decide) rfl) ⟨b, o, none⟩ n c (bsL .u8 f n) rfl (by rw [bsL_len, Nat.mul_one]) hnews (bsL_one _ _ _) (by unfold maxLen; omega) (by omega) (by simp) ?_; intro s' w3 hown hgrow hnil
               have X : Hid (w3.ownsRow w.heap.size 5 1 s' n (bsL .u8 (stT f a m v 0) n) ∧ Below w.heap.size w w3) := ⟨by rw [stT_zero]; simpa using hown, Below.grown ((Below.refl _ _).alloc (Nat.le_refl _) _) hgrow (by simp) (fun j hj => by simp [Act.eval, Value.ownBlock] at hj; omega)⟩
               clear hown hgrow hnil)
  clear hnews HC
  obtain ⟨own0, G0⟩ := X.out
  clear X
  obtain ⟨g, c', rfl, hgB⟩ := own_form own0 (by omega)
  go_loopw [3, 12] (fun x i wr => ∃ t : Nat, t ≤ m ∧ i = .int .i64 ((m : Int) - 1 - t) ∧ x = .int .u32 (v / 256 ^ t) ∧ wr.ownsRow w.heap.size 5 1 (.slice (some ⟨g, 0, none⟩) n c') n (bsL .u8 (stT f a m v t) n) ∧ Below w.heap.size w wr) (fun _ i _ => (intOf i + 1).toNat)
  case atStart => exact ⟨0, by omega, by simp, by simp, own0, G0⟩
  case round =>
    clear own0 G0
    obtain ⟨t, ht, rfl, rfl, hown, hg⟩ := hrel
    obtain ⟨x0, x1⟩ := div_pow_in hv0 hv1 t
    by_cases hlt : t < m
    · have hc := (own_sl hown)
      obtain ⟨p', c2, hp', hcs⟩ := hc
      obtain ⟨rfl, rfl⟩ : some ⟨g, 0, none⟩ = p' ∧ c' = c2 := by simp only [Value.slice.injEq, true_and] at hp'; exact hp'
      obtain ⟨b', o', hb', hcs⟩ := hcs (by omega)
      obtain ⟨rfl, rfl⟩ : g = b' ∧ 0 = o' := by simp only [Option.some.injEq, Addr.mk.injEq, and_true] at hb'; exact hb'
      obtain ⟨i, hi1⟩ : ∃ i : Nat, m - 1 - t = i := ⟨_, rfl⟩
      have hi2 : (m : Int) - 1 - t = i := by omega
      rw [hi2]
      have hs1 := stT_succ f a m v hlt
      rw [hi1] at hs1
      have hc := hcs (a + i) (by omega)
      rw [Nat.zero_add] at hc
      have hfz := hown.frozenAt (a + i)
      have hq : Hid (v / 256 ^ t / 256 = v / 256 ^ (t + 1)) := div_pow_succ v t
      obtain ⟨own1, gr1⟩ := hown.stored (a + i) (.int .u8 (v / 256 ^ t % 256))
      rw [bsL_set, hs1] at own1
      have O1 := Lib.hid own1
      have G1 := Lib.hid (only_bel hg gr1 hgB)
      have HI2 := Lib.hid hi2
      have hian : a + i < n := by omega
      have hi4 : i < 4 := by omega
      clear own1 gr1 hown hcs hp' hb' hs1 hi2 hi1
      generalize v / 256 ^ t = x at *
      have hz : ((a : Int) + (i : Int)).toNat = a + i := by omega
      have hlen : ((a : Int) + (i : Int)) < n := by omega
      have ha4 : (a : Int) < 4194304 := by omega
      have hi4' : (i : Int) < 4 := by omega
      have ha0 : (0 : Int) ≤ (a : Int) + (i : Int) := by omega
      have hi0 : (0 : Int) ≤ (i : Int) := by omega
      go_wp2_with fail
      go_roundw
      case rel => exact ⟨t + 1, by omega, by rw [show ((i : Int) - 1) = (m : Int) - 1 - ((t + 1 : Nat) : Int) by have := HI2.out; omega], by rw [← hq.out], O1.out, G1.out⟩
      case measure => simp [intOf]
    · obtain rfl : t = m := by omega
      rw [show (t : Int) - 1 - t = -1 by omega]
      rw [stT_all] at hown
      go_wp2_with fail
      go_ret2
      exact ⟨_, rfl, hown, hg⟩
theorem bel_grown {w w' : World} (g : Below w.heap.size w w') : w.grownBy w' none := ⟨g.os, g.tape, g.output, g.size, fun i hi _ => g.block i hi⟩
theorem own_none {w : World} {B : Nat} {t : TypeId} {n : Nat} {s : Value} {xs : List Value} (h : w.ownsRow B t 1 s n xs) : s.ownBlock = none ∨ s.ownBlock ≠ none := by
  cases s.ownBlock <;> simp
set_option maxHeartbeats 1000000 in
theorem rput_yes (s t : Value) (n l : Nat) (f g : Nat → Int) (a : Nat) (w : World) (hn : n ≤ 4194304) (hs : Sl .u8 w s n f) (ht : Sl .u32 w t l g) (hg : ∀ i, 0 ≤ g i ∧ g i < 4294967296) (h : spE n a l = 0) :
    Calls Tryz.prog 60 #[s, .int .u32 a, t] w fun e w' => ∃ s', e = .returned (.tuple #[s', .int .i64 0]) ∧ Sl .u8 w' s' n (ptB f a g l) ∧ Below w.heap.size w w' := by
  obtain ⟨_, ha4, han, hal⟩ := spE_ok h
  have HS := Lib.hid hs
  obtain ⟨p, c, rfl, _⟩ := hs
  have HL := Lib.hid ht
  obtain ⟨q, d, rfl, _⟩ := ht
  have HT := Lib.hid (fun W => rspan_at p n c a l W hn (by omega) (by omega))
  rw [h] at HT
  have HG := Lib.hid hg
  clear hg h
  go_enter Tryz.func60, Tryz.ntmps60
  go_wp2_with fail
  refine (HT.out _).mono ?_; rintro e w1 ⟨rfl, rfl⟩
  clear HT
  go_wp2_with fail
  go_loopw [0, 9] (fun s i wr => ∃ k : Nat, k ≤ l ∧ i = .int .i64 k ∧ Sl .u8 wr s n (ptB f a g k) ∧ Below w.heap.size w wr) (fun _ i _ => l - (intOf i).toNat)
  case atStart => exact ⟨0, by omega, rfl, HS.out, Below.refl _ _⟩
  case round =>
    clear HS
    obtain ⟨k, hk, rfl, hs, hx⟩ := hrel
    by_cases hlt : k < l
    · obtain ⟨q', d', hq, hcs⟩ := HL.out
      obtain ⟨rfl, rfl⟩ : q = q' ∧ d = d' := by simp only [Value.slice.injEq, true_and] at hq; exact hq
      obtain ⟨b, o, rfl, hcc⟩ := hcs (by omega)
      have hc := bel_cell hx (hcc k hlt)
      have HSt : Hid (∀ (W : World) (x : Value), Sl .u8 W x n (ptB f a g k) → Calls Tryz.prog 125 #[x, .int .u32 ((a : Int) + 4 * (k : Int)), .int .i64 4, .int .u32 (g k)] W fun e w' => ∃ s', e = .returned (.tuple #[s', .int .i64 0]) ∧ w'.ownsRow W.heap.size 5 1 s' n (bsL .u8 (ptB f a g (k + 1)) n) ∧ Below W.heap.size W w') := fun W x h => by
        have := rstore_yes x n (ptB f a g k) (a + 4 * k) 4 (g k) W hn h (HG.out k) (by unfold thE; rw [if_neg (by omega), if_neg (by omega), if_neg (by omega)])
        rw [show ((a + 4 * k : Nat) : Int) = (a : Int) + 4 * (k : Int) by omega] at this
        exact this
      have hk4 : 4 * (k : Int) < 4194304 := by omega
      have hak : (a : Int) + 4 * (k : Int) < 4194304 := by omega
      have hkl : (k : Int) < l := by omega
      have hk32 : (k : Int) < 4294967296 := by omega
      have HH := Lib.hid hs
      clear hs hcs hq hcc
      go_wp2_with fail
      refine (HSt.out _ _ HH.out).mono ?_; rintro e w2 ⟨s2, rfl, own2, g2⟩
      have S2 := Lib.hid (own_sl own2)
      have G2 := bel_trans hx g2
      clear own2 g2 HSt HH hx
      go_wp2_with fail
      go_roundw
      case rel => exact ⟨k + 1, by omega, by go_num, S2.out, G2⟩
      case measure => simp [intOf]; omega
    · obtain rfl : k = l := by omega
      have HH := Lib.hid hs
      clear hs
      go_wp2_with fail
      go_ret2
      exact ⟨_, rfl, HH.out, hx⟩
/-- The words from a on. -/
def wdB (f : Nat → Int) (a : Nat) : Nat → Int := fun i => ldB f (a + 4 * i) 4
theorem word_parts : (Tryz.prog.info? 22).map (fun i => (i.zero, i.size, i.bytes)) = some (some (.int .u32 0), 1, 4) := by kernel_rfl
theorem word_under : Tryz.prog.underlying 25 = some (.slice 22) := by kernel_rfl
set_option maxHeartbeats 1000000 in
theorem rwords_yes (s : Value) (n m : Nat) (f : Nat → Int) (a : Nat) (w : World) (hn : n ≤ 4194304) (hs : Sl .u8 w s n f) (hf : Bytes f) (h : spE n a m = 0) :
    Calls Tryz.prog 40 #[s, .int .u32 a, .int .i64 m] w fun e w' => ∃ s', e = .returned (.tuple #[s', .int .i64 0]) ∧ w'.ownsRow w.heap.size 22 1 s' m (bsL .u32 (wdB f a) m) ∧ Below w.heap.size w w' := by
  obtain ⟨_, ha4, han, hal⟩ := spE_ok h
  have HS := Lib.hid hs
  obtain ⟨p, c, rfl, _⟩ := hs
  obtain ⟨i0, hi, hz0, hz1, hz2⟩ := info_parts word_parts
  have HT := Lib.hid (fun W => rspan_at p n c a m W hn (by omega) (by omega))
  rw [h] at HT
  have HF := Lib.hid hf
  clear h hf
  go_enter Tryz.func40, Tryz.ntmps40
  go_wp2_with fail
  refine (HT.out _).mono ?_; rintro e w1 ⟨rfl, rfl⟩
  clear HT
  go_wp2_with fail
  go_loopw [9, 10] (fun s i wr => ∃ k : Nat, k ≤ m ∧ i = .int .i64 k ∧ wr.ownsRow w.heap.size 22 1 s k (bsL .u32 (wdB f a) k) ∧ Below w.heap.size w wr) (fun _ i _ => m - (intOf i).toNat)
  case atStart => exact ⟨0, by omega, rfl, World.ownsRow_nil _ _ _ _, Below.refl _ _⟩
  case round =>
    obtain ⟨k, hk, rfl, hown, hx⟩ := hrel
    by_cases hlt : k < m
    · have HLd : Hid (∀ W : World, Below w.heap.size w W → Calls Tryz.prog 73 #[.slice p n c, .int .u32 ((a : Int) + 4 * (k : Int)), .int .i64 4] W fun e w' => e = .returned (.tuple #[.int .u32 (wdB f a k), .int .i64 0]) ∧ Below W.heap.size W w') := fun W hW => by
        have := rload_yes (.slice p n c) n f (a + 4 * k) 4 W hn (HS.out.bel hW) HF.out (by unfold thE; rw [if_neg (by omega), if_neg (by omega), if_neg (by omega)])
        rw [show ((a + 4 * k : Nat) : Int) = (a : Int) + 4 * (k : Int) by omega] at this
        exact this
      have hk4 : 4 * (k : Int) < 4194304 := by omega
      have hak : (a : Int) + 4 * (k : Int) < 4194304 := by omega
      have hkm : (k : Int) < m := by omega
      have hk32 : (k : Int) < 4294967296 := by omega
      have hkn : k < 4194304 := by omega
      have hown0 := Lib.hid hown
      clear hown
      go_wp2_with fail
      refine (HLd.out _ hx).mono ?_; rintro e w2 ⟨rfl, g2⟩
      have G2 := bel_trans hx g2
      have hown := hown0.out.kept (bel_grown g2) (own_none hown0.out)
      have hsz := G2.size
      clear hown0 g2 hx HLd
      have hrl := Lib.hid (bsL_succ .u32 (wdB f a) k)
      generalize wdB f a k = u at *
      go_wp2_with (at_builtin; refine wpList_append_own _ rfl _ _ 25 rfl w.heap.size 22 i0 (.int .u32 0) 1 4 word_under hi hz0 hz1 hz2 rfl (by decide) _ _ _ rfl (hown.alloc _) ⟨w2.heap.size, 0, none⟩ 1 1 [.int .u32 u] rfl rfl (one_new _ _ _) (fun x hx => by simp at hx; subst hx; rfl) (by unfold maxLen; omega) (by omega) (by simp; omega) ?_; intro s' w3 hown' hgrow hnil
                   have X : Hid (w3.ownsRow w.heap.size 22 1 s' (k + 1) (bsL .u32 (wdB f a) (k + 1)) ∧ Below w.heap.size w w3) := ⟨by rw [hrl.out]; exact hown', Below.grown (G2.alloc (by omega) _) hgrow (by simp; omega) (fun j hj => (hown.lt _ hj).1)⟩
                   clear hown' hgrow hnil)
      go_roundw
      case rel => exact ⟨k + 1, by omega, by go_num, X.out.1, X.out.2⟩
      case measure => simp [intOf]; omega
    · obtain rfl : k = m := by omega
      go_wp2_with fail
      go_ret2
      exact ⟨_, rfl, hown, hx⟩
end Go.Proofs.YtiobgnelhiadbaaGreatDoor.M5
namespace Go.Proofs.YtiobgnelhiadbaaGreatDoor.M5
open Go.RowKit
set_option linter.unusedVariables false
/-- What a load says: the word or byte, or 0 with an error. -/
def ldV (n : Nat) (f : Nat → Int) (a m : Int) : Int := if thE n a m = 0 then ldB f a.toNat m.toNat else 0
structure MemC where
  At : World → Value → Nat → Nat → (Nat → Int) → Prop
  bel : ∀ {w w' : World} {v : Value} {g n : Nat} {f : Nat → Int}, At w v g n f → Below w.heap.size w w' → At w' v g n f
  only : ∀ {w w' : World} {v v' : Value} {g g' n n' : Nat} {f f' : Nat → Int}, At w v g n f → At w v' g' n' f' → g ≠ g' → w.grownBy w' (some g') → At w' v g n f
  lt : ∀ {w : World} {v : Value} {g n : Nat} {f : Nat → Int}, At w v g n f → g < w.heap.size
  bytes : ∀ {w : World} {v : Value} {g n : Nat} {f : Nat → Int}, At w v g n f → Bytes f
  size : ∀ {w : World} {v : Value} {g n : Nat} {f : Nat → Int}, At w v g n f → n ≤ 4194304
  ptr : ∀ {w : World} {v : Value} {g n : Nat} {f : Nat → Int}, At w v g n f → ∃ a, v = .pointer (some a)
  congr : ∀ {w : World} {v : Value} {g n : Nat} {f f' : Nat → Int}, At w v g n f → (∀ i, f i = f' i) → At w v g n f'
  new_yes : ∀ (n : Nat) (w : World), MaySize n → Calls Tryz.prog 124 #[.int .i64 n] w fun e w' => ∃ v g, e = .returned (.tuple #[v, .int .i64 0]) ∧ At w' v g n (fun _ => 0) ∧ w.heap.size ≤ g ∧ Below w.heap.size w w'
  new_no : ∀ (n : Int) (w : World), -9223372036854775808 ≤ n ∧ n ≤ 9223372036854775807 → ¬ MaySize n → Calls Tryz.prog 124 #[.int .i64 n] w fun e w' => e = .returned (.tuple #[.pointer none, .int .i64 2]) ∧ Below w.heap.size w w'
  load : ∀ {w : World} {v : Value} {g n : Nat} {f : Nat → Int} (a m : Int), At w v g n f → 0 ≤ a ∧ a < 4294967296 → -9223372036854775808 ≤ m ∧ m ≤ 9223372036854775807 →
    Calls Tryz.prog 53 #[v, .int .u32 a, .int .i64 m] w fun e w' => e = .returned (.tuple #[.int .u32 (ldV n f a m), .int .i64 (thE n a m)]) ∧ Below w.heap.size w w'
  store_yes : ∀ {w : World} {v : Value} {g n : Nat} {f : Nat → Int} (a m : Nat) (x : Int), At w v g n f → 0 ≤ x ∧ x < 4294967296 → thE n a m = 0 →
    Calls Tryz.prog 90 #[v, .int .u32 a, .int .i64 m, .int .u32 x] w fun e w' => e = .returned (.int .i64 0) ∧ At w' v g n (stB f a m x) ∧ w.grownBy w' (some g)
  store_no : ∀ {w : World} {v : Value} {g n : Nat} {f : Nat → Int} (a m x : Int), At w v g n f → 0 ≤ a ∧ a < 4294967296 → -9223372036854775808 ≤ m ∧ m ≤ 9223372036854775807 → 0 ≤ x ∧ x < 4294967296 → thE n a m ≠ 0 →
    Calls Tryz.prog 90 #[v, .int .u32 a, .int .i64 m, .int .u32 x] w fun e w' => e = .returned (.int .i64 (thE n a m)) ∧ Below w.heap.size w w'
  put_yes : ∀ {w : World} {v t : Value} {g n l : Nat} {f h : Nat → Int} (a : Nat), At w v g n f → Sl .u32 w t l h → (∀ i, 0 ≤ h i ∧ h i < 4294967296) → spE n a l = 0 →
    Calls Tryz.prog 91 #[v, .int .u32 a, t] w fun e w' => e = .returned (.int .i64 0) ∧ At w' v g n (ptB f a h l) ∧ w.grownBy w' (some g)
  put_no : ∀ {w : World} {v t : Value} {g n l : Nat} {f h : Nat → Int} (a : Int), At w v g n f → Sl .u32 w t l h → 0 ≤ a ∧ a < 4294967296 → (l : Int) ≤ 9223372036854775807 → spE n a l ≠ 0 →
    Calls Tryz.prog 91 #[v, .int .u32 a, t] w fun e w' => e = .returned (.int .i64 (spE n a l)) ∧ Below w.heap.size w w'
  words_yes : ∀ {w : World} {v : Value} {g n : Nat} {f : Nat → Int} (a m : Nat), At w v g n f → spE n a m = 0 →
    Calls Tryz.prog 35 #[v, .int .u32 a, .int .i64 m] w fun e w' => ∃ s, e = .returned (.tuple #[s, .int .i64 0]) ∧ Sl .u32 w' s m (wdB f a) ∧ Below w.heap.size w w'
  words_no : ∀ {w : World} {v : Value} {g n : Nat} {f : Nat → Int} (a m : Int), At w v g n f → 0 ≤ a ∧ a < 4294967296 → -9223372036854775808 ≤ m ∧ m ≤ 9223372036854775807 → spE n a m ≠ 0 →
    Calls Tryz.prog 35 #[v, .int .u32 a, .int .i64 m] w fun e w' => ∃ s, e = .returned (.tuple #[s, .int .i64 (spE n a m)]) ∧ Sl .u32 w' s 0 (fun _ => 0) ∧ Below w.heap.size w w'
  size_at : ∀ {w : World} {v : Value} {g n : Nat} {f : Nat → Int}, At w v g n f → Calls Tryz.prog 93 #[v] w fun e w' => e = .returned (.int .i64 n) ∧ Below w.heap.size w w'
  copy : ∀ {w : World} {v : Value} {g n : Nat} {f : Nat → Int}, At w v g n f → Calls Tryz.prog 70 #[v] w fun e w' => ∃ v' g', e = .returned v' ∧ At w' v' g' n f ∧ w.heap.size ≤ g' ∧ Below w.heap.size w w'
/-! Two rows of words that are the same. -/
set_option maxHeartbeats 1000000 in
theorem words_same (s t : Value) (m : Nat) (f g : Nat → Int) (w : World) (hm : m ≤ 4194304) (h1 : Sl .u32 w s m f) (h2 : Sl .u32 w t m g) (he : ∀ i, i < m → f i = g i) :
    Calls Tryz.prog 33 #[s, t] w fun e w' => e = .returned (.bool true) ∧ Below w.heap.size w w' := by
  obtain ⟨p, c, rfl, h1⟩ := h1
  obtain ⟨q, d, rfl, h2⟩ := h2
  have H1 := Lib.hid h1
  have H2 := Lib.hid h2
  have HE := Lib.hid he
  clear h1 h2 he
  go_enter Tryz.func33, Tryz.ntmps33
  go_wp2
  go_loopw [5] (fun i wr => ∃ k : Nat, k ≤ m ∧ i = .int .i64 k ∧ Below w.heap.size w wr) (fun i _ => m - (intOf i).toNat)
  case atStart => exact ⟨0, by omega, rfl, Below.refl _ _⟩
  case round =>
    obtain ⟨k, hk, rfl, hg⟩ := hrel
    by_cases hlt : k < m
    · obtain ⟨a, o, rfl, ha⟩ := H1.out (by omega)
      obtain ⟨b, r, rfl, hb⟩ := H2.out (by omega)
      have ca := bel_cell hg (ha k hlt)
      have cb := bel_cell hg (hb k hlt)
      rw [← HE.out k hlt] at cb
      have hk32 : k < 4194304 := by omega
      clear ha hb H1 H2
      go_wp2
      go_quiet (fail)
      go_wp2
      go_roundw
      case rel => exact ⟨k + 1, by omega, by go_num, bel_drewN hg _⟩
      case measure => simp [intOf]; omega
    · obtain rfl : k = m := by omega
      go_wp2
      go_ret
      exact ⟨rfl, hg⟩
end Go.Proofs.YtiobgnelhiadbaaGreatDoor.M5
namespace Go.Proofs.YtiobgnelhiadbaaGreatDoor.M5
open Go.RowKit
set_option linter.unusedVariables false
/-- A row of bytes. -/
def brow (f : Nat → Int) (n : Nat) : Array Value := (bsL .u8 f n).toArray
theorem brow_size (f : Nat → Int) (n : Nat) : (brow f n).size = n := by simp [brow, bsL_len]
theorem brow_get (f : Nat → Int) {n i : Nat} (h : i < n) : (brow f n)[i]? = some (.int .u8 (f i)) := by simpa [brow] using bsL_get .u8 f h
theorem brow_set (f : Nat → Int) (n j : Nat) (v : Int) : (brow f n).setIfInBounds j (.int .u8 v) = brow (updB f j v) n := by
  unfold brow
  rw [← bsL_set .u8 f n j v]
  simp
/-- In world w the block g holds n bytes, byte i being f i. -/
def RowAt (w : World) (g n : Nat) (f : Nat → Int) : Prop := w.heap[g]? = some (.cells (brow f n) 5 (0, 0))
theorem RowAt.cell {w : World} {g n : Nat} {f : Nat → Int} (h : RowAt w g n f) {i : Nat} (hi : i < n) : w.cell? ⟨g, i, none⟩ = some (.int .u8 (f i)) := row_cell h (brow_get f hi)
theorem RowAt.frozen {w : World} {g n : Nat} {f : Nat → Int} (h : RowAt w g n f) (i : Nat) : w.frozen? ⟨g, i, none⟩ = false := row_frozen h
theorem RowAt.bel {w w' : World} {g n : Nat} {f : Nat → Int} (h : RowAt w g n f) (k : Below w.heap.size w w') : RowAt w' g n f := bel_heap k h
theorem RowAt.set {w : World} {g n : Nat} {f : Nat → Int} (h : RowAt w g n f) (j : Nat) (v : Int) : RowAt (w.setCell ⟨g, j, none⟩ (.int .u8 v)) g n (updB f j v) := by
  have := heap_setCell_same w g j _ _ (.int .u8 v) h
  rw [brow_set] at this
  exact this
/-- In world w the value v is a memory of n bytes, byte i being f i, which lie in block g. -/
structure MemAt (w : World) (v : Value) (g n : Nat) (f : Nat → Int) : Prop where
  box : ∃ b, v = .pointer (some ⟨b, 0, none⟩) ∧ w.heap[b]? = some (.cells #[.slice (some ⟨g, 0, none⟩) n n] 234 (0, 0))
  row : RowAt w g n f
  bytes : Bytes f
  size : n ≤ 4194304
theorem heap_lt {w : World} {b : Nat} {o : Obj} (hb : w.heap[b]? = some o) : b < w.heap.size := by
  rcases Nat.lt_or_ge b w.heap.size with hh | hh
  · exact hh
  · rw [Array.getElem?_eq_none hh] at hb; cases hb
/-- A box and a row of bytes are not the same block. -/
theorem box_row {w : World} {b g n : Nat} {f : Nat → Int} {s : Value} (hb : w.heap[b]? = some (.cells #[s] 234 (0, 0))) (hr : RowAt w g n f) : b ≠ g := by
  rintro rfl
  unfold RowAt at hr
  rw [hb] at hr
  simp at hr
/-- What a store into a memory's own bytes leaves. -/
theorem MemAt.stored {w w' : World} {v : Value} {g n : Nat} {f f' : Nat → Int} (h : MemAt w v g n f) (k : w.grownBy w' (some g)) (hr : RowAt w' g n f') (hf : Bytes f') : MemAt w' v g n f' := by
  obtain ⟨⟨b, rfl, hb⟩, hr0, h3, h4⟩ := h
  exact ⟨⟨b, rfl, only_heap k (box_row hb hr0) hb⟩, hr, hf, h4⟩
theorem isObject_yes (b g n : Nat) (w : World) (hc : w.cell? ⟨b, 0, none⟩ = some (.slice (some ⟨g, 0, none⟩) n n)) : Calls Tryz.prog 131 #[.pointer (some ⟨b, 0, none⟩)] w fun e w' => e = .returned (.bool true) ∧ w = w' := by
  go_enter Tryz.func131, Tryz.ntmps131
  go_wp2
  go_ret
  exact ⟨rfl, rfl⟩
/-- The error of an access to k units, each of u bytes, at a. -/
def fdE (n a u k : Int) : Int := if (u ≠ 1 ∧ u ≠ 4) ∨ k < 0 then 2 else if a % u ≠ 0 then 51 else if n < a ∨ (n - a) / u < k then 50 else 0
theorem fdE_th (n a m : Int) : fdE n a m 1 = thE n a m := by
  by_cases h : m ≠ 1 ∧ m ≠ 4
  · unfold fdE thE
    rw [if_pos (.inl h), if_pos h]
  · rcases (by omega : m = 1 ∨ m = 4) with rfl | rfl
    · unfold fdE thE
      repeat' split
      all_goals omega
    · unfold fdE thE
      repeat' split
      all_goals omega
theorem fdE_sp (n a k : Int) : fdE n a 4 k = spE n a k := by
  unfold fdE spE
  by_cases h : k < 0
  · rw [if_pos (.inr h), if_pos h]
  · rw [if_neg (by omega), if_neg h]
set_option maxHeartbeats 1000000 in
theorem find_no (b g n : Nat) (a u k : Int) (w : World) (hc : w.cell? ⟨b, 0, none⟩ = some (.slice (some ⟨g, 0, none⟩) n n)) (hn : n ≤ 4194304) (ha : 0 ≤ a ∧ a < 4294967296) (h : fdE n a u k ≠ 0) :
    Calls Tryz.prog 107 #[.pointer (some ⟨b, 0, none⟩), .int .u32 a, .int .i64 u, .int .i64 k] w fun e w' => e = .returned (.tuple #[.slice none 0 0, .int .i64 (fdE n a u k)]) ∧ w = w' := by
  obtain ⟨ha0, ha1⟩ := ha
  have HO := Lib.hid (fun W hW => isObject_yes b g n W hW)
  by_cases hu : u ≠ 1 ∧ u ≠ 4
  · have e : fdE n a u k = 2 := by unfold fdE; rw [if_pos (.inl hu)]
    rw [e]
    have h1' : (u != 1) = true := by simpa using hu.1
    have h4' : (u != 4) = true := by simpa using hu.2
    clear hu h e
    go_enter Tryz.func107, Tryz.ntmps107
    go_wp2_with fail
    refine (HO.out _ hc).mono ?_; rintro e w1 ⟨rfl, rfl⟩
    go_wp2_with fail
    go_ret2
    exact ⟨rfl, rfl⟩
  have hu' : u = 1 ∨ u = 4 := by omega
  clear hu
  by_cases hk : k < 0
  · have e : fdE n a u k = 2 := by unfold fdE; rw [if_pos (.inr hk)]
    rw [e]
    clear h e
    rcases hu' with rfl | rfl
    · go_enter Tryz.func107, Tryz.ntmps107
      go_wp2_with fail
      refine (HO.out _ hc).mono ?_; rintro e w1 ⟨rfl, rfl⟩
      go_wp2_with fail
      go_ret2
      exact ⟨rfl, rfl⟩
    · go_enter Tryz.func107, Tryz.ntmps107
      go_wp2_with fail
      refine (HO.out _ hc).mono ?_; rintro e w1 ⟨rfl, rfl⟩
      go_wp2_with fail
      go_ret2
      exact ⟨rfl, rfl⟩
  have hk0 : 0 ≤ k := by omega
  rcases hu' with rfl | rfl
  · have hr : (n : Int) < a ∨ ((n : Int) - a) < k := by
      unfold fdE at h
      rw [if_neg (by omega), if_neg (by omega)] at h
      by_cases hh : (n : Int) < a ∨ ((n : Int) - a) < k
      · exact hh
      · rw [if_neg (by omega)] at h; exact absurd rfl h
    have e : fdE n a 1 k = 50 := by unfold fdE; rw [if_neg (by omega), if_neg (by omega), if_pos (by omega)]
    rw [e]
    clear h e
    by_cases h1 : (n : Int) < a
    · clear hr
      go_enter Tryz.func107, Tryz.ntmps107
      go_wp2_with fail
      refine (HO.out _ hc).mono ?_; rintro e w1 ⟨rfl, rfl⟩
      go_wp2_with fail
      go_ret2
      exact ⟨rfl, rfl⟩
    · have h2 : (n : Int) - a < k := by omega
      clear hr
      go_enter Tryz.func107, Tryz.ntmps107
      go_wp2_with fail
      refine (HO.out _ hc).mono ?_; rintro e w1 ⟨rfl, rfl⟩
      go_wp2_with fail
      go_ret2
      exact ⟨rfl, rfl⟩
  · by_cases h3 : a % 4 = 0
    · have hr : (n : Int) < a ∨ ((n : Int) - a) / 4 < k := by
        unfold fdE at h
        rw [if_neg (by omega), if_neg (by omega)] at h
        by_cases hh : (n : Int) < a ∨ ((n : Int) - a) / 4 < k
        · exact hh
        · rw [if_neg hh] at h; exact absurd rfl h
      have e : fdE n a 4 k = 50 := by unfold fdE; rw [if_neg (by omega), if_neg (by omega), if_pos hr]
      rw [e]
      have h3' : (a % 4 != 0) = false := by simpa using h3
      clear h e h3
      by_cases h1 : (n : Int) < a
      · clear hr
        go_enter Tryz.func107, Tryz.ntmps107
        go_wp2_with fail
        refine (HO.out _ hc).mono ?_; rintro e w1 ⟨rfl, rfl⟩
        go_wp2_with fail
        go_ret2
        exact ⟨rfl, rfl⟩
      · have h2 : ((n : Int) - a) / 4 < k := by omega
        clear hr
        go_enter Tryz.func107, Tryz.ntmps107
        go_wp2_with fail
        refine (HO.out _ hc).mono ?_; rintro e w1 ⟨rfl, rfl⟩
        go_wp2_with fail
        go_ret2
        exact ⟨rfl, rfl⟩
    · have e : fdE n a 4 k = 51 := by unfold fdE; rw [if_neg (by omega), if_pos h3]
      rw [e]
      have h3' : (a % 4 != 0) = true := by simpa using h3
      clear h e h3
      go_enter Tryz.func107, Tryz.ntmps107
      go_wp2_with fail
      refine (HO.out _ hc).mono ?_; rintro e w1 ⟨rfl, rfl⟩
      go_wp2_with fail
      go_ret2
      exact ⟨rfl, rfl⟩
/-- The place of k bytes at a. -/
theorem find_bytes (b g n : Nat) (a k : Int) (w : World) (hc : w.cell? ⟨b, 0, none⟩ = some (.slice (some ⟨g, 0, none⟩) n n)) (hn : n ≤ 4194304) (ha : 0 ≤ a) (hk : 0 ≤ k) (hak : a + k ≤ n) :
    Calls Tryz.prog 107 #[.pointer (some ⟨b, 0, none⟩), .int .u32 a, .int .i64 1, .int .i64 k] w fun e w' => (∃ p, e = .returned (.tuple #[.slice p k.toNat k.toNat, .int .i64 0]) ∧ (0 < k → p = some ⟨g, a.toNat, none⟩)) ∧ w = w' := by
  have HO := Lib.hid (fun W hW => isObject_yes b g n W hW)
  have h1 : ¬ (n : Int) < a := by omega
  have h2 : ¬ (n : Int) - a < k := by omega
  have h3 : a < 4294967296 := by omega
  have h4 : k ≤ 4194304 := by omega
  go_enter Tryz.func107, Tryz.ntmps107
  go_wp2_with fail
  refine (HO.out _ hc).mono ?_; rintro e w1 ⟨rfl, rfl⟩
  go_wp2_with fail
  · go_ret2
    exact ⟨⟨some ⟨g, 0, none⟩, by rw [show k.toNat = 0 by omega]; rfl, fun hh => by omega⟩, rfl⟩
  · go_ret2
    exact ⟨⟨some ⟨g, a.toNat, none⟩, by rw [show (a + k).toNat - a.toNat = k.toNat by omega]; rfl, fun _ => rfl⟩, rfl⟩
/-- The place of k words at a. -/
theorem find_words (b g n : Nat) (a k : Int) (w : World) (hc : w.cell? ⟨b, 0, none⟩ = some (.slice (some ⟨g, 0, none⟩) n n)) (hn : n ≤ 4194304) (ha : 0 ≤ a) (ha4 : a % 4 = 0) (hk : 0 ≤ k) (hak : a + k * 4 ≤ n) :
    Calls Tryz.prog 107 #[.pointer (some ⟨b, 0, none⟩), .int .u32 a, .int .i64 4, .int .i64 k] w fun e w' => (∃ p, e = .returned (.tuple #[.slice p (k * 4).toNat (k * 4).toNat, .int .i64 0]) ∧ (0 < k → p = some ⟨g, a.toNat, none⟩)) ∧ w = w' := by
  have HO := Lib.hid (fun W hW => isObject_yes b g n W hW)
  have h1 : ¬ (n : Int) < a := by omega
  have h2 : ¬ ((n : Int) - a) / 4 < k := by omega
  have h3 : a < 4294967296 := by omega
  have h4 : k ≤ 4194304 := by omega
  have h3' : (a % 4 != 0) = false := by simpa using ha4
  clear ha4
  go_enter Tryz.func107, Tryz.ntmps107
  go_wp2_with fail
  refine (HO.out _ hc).mono ?_; rintro e w1 ⟨rfl, rfl⟩
  go_wp2_with fail
  · go_ret2
    exact ⟨⟨some ⟨g, 0, none⟩, by rw [show (k * 4).toNat = 0 by omega]; rfl, fun hh => by omega⟩, rfl⟩
  · go_ret2
    exact ⟨⟨some ⟨g, a.toNat, none⟩, by rw [show (a + k * 4).toNat - a.toNat = (k * 4).toNat by omega]; rfl, fun _ => rfl⟩, rfl⟩
theorem or_byte (x y : Int) (hx : 0 ≤ x ∧ x < 16777216) (hy : 0 ≤ y ∧ y < 256) : bits .or .u32 (x * 256) y = 256 * x + y := by
  obtain ⟨a, rfl⟩ := Int.eq_ofNat_of_zero_le hx.1
  obtain ⟨c, rfl⟩ := Int.eq_ofNat_of_zero_le hy.1
  have h1 : (a : Int) * 256 = ((a * 256 : Nat) : Int) := by simp
  rw [h1, u32_or_nat (a * 256) c (by omega) (by omega)]
  have h2 : a * 256 ||| c = a * 256 + c := by
    have := Nat.shiftLeft_add_eq_or_of_lt (b := c) (i := 8) (by omega) a
    rw [Nat.shiftLeft_eq] at this
    exact this.symm
  rw [h2]
  omega
/-- The bytes of the word with the index i. -/
theorem wordOf_at (g a m c : Nat) (i : Int) (w : World) (hi : 0 ≤ i) (him : i * 4 + 4 ≤ m) (hc : m ≤ c) (hm : c ≤ 4194304) :
    Calls Tryz.prog 109 #[.slice (some ⟨g, a, none⟩) m c, .int .i64 i] w fun e w' => (∃ c', e = .returned (.slice (some ⟨g, a + (i * 4).toNat, none⟩) 4 c')) ∧ w = w' := by
  have h1 : i ≤ 4194304 := by omega
  go_enter Tryz.func109, Tryz.ntmps109
  go_wp2_with fail
  go_ret
  exact ⟨⟨4, by rw [show (i * 4 + 4).toNat - (i * 4).toNat = 4 by omega]; rfl⟩, rfl⟩
/-- What bytes one behind the other say. -/
theorem join_at (g a m c n : Nat) (f : Nat → Int) (w : World) (hr : RowAt w g n f) (hf : Bytes f) (hm : m ≤ 4) (ham : a + m ≤ n) (hn : n ≤ 4194304) :
    Calls Tryz.prog 108 #[.slice (some ⟨g, a, none⟩) m c] w fun e w' => e = .returned (.int .u32 (ldB f a m)) ∧ Below w.heap.size w w' := by
  have HR := Lib.hid hr
  have HF := Lib.hid hf
  have HL := Lib.hid (ldB_in hf a)
  clear hr hf
  go_enter Tryz.func108, Tryz.ntmps108
  go_wp2_with fail
  go_loop [3, 7] (fun v i => ∃ k : Nat, k ≤ m ∧ i = .int .i64 k ∧ v = .int .u32 (ldB f a k)) (fun _ i => m - (intOf i).toNat)
  case atStart => exact ⟨0, by omega, rfl, rfl⟩
  case round =>
    obtain ⟨k, hk, rfl, rfl⟩ := hrel
    by_cases hlt : k < m
    · have hc := HR.out.cell (i := a + k) (by omega)
      obtain ⟨f0, f1⟩ := HF.out (a + k)
      obtain ⟨l0, l1⟩ := ldB_small HL.out (k := k) (by omega)
      have hs : Hid (256 * ldB f a k + f (a + k) = ldB f a (k + 1)) := rfl
      have hk4 : (k : Int) < 4 := by omega
      generalize ldB f a k = x at *
      generalize f (a + k) = y at *
      have hb : 256 * x + y < 4294967296 := by omega
      go_wp2_with fail
      go_round
      case rel => exact ⟨k + 1, by omega, by go_num, by rw [or_byte x y ⟨l0, l1⟩ ⟨f0, f1⟩, ← hs.out]⟩
      case measure => simp [intOf]; omega
    · obtain rfl : k = m := by omega
      go_wp2_with fail
      go_ret
      exact ⟨rfl, Below.refl _ _⟩
/-- What the bytes of a number, laid one behind the other, leave. -/
theorem split_at (g a m c n : Nat) (f : Nat → Int) (v : Int) (w : World) (hr : RowAt w g n f) (hm : m = 1 ∨ m = 4) (ham : a + m ≤ n) (hn : n ≤ 4194304) (hv : 0 ≤ v ∧ v < 4294967296) :
    Calls Tryz.prog 155 #[.slice (some ⟨g, a, none⟩) m c, .int .u32 v] w fun e w' => e = .returned (.tuple #[]) ∧ RowAt w' g n (stB f a m v) ∧ w.grownBy w' (some g) := by
  have HR := Lib.hid hr
  obtain ⟨hv0, hv1⟩ := hv
  clear hr
  go_enter Tryz.func155, Tryz.ntmps155
  go_wp2_with fail
  go_loopw [1, 7] (fun x i wr => ∃ t : Nat, t ≤ m ∧ i = .int .i64 t ∧ x = .int .u32 (v / 256 ^ t) ∧ RowAt wr g n (stT f a m v t) ∧ w.grownBy wr (some g)) (fun _ i _ => m - (intOf i).toNat)
  case atStart => exact ⟨0, by omega, rfl, by simp, by rw [stT_zero]; exact HR.out, ⟨rfl, rfl, rfl, Nat.le_refl _, fun _ _ _ => rfl⟩⟩
  case round =>
    clear HR
    obtain ⟨t, ht, rfl, rfl, hrow, hg⟩ := hrel
    obtain ⟨x0, x1⟩ := div_pow_in hv0 hv1 t
    by_cases hlt : t < m
    · have hs1 := stT_succ f a m v hlt
      have HQ : Hid (v / 256 ^ t / 256 = v / 256 ^ (t + 1)) := div_pow_succ v t
      obtain ⟨i, hi1⟩ : ∃ i : Nat, m - 1 - t = i := ⟨_, rfl⟩
      rw [hi1] at hs1
      have hc := hrow.cell (i := a + i) (by omega)
      have hfz := hrow.frozen (a + i)
      have R1 := hrow.set (a + i) (v / 256 ^ t % 256)
      rw [hs1] at R1
      have RR := Lib.hid R1
      have GG := Lib.hid (only_cell hg (a + i) (.int .u8 (v / 256 ^ t % 256)))
      clear R1 hrow hg hs1
      generalize v / 256 ^ t = x at *
      rcases hm with rfl | rfl
      · obtain rfl : t = 0 := by omega
        obtain rfl : i = 0 := by omega
        simp only [Nat.add_zero] at hc hfz RR GG
        go_wp2_with fail
        go_roundw
        case rel => exact ⟨1, by omega, by go_num, by rw [← HQ.out], RR.out, GG.out⟩
        case measure => simp [intOf]
      · rcases (by omega : t = 0 ∨ t = 1 ∨ t = 2 ∨ t = 3) with rfl | rfl | rfl | rfl
        · obtain rfl : i = 3 := by omega
          go_wp2_with fail
          go_roundw
          case rel => exact ⟨1, by omega, by go_num, by rw [← HQ.out], RR.out, GG.out⟩
          case measure => simp [intOf]
        · obtain rfl : i = 2 := by omega
          go_wp2_with fail
          go_roundw
          case rel => exact ⟨2, by omega, by go_num, by rw [← HQ.out], RR.out, GG.out⟩
          case measure => simp [intOf]
        · obtain rfl : i = 1 := by omega
          go_wp2_with fail
          go_roundw
          case rel => exact ⟨3, by omega, by go_num, by rw [← HQ.out], RR.out, GG.out⟩
          case measure => simp [intOf]
        · obtain rfl : i = 0 := by omega
          simp only [Nat.add_zero] at hc hfz RR GG
          go_wp2_with fail
          go_roundw
          case rel => exact ⟨4, by omega, by go_num, by rw [← HQ.out], RR.out, GG.out⟩
          case measure => simp [intOf]
    · obtain rfl : t = m := by omega
      rw [stT_all] at hrow
      go_wp2_with fail
      go_end0
      exact ⟨rfl, hrow, hg⟩
end Go.Proofs.YtiobgnelhiadbaaGreatDoor.M5
namespace Go.Proofs.YtiobgnelhiadbaaGreatDoor.M5
open Go.RowKit
set_option linter.unusedVariables false
theorem made_bytes (n : Nat) : madeCells #[.int .u8 0] n = brow (fun _ => 0) n := by
  apply Array.ext
  · rw [size_madeCells, brow_size]
  · intro i h1 h2
    simp [madeCells, brow, bsL, Nat.mod_one]
theorem made_words (n : Nat) : madeCells #[.int .u32 0] n = (bsL .u32 (fun _ => 0) n).toArray := by
  apply Array.ext
  · rw [size_madeCells]; simp [bsL_len]
  · intro i h1 h2
    simp [madeCells, bsL, Nat.mod_one]
theorem u32_parts' : (Tryz.prog.info? 22).map (fun i => (i.zero, i.size, i.bytes)) = some (some (.int .u32 0), 1, 4) := by kernel_rfl
theorem bytes_zero : Bytes fun _ => 0 := fun _ => ⟨Int.le_refl _, by show (0 : Int) < 256; decide⟩
theorem born_bel (w : World) (o : Obj) : Below w.heap.size w (w.alloc o) := (Below.refl _ _).alloc (Nat.le_refl _) _
set_option maxRecDepth 100000 in
/-- New that makes a memory. -/
theorem new_yes (n : Nat) (w : World) (h : MaySize n) : Calls Tryz.prog 124 #[.int .i64 n] w fun e w' => ∃ v g, e = .returned (.tuple #[v, .int .i64 0]) ∧ MemAt w' v g n (fun _ => 0) ∧ w.heap.size ≤ g ∧ Below w.heap.size w w' := by
  obtain ⟨h0, h1, h2⟩ := h
  have h3 : (Int.tmod (n : Int) 4 != 0) = false := by rw [Int.tmod_eq_emod_of_nonneg h0, h2]; rfl
  have hmk := run_make_row' (P := Tryz.prog) 29 5 (.int .u8 0) 1 Tryz.underlying29 byte_parts rfl .i64 .i64 n (by omega) (by omega) w
  rw [made_bytes] at hmk
  have hr : RowAt (w.alloc (.cells (brow (fun _ => 0) n) 5)) w.heap.size n (fun _ => 0) := heap_alloc_last _ _
  have G := born_bel w (.cells (brow (fun _ => 0) n) 5)
  have hmx : (n : Int) ≤ 4194304 := h1
  have hm4 : ((n : Int) % 4 != 0) = false := by simpa using h2
  generalize brow (fun _ => 0) n = B at *
  clear h2
  go_enter Tryz.func124, Tryz.ntmps124
  go_wp2_with fail
  have hs : (w.alloc (.cells B 5)).heap.size = w.heap.size + 1 := by simp
  have G2 := (born_bel (w.alloc (.cells B 5)) (.cells #[.slice (some ⟨w.heap.size, 0, none⟩) n n] 234))
  go_ret2
  exact ⟨_, _, rfl, ⟨⟨w.heap.size + 1, rfl, row_born hs⟩, hr.bel G2, bytes_zero, by omega⟩, Nat.le_refl _, bel_trans G G2⟩
theorem new_no (n : Int) (w : World) (h : ¬ MaySize n) : Calls Tryz.prog 124 #[.int .i64 n] w fun e w' => e = .returned (.tuple #[.pointer none, .int .i64 2]) ∧ Below w.heap.size w w' := by
  unfold MaySize at h
  by_cases h0 : 0 ≤ n
  · by_cases h1 : n ≤ 4194304
    · have h2 : (n % 4 != 0) = true := by simp; omega
      clear h
      go_enter Tryz.func124, Tryz.ntmps124
      go_wp2
      go_ret2
      exact ⟨rfl, Below.refl _ _⟩
    · clear h
      go_enter Tryz.func124, Tryz.ntmps124
      go_wp2
      go_ret2
      exact ⟨rfl, Below.refl _ _⟩
  · clear h
    go_enter Tryz.func124, Tryz.ntmps124
    go_wp2
    go_ret2
    exact ⟨rfl, Below.refl _ _⟩
/-! No memory. -/
/-! A memory. -/
theorem thE_al {n a m : Int} (h : thE n a m = 0) : m = 4 → a % 4 = 0 := fun hh => by
  subst hh
  unfold thE at h
  repeat (split at h <;> try omega)
theorem load_at {w : World} {v : Value} {g n : Nat} {f : Nat → Int} (a m : Int) (hA : MemAt w v g n f) (ha : 0 ≤ a ∧ a < 4294967296) :
    Calls Tryz.prog 53 #[v, .int .u32 a, .int .i64 m] w fun e w' => e = .returned (.tuple #[.int .u32 (ldV n f a m), .int .i64 (thE n a m)]) ∧ Below w.heap.size w w' := by
  obtain ⟨⟨b, rfl, hb⟩, hr, hf, hn⟩ := hA
  have hc : w.cell? ⟨b, 0, none⟩ = some (.slice (some ⟨g, 0, none⟩) n n) := row_cell hb rfl
  obtain ⟨ha0, ha1⟩ := ha
  by_cases h : thE n a m = 0
  · have hm := thE_ok h
    obtain ⟨hm1, ham⟩ := hm
    have hal : m = 4 → a % 4 = 0 := thE_al h
    have e : ldV n f a m = ldB f a.toNat m.toNat := by unfold ldV; rw [if_pos h]
    have HJ := Lib.hid (join_at g a.toNat m.toNat m.toNat n f w hr hf (by omega) (by omega) hn)
    have HF : Hid (Calls Tryz.prog 107 #[.pointer (some ⟨b, 0, none⟩), .int .u32 a, .int .i64 m, .int .i64 1] w fun e w' => e = .returned (.tuple #[.slice (some ⟨g, a.toNat, none⟩) m.toNat m.toNat, .int .i64 0]) ∧ w = w') := by
      rcases hm1 with rfl | rfl
      · exact (find_bytes b g n a 1 w hc hn ha0 (by decide) ham).mono fun e w' ⟨⟨p, h1, h2⟩, h3⟩ => ⟨by rw [h1, h2 (by decide)], h3⟩
      · exact (find_words b g n a 1 w hc hn ha0 (hal rfl) (by decide) (by omega)).mono fun e w' ⟨⟨p, h1, h2⟩, h3⟩ => ⟨by rw [h1, h2 (by decide)]; rfl, h3⟩
    rw [h, e]
    clear h e hal hm1 ham hr hf hb hc
    go_enter Tryz.func53, Tryz.ntmps53
    go_wp2_with fail
    refine (HF.out).mono ?_; rintro e w1 ⟨rfl, rfl⟩
    go_wp2_with fail
    refine (HJ.out).mono ?_; rintro e w1 ⟨rfl, g1⟩
    go_wp2_with fail
    go_ret2
    exact ⟨rfl, g1⟩
  · have e : ldV n f a m = 0 := by unfold ldV; rw [if_neg h]
    rw [e]
    rw [← fdE_th] at h ⊢
    have HF := Lib.hid (find_no b g n a m 1 w hc hn ⟨ha0, ha1⟩ h)
    have h' : (fdE n a m 1 != 0) = true := by simpa using h
    clear h e hr hf hb hc
    generalize fdE n a m 1 = k at *
    go_enter Tryz.func53, Tryz.ntmps53
    go_wp2_with fail
    refine (HF.out).mono ?_; rintro e w1 ⟨rfl, rfl⟩
    go_wp2_with fail
    go_ret2
    exact ⟨rfl, Below.refl _ _⟩
theorem store_yes {w : World} {v : Value} {g n : Nat} {f : Nat → Int} (a m : Nat) (x : Int) (hA : MemAt w v g n f) (hx : 0 ≤ x ∧ x < 4294967296) (h : thE n a m = 0) :
    Calls Tryz.prog 90 #[v, .int .u32 a, .int .i64 m, .int .u32 x] w fun e w' => e = .returned (.int .i64 0) ∧ MemAt w' v g n (stB f a m x) ∧ w.grownBy w' (some g) := by
  have HA := Lib.hid hA
  obtain ⟨⟨b, rfl, hb⟩, hr, hf, hn⟩ := hA
  have hc : w.cell? ⟨b, 0, none⟩ = some (.slice (some ⟨g, 0, none⟩) n n) := row_cell hb rfl
  obtain ⟨hm1, ham⟩ := thE_ok h
  have hal : (m : Int) = 4 → (a : Int) % 4 = 0 := thE_al h
  have HS := Lib.hid (split_at g a m m n f x w hr (by omega) (by omega) hn hx)
  have HB := Lib.hid (stB_bytes hf a m x)
  have HF : Hid (Calls Tryz.prog 107 #[.pointer (some ⟨b, 0, none⟩), .int .u32 a, .int .i64 m, .int .i64 1] w fun e w' => e = .returned (.tuple #[.slice (some ⟨g, a, none⟩) m m, .int .i64 0]) ∧ w = w') := by
    rcases (by omega : m = 1 ∨ m = 4) with rfl | rfl
    · exact (find_bytes b g n a 1 w hc hn (by omega) (by decide) (by omega)).mono fun e w' ⟨⟨p, h1, h2⟩, h3⟩ => ⟨by rw [h1, h2 (by decide)]; rfl, h3⟩
    · exact (find_words b g n a 1 w hc hn (by omega) (hal rfl) (by decide) (by omega)).mono fun e w' ⟨⟨p, h1, h2⟩, h3⟩ => ⟨by rw [h1, h2 (by decide)]; rfl, h3⟩
  clear h hal hm1 ham hr hf hb hc hn
  go_enter Tryz.func90, Tryz.ntmps90
  go_wp2_with fail
  refine (HF.out).mono ?_; rintro e w1 ⟨rfl, rfl⟩
  go_wp2_with fail
  refine (HS.out).mono ?_; rintro e w1 ⟨rfl, r1, g1⟩
  go_wp2_with fail
  go_ret
  exact ⟨rfl, HA.out.stored g1 r1 HB.out, g1⟩
theorem store_no {w : World} {v : Value} {g n : Nat} {f : Nat → Int} (a m x : Int) (hA : MemAt w v g n f) (ha : 0 ≤ a ∧ a < 4294967296) (h : thE n a m ≠ 0) :
    Calls Tryz.prog 90 #[v, .int .u32 a, .int .i64 m, .int .u32 x] w fun e w' => e = .returned (.int .i64 (thE n a m)) ∧ Below w.heap.size w w' := by
  obtain ⟨⟨b, rfl, hb⟩, hr, hf, hn⟩ := hA
  have hc : w.cell? ⟨b, 0, none⟩ = some (.slice (some ⟨g, 0, none⟩) n n) := row_cell hb rfl
  rw [← fdE_th] at h ⊢
  have HF := Lib.hid (find_no b g n a m 1 w hc hn ha h)
  have h' : (fdE n a m 1 != 0) = true := by simpa using h
  clear h hr hf hb hc ha
  generalize fdE n a m 1 = k at *
  go_enter Tryz.func90, Tryz.ntmps90
  go_wp2_with fail
  refine (HF.out).mono ?_; rintro e w1 ⟨rfl, rfl⟩
  go_wp2_with fail
  go_ret
  exact ⟨rfl, Below.refl _ _⟩
theorem size_at {w : World} {v : Value} {g n : Nat} {f : Nat → Int} (hA : MemAt w v g n f) : Calls Tryz.prog 93 #[v] w fun e w' => e = .returned (.int .i64 n) ∧ Below w.heap.size w w' := by
  obtain ⟨⟨b, rfl, hb⟩, hr, hf, hn⟩ := hA
  have hc : w.cell? ⟨b, 0, none⟩ = some (.slice (some ⟨g, 0, none⟩) n n) := row_cell hb rfl
  clear hr hf hb
  go_enter Tryz.func93, Tryz.ntmps93
  go_wp2_with fail
  refine (isObject_yes b g n w hc).mono ?_; rintro e w1 ⟨rfl, rfl⟩
  go_wp2_with fail
  go_ret
  exact ⟨rfl, Below.refl _ _⟩
theorem not_word {w : World} {g n j : Nat} {f : Nat → Int} {x : Int} (hr : RowAt w g n f) : w.cell? ⟨g, j, none⟩ ≠ some (.int .u32 x) := fun h => by
  have h2 : w.cell? ⟨g, j, none⟩ = (brow f n)[j]? := cell_of_row _ _ _ _ _ _ hr
  rw [h2] at h
  by_cases hj : j < n
  · rw [brow_get f hj] at h; simp at h
  · rw [Array.getElem?_eq_none (by rw [brow_size]; omega)] at h; cases h
theorem cell_kept {w w' : World} {b g j : Nat} {v : Value} (k : w.grownBy w' (some g)) (hb : b ≠ g) (hc : w.cell? ⟨b, j, none⟩ = some v) : w'.cell? ⟨b, j, none⟩ = some v := by
  rw [← hc]
  simp only [World.cell?]
  rw [k.block b (block_lt_of_cell hc) (fun e => hb (by cases e; rfl))]
/-- The place of l words, at a that they may have. -/
theorem find_span {w : World} {b g n : Nat} (a l : Nat) (hc : w.cell? ⟨b, 0, none⟩ = some (.slice (some ⟨g, 0, none⟩) n n)) (hn : n ≤ 4194304) (h : spE n a l = 0) :
    Calls Tryz.prog 107 #[.pointer (some ⟨b, 0, none⟩), .int .u32 a, .int .i64 4, .int .i64 l] w fun e w' => (∃ p, e = .returned (.tuple #[.slice p (4 * l) (4 * l), .int .i64 0]) ∧ (0 < l → p = some ⟨g, a, none⟩)) ∧ w = w' := by
  obtain ⟨_, ha4, han, hal⟩ := spE_ok h
  exact (find_words b g n a l w hc hn (by omega) ha4 (by omega) (by omega)).mono fun e w' ⟨⟨p, h1, h2⟩, h3⟩ => ⟨⟨p, by rw [h1, show ((l : Int) * 4).toNat = 4 * l by omega], fun hl => h2 (by omega)⟩, h3⟩
theorem put_yes {w : World} {v t : Value} {g n l : Nat} {f h : Nat → Int} (a : Nat) (hA : MemAt w v g n f) (hs : Sl .u32 w t l h) (hh : ∀ i, 0 ≤ h i ∧ h i < 4294967296) (he : spE n a l = 0) :
    Calls Tryz.prog 91 #[v, .int .u32 a, t] w fun e w' => e = .returned (.int .i64 0) ∧ MemAt w' v g n (ptB f a h l) ∧ w.grownBy w' (some g) := by
  have HA := Lib.hid hA
  obtain ⟨⟨b, rfl, hb⟩, hr, hf, hn⟩ := hA
  have hc : w.cell? ⟨b, 0, none⟩ = some (.slice (some ⟨g, 0, none⟩) n n) := row_cell hb rfl
  obtain ⟨_, ha4, han, hal⟩ := spE_ok he
  have HF := Lib.hid (find_span a l hc hn he)
  have HB := Lib.hid (fun k => ptB_bytes hf a h k)
  have HH := Lib.hid hh
  have HR := Lib.hid hr
  obtain ⟨q, c, rfl, hcs⟩ := hs
  have HC : Hid (0 < l → ∃ z o, q = some ⟨z, o, none⟩ ∧ z ≠ g ∧ ∀ i, i < l → w.cell? ⟨z, o + i, none⟩ = some (.int .u32 (h i))) := fun hl => by
    obtain ⟨z, o, hq, hi⟩ := hcs hl
    exact ⟨z, o, hq, fun e => not_word hr (e ▸ hi 0 hl), hi⟩
  have hln : (l : Int) ≤ 4194304 := by omega
  clear he hcs hr hf hb hc hh
  go_enter Tryz.func91, Tryz.ntmps91
  go_wp2_with fail
  refine (HF.out).mono ?_; rintro e w1 ⟨⟨p, rfl, hp⟩, rfl⟩
  have HP := Lib.hid hp
  clear hp HF
  go_wp2_with fail
  go_loopw [24] (fun i wr => ∃ k : Nat, k ≤ l ∧ i = .int .i64 k ∧ RowAt wr g n (ptB f a h k) ∧ w.grownBy wr (some g)) (fun i _ => l - (intOf i).toNat)
  case atStart => exact ⟨0, by omega, rfl, HR.out, ⟨rfl, rfl, rfl, Nat.le_refl _, fun _ _ _ => rfl⟩⟩
  case round =>
    clear HR
    obtain ⟨k, hk, rfl, hrow, hg⟩ := hrel
    by_cases hlt : k < l
    · obtain ⟨z, o, rfl, hz, hci⟩ := HC.out (by omega)
      obtain rfl := HP.out (by omega)
      have hc := cell_kept hg hz (hci k hlt)
      have HW := Lib.hid (wordOf_at g a (4 * l) (4 * l) k wr (by omega) (by omega) (Nat.le_refl _) (by omega))
      rw [show ((k : Int) * 4).toNat = 4 * k by omega] at HW
      have HS := Lib.hid (fun c' => split_at g (a + 4 * k) 4 c' n (ptB f a h k) (h k) wr hrow (.inr rfl) (by omega) hn (HH.out k))
      have HG := Lib.hid hg
      clear hci hz hrow hg HC HP
      have hk32 : (k : Int) < 4194304 := by omega
      go_wp2_with fail
      refine (HW.out).mono ?_; rintro e w1 ⟨⟨c', rfl⟩, rfl⟩
      go_wp2_with fail
      refine (HS.out c').mono ?_; rintro e w1 ⟨rfl, r1, g1⟩
      have R1 := Lib.hid r1
      have G1 := Lib.hid (only_trans HG.out g1)
      clear r1 g1 HG HS HW
      go_wp2_with fail
      go_roundw
      case rel => exact ⟨k + 1, by omega, by go_num, R1.out, G1.out⟩
      case measure => simp [intOf]; omega
    · obtain rfl : k = l := by omega
      have R1 := Lib.hid hrow
      have G1 := Lib.hid hg
      clear hrow hg
      go_wp2_with fail
      go_ret
      exact ⟨rfl, HA.out.stored G1.out R1.out (HB.out k), G1.out⟩
theorem words_no {w : World} {v : Value} {g n : Nat} {f : Nat → Int} (a m : Int) (hA : MemAt w v g n f) (ha : 0 ≤ a ∧ a < 4294967296) (he : spE n a m ≠ 0) :
    Calls Tryz.prog 35 #[v, .int .u32 a, .int .i64 m] w fun e w' => ∃ s, e = .returned (.tuple #[s, .int .i64 (spE n a m)]) ∧ Sl .u32 w' s 0 (fun _ => 0) ∧ Below w.heap.size w w' := by
  obtain ⟨⟨b, rfl, hb⟩, hr, hf, hn⟩ := hA
  have hc : w.cell? ⟨b, 0, none⟩ = some (.slice (some ⟨g, 0, none⟩) n n) := row_cell hb rfl
  rw [← fdE_sp] at he ⊢
  have HF := Lib.hid (find_no b g n a 4 m w hc hn ha he)
  have h' : (fdE n a 4 m != 0) = true := by simpa using he
  clear he hr hf hb hc ha
  generalize fdE n a 4 m = k at *
  go_enter Tryz.func35, Tryz.ntmps35
  go_wp2_with fail
  refine (HF.out).mono ?_; rintro e w1 ⟨rfl, rfl⟩
  go_wp2_with fail
  go_ret2
  exact ⟨_, rfl, Sl.nil _ _ _ _ _, Below.refl _ _⟩
/-- The first k words told, the others not yet. -/
def toldTo (f : Nat → Int) (a k : Nat) : Nat → Int := fun i => if i < k then wdB f a i else 0
theorem toldTo_succ (f : Nat → Int) (a k : Nat) : updB (toldTo f a k) k (wdB f a k) = toldTo f a (k + 1) := by
  funext i
  unfold updB toldTo
  by_cases e : i = k
  · subst e; rw [if_pos rfl, if_pos (by omega)]
  · rw [if_neg e]
    by_cases h : i < k
    · rw [if_pos h, if_pos (by omega)]
    · rw [if_neg h, if_neg (by omega)]
theorem words_yes {w : World} {v : Value} {g n : Nat} {f : Nat → Int} (a m : Nat) (hA : MemAt w v g n f) (he : spE n a m = 0) :
    Calls Tryz.prog 35 #[v, .int .u32 a, .int .i64 m] w fun e w' => ∃ s, e = .returned (.tuple #[s, .int .i64 0]) ∧ Sl .u32 w' s m (wdB f a) ∧ Below w.heap.size w w' := by
  have HA := Lib.hid hA
  obtain ⟨⟨b, rfl, hb⟩, hr, hf, hn⟩ := hA
  have hc : w.cell? ⟨b, 0, none⟩ = some (.slice (some ⟨g, 0, none⟩) n n) := row_cell hb rfl
  obtain ⟨_, ha4, han, hal⟩ := spE_ok he
  have HF := Lib.hid (find_span a m hc hn he)
  have HR := Lib.hid hr
  have HBf := Lib.hid hf
  have hmk := run_make_row' (P := Tryz.prog) 25 22 (.int .u32 0) 4 Tryz.underlying25 u32_parts' rfl .i64 .i64 m (by omega) (by omega) w
  rw [made_words] at hmk
  have H0 : Hid ((w.alloc (.cells (bsL .u32 (fun _ => 0) m).toArray 22)).heap[w.heap.size]? = some (.cells (bsL .u32 (toldTo f a 0) m).toArray 22 (0, 0))) := heap_alloc_last _ _
  have G0 := born_bel w (.cells (bsL .u32 (fun _ => 0) m).toArray 22)
  have hmn : (m : Int) ≤ 4194304 := by omega
  clear he hr hf hb hc
  go_enter Tryz.func35, Tryz.ntmps35
  go_wp2_with fail
  refine (HF.out).mono ?_; rintro e w1 ⟨⟨p, rfl, hp⟩, rfl⟩
  have HP := Lib.hid hp
  clear hp HF
  generalize hW : w.alloc (.cells (bsL .u32 (fun _ => 0) m).toArray 22) = W at *
  clear hW
  go_wp2_with fail
  go_loopw [26] (fun i wr => ∃ k : Nat, k ≤ m ∧ i = .int .i64 k ∧ wr.heap[w.heap.size]? = some (.cells (bsL .u32 (toldTo f a k) m).toArray 22 (0, 0)) ∧ Below w.heap.size w wr) (fun i _ => m - (intOf i).toNat)
  case atStart => exact ⟨0, by omega, rfl, H0.out, G0⟩
  case round =>
    clear H0 G0
    obtain ⟨k, hk, rfl, hrow, hg⟩ := hrel
    by_cases hlt : k < m
    · obtain rfl := HP.out (by omega)
      have HW := Lib.hid (wordOf_at g a (4 * m) (4 * m) k wr (by omega) (by omega) (Nat.le_refl _) (by omega))
      rw [show ((k : Int) * 4).toNat = 4 * k by omega] at HW
      have HJ := Lib.hid (fun c' => join_at g (a + 4 * k) 4 c' n f wr (HR.out.bel hg) HBf.out (Nat.le_refl _) (by omega) hn)
      have HRow := Lib.hid hrow
      have HG := Lib.hid hg
      clear hrow hg HP
      have hk32 : (k : Int) < 4194304 := by omega
      go_wp2_with fail
      refine (HW.out).mono ?_; rintro e w1 ⟨⟨c', rfl⟩, rfl⟩
      go_wp2_with fail
      refine (HJ.out c').mono ?_; rintro e w1 ⟨rfl, g1⟩
      have r1 := bel_heap g1 HRow.out
      have hcell : w1.cell? ⟨w.heap.size, k, none⟩ = some (.int .u32 (toldTo f a k k)) := row_cell r1 (by simpa using bsL_get .u32 _ hlt)
      have hfz : w1.frozen? ⟨w.heap.size, k, none⟩ = false := row_frozen r1
      have R1 : Hid ((w1.setCell ⟨w.heap.size, k, none⟩ (.int .u32 (ldB f (a + 4 * k) 4))).heap[w.heap.size]? = some (.cells (bsL .u32 (toldTo f a (k + 1)) m).toArray 22 (0, 0))) := by
        have := heap_setCell_same w1 w.heap.size k _ _ (.int .u32 (ldB f (a + 4 * k) 4)) r1
        rw [← toldTo_succ f a k, ← bsL_set]
        exact Lib.hid (by simpa [wdB] using this)
      have G1 := Lib.hid (only_bel HG.out (only_cell (bel_only g1 w.heap.size) k (.int .u32 (ldB f (a + 4 * k) 4))) (Nat.le_refl _))
      clear r1 g1 HG HW HJ HRow
      go_wp2_with fail
      go_roundw
      case rel => exact ⟨k + 1, by omega, by go_num, R1.out, G1.out⟩
      case measure => simp [intOf]; omega
    · obtain rfl : k = m := by omega
      have R1 := Lib.hid hrow
      have G1 := Lib.hid hg
      clear hrow hg
      go_wp2_with fail
      go_ret2
      exact ⟨_, rfl, ⟨_, _, rfl, fun _ => ⟨_, 0, rfl, fun i hi => by
        rw [Nat.zero_add]
        refine row_cell R1.out ?_
        have := bsL_get .u32 (toldTo f a k) hi
        rw [show toldTo f a k i = wdB f a i by unfold toldTo; rw [if_pos hi]] at this
        simpa using this⟩⟩, G1.out⟩
end Go.Proofs.YtiobgnelhiadbaaGreatDoor.M5
