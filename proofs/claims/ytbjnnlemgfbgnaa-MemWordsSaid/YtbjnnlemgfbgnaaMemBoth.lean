/- What is done to a memory and to the document's bytes: both answer alike and have the same bytes after. -/
import Derived.Test.YtbjnnlemgfbgnaaMemKeeps
namespace Go.Proofs.Ytbjnnlemgfbgnaa
open Go.RowKit
set_option linter.unusedVariables false
/-- A slice that does not lie in block z. -/
def Off (s : Value) (n z : Nat) : Prop := 0 < n → ∀ b o m c, s = .slice (some ⟨b, o, none⟩) m c → b ≠ z
theorem Sl.off {k : IntKind} {w : World} {s : Value} {n z : Nat} {f : Nat → Int} (h : Sl k w s n f) (hz : w.heap.size ≤ z) : Off s n z := by
  obtain ⟨p, c, rfl, h⟩ := h
  intro hn b o m c' e hb
  subst hb
  cases e
  obtain ⟨b', o', e', hc⟩ := h hn
  cases e'
  have := block_lt_of_cell (hc 0 hn)
  simp at this
  omega
theorem own_off {k : IntKind} {w : World} {B : Nat} {t : TypeId} {s : Value} {n z : Nat} {f : Nat → Int} (h : w.ownsRow B t 1 s n (bsL k f n)) (hz : z < B) : Off s n z := by
  intro hn b o m c e hb
  obtain ⟨g, c', rfl, hg⟩ := own_form h hn
  cases e
  omega
theorem Sl.only {k : IntKind} {w w' : World} {s : Value} {n z : Nat} {f : Nat → Int} (h : Sl k w s n f) (g : w.grownBy w' (some z)) (ho : Off s n z) : Sl k w' s n f := by
  obtain ⟨p, c, rfl, h⟩ := h
  refine ⟨p, c, rfl, fun hn => ?_⟩
  obtain ⟨b, o, rfl, hc⟩ := h hn
  refine ⟨b, o, rfl, fun i hi => ?_⟩
  have hb := ho hn b o n c rfl
  have hl := block_lt_of_cell (hc i hi)
  rw [← hc i hi]
  simp only [World.cell?]
  rw [g.block b hl (fun e => hb (by cases e; rfl))]
set_option maxHeartbeats 1000000 in
theorem rput_off (s t : Value) (n l : Nat) (f g : Nat → Int) (a : Nat) (w : World) (hn : n ≤ 4194304) (hs : Sl .u8 w s n f) (ht : Sl .u32 w t l g) (hg : ∀ i, 0 ≤ g i ∧ g i < 4294967296) (h : spE n a l = 0) :
    Calls Try.prog 15 #[s, .int .u32 a, t] w fun e w' => ∃ s', e = .returned (.tuple #[s', .int .i64 0]) ∧ Sl .u8 w' s' n (ptB f a g l) ∧ (∀ z, z < w.heap.size → Off s n z → Off s' n z) ∧ Below w.heap.size w w' := by
  obtain ⟨_, ha4, han, hal⟩ := spE_ok h
  have HS := Lib.hid hs
  obtain ⟨p, c, rfl, _⟩ := hs
  have HL := Lib.hid ht
  obtain ⟨q, d, rfl, _⟩ := ht
  have HT := Lib.hid (fun W => rspan_at p n c a l W hn (by omega) (by omega))
  rw [h] at HT
  have HG := Lib.hid hg
  clear hg h
  go_enter Try.func15, Try.ntmps15
  go_wp2_with fail
  refine (HT.out _).mono ?_; rintro e w1 ⟨rfl, rfl⟩
  clear HT
  go_wp2_with fail
  go_loopw [0, 9] (fun s i wr => ∃ k : Nat, k ≤ l ∧ i = .int .i64 k ∧ Sl .u8 wr s n (ptB f a g k) ∧ Hid (∀ z, z < w.heap.size → Off (.slice p n c) n z → Off s n z) ∧ Below w.heap.size w wr) (fun _ i _ => l - (intOf i).toNat)
  case atStart => exact ⟨0, by omega, rfl, HS.out, fun _ _ h => h, Below.refl _ _⟩
  case round =>
    clear HS
    obtain ⟨k, hk, rfl, hs, HO, hx⟩ := hrel
    by_cases hlt : k < l
    · obtain ⟨q', d', hq, hcs⟩ := HL.out
      obtain ⟨rfl, rfl⟩ : q = q' ∧ d = d' := by simp only [Value.slice.injEq, true_and] at hq; exact hq
      obtain ⟨b, o, rfl, hcc⟩ := hcs (by omega)
      have hc := bel_cell hx (hcc k hlt)
      have HSt : Hid (∀ (W : World) (x : Value), Sl .u8 W x n (ptB f a g k) → Calls Try.prog 13 #[x, .int .u32 ((a : Int) + 4 * (k : Int)), .int .i64 4, .int .u32 (g k)] W fun e w' => ∃ s', e = .returned (.tuple #[s', .int .i64 0]) ∧ w'.ownsRow W.heap.size 5 1 s' n (bsL .u8 (ptB f a g (k + 1)) n) ∧ Below W.heap.size W w') := fun W x h => by
        have := rstore_yes x n (ptB f a g k) (a + 4 * k) 4 (g k) W hn h (HG.out k) (by unfold thE; rw [if_neg (by omega), if_neg (by omega), if_neg (by omega)])
        rw [show ((a + 4 * k : Nat) : Int) = (a : Int) + 4 * (k : Int) by omega] at this
        exact this
      have hk4 : 4 * (k : Int) < 4194304 := by omega
      have hak : (a : Int) + 4 * (k : Int) < 4194304 := by omega
      have hkl : (k : Int) < l := by omega
      have hk32 : (k : Int) < 4294967296 := by omega
      have HH := Lib.hid hs
      clear hs hcs hq hcc
      go_wp2_with fail
      refine (HSt.out _ _ HH.out).mono ?_; rintro e w2 ⟨s2, rfl, own2, g2⟩
      have S2 := Lib.hid (own_sl own2)
      have O2 : Hid (∀ z, z < w.heap.size → Off (.slice p n c) n z → Off s2 n z) := fun z hz _ => own_off own2 (by have := hx.size; simp at this ⊢; omega)
      have G2 := bel_trans hx g2
      clear own2 g2 HSt HH hx HO
      go_wp2_with fail
      go_roundw
      case rel => exact ⟨k + 1, by omega, by go_num, S2.out, O2, G2⟩
      case measure => simp [intOf]; omega
    · obtain rfl : k = l := by omega
      have HH := Lib.hid hs
      clear hs
      go_wp2_with fail
      go_ret2
      exact ⟨_, rfl, HH.out, HO.out, hx⟩
theorem spE_nat {n a m : Int} (h : spE n a m = 0) : 0 ≤ m := (spE_ok h).1
/-! Both sides. -/
theorem store_both (M : MemC) (n : Nat) (f : Nat → Int) (ad mn x : Int) (hn : n ≤ 4194304) (ha : 0 ≤ ad ∧ ad < 4294967296) (hm : -9223372036854775808 ≤ mn ∧ mn ≤ 9223372036854775807) (hx : 0 ≤ x ∧ x < 4294967296) :
    ∃ (kk : Int) (F : Nat → Int),
      (∀ W q, Sl .u8 W q n f → Calls Try.prog 13 #[q, .int .u32 ad, .int .i64 mn, .int .u32 x] W fun e w' => ∃ q', e = .returned (.tuple #[q', .int .i64 kk]) ∧ Sl .u8 w' q' n F ∧ (∀ z, z < W.heap.size → Off q n z → Off q' n z) ∧ Below W.heap.size W w') ∧
      (∀ W v g, M.At W v g n f → Calls Try.prog 14 #[v, .int .u32 ad, .int .i64 mn, .int .u32 x] W fun e w' => e = .returned (.int .i64 kk) ∧ M.At w' v g n F ∧ W.grownBy w' (some g)) := by
  obtain ⟨a, rfl⟩ : ∃ a : Nat, ad = a := ⟨ad.toNat, by omega⟩
  by_cases h : thE n a mn = 0
  · obtain ⟨m, rfl⟩ : ∃ m : Nat, mn = m := ⟨mn.toNat, by have := thE_ok h; omega⟩
    refine ⟨0, stB f a m x, fun W q hq => ?_, fun W v g hA => M.store_yes a m x hA hx h⟩
    exact (rstore_yes q n f a m x W hn hq hx h).mono fun e w' ⟨q', h1, h2, h3⟩ => ⟨q', h1, own_sl h2, fun z hz _ => own_off h2 hz, h3⟩
  · refine ⟨thE n a mn, f, fun W q hq => ?_, fun W v g hA => (M.store_no a mn x hA ha hm hx h).mono fun e w' ⟨h1, h2⟩ => ⟨h1, M.bel hA h2, bel_only h2 g⟩⟩
    have hq' := hq
    obtain ⟨p, c, rfl, _⟩ := hq'
    exact (rstore_no p n c a mn x W hn ha h).mono fun e w' ⟨h1, h2⟩ => ⟨_, h1, h2 ▸ hq, fun z _ h => h, h2 ▸ Below.refl _ _⟩
theorem put_both (M : MemC) (n l : Nat) (f h : Nat → Int) (ad : Int) (hn : n ≤ 4194304) (ha : 0 ≤ ad ∧ ad < 4294967296) (hl : l ≤ 60) (hh : ∀ i, 0 ≤ h i ∧ h i < 4294967296) :
    ∃ (kk : Int) (F : Nat → Int),
      (∀ W q t, Sl .u8 W q n f → Sl .u32 W t l h → Calls Try.prog 15 #[q, .int .u32 ad, t] W fun e w' => ∃ q', e = .returned (.tuple #[q', .int .i64 kk]) ∧ Sl .u8 w' q' n F ∧ (∀ z, z < W.heap.size → Off q n z → Off q' n z) ∧ Below W.heap.size W w') ∧
      (∀ W v g t, M.At W v g n f → Sl .u32 W t l h → Calls Try.prog 16 #[v, .int .u32 ad, t] W fun e w' => e = .returned (.int .i64 kk) ∧ M.At w' v g n F ∧ W.grownBy w' (some g)) := by
  obtain ⟨a, rfl⟩ : ∃ a : Nat, ad = a := ⟨ad.toNat, by omega⟩
  by_cases hs : spE n a l = 0
  · exact ⟨0, ptB f a h l, fun W q t hq ht => rput_off q t n l f h a W hn hq ht hh hs, fun W v g t hA ht => M.put_yes a hA ht hh hs⟩
  · refine ⟨spE n a l, f, fun W q t hq ht => ?_, fun W v g t hA ht => (M.put_no a hA ht ha (by omega) hs).mono fun e w' ⟨h1, h2⟩ => ⟨h1, M.bel hA h2, bel_only h2 g⟩⟩
    have hq' := hq
    obtain ⟨p, c, rfl, _⟩ := hq'
    obtain ⟨p2, d, rfl, _⟩ := ht
    exact (rput_no p n c a p2 l d W hn ha (by omega) hs).mono fun e w' ⟨h1, h2⟩ => ⟨_, h1, h2 ▸ hq, fun z _ h => h, h2 ▸ Below.refl _ _⟩
theorem words_both (M : MemC) (n : Nat) (f : Nat → Int) (ad mn : Int) (hn : n ≤ 4194304) (hf : Bytes f) (ha : 0 ≤ ad ∧ ad < 4294967296) (hm : -9223372036854775808 ≤ mn ∧ mn ≤ 9223372036854775807) :
    ∃ (kk : Int) (m : Nat) (F : Nat → Int), m ≤ 4194304 ∧
      (∀ W q, Sl .u8 W q n f → Calls Try.prog 18 #[q, .int .u32 ad, .int .i64 mn] W fun e w' => ∃ s, e = .returned (.tuple #[s, .int .i64 kk]) ∧ Sl .u32 w' s m F ∧ Below W.heap.size W w') ∧
      (∀ W v g, M.At W v g n f → Calls Try.prog 17 #[v, .int .u32 ad, .int .i64 mn] W fun e w' => ∃ s, e = .returned (.tuple #[s, .int .i64 kk]) ∧ Sl .u32 w' s m F ∧ Below W.heap.size W w') := by
  obtain ⟨a, rfl⟩ : ∃ a : Nat, ad = a := ⟨ad.toNat, by omega⟩
  by_cases h : spE n a mn = 0
  · obtain ⟨m, rfl⟩ : ∃ m : Nat, mn = m := ⟨mn.toNat, by have := spE_ok h; omega⟩
    refine ⟨0, m, wdB f a, by have := spE_ok h; omega, fun W q hq => ?_, fun W v g hA => M.words_yes a m hA h⟩
    exact (rwords_yes q n m f a W hn hq hf h).mono fun e w' ⟨q', h1, h2, h3⟩ => ⟨q', h1, own_sl h2, h3⟩
  · refine ⟨spE n a mn, 0, fun _ => 0, by omega, fun W q hq => ?_, fun W v g hA => M.words_no a mn hA ha hm h⟩
    obtain ⟨p, c, rfl, _⟩ := hq
    exact (rwords_no p n c a mn W hn ha hm.2 h).mono fun e w' ⟨h1, h2⟩ => ⟨_, h1, Sl.nil _ _ _ _ _, h2 ▸ Below.refl _ _⟩
theorem load_both (M : MemC) (n : Nat) (f : Nat → Int) (ad mn : Int) (hn : n ≤ 4194304) (hf : Bytes f) (ha : 0 ≤ ad ∧ ad < 4294967296) (hm : -9223372036854775808 ≤ mn ∧ mn ≤ 9223372036854775807) :
    ∃ (r kk : Int),
      (∀ W q, Sl .u8 W q n f → Calls Try.prog 21 #[q, .int .u32 ad, .int .i64 mn] W fun e w' => e = .returned (.tuple #[.int .u32 r, .int .i64 kk]) ∧ Below W.heap.size W w') ∧
      (∀ W v g, M.At W v g n f → Calls Try.prog 20 #[v, .int .u32 ad, .int .i64 mn] W fun e w' => e = .returned (.tuple #[.int .u32 r, .int .i64 kk]) ∧ Below W.heap.size W w') := by
  obtain ⟨a, rfl⟩ : ∃ a : Nat, ad = a := ⟨ad.toNat, by omega⟩
  refine ⟨ldV n f a mn, thE n a mn, fun W q hq => ?_, fun W v g hA => M.load a mn hA ha hm⟩
  by_cases h : thE n a mn = 0
  · obtain ⟨m, rfl⟩ : ∃ m : Nat, mn = m := ⟨mn.toNat, by have := thE_ok h; omega⟩
    have := rload_yes q n f a m W hn hq hf h
    unfold ldV
    rw [if_pos h, h]
    exact this
  · obtain ⟨p, c, rfl, _⟩ := hq
    unfold ldV
    rw [if_neg h]
    exact (rload_no p n c a mn W hn ha h).mono fun e w' ⟨h1, h2⟩ => ⟨h1, h2 ▸ Below.refl _ _⟩
end Go.Proofs.Ytbjnnlemgfbgnaa
