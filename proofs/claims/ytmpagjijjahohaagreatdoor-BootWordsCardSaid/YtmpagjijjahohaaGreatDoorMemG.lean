/- The document's memory (layer 5), a list of bytes: what each of its functions comes to, for any arguments. What layer 5's statements want of package mem, as one bundle of contracts: 'At w v g n f' says that in world w the value v is a memory of n bytes, byte i being f i, which lie in block g. -/
import Derived.Test.YtmpagjijjahohaaGreatDoorBaseG
import Derived.Deep.QuietTactic
import Derived.BigQuiet
import Derived.Deep.RegionHeld3
namespace Go.Proofs.YtmpagjijjahohaaGreatDoor.M5
open Go.RowKit
set_option linter.unusedVariables false
theorem int_eq {a b : Int} (h : a = b) : Ending.returned (.int .i64 a) = Ending.returned (.int .i64 b) := by rw [h]
/-- May a memory have a size? -/
def MaySize (n : Int) : Prop := 0 ≤ n ∧ n ≤ 4194304 ∧ n % 4 = 0
theorem byte_parts : (Tryz.prog.info? 5).map (fun i => (i.zero, i.size, i.bytes)) = some (some (.int .u8 0), 1, 1) := by kernel_rfl
theorem byte_under : Tryz.prog.underlying 42 = some (.slice 5) := by kernel_rfl
theorem bel_grown {w w' : World} (g : Below w.heap.size w w') : w.grownBy w' none := ⟨g.os, g.tape, g.output, g.size, fun i hi _ => g.block i hi⟩
theorem own_none {w : World} {B : Nat} {t : TypeId} {n : Nat} {s : Value} {xs : List Value} (h : w.ownsRow B t 1 s n xs) : s.ownBlock = none ∨ s.ownBlock ≠ none := by
  cases s.ownBlock <;> simp
theorem own_at {k : IntKind} {w : World} {B : Nat} {t : TypeId} {s : Value} {n : Nat} {f : Nat → Int} (h : w.ownsRow B t 1 s n (bsL k f n)) : Sl k w s n f := own_sl h
/-- The words from a on. -/
def wdB (f : Nat → Int) (a : Nat) : Nat → Int := fun i => ldB f (a + 4 * i) 4
theorem word_parts : (Tryz.prog.info? 32).map (fun i => (i.zero, i.size, i.bytes)) = some (some (.int .u32 0), 1, 4) := by kernel_rfl
theorem word_under : Tryz.prog.underlying 26 = some (.slice 32) := by kernel_rfl
end Go.Proofs.YtmpagjijjahohaaGreatDoor.M5
namespace Go.Proofs.YtmpagjijjahohaaGreatDoor.M5
open Go.RowKit
set_option linter.unusedVariables false
/-- What a load says: the word or byte, or 0 with an error. -/
def ldV (n : Nat) (f : Nat → Int) (a m : Int) : Int := if thE n a m = 0 then ldB f a.toNat m.toNat else 0
/-! Two rows of words that are the same. -/
set_option maxHeartbeats 1000000 in
theorem words_same (s t : Value) (m : Nat) (f g : Nat → Int) (w : World) (hm : m ≤ 4194304) (h1 : Sl .u32 w s m f) (h2 : Sl .u32 w t m g) (he : ∀ i, i < m → f i = g i) :
    Calls Tryz.prog 14 #[s, t] w fun e w' => e = .returned (.bool true) ∧ Below w.heap.size w w' := by
  obtain ⟨p, c, rfl, h1⟩ := h1
  obtain ⟨q, d, rfl, h2⟩ := h2
  have H1 := Lib.hid h1
  have H2 := Lib.hid h2
  have HE := Lib.hid he
  clear h1 h2 he
  go_enter Tryz.func14, Tryz.ntmps14
  go_wp2
  go_loopw [5] (fun i wr => ∃ k : Nat, k ≤ m ∧ i = .int .i64 k ∧ Below w.heap.size w wr) (fun i _ => m - (intOf i).toNat)
  case atStart => exact ⟨0, by omega, rfl, Below.refl _ _⟩
  case round =>
    obtain ⟨k, hk, rfl, hg⟩ := hrel
    by_cases hlt : k < m
    · obtain ⟨a, o, rfl, ha⟩ := H1.out (by omega)
      obtain ⟨b, r, rfl, hb⟩ := H2.out (by omega)
      have ca := bel_cell hg (ha k hlt)
      have cb := bel_cell hg (hb k hlt)
      rw [← HE.out k hlt] at cb
      have hk32 : k < 4194304 := by omega
      clear ha hb H1 H2
      go_wp2
      go_quiet (fail)
      go_wp2
      go_roundw
      case rel => exact ⟨k + 1, by omega, by go_num, bel_drewN hg _⟩
      case measure => simp [intOf]; omega
    · obtain rfl : k = m := by omega
      go_wp2
      go_ret
      exact ⟨rfl, hg⟩
theorem thE_byte {n k : Nat} (h : k < n) : thE n k 1 = 0 := by unfold thE; rw [if_neg (by omega), if_neg (by omega), if_neg (by omega)]
theorem ldV_byte {n k : Nat} (f : Nat → Int) (h : k < n) : ldV n f k 1 = f k := by
  unfold ldV; rw [if_pos (thE_byte h)]; simp [ldB]
end Go.Proofs.YtmpagjijjahohaaGreatDoor.M5
