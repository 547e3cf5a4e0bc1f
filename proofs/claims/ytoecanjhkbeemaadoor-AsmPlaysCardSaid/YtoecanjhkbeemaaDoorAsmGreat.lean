/- Acts as they lie in memory (layer 7); great. -/
import Derived.Test.YtoecanjhkbeemaaDoorAsmDo
namespace Go.Proofs.YtoecanjhkbeemaaDoor.A7
open Go.RowKit Go.Maps
set_option linter.unusedVariables false
/-- What an act is bound by. -/
structure AcB (a : Ac) : Prop where
  what : 0 ≤ a.what ∧ a.what ≤ 255
  x : ∀ i, i < a.k → XB (a.X i)
  c : 0 ≤ a.c ∧ a.c ≤ 255
  u : 0 ≤ a.u ∧ a.u < 4294967296
  k : a.k ≤ 140737488355328
  nm : a.nm.size ≤ 140737488355328
/-- Acts in a slice, in blocks that H does not name. -/
def Acts (w : World) (H : Nat → Prop) (l : Value) (k : Nat) (A : Nat → Ac) : Prop :=
  ∃ p c, l = .slice p k c ∧ (0 < k → ∃ b o, p = some ⟨b, o, none⟩ ∧ ¬ H b ∧ ∀ i, i < k → ∃ lv, w.cell? ⟨b, o + i * 5, none⟩ = some (.int .u8 (A i).what) ∧ w.cell? ⟨b, o + i * 5 + 1, none⟩ = some lv ∧ Ins w H lv (A i).k (A i).X ∧ w.cell? ⟨b, o + i * 5 + 2, none⟩ = some (.string (A i).nm) ∧ w.cell? ⟨b, o + i * 5 + 3, none⟩ = some (.int .u8 (A i).c) ∧ w.cell? ⟨b, o + i * 5 + 4, none⟩ = some (.int .u32 (A i).u))
/-- What great counts. -/
def gsum (A : Nat → Ac) : Nat → Nat
  | 0 => 0
  | i + 1 => gsum A i + (A i).k + (A i).nm.size
theorem gsum_le (A : Nat → Ac) (k : Nat) (h : ∀ i, i < k → AcB (A i)) : ∀ j, j ≤ k → gsum A j ≤ j * 281474976710656
  | 0, _ => Nat.le_refl _
  | j + 1, hj => by
    have h1 := gsum_le A k h j (by omega)
    have h2 := (h j (by omega)).k
    have h3 := (h j (by omega)).nm
    simp only [gsum]; omega
def greatB (k : Nat) (A : Nat → Ac) : Bool := decide (60 < k ∨ 1000 < gsum A k)
set_option maxHeartbeats 2000000 in
theorem great_at {w : World} {l : Value} {k : Nat} {A : Nat → Ac} {H : Nat → Prop} (h : Acts w H l k A) (hA : ∀ i, i < k → AcB (A i)) (hk : k ≤ 140737488355328) :
    Calls Tryd.prog 5 #[l] w fun e w' => e = .returned (.bool (greatB k A)) ∧ Below w.heap.size w w' := by
  obtain ⟨p, c, rfl, hc⟩ := h
  have HC := Lib.hid hc
  have HA := Lib.hid hA
  have HG := Lib.hid (gsum_le A k hA)
  clear hc hA
  go_enter Tryd.func5, Tryd.ntmps5
  go_wp2_with fail
  go_loopw [3, 4] (fun n i wr => ∃ (j : Nat) (m : Int), j ≤ k ∧ i = .int .i64 j ∧ n = .int .i64 m ∧ (k ≤ 60 → m = gsum A j) ∧ Below w.heap.size w wr) (fun _ i _ => k - (intOf i).toNat)
  case atStart => exact ⟨0, 0, Nat.zero_le _, rfl, rfl, fun _ => rfl, Below.refl _ _⟩
  case round =>
    obtain ⟨j, m, hj, rfl, rfl, hm, G⟩ := hrel
    have HM := Lib.hid hm
    clear hm
    by_cases hlt : j < k
    · obtain ⟨b, o, rfl, hb, hcell⟩ := HC.out (by omega)
      obtain ⟨lv, c0, c1, ⟨ip, ic, rfl, _⟩, c2, c3, c4⟩ := hcell j hlt
      replace c1 := bel_cell G c1
      replace c2 := bel_cell G c2
      clear hcell c0 c3 c4
      have HLT := Lib.hid hlt
      have key : k ≤ 60 → wrap64 (wrap64 (m + (A j).k) + (A j).nm.size) = gsum A (j + 1) := fun h60 => by
        have h1 := HM.out h60
        have h2 := HG.out j hj
        have h3 := (HA.out j hlt).k
        have h4 := (HA.out j hlt).nm
        simp only [gsum]
        unfold wrap64
        omega
      have KEY := Lib.hid key
      have G := Lib.hid G
      clear key
      go_wp2_with fail
      go_quiet (fail)
      go_wp2_with fail
      go_roundw
      case rel => exact ⟨j + 1, _, HLT.out, rfl, rfl, KEY.out, by first | exact G.out | exact bel_drewN G.out _ | exact G.out.drew⟩
      case measure => have h9 := HLT.out; simp only [intOf]; omega
    · obtain rfl : j = k := by omega
      have e : greatB j A = (decide (60 < (j : Int)) || decide (1000 < m)) := by
        unfold greatB
        by_cases h60 : 60 < j
        · have h61 : 60 < (j : Int) := by omega
          rw [decide_eq_true (Or.inl h60), decide_eq_true h61]; rfl
        · have h61 : ¬ 60 < (j : Int) := by omega
          have h62 := HM.out (by omega)
          rw [decide_eq_false h61, Bool.false_or, h62]
          exact decide_eq_decide.2 ⟨fun h => h.elim (fun h => absurd h h60) fun h => by omega, fun h => .inr (by omega)⟩
      have E := Lib.hid e
      have G := Lib.hid G
      clear e
      go_wp2_with fail
      all_goals
        go_ret
        refine ⟨?_, G.out⟩
        rw [E.out]
        simp_all
end Go.Proofs.YtoecanjhkbeemaaDoor.A7
