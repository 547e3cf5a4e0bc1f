/- The walk of layer 4's statement PsrTurns: it returns true; of what was there nothing has turned. -/
import Derived.Test.YtilocfcedcclfaaDoorPsrCircle
namespace Go.Proofs.YtilocfcedcclfaaDoor
open Go.RowKit
set_option linter.unusedVariables false
/-- A slice's capacity. -/
def capOf : Value → Nat | .slice _ _ c => c | _ => 0
theorem row_cap {w : World} {B m : Nat} {s : Value} {x n : Int} (h : Row w B s x n m) : m ≤ capOf s := by
  obtain ⟨_, h | ⟨g, cap, cur, rfl, _, _, h1, _⟩⟩ := h
  · obtain ⟨rfl, rfl⟩ := h; exact Nat.le_refl _
  · exact h1
set_option maxHeartbeats 4000000 in
set_option maxRecDepth 100000 in
theorem turns_walk (nw wi iv : Int) (w0 : 0 ≤ nw ∧ nw < 256) (w1 : 0 ≤ wi ∧ wi < 256) (w2 : 0 ≤ iv ∧ iv < 256) (w : World) (hT : TabAt w) :
    Calls Tryd.prog 6 #[.int .u8 nw, .int .u8 wi, .int .u8 iv] w fun e w' => e = .returned (.bool true) ∧ Below w.heap.size w w' := by
  have HT := Lib.hid hT
  clear hT
  go_enter Tryd.func6, Tryd.ntmps6
  go_wp2_with fail
  obtain ⟨m, hm⟩ : ∃ m : Nat, 2 + nw % 31 = (m : Int) := ⟨(2 + nw % 31).toNat, by omega⟩
  rw [hm]
  have hm2 : 2 ≤ m := by omega
  have hm32 : m ≤ 32 := by omega
  clear hm w0
  go_quiet (fail)
  obtain ⟨a, ha⟩ : ∃ a : Int, wi % (m : Int) = a := ⟨_, rfl⟩
  have ha0 : 0 ≤ a := by rw [← ha]; exact Int.emod_nonneg _ (by omega)
  have ha1 : a < m := by rw [← ha]; exact Int.emod_lt_of_pos _ (by omega)
  obtain ⟨y, hy⟩ : ∃ y : Nat, iv % (m : Int) = y := ⟨(iv % (m : Int)).toNat, (Int.toNat_of_nonneg (Int.emod_nonneg _ (by omega))).symm⟩
  have hy1 : (y : Int) < m := by rw [← hy]; exact Int.emod_lt_of_pos _ (by omega)
  rw [ha, hy]
  clear ha hy w1 w2
  have G0 : Below w.heap.size w (w.drewN nq) := bel_drewN (Below.refl _ _) nq
  generalize w.drewN nq = V at *
  -- the window after the invalid one
  obtain ⟨z, hz⟩ : ∃ z : Nat, ((y : Int) + 1) % (m : Int) = z := ⟨(((y : Int) + 1) % (m : Int)).toNat, (Int.toNat_of_nonneg (Int.emod_nonneg _ (by omega))).symm⟩
  have hz1 : (z : Int) < m := by rw [← hz]; exact Int.emod_lt_of_pos _ (by omega)
  have hda := dist_in ⟨ha0, ha1⟩ ⟨Int.natCast_nonneg y, hy1⟩
  have hdb := dist_in ⟨ha0, ha1⟩ ⟨Int.natCast_nonneg z, hz1⟩
  have hea : Hid (((y : Int) - a + m) % m = dist a y m) := dist_mod ⟨ha0, ha1⟩ ⟨Int.natCast_nonneg y, hy1⟩
  have heb : Hid (((z : Int) - a + m) % m = dist a z m) := dist_mod ⟨ha0, ha1⟩ ⟨Int.natCast_nonneg z, hz1⟩
  have hcase : Hid (dist a z m = dist a y m + 1 ∨ (dist a z m = 0 ∧ (z : Int) = a ∧ dist a y m = m - 1)) := dist_turn ⟨ha0, ha1⟩ ⟨Int.natCast_nonneg y, hy1⟩ hz (by omega)
  have hwy : Hid (∀ k : Nat, (k : Int) = dist a y m → win a m k = y) := fun k hk => (win_eq ⟨ha0, ha1⟩ ⟨Int.natCast_nonneg y, hy1⟩ (by omega)).2 hk
  obtain ⟨d, hd⟩ : ∃ d : Nat, dist a y m = d := ⟨(dist a y m).toNat, by omega⟩
  obtain ⟨f, hf⟩ : ∃ f : Nat, dist a z m = f := ⟨(dist a z m).toNat, by omega⟩
  have HR := Lib.hid (fun W (t : TabAt W) => Resident_yes a m y W t (by omega) (by omega) ha0 ha1 hy1)
  have HQ := Lib.hid (fun W (t : TabAt W) => Resident_yes a m z W t (by omega) (by omega) ha0 ha1 hz1)
  rw [hd] at hea hcase hwy HR hda
  rw [hf] at heb hcase HQ hdb
  rw [Int.toNat_natCast] at HR HQ
  clear hd hf
  go_wp2_with fail
  refine (Wim_yes y m _ (by omega) (by omega) hy1).mono ?_; rintro e u1 ⟨rfl, g1⟩
  have G1 := bel_trans G0 g1
  clear g1 G0
  go_wp2_with fail
  refine (Next_yes y m _ (by omega) (by omega) (by omega) hy1).mono ?_; rintro e u2 ⟨rfl, g2⟩
  rw [hz]
  have G2 := bel_trans G1 g2
  clear g2 G1 hz
  go_wp2_with fail
  refine (Wim_yes z m _ (by omega) (by omega) hz1).mono ?_; rintro e u3 ⟨rfl, g3⟩
  have G3 := bel_trans G2 g3
  clear g3 G2
  generalize pw y = py at *
  generalize pw z = pz at *
  go_wp2_with fail
  refine (HR.out _ (HT.out.bel G3)).mono ?_; rintro e u4 ⟨s, rfl, hs, g4⟩
  have G4 := bel_trans G3 g4
  have IS := row_ints hs
  clear g4 G3 HR hs
  go_wp2_with fail
  refine (HQ.out _ (HT.out.bel G4)).mono ?_; rintro e u5 ⟨t, rfl, ht, g5⟩
  have G5 := bel_trans G4 g5
  have IS := IS.bel g5
  obtain ⟨p, c, rfl, hp⟩ := IS
  have hcap := row_cap ht
  obtain ⟨q, c', rfl, hq⟩ := row_ints ht
  have hcap : f ≤ c' := hcap
  have HP := Lib.hid hp
  have HQ := Lib.hid hq
  clear g5 G4 ht hp hq
  have hea' := hea.out
  have heb' := heb.out
  clear hea heb
  have hd32 : d < 32 := by omega
  have hf32 : f < 32 := by omega
  rcases hcase.out with hA | ⟨hB, hza, hdm⟩
  · obtain rfl : f = d + 1 := by omega
    obtain ⟨g, rfl, hg⟩ := HQ.out (by omega)
    have cd : Hid (∀ W, Below u5.heap.size u5 W → W.cell? ⟨g, d, none⟩ = some (.int .i64 y)) := fun W hW => by have := bel_cell hW (hg d (by omega)); rw [hwy.out d rfl] at this; exact this
    have I1 : Hid (Ints u5 (.slice (some ⟨g, 0, none⟩) d c') d (win a m)) := ⟨_, _, rfl, fun _ => ⟨g, rfl, fun i hi => hg i (by omega)⟩⟩
    have I2 : Hid (Ints u5 (.slice p d c) d (win a m)) := ⟨_, _, rfl, HP.out⟩
    have hdc : (d : Int) ≤ c' := by omega
    have hdc' : d ≤ c' := by omega
    clear HP HQ hg hwy hcase hA
    go_wp2_with fail
    refine (ints_same _ _ d _ _ _ (by omega) I1.out I2.out (fun _ _ => rfl)).mono ?_; rintro e u6 ⟨rfl, g6⟩
    have cd6 := cd.out _ g6
    have G6 := bel_trans G5 g6
    clear cd I1 I2 g6 G5
    go_wp2_with fail
    refine (head_any _ (HT.out.bel G6)).mono ?_; rintro e u8 ⟨rfl, g8⟩
    go_wp2_with fail
    go_ret
    exact ⟨rfl, bel_trans G6 g8⟩
  · obtain rfl : f = 0 := by omega
    have hza' : ((z : Int) == a) = true := by simpa using hza
    clear HP HQ hwy hcase hB hza
    go_wp2_with fail
    refine (head_any _ (HT.out.bel G5)).mono ?_; rintro e u8 ⟨rfl, g8⟩
    go_wp2_with fail
    go_ret
    exact ⟨rfl, bel_trans G5 g8⟩
end Go.Proofs.YtilocfcedcclfaaDoor
