/- boot (layer 11): Words and Start of a kit. -/
import Derived.Test.YtmpagjijjahohaaGreatDoorBootGK
import Derived.Test.YtmpagjijjahohaaGreatDoorAsmG
namespace Go.Proofs.YtmpagjijjahohaaGreatDoor.B11
open Go.RowKit
set_option linter.unusedVariables false
set_option maxRecDepth 100000 in
theorem start_of (kb i : Nat) (h31 : i < 31) (S : Nat → Option Value) (n : Int) (n1 : n < 100) (w : World) (hT : I2.Tab w) (h : KitAt w kb S n) (dT : kb ≠ 0) :
    Calls Tryz.prog 13 #[.pointer (some ⟨kb, 0, none⟩), .int .i64 ((i : Int) + 2)] w fun e w' => e = .returned (.tuple #[.int .u32 1600, .int .i64 0]) ∧ ∃ S' n', KitAt w' kb S' n' ∧ (S' i).isSome = true ∧ (∀ k, k ≠ i → S' k = S k) ∧ (n' = n + bump (S i)) ∧ w.grownBy w' (some kb) := by
  have C := Lib.hid (runtime_at kb i h31 S n n1 w hT h dT)
  clear h hT
  go_enter Tryz.func13, Tryz.ntmps13
  go_wp2_with fail
  refine C.out.mono ?_; rintro e w1 ⟨rfl, S', n', K, s1, s2, s3, g⟩
  have c4 : w1.cell? ⟨kb, 1 + 6 * i + 4, none⟩ = some (.int .u32 1600) := by
    rw [K.box.cell (by omega)]
    unfold kC
    rw [if_neg (by omega), if_neg (by omega), if_neg (by omega), if_neg (by omega), if_neg (by omega), if_neg (by omega), if_pos (by omega), show (1 + 6 * i + 4 - 1) / 6 = i by omega, if_pos s1]
  have HH : Hid (∃ S' n', KitAt w1 kb S' n' ∧ (S' i).isSome = true ∧ (∀ k, k ≠ i → S' k = S k) ∧ (n' = n + bump (S i)) ∧ w.grownBy w1 (some kb)) := ⟨S', n', K, s1, s2, s3, g⟩
  clear K s1 s2 s3 g
  go_wp2_with fail
  go_ret2
  exact ⟨rfl, HH.out⟩
set_option maxRecDepth 100000 in
theorem words_of (kb i : Nat) (h31 : i < 31) (S : Nat → Option Value) (n : Int) (n1 : n < 100) (w : World) (hT : I2.Tab w) (h : KitAt w kb S n) (dT : kb ≠ 0) :
    Calls Tryz.prog 10 #[.pointer (some ⟨kb, 0, none⟩), .int .i64 ((i : Int) + 2)] w fun e w' => ∃ v, e = .returned (.tuple #[v, .int .i64 0]) ∧ w'.ownsRow w.heap.size 32 1 v 405 (bsL .u32 (bF ((i : Int) + 2)) 405) ∧ ∃ S' n', KitAt w' kb S' n' ∧ (S' i).isSome = true ∧ (∀ k, k ≠ i → S' k = S k) ∧ (n' = n + bump (S i)) ∧ w.grownBy w' (some kb) := by
  have C := Lib.hid (runtime_at kb i h31 S n n1 w hT h dT)
  clear h hT
  go_enter Tryz.func10, Tryz.ntmps10
  go_wp2_with fail
  refine C.out.mono ?_; rintro e w1 ⟨rfl, S', n', K, s1, s2, s3, g⟩
  obtain ⟨v, hv⟩ := Option.isSome_iff_exists.1 s1
  have hO := K.words i v hv
  obtain ⟨g9, c9, rfl⟩ := own_form hO (by decide)
  have c4 : w1.cell? ⟨kb, 1 + 6 * i + 3, none⟩ = some (.slice (some ⟨g9, 0, none⟩) 405 c9) := by
    rw [K.box.cell (by omega)]
    unfold kC
    rw [if_neg (by omega), if_neg (by omega), if_neg (by omega), if_neg (by omega), if_neg (by omega), if_pos (by omega), show (1 + 6 * i + 3 - 1) / 6 = i by omega, hv]
    rfl
  have HO := Lib.hid hO
  have KK := Lib.hid K
  have S1 := Lib.hid s1
  have S2 := Lib.hid s2
  have S3 := Lib.hid s3
  have GG := Lib.hid g
  clear K s1 s2 s3 g hO hv
  go_wp2_with fail
  refine (A7.cloneW_at HO.out (by decide)).mono ?_; rintro e w2 ⟨v2, rfl, ho2, g2⟩
  go_wp2_with fail
  go_ret2
  refine ⟨v2, rfl, own_lessD ho2 GG.out.size, S', n', KK.out.bel g2, S1.out, S2.out, S3.out, ?_⟩
  exact ⟨g2.os.trans GG.out.os, g2.tape.trans GG.out.tape, g2.output.trans GG.out.output, Nat.le_trans GG.out.size g2.size, fun x hx hn => (g2.block x (Nat.lt_of_lt_of_le hx GG.out.size)).trans (GG.out.block x hx hn)⟩
set_option maxRecDepth 100000 in
theorem runtime_arg (kb : Nat) (nw : Int) (hn : ¬ (2 ≤ nw ∧ nw ≤ 32)) (S : Nat → Option Value) (n : Int) (w : World) (h : KitAt w kb S n) :
    Calls Tryz.prog 36 #[.pointer (some ⟨kb, 0, none⟩), .int .i64 nw] w fun e w' => e = .returned (.tuple #[.pointer none, .int .i64 2]) ∧ Below w.heap.size w w' := by
  obtain ⟨t1, t2, t3⟩ := two_in w kb nw
  have c2 := t1
  have c3 := t2
  have G1 := Lib.hid t3
  have H := Lib.hid (h.bel t3)
  have HN := Lib.hid hn
  clear t1 t2 t3 h hn
  go_enter Tryz.func36, Tryz.ntmps36
  go_upto_region 1 with (fail)
  change Code.wp _ _ _ _ ((w.alloc (.cells #[.pointer (some ⟨kb, 0, none⟩)] 23)).alloc (.cells #[.int .i64 nw] 3))
  generalize ((w.alloc (.cells #[.pointer (some ⟨kb, 0, none⟩)] 23)).alloc (.cells #[.int .i64 nw] 3)) = V at c2 c3 G1 H ⊢
  go_wp2_with fail
  refine (isObject_yes _ _ (H.out.box.cell (j := 0) (by decide))).mono ?_; rintro e w1 ⟨rfl, rfl⟩
  go_wp2_with fail
  refine (P4.Wim_no 0 _ _ (fun h => HN.out ⟨h.1, h.2.1⟩)).mono ?_; rintro e w2 ⟨rfl, g2⟩
  have G2 := Lib.hid (bel_trans G1.out g2)
  clear g2 c2 c3
  go_wp2_with fail
  go_ret2
  exact ⟨rfl, G2.out⟩
theorem words_arg (kb : Nat) (nw : Int) (hn : ¬ (2 ≤ nw ∧ nw ≤ 32)) (S : Nat → Option Value) (n : Int) (w : World) (h : KitAt w kb S n) :
    Calls Tryz.prog 10 #[.pointer (some ⟨kb, 0, none⟩), .int .i64 nw] w fun e w' => e = .returned (.tuple #[.slice none 0 0, .int .i64 2]) ∧ Below w.heap.size w w' := by
  have C := Lib.hid (runtime_arg kb nw hn S n w h)
  clear h hn
  go_enter Tryz.func10, Tryz.ntmps10
  go_wp2_with fail
  refine C.out.mono ?_; rintro e w1 ⟨rfl, g1⟩
  go_wp2_with fail
  go_ret2
  exact ⟨rfl, g1⟩
theorem start_arg (kb : Nat) (nw : Int) (hn : ¬ (2 ≤ nw ∧ nw ≤ 32)) (S : Nat → Option Value) (n : Int) (w : World) (h : KitAt w kb S n) :
    Calls Tryz.prog 13 #[.pointer (some ⟨kb, 0, none⟩), .int .i64 nw] w fun e w' => e = .returned (.tuple #[.int .u32 0, .int .i64 2]) ∧ Below w.heap.size w w' := by
  have C := Lib.hid (runtime_arg kb nw hn S n w h)
  clear h hn
  go_enter Tryz.func13, Tryz.ntmps13
  go_wp2_with fail
  refine C.out.mono ?_; rintro e w1 ⟨rfl, g1⟩
  go_wp2_with fail
  go_ret2
  exact ⟨rfl, g1⟩
end Go.Proofs.YtmpagjijjahohaaGreatDoor.B11
