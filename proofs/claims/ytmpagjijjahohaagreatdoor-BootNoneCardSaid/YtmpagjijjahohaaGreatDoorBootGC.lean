/- boot (layer 11): a runtime's list, and its words. -/
import Derived.Test.YtmpagjijjahohaaGreatDoorBootGB
namespace Go.Proofs.YtmpagjijjahohaaGreatDoor.B11
open Go.RowKit Go.Maps
open A7 (XI XB AS AJ AsmB Has Left Ins Turns)
open T9 (nm nm_size)
open W8 (sOver sUnder ovr und)
open S10 (sYield sEnd sAll hq Un)
set_option linter.unusedVariables false
/-- The list, part by part. -/
def bP (nw : Int) : Nat → AS
  | 0 => AS.nil
  | 1 => vecs AS.nil 32
  | 2 => ovr (vecs AS.nil 32) nw
  | 3 => und (ovr (vecs AS.nil 32) nw) nw
  | 4 => A7.tks (und (ovr (vecs AS.nil 32) nw) nw) 15
  | 5 => hq nw (A7.tks (und (ovr (vecs AS.nil 32) nw) nw) 15) 12
  | _ => sta (hq nw (A7.tks (und (ovr (vecs AS.nil 32) nw) nw) 15) 12)
def bQ (nw : Int) : AS := bP nw 6
def bM (k : Nat) : List (ByteArray × Nat) := (((List.range 15).map fun i => (nm (i + 1), 182 + 4 * i)).take k)
def bM4 : List (ByteArray × Nat) := [(sOver, 128), (sUnder, 154)] ++ bM 15
set_option maxRecDepth 100000
theorem bP1 (nw : Int) : (bP nw 1).n = 128 ∧ (bP nw 1).ms = [] := ⟨by kernel_rfl, by kernel_rfl⟩
theorem bP2 (nw : Int) : (bP nw 2).n = 154 ∧ (bP nw 2).ms = [(sOver, 128)] := ⟨by kernel_rfl, by kernel_rfl⟩
theorem bP3 (nw : Int) : (bP nw 3).n = 182 ∧ (bP nw 3).ms = [(sOver, 128), (sUnder, 154)] := ⟨by kernel_rfl, by kernel_rfl⟩
theorem bP4 (nw : Int) : (bP nw 4).n = 242 ∧ (bP nw 4).ms = bM4 := ⟨by kernel_rfl, by kernel_rfl⟩
theorem bP5 (nw : Int) : (bP nw 5).n = 336 ∧ (bP nw 5).ms.length = 25 ∧ A7.look (bP nw 5).ms sStart = none := ⟨by kernel_rfl, by kernel_rfl, by kernel_rfl⟩
theorem bQ_n (nw : Int) : (bQ nw).n = 341 := by kernel_rfl
theorem bQ_start (nw : Int) : A7.look (bQ nw).ms sStart = some 336 := by kernel_rfl
theorem bQ_some (nw : Int) : (bQ nw).words.isSome = true := by kernel_rfl
/-- The list's words. -/
def bW (nw : Int) : Nat → Int := (bQ nw).words.getD fun _ => 0
theorem bQ_words (nw : Int) : (bQ nw).words = some (bW nw) := by
  have h := bQ_some nw
  unfold bW
  cases hw : (bQ nw).words with
  | none => rw [hw] at h; cases h
  | some f => rfl
theorem bM_nm (j : Nat) (h1 : 1 ≤ j) (h2 : j ≤ 15) : A7.look [(sOver, 128), (sUnder, 154)] (nm j) = none := by
  rcases (by omega : j = 1 ∨ j = 2 ∨ j = 3 ∨ j = 4 ∨ j = 5 ∨ j = 6 ∨ j = 7 ∨ j = 8 ∨ j = 9 ∨ j = 10 ∨ j = 11 ∨ j = 12 ∨ j = 13 ∨ j = 14 ∨ j = 15) with rfl | rfl | rfl | rfl | rfl | rfl | rfl | rfl | rfl | rfl | rfl | rfl | rfl | rfl | rfl
  all_goals kernel_rfl
theorem bP4_un (nw : Int) : Un (bP nw 4) := ⟨by rw [(bP4 nw).1]; decide, by rw [(bP4 nw).2]; decide, fun s hs => by
  rw [(bP4 nw).2]
  have h : (sAll.all fun s => (A7.look bM4 s).isNone) = true := by kernel_rfl
  have := List.all_eq_true.1 h s hs
  simpa using this⟩
/-- Where the handler of a type stands in the list. -/
def tgt (k : Nat) : Nat := if k = 1 then 128 else if k = 2 then 154 else if k = 3 then 246 else if k = 4 then 242 else 182 + 4 * (k - 17)
def hasH (k : Nat) : Bool := (1 ≤ k && k ≤ 4) || 17 ≤ k
def vW (i : Nat) : Int := if i % 4 = 0 && hasH (i / 4) then 1140850688 + ((tgt (i / 4) : Int) - i) else 2147483648
theorem vW_all (nw : Int) : (List.range 128).map (bW nw) = (List.range 128).map vW := by kernel_rfl
theorem bW_vec (nw : Int) {i : Nat} (hi : i < 128) : bW nw i = vW i := by
  have h := congrArg (fun l => l[i]?) (vW_all nw)
  simp only [List.getElem?_map, List.getElem?_range hi, Option.map_some, Option.some.injEq] at h
  exact h
/-- The parts. -/
def pF (k : Nat) : Value := .func (.func (if k = 0 then 172 else if k = 1 then 173 else if k = 2 then 174 else if k = 3 then 175 else if k = 4 then 176 else 177)) #[] #[]
def pCells : Array Value := #[.func (.func 172) #[] #[], .func (.func 173) #[] #[], .func (.func 174) #[] #[], .func (.func 175) #[] #[], .func (.func 176) #[] #[], .func (.func 177) #[] #[]]
set_option maxHeartbeats 4000000 in
theorem list_at (nw : Int) (h2 : 2 ≤ nw) (h32 : nw ≤ 32) (w : World) (hT : I2.Tab w) :
    Calls Tryz.prog 109 #[.int .i64 nw] w fun e w' => ∃ b G K, e = .returned (.tuple #[.pointer (some ⟨b, 0, none⟩), .int .i64 0]) ∧ AsmB w' b G K (bQ nw) ∧ (∀ i, G i → w.heap.size ≤ i) ∧ Below w.heap.size w w' := by
  have HT := Lib.hid hT
  clear hT
  go_enter Tryz.func109, Tryz.ntmps109
  go_wp2_with fail
  refine (A7.New_at (K := fun _ => False) w HT.out (fun _ e => e.elim)).mono ?_; rintro e w1 ⟨b, G0, rfl, A1, g1, low1⟩
  have A1 := Lib.hid A1
  have G1 := Lib.hid g1
  have L1 := Lib.hid low1
  clear g1 low1 HT
  have gA : Hid (Below w1.heap.size w1 (w1.alloc (.cells pCells 231))) := (Below.refl _ _).alloc (Nat.le_refl _) _
  have hc : Hid ((w1.alloc (.cells pCells 231)).heap[w1.heap.size]? = some (.cells pCells 231 (0, 0))) := heap_alloc_last _ _
  have H1 := Lib.hid (Has.start (A1.out.bel gA.out))
  have NX : Hid (¬ G0 w1.heap.size) := fun e => absurd (A1.out.lt _ e) (Nat.lt_irrefl _)
  have G2 := Lib.hid (bel_trans G1.out gA.out)
  go_upto_region 3 with (fail)
  change Code.wp _ _ _ _ (w1.alloc (.cells pCells 231))
  generalize w1.alloc (.cells pCells 231) = V at hc H1 G2 ⊢
  generalize w1.heap.size = x at hc NX ⊢
  clear A1 G1 gA
  have XL : Hid (x < V.heap.size) := A7.heap_lt hc.out
  have CX : Hid (∀ W, Turns G0 V W → ∀ j v, pCells[j]? = some v → W.cell? ⟨x, j, none⟩ = some v) := fun W T j v hj => row_cell (by rw [T.block x XL.out NX.out]; exact hc.out) hj
  have HO := Lib.hid (fun W (h : Has V W b G0 (bP nw 1)) => W8.Over_at nw h2 h32 h (by rw [(bP1 nw).2]; rfl) (by rw [(bP1 nw).2]; decide) (by rw [(bP1 nw).1]; decide))
  have HU := Lib.hid (fun W (h : Has V W b G0 (bP nw 2)) => W8.Under_at nw h2 h32 h (by rw [(bP2 nw).2]; rfl) (by rw [(bP2 nw).2]; decide) (by rw [(bP2 nw).1]; decide))
  have HK := Lib.hid (fun W (h : Has V W b G0 (bP nw 3)) => ticks_at nw h (by rw [(bP3 nw).2]; exact bM_nm) (by rw [(bP3 nw).2]; decide) (by rw [(bP3 nw).1]; decide))
  have HS := Lib.hid (fun W (h : Has V W b G0 (bP nw 4)) => S10.All_yes nw h2 h32 (bP4_un nw) h)
  have HZ := Lib.hid (fun W (h : Has V W b G0 (bP nw 5)) => start_at nw h (bP5 nw).2.2 (by rw [(bP5 nw).2.1]; decide) (by rw [(bP5 nw).1]; decide))
  have HV := Lib.hid (fun W (h : Has V W b G0 (bP nw 0)) => vectors_at nw h (show (0 : Nat) ≤ 1000 by decide))
  go_loopw [11] (fun i wr => ∃ k : Nat, k ≤ 6 ∧ i = .int .i64 k ∧ Has V wr b G0 (bP nw k)) (fun i _ => 6 - (intOf i).toNat)
  case atStart => exact ⟨0, by decide, rfl, H1.out⟩
  case round =>
    obtain ⟨k, hk, rfl, H⟩ := hrel
    have H := Lib.hid H
    clear H1 hc
    by_cases hlt : k < 6
    · rcases (by omega : k = 0 ∨ k = 1 ∨ k = 2 ∨ k = 3 ∨ k = 4 ∨ k = 5) with rfl | rfl | rfl | rfl | rfl | rfl
      · have cx : wr.cell? ⟨x, 0, none⟩ = some (.func (.func 172) #[] #[]) := CX.out _ H.out.turns 0 _ rfl
        have C := Lib.hid (HV.out _ H.out)
        clear H
        go_wp2_with fail
        refine C.out.mono ?_; rintro e w2 ⟨rfl, H2⟩
        have H2 : Hid (Has V w2 b G0 (bP nw 1)) := H2
        clear C cx
        go_wp2_with fail
        go_roundw
        case rel => exact ⟨1, by decide, by go_num, H2.out⟩
        case measure => simp [intOf]
      · have cx : wr.cell? ⟨x, 1, none⟩ = some (.func (.func 173) #[] #[]) := CX.out _ H.out.turns 1 _ rfl
        have C := Lib.hid (HO.out _ H.out)
        clear H
        go_wp2_with fail
        refine C.out.mono ?_; rintro e w2 ⟨rfl, H2⟩
        have H2 : Hid (Has V w2 b G0 (bP nw 2)) := H2
        clear C cx
        go_wp2_with fail
        go_roundw
        case rel => exact ⟨2, by decide, by go_num, H2.out⟩
        case measure => simp [intOf]
      · have cx : wr.cell? ⟨x, 2, none⟩ = some (.func (.func 174) #[] #[]) := CX.out _ H.out.turns 2 _ rfl
        have C := Lib.hid (HU.out _ H.out)
        clear H
        go_wp2_with fail
        refine C.out.mono ?_; rintro e w2 ⟨rfl, H2⟩
        have H2 : Hid (Has V w2 b G0 (bP nw 3)) := H2
        clear C cx
        go_wp2_with fail
        go_roundw
        case rel => exact ⟨3, by decide, by go_num, H2.out⟩
        case measure => simp [intOf]
      · have cx : wr.cell? ⟨x, 3, none⟩ = some (.func (.func 175) #[] #[]) := CX.out _ H.out.turns 3 _ rfl
        have C := Lib.hid (HK.out _ H.out)
        clear H
        go_wp2_with fail
        refine C.out.mono ?_; rintro e w2 ⟨rfl, H2⟩
        have H2 : Hid (Has V w2 b G0 (bP nw 4)) := H2
        clear C cx
        go_wp2_with fail
        go_roundw
        case rel => exact ⟨4, by decide, by go_num, H2.out⟩
        case measure => simp [intOf]
      · have cx : wr.cell? ⟨x, 4, none⟩ = some (.func (.func 176) #[] #[]) := CX.out _ H.out.turns 4 _ rfl
        have C := Lib.hid (HS.out _ H.out)
        clear H
        go_wp2_with fail
        refine C.out.mono ?_; rintro e w2 ⟨rfl, H2⟩
        have H2 : Hid (Has V w2 b G0 (bP nw 5)) := H2
        clear C cx
        go_wp2_with fail
        go_roundw
        case rel => exact ⟨5, by decide, by go_num, H2.out⟩
        case measure => simp [intOf]
      · have cx : wr.cell? ⟨x, 5, none⟩ = some (.func (.func 177) #[] #[]) := CX.out _ H.out.turns 5 _ rfl
        have C := Lib.hid (HZ.out _ H.out)
        clear H
        go_wp2_with fail
        refine C.out.mono ?_; rintro e w2 ⟨rfl, H2⟩
        have H2 : Hid (Has V w2 b G0 (bP nw 6)) := H2
        clear C cx
        go_wp2_with fail
        go_roundw
        case rel => exact ⟨6, by decide, by go_num, H2.out⟩
        case measure => simp [intOf]
    · obtain rfl : k = 6 := by omega
      have e6 : ((6 : Nat) : Int) = 6 := rfl
      rw [e6]
      clear e6
      go_wp2_with fail
      go_ret2
      obtain ⟨G, K, A, lo, T⟩ := H.out
      have gV : V.heap.size ≥ w.heap.size := G2.out.size
      exact ⟨b, G, K, rfl, A, fun i hi => (lo i hi).elim (L1.out i) fun e => Nat.le_trans gV e, A7.Turns.bel G2.out T L1.out⟩
end Go.Proofs.YtmpagjijjahohaaGreatDoor.B11
